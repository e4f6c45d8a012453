/- The document's cache by what it keeps; both caches. -/
import Derived.Test.YtpjcpikafpnmpaaAC8
namespace Go.Proofs.Ytpjcpikafpnmpaa
open Go.RowKit

theorem rcE_app (A C : List Re) : rcE (A ++ C) = rcE A ++ rcE C := by simp [rcE]
theorem rcE_mem {R : List Re} {e : En} (h : e ∈ rcE R) : ∃ x ∈ R, e = (x.k, x.l, x.a) := by
  obtain ⟨x, hx, e⟩ := List.mem_map.1 h
  exact ⟨x, hx, e.symm⟩
theorem rcE_keys (R : List Re) : (rcE R).map (·.1) = R.map (·.k) := by simp [rcE]
theorem rkey_cases (R : List Re) (s : ByteArray) : (∃ A x C, R = A ++ x :: C ∧ x.k = s) ∨ ∀ y ∈ R, y.k ≠ s := by
  by_cases h : ∃ x ∈ R, x.k = s
  · obtain ⟨x, hx, e⟩ := h
    obtain ⟨A, C, rfl⟩ := List.append_of_mem hx
    exact .inl ⟨A, x, C, rfl, e⟩
  · exact .inr fun y hy e => h ⟨y, hy, e⟩
theorem rsplit {A C : List Re} {x : Re} (h : ((A ++ x :: C).map (·.k)).Nodup) : (∀ y ∈ A, y.k ≠ x.k) ∧ atE (rcE (A ++ x :: C)) x.k = some (x.k, x.l, x.a) ∧ wo (rcE (A ++ x :: C)) x.k = rcE (A ++ C) := by
  rw [List.map_append, List.nodup_append] at h
  have hA : ∀ y ∈ A, y.k ≠ x.k := fun y hy => h.2.2 _ (List.mem_map_of_mem hy) _ (List.mem_map_of_mem (by simp))
  have hA' : ∀ e ∈ rcE A, e.1 ≠ x.k := fun e he => by
    obtain ⟨y, hy, rfl⟩ := rcE_mem he
    exact hA y hy
  have hC : ∀ e ∈ rcE C, e.1 ≠ x.k := fun e he => by
    obtain ⟨y, hy, rfl⟩ := rcE_mem he
    exact fun e => (List.nodup_cons.1 h.2.1).1 (List.mem_map.2 ⟨y, hy, e⟩)
  refine ⟨hA, ?_, ?_⟩
  · have e := at_none hA'
    unfold atE at e ⊢
    rw [rcE_app, List.find?_append, e]
    simp [rcE, is]
  · have e1 := wo_none hA'
    have e2 := wo_none hC
    rw [rcE_app, rcE_app]
    unfold wo at e1 e2 ⊢
    rw [List.filter_append, e1]
    congr 1
    show List.filter _ ((x.k, x.l, x.a) :: rcE C) = rcE C
    rw [List.filter_cons_of_neg (by simp [is]), e2]
theorem rget_E (w : World) (T : Nat → Prop) (d : Nat) (rm h m : Int) (v : Value) (R : List Re) (r : Rv w T d rm h m v R) (hlen : R.length ≤ 4096) (hT : ∀ k, T k → k < w.heap.size) (hk : (R.map (·.k)).Nodup) (ao : Option Addr) (cap : Nat) (s : ByteArray) (hs : Bs w ao s) (hh : 0 ≤ h ∧ h < 4611686018427387904) (hm : 0 ≤ m ∧ m < 4611686018427387904) (hM : ∀ e ∈ rcE R, e.2.1.length * 8 ≤ 140737488355328) :
    Calls Try.prog 41 #[.pointer (some ⟨d, 0, none⟩), .slice ao s.size cap] w fun e w' => ∃ bo bc, e = .returned (.tuple #[rsv (.slice bo (gtL (rcE R) s).length bc) (gtA (rcE R) s), .bool (gtB (rcE R) s)]) ∧ Nm w' bo (gtL (rcE R) s) ∧ (∃ v' R', rcE R' = gtE (rcE R) s ∧ Rv w' (grown T w w') d rm (if gtB (rcE R) s = true then h + 1 else h) (if gtB (rcE R) s = true then m else m + 1) v' R') ∧ BP T w w' := by
  rcases rkey_cases R s with ⟨A, x, C, rfl, rfl⟩ | hn
  · obtain ⟨hA, h1, h2⟩ := rsplit hk
    have gb : gtB (rcE (A ++ x :: C)) x.k = true := by unfold gtB; rw [h1]; rfl
    have gl : gtL (rcE (A ++ x :: C)) x.k = x.l := by unfold gtL; rw [h1]
    have ga : gtA (rcE (A ++ x :: C)) x.k = x.a := by unfold gtA; rw [h1]
    have ge : gtE (rcE (A ++ x :: C)) x.k = rcE (x :: (A ++ C)) := by unfold gtE; rw [h1]; show (x.k, x.l, x.a) :: wo _ _ = _; rw [h2]; rfl
    rw [gb, gl, ga, ge, if_pos rfl, if_pos rfl]
    refine (rget_hit w T d rm h m v A C x r hlen hT ao cap hs hA hh (hM (x.k, x.l, x.a) (by rw [rcE_app]; simp [rcE]))).mono ?_
    rintro e w' ⟨u, rfl, ow, v', r', b⟩
    obtain ⟨bo, bc, rfl, -, nm, -⟩ := ow.nm
    exact ⟨bo, bc, rfl, nm, ⟨v', _, rfl, r'⟩, b⟩
  · have hn' : ∀ e ∈ rcE R, e.1 ≠ s := fun e he => by
      obtain ⟨y, hy, rfl⟩ := rcE_mem he
      exact hn y hy
    have h1 := at_none hn'
    have gb : gtB (rcE R) s = false := by unfold gtB; rw [h1]; rfl
    have gl : gtL (rcE R) s = [] := by unfold gtL; rw [h1]
    have ga : gtA (rcE R) s = 0 := by unfold gtA; rw [h1]
    have ge : gtE (rcE R) s = rcE R := by unfold gtE; rw [h1]
    rw [gb, gl, ga, ge, if_neg (by decide), if_neg (by decide)]
    refine (rget_miss w T d rm h m v R r hlen hT ao cap s hs hn hm).mono ?_
    rintro e w' ⟨rfl, r', b⟩
    exact ⟨none, 0, rfl, Nm.nil _ _, ⟨v, R, rfl, r'⟩, b⟩
theorem rput_E (w : World) (T : Nat → Prop) (d : Nat) (rm h m : Int) (v : Value) (R : List Re) (r : Rv w T d rm h m v R) (hlen : R.length ≤ 4096) (hk : (R.map (·.k)).Nodup) (ao : Option Addr) (cap : Nat) (s : ByteArray) (hs : Bs w ao s)
    (ro : Option Addr) (rc : Nat) (l : List Int) (a : Int) (hrc : ro = none → rc = 0) (hr : Nm w ro l) (hM : l.length * 8 ≤ 140737488355328) (hrm : 1 ≤ rm ∧ rm ≤ 4096) :
    Calls Try.prog 42 #[.pointer (some ⟨d, 0, none⟩), .slice ao s.size cap, rsv (.slice ro l.length rc) a] w fun e w' => e = .returned (.int .i64 (puV s)) ∧ (∃ v' R', rcE R' = puE rm.toNat (rcE R) s l a ∧ Rv w' (grown T w w') d rm h m v' R') ∧ BP T w w' := by
  by_cases hz : s.size ≤ 65536
  · unfold puV puE
    rw [if_pos hz, if_pos hz]
    rcases rkey_cases R s with ⟨A, x, C, rfl, rfl⟩ | hn
    · obtain ⟨hA, h1, h2⟩ := rsplit hk
      refine (rput_core w T d rm h m v _ r hlen ao cap x.k hs hz ro rc l a hrc hr hM hrm A.length fun X rX hX => find_hit X T d rm h m v A C x rX (by omega) ao cap hX hA).mono ?_
      rintro e w' ⟨rfl, v', u, r', b⟩
      rw [sk_at] at r'
      refine ⟨rfl, ⟨v', _, ?_, r'⟩, b⟩
      unfold ptE
      rw [show wo (rcE (A ++ x :: C)) (x.k, l, a).1 = rcE (A ++ C) from h2]
      unfold rcE
      rw [List.map_take]
      rfl
    · have hn' : ∀ e ∈ rcE R, e.1 ≠ s := fun e he => by
        obtain ⟨y, hy, rfl⟩ := rcE_mem he
        exact hn y hy
      refine (rput_core w T d rm h m v _ r hlen ao cap s hs hz ro rc l a hrc hr hM hrm (-1) fun X rX hX => find_miss X T d rm h m v R rX (by omega) ao cap s hX hn).mono ?_
      rintro e w' ⟨rfl, v', u, r', b⟩
      rw [sk_neg] at r'
      refine ⟨rfl, ⟨v', _, ?_, r'⟩, b⟩
      unfold ptE
      rw [show wo (rcE R) (s, l, a).1 = rcE R from wo_none hn']
      unfold rcE
      rw [List.map_take]
      rfl
  · unfold puV puE
    rw [if_neg hz, if_neg hz]
    refine (rput_long w d ao s.size cap (.slice ro l.length rc) a (by omega)).mono ?_
    rintro e w' ⟨rfl, b⟩
    exact ⟨rfl, ⟨v, R, rfl, (r.below b).more fun k hk => .inl hk⟩, BP.bel b⟩
theorem rcE_fg (f : ByteArray) (R : List Re) : rcE (fgR f R) = fgE (rcE R) f := by
  unfold rcE fgR fgE
  rw [List.filter_map]
  rfl
theorem rcE_len (R : List Re) : (rcE R).length = R.length := by simp [rcE]
/-- Both caches: the program's, and the document's. -/
structure Pq (w0 w : World) (S T : Nat → Prop) (p d : Nat) (rm : Int) (bm : Nat) (h m : Int) (L : List Ce) (v : Value) (R : List Re) : Prop where
  c : Cw w0 w S p rm bm h m L
  r : Rv w T d rm h m v R
  eq : rcE R = ct L
  rn : ∀ k, T k → w0.heap.size ≤ k ∧ k < w.heap.size
  ap : ∀ k, S k → ¬ T k
theorem Pq.len {w0 w : World} {S T : Nat → Prop} {p d : Nat} {rm : Int} {bm : Nat} {h m : Int} {L : List Ce} {v : Value} {R : List Re} (q : Pq w0 w S T p d rm bm h m L v R) : R.length ≤ 4096 := by
  have h1 := q.c.ch.rom
  rw [← rcE_len, q.eq]
  simp [ct]
  omega
theorem Pq.nd {w0 w : World} {S T : Nat → Prop} {p d : Nat} {rm : Int} {bm : Nat} {h m : Int} {L : List Ce} {v : Value} {R : List Re} (q : Pq w0 w S T p d rm bm h m L v R) : (R.map (·.k)).Nodup := by
  have e1 : (ct L).map (·.1) = L.map (·.k) := by simp [ct]
  rw [← rcE_keys, q.eq, e1]
  exact q.c.ch.ks
theorem Pq.lz {w0 w : World} {S T : Nat → Prop} {p d : Nat} {rm : Int} {bm : Nat} {h m : Int} {L : List Ce} {v : Value} {R : List Re} (q : Pq w0 w S T p d rm bm h m L v R) : ∀ e ∈ rcE R, e.2.1.length * 8 ≤ 140737488355328 := fun e he => by
  rw [q.eq] at he
  obtain ⟨x, hx, rfl⟩ := ct_mem he
  exact (q.c.ch.kz x hx).2
theorem Pq.below {w0 w w' : World} {S T : Nat → Prop} {p d : Nat} {rm : Int} {bm : Nat} {h m : Int} {L : List Ce} {v : Value} {R : List Re} (q : Pq w0 w S T p d rm bm h m L v R) (hb : Below w.heap.size w w') : Pq w0 w' S T p d rm bm h m L v R :=
  ⟨q.c.below hb, q.r.below hb, q.eq, fun k hk => ⟨(q.rn k hk).1, Nat.lt_of_lt_of_le (q.rn k hk).2 hb.size⟩, q.ap⟩
theorem Cw.bp {w0 w w' : World} {S V : Nat → Prop} {p : Nat} {rm : Int} {bm : Nat} {h m : Int} {L : List Ce} (c : Cw w0 w S p rm bm h m L) (b : BP V w w') (hV : ∀ k, V k → w0.heap.size ≤ k ∧ k < w.heap.size) (hd : ∀ k, S k → ¬ V k) : Cw w0 w' S p rm bm h m L :=
  ⟨c.ch.keep fun k hk hl => b.block k hl (hd k hk), fun k hk => ⟨(c.ns k hk).1, Nat.lt_of_lt_of_le (c.ns k hk).2 b.size⟩, cw_bel hV c.bel b⟩
/-- Both, all their blocks among U's; n Gets at most. -/
def Pz (w0 w : World) (U : Nat → Prop) (p d : Nat) (rm n : Int) : Prop :=
  (∀ k, U k → w0.heap.size ≤ k ∧ k < w.heap.size) ∧ ∃ S T bm h m L v R, Pq w0 w S T p d rm bm h m L v R ∧ h + m ≤ n ∧ ∀ k, S k ∨ T k → U k
theorem Pz.bel {w0 w : World} {U : Nat → Prop} {p d : Nat} {rm n : Int} (z : Pz w0 w U p d rm n) : Below w0.heap.size w0 w := by
  obtain ⟨_, _, _, _, _, _, _, _, _, q, _⟩ := z
  exact q.c.bel
theorem Pz.below {w0 w w' : World} {U : Nat → Prop} {p d : Nat} {rm n : Int} (z : Pz w0 w U p d rm n) (hb : Below w.heap.size w w') : Pz w0 w' U p d rm n := by
  obtain ⟨hu, S, T, bm, h, m, L, v, R, q, h1, h2⟩ := z
  exact ⟨fun k hk => ⟨(hu k hk).1, Nat.lt_of_lt_of_le (hu k hk).2 hb.size⟩, S, T, bm, h, m, L, v, R, q.below hb, h1, h2⟩
/-- What turns none of their blocks. -/
theorem Pz.bp {w0 w w' : World} {U V : Nat → Prop} {p d : Nat} {rm n : Int} (z : Pz w0 w U p d rm n) (hb : BP V w w') (hV : ∀ k, V k → w0.heap.size ≤ k ∧ k < w.heap.size) (hd : ∀ k, U k → ¬ V k) : Pz w0 w' U p d rm n := by
  obtain ⟨hu, S, T, bm, h, m, L, v, R, q, h1, h2⟩ := z
  exact ⟨fun k hk => ⟨(hu k hk).1, Nat.lt_of_lt_of_le (hu k hk).2 hb.size⟩, S, T, bm, h, m, L, v, R, ⟨q.c.bp hb hV fun k hk => hd k (h2 k (.inl hk)), q.r.bp hb fun k hk => hd k (h2 k (.inr hk)), q.eq, fun k hk => ⟨(q.rn k hk).1, Nat.lt_of_lt_of_le (q.rn k hk).2 hb.size⟩, q.ap⟩, h1, h2⟩
theorem Pz.more {w0 w : World} {U U' : Nat → Prop} {p d : Nat} {rm n n' : Int} (z : Pz w0 w U p d rm n) (hU : ∀ k, U k → U' k) (hU' : ∀ k, U' k → w0.heap.size ≤ k ∧ k < w.heap.size) (hn : n ≤ n') : Pz w0 w U' p d rm n' := by
  obtain ⟨_, S, T, bm, h, m, L, v, R, q, h1, h2⟩ := z
  exact ⟨hU', S, T, bm, h, m, L, v, R, q, by omega, fun k hk => hU k (h2 k hk)⟩
end Go.Proofs.Ytpjcpikafpnmpaa
