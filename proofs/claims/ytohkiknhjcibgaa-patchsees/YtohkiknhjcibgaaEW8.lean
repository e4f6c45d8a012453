/- PACKAGE patch: See. -/
import Derived.Test.YtohkiknhjcibgaaEW5
import Derived.Test.YtohkiknhjcibgaaEW6
import Derived.Test.YtohkiknhjcibgaaER1
namespace Go.Proofs.Ytohkiknhjcibgaa
open Go.RowKit Go.Shelf
attribute [local go_sem] Oper.semAt_some

theorem sle_inj {a b c e a' b' c' e' : Int} (h : Sg.sle a b c e = Sg.sle a' b' c' e') : a = a' ∧ b = b' ∧ c = c' ∧ e = e' := by
  simp [Sg.sle, Sg.shp] at h
  omega
theorem outline_ok (h v c : Int) (ao : Option Addr) (m cap N A B R S C : Nat) (r s sy sx t l b q bd : Int) (w : World) (hmc : m ≤ cap) (hcap : cap ≤ 9223372036854775807) (rd : Wr w ao m N) (k1 : cuk h v c m N = 0) (k2 : Sg.wiE r s sy sx t l b q = 0) (k3 : -1 ≤ bd ∧ bd ≤ 1) (k4 : Sg.slV h v c r s sy sx t l b q 1 = Sg.sle A B 1 0)
    (ec : c = C) (eR : r = R) (eS : s = S) (k5 : A * B * R * S * nw C ≤ 4194304) :
    Calls Try.prog 14 #[cuv h v c ao m cap, Sg.win r s sy sx t l b q, .int .i64 bd] w fun e w' => e = .returned (Sg.sle A B 1 0) ∧ Below w.heap.size w w' := by
  refine outline_any h v c ao m cap N r s sy sx t l b q bd w hmc hcap rd _ (fun h => absurd k1 h) (fun _ h => absurd k2 h) (fun _ _ h => by omega) (fun E _ _ _ h1 h2 => ?_) (fun H' V' C' R' S' A' B' _ _ _ h1 _ _ e3 e4 e5 h6 => ?_) (fun H' V' C' R' S' A' B' _ _ _ h1 _ _ e3 e4 e5 h6 => ?_)
  · rw [k4] at h1
    have := sle_inj h1
    omega
  · rw [k4] at h1
    obtain ⟨h1, h2, _⟩ := sle_inj h1
    have a1 : A' = A := by omega
    have a2 : B' = B := by omega
    have a3 : C' = C := by omega
    have a4 : R' = R := by omega
    have a5 : S' = S := by omega
    subst a1 a2 a3 a4 a5
    omega
  · rw [k4] at h1
    obtain ⟨h1, h2, _⟩ := sle_inj h1
    rw [h1, h2]
/-- What See answers at a place. -/
def seS (H V C N s r sy sx t l B xs p : Nat) : Nat := js (64 * nw C) (plP H V (nw C) N (((p / B : Nat) : Int) * sy - t) (((p % B : Nat) : Int) * sx - l) s xs) (r * s)
def seM (H V C s r sy sx t l B xm p : Nat) : Nat := js (64 * nw C) (mkP H V C (((p / B : Nat) : Int) * sy - t) (((p % B : Nat) : Int) * sx - l) s xm) (r * s)
/-- See's memory in its loop. -/
structure Sm (w W : World) (vw : Vw) (b7 b9 b11 b12 bI ch G1 G2 M N1 N2 A B C : Nat) (pre : List Nat) (S1 S2 : Nat → Nat) : Prop where
  r7 : W.rowIs b7 29 3 (hf 0 0 0)
  r9 : W.rowIs b9 29 3 (hf A B 1)
  r11 : W.rowIs b11 56 18 vw.f
  rI : W.rowIs bI 29 3 (hf A B 1)
  rc : W.rowIs ch 41 (nw C) (wf (ful C))
  g1 : W.rowIs G1 41 M (wf N1)
  g2 : W.rowIs G2 41 M (wf N2)
  s : ∃ u l, W.rowIs b12 32 1 (fun _ => u) ∧ Sr W w.heap.size u l pre M S1 S2
theorem Sm.keep {w W X : World} {vw : Vw} {b7 b9 b11 b12 bI ch G1 G2 M N1 N2 A B C : Nat} {pre : List Nat} {S1 S2 : Nat → Nat} (h : Sm w W vw b7 b9 b11 b12 bI ch G1 G2 M N1 N2 A B C pre S1 S2) (k : KC none W X) : Sm w X vw b7 b9 b11 b12 bI ch G1 G2 M N1 N2 A B C pre S1 S2 := by
  obtain ⟨r7, r9, r11, rI, rc, g1, g2, u, l, r, s⟩ := h
  exact ⟨k.row r7 (by simp), k.row r9 (by simp), k.row r11 (by simp), k.row rI (by simp), k.row rc (by simp), k.row g1 (by simp), k.row g2 (by simp), u, l, k.row r (by simp), s.keep k⟩
theorem sm_own {w : World} {vw : Vw} {b7 b9 b11 b12 bI ch G1 G2 M N1 N2 A B C P : Nat} {S1 S2 : Nat → Nat} : Own (fun (pre : List (Fin P)) W => Sm w W vw b7 b9 b11 b12 bI ch G1 G2 M N1 N2 A B C (pre.map (·.1)) S1 S2) := fun _ _ _ _ h hg hr => h.keep (kc_own hg hr)
theorem own_isE {W : World} {b T s n : Nat} {v : Value} {xs : List Value} (h : W.ownsRow b T s v n xs) : ∃ a m c, v = .slice a m c := by
  rcases h.2 with ⟨e, _⟩ | ⟨g, c, _, e, _⟩
  · exact ⟨_, _, _, e⟩
  · exact ⟨_, _, _, e⟩
theorem grown_belE {w w' : World} (h : w.grownBy w' none) : Below w.heap.size w w' := ⟨h.os, h.tape, h.output, h.size, fun k hk => h.block k hk (by simp)⟩
theorem still_load_mid {P : Program} {ops : Array Oper} {rest : List Oper} {op : Oper} {a : Act} {w : World} {Q : Act → Prop} (hgd : op.guard = none) (ty : TypeId) (x : Operand) (ho : op.op = .load ty x)
    (b o : Nat) (hx : a.eval x = .pointer (some ⟨b, o, none⟩)) (cs : List Value) (d : TypeDesc) (hc : w.rangeAt b o cs)
    (hu : P.underlying ty = some d) (hd : d.isRow = true) (hi : (P.info? ty).map (·.size) = some cs.length)
    (h : wpStill P ops w Q rest (a.put op.dst (.agg cs.toArray))) : wpStill P ops w Q (op :: rest) a := by
  refine wpStill_step fun K hK => ?_
  have hw : Region.wanted op (yielded ops a.tmps) = true := by simp [Region.wanted, hgd]
  rw [if_pos hw]
  unfold Oper.still execOp
  simp only [ho, hx, Instr.loadAt, Instr.sureAddr, Sem.run_bind, Sem.run_pure, Result.andThen_ok, run_loadVar_mid w b o ty cs d hc hu hd hi]
  exact ⟨rfl, hK _ h⟩
theorem stepRE {ops : Array Oper} {o : Oper} {a : Act} {K : Act → World → Prop} {Q : Exit → Act → World → Prop} {E : Prop} {w : World} (hgd : o.guard = none) (s x : Operand)
    (ho : o.op = .call { callee := .builtin .append, args := #[s, x], argTypes := #[32, 32] }) (base : Nat) (v : Value) (l : List (Bt × Bt)) (hs : a.eval s = v) (hown : w.ownsRow base 46 4 v l.length (rcs l))
    (b : Bt × Bt) (hx : a.eval x = .slice (some ⟨w.heap.size, 0, none⟩) 1 1) (hM : l.length ≤ 16777216) (hb : base ≤ w.heap.size)
    (h : ∀ v' w', w'.ownsRow base 46 4 v' (l ++ [b]).length (rcs (l ++ [b])) → (w.alloc (bxE b)).grownBy w' v.ownBlock → K (a.put o.dst v') w') :
    if Region.wanted o (yielded ops a.tmps) = true then Oper.wp Try.prog o a (w.alloc (bxE b)) K Q else E := by
  obtain ⟨i0, hi, hz0, hz1, hz2⟩ := info_parts info_rowE
  have r := q_new w b.1 b.2 46
  have hw : Region.wanted o (yielded ops a.tmps) = true := by simp [Region.wanted, hgd]
  rw [if_pos hw]
  refine wp_append_own _ s x _ ho base 46 i0 _ 4 64 und_rowsE hi hz0 hz1 hz2 rfl (by decide) v l.length (rcs l) hs (hown.alloc _) ⟨w.heap.size, 0, none⟩ 1 1 [.int .i64 b.1.n, .slice b.1.ao b.1.m b.1.cap, .int .i64 b.2.n, .slice b.2.ao b.2.m b.2.cap] hx rfl
    (fun j u h => by
      rcases j with _ | _ | _ | _ | j
      · simp at h; subst h; exact q0 r
      · simp at h; subst h; exact q1 r
      · simp at h; subst h; exact q2 r
      · simp at h; subst h; exact q3 r
      · simp at h) (fun u hu => by simp at hu; rcases hu with rfl | rfl | rfl | rfl <;> rfl) (by unfold maxLen; omega) (by omega) (by simp; omega) ?_
  intro v' w' h1 h2 _
  refine h v' w' ?_ h2
  rw [List.length_append]
  unfold rcs at *
  rw [List.flatMap_append]
  exact h1
theorem row_neE {W : World} {b t n base size k : Nat} {f : Nat → Value} {e : TypeId} {v : Value} {xs : List Value} (h : W.rowIs b t n f) (r : W.ownsRow base e size v k xs) (he : e ≠ t) : v.ownBlock ≠ some b := by
  obtain ⟨cur, hc, _⟩ := h
  rcases r.2 with ⟨rfl, _⟩ | ⟨g, cap, cur', rfl, _, hg, _⟩
  · simp [Value.ownBlock]
  · intro e1
    simp [Value.ownBlock] at e1
    subst e1
    rw [hg] at hc
    injection hc with hc
    injection hc with _ h2 _
    exact he h2
/-- A block other than the list's stays behind an append. -/
theorem app_row {W X Y : World} {b t n z k : Nat} {f : Nat → Value} {u : Value} {xs : List Value} {ob : Obj} (hb : Below W.heap.size W X) (h : W.rowIs b t n f) (o : W.ownsRow z 46 4 u k xs) (hg : (X.alloc ob).grownBy Y u.ownBlock) (ht : 46 ≠ t) : Y.rowIs b t n f := by
  have h1 := (keepr hb h).alloc ob
  have h2 := (own_keepE o hb).alloc ob
  exact (kc_grown hg).row h1 (row_neE h1 h2 ht)
theorem Sr.other {W X : World} {z : Nat} {u : Value} {l : List (Bt × Bt)} {pre : List Nat} {M b t n : Nat} {S1 S2 : Nat → Nat} {f : Nat → Value} (h : Sr W z u l pre M S1 S2) (r : W.rowIs b t n f) (h1 : 46 ≠ t) (h2 : 41 ≠ t) (bt : But b W X) : Sr X z u l pre M S1 S2 := by
  have kb := kc_but bt
  refine ⟨kb.own h.o (.inr (row_neE r h.o h1).symm), h.n, fun i hi hi' => ?_, h.d⟩
  obtain ⟨B1, L1, B2, L2, e, z1, z2, q1, q2⟩ := h.r i hi hi'
  have dd : ∀ {G K N : Nat}, Ow W G K M N → some b ≠ some G := fun {G K N} ow e2 => by
    obtain ⟨_, _, _, f, ⟨c1, g1, _⟩, _⟩ := ow
    obtain ⟨c2, g2, _⟩ := r
    cases e2
    rw [g1] at g2
    injection g2 with g2
    injection g2 with _ g3 _
    exact h2 g3
  exact ⟨B1, L1, B2, L2, e, z1, z2, kb.ow q1 (dd q1), kb.ow q2 (dd q2)⟩
theorem hf_set {w : World} {b t : Nat} {h0 v0 c0 : Int} (r : w.rowIs b t 3 (hf h0 v0 c0)) (h v c : Int) : (((w.setCell ⟨b, 0, none⟩ (.int .i64 h)).setCell ⟨b, 1, none⟩ (.int .i64 v)).setCell ⟨b, 2, none⟩ (.int .i64 c)).rowIs b t 3 (hf h v c) := (((r.set 0 _).set 1 _).set 2 _).congr fun k hk => by
  have : k = 0 ∨ k = 1 ∨ k = 2 := by omega
  rcases this with rfl | rfl | rfl <;> simp [hf]
theorem sm_push {w W w2 w3 : World} {vw : Vw} {b7 b9 b11 b12 bI ch G1 G2 M N1 N2 A B C p A1 K1 A2 K2 Bk : Nat} {pre : List Nat} {S1 S2 : Nat → Nat} {u v' : Value} {L : List (Bt × Bt)}
    (r7 : W.rowIs b7 29 3 (hf 0 0 0)) (r9 : W.rowIs b9 29 3 (hf A B 1)) (r11 : W.rowIs b11 56 18 vw.f) (rI : W.rowIs bI 29 3 (hf A B 1)) (rc : W.rowIs ch 41 (nw C) (wf (ful C))) (g1 : W.rowIs G1 41 M (wf N1)) (g2 : W.rowIs G2 41 M (wf N2))
    (r12 : W.rowIs b12 32 1 (fun _ => u)) (sr : Sr W w.heap.size u L pre M S1 S2) (BB : Below w.heap.size w W) (h12 : w.heap.size ≤ b12) (hb : Below W.heap.size W w2) (o1 : Ow w2 A1 K1 M (S1 p)) (o2 : Ow w2 A2 K2 M (S2 p)) (hA1 : W.heap.size ≤ A1) (hA2 : W.heap.size ≤ A2) (hne : A1 ≠ A2)
    (hown : w3.ownsRow w.heap.size 46 4 v' (L ++ [(bk M A1 K1 (S1 p), bk M A2 K2 (S2 p))]).length (rcs (L ++ [(bk M A1 K1 (S1 p), bk M A2 K2 (S2 p))]))) (hg : (w2.alloc (bxE (bk M A1 K1 (S1 p), bk M A2 K2 (S2 p)))).grownBy w3 u.ownBlock) :
    KeepsFrom Bk W (w3.setCell ⟨b12, 0, none⟩ v') ∧ (w3.setCell ⟨b12, 0, none⟩ v').heap[bI]? = W.heap[bI]? ∧ Sm w (w3.setCell ⟨b12, 0, none⟩ v') vw b7 b9 b11 b12 bI ch G1 G2 M N1 N2 A B C (pre ++ [p]) S1 S2 ∧ Below w.heap.size w (w3.setCell ⟨b12, 0, none⟩ v') := by
  have o := sr.o
  have sr3 := sr.push hb o1 o2 hA1 hA2 hne BB.size hown hg
  have k12 := app_row hb r12 o hg (by decide)
  have bt : But b12 w3 (w3.setCell ⟨b12, 0, none⟩ v') := (But.refl b12 w3).set v'
  have al : Below w2.heap.size w2 (w2.alloc (bxE (bk M A1 K1 (S1 p), bk M A2 K2 (S2 p)))) := bl_alloc (Below.refl _ _) _
  have o2' := (own_keepE o hb).alloc (bxE (bk M A1 K1 (S1 p), bk M A2 K2 (S2 p)))
  have kb := kc_but bt
  have nb : ∀ {b t n : Nat} {f : Nat → Value}, W.rowIs b t n f → 32 ≠ t → 46 ≠ t → (w3.setCell ⟨b12, 0, none⟩ v').rowIs b t n f := fun {b t n f} h h1 h2 => by
    refine bt.row ?_ (app_row hb h o hg h2)
    rintro rfl
    obtain ⟨c1, e1, _⟩ := h
    obtain ⟨c2, e2, _⟩ := r12
    rw [e1] at e2
    injection e2 with e2
    injection e2 with _ e3 _
    exact h1 e3.symm
  have rI' := nb rI (by decide) (by decide)
  refine ⟨?_, ?_, ⟨nb r7 (by decide) (by decide), nb r9 (by decide) (by decide), nb r11 (by decide) (by decide), rI', nb rc (by decide) (by decide), nb g1 (by decide) (by decide), nb g2 (by decide) (by decide), v', L ++ [(bk M A1 K1 (S1 p), bk M A2 K2 (S2 p))], one_set k12 v', ?_⟩, ?_⟩
  · exact (((keepsFrom_below hb).trans (keepsFrom_below al)).trans (keepsFrom_grown hg o2')).trans (keepsFrom_but bt k12)
  · have e1 : w3.heap[bI]? = W.heap[bI]? := by
      have h1 := (keepr hb rI).alloc (bxE (bk M A1 K1 (S1 p), bk M A2 K2 (S2 p)))
      have q1 := hg.block bI h1.lt (fun e => row_neE h1 o2' (by decide) e.symm)
      rw [q1, al.block bI (keepr hb rI).lt, hb.block bI rI.lt]
    rw [← e1]
    refine bt.block bI (app_row hb rI o hg (by decide)).lt ?_
    rintro rfl
    obtain ⟨c1, h1, _⟩ := rI
    obtain ⟨c2, h2, _⟩ := r12
    rw [h1] at h2
    injection h2 with h2
    injection h2 with _ h3 _
    exact absurd h3 (by decide)
  · refine ⟨kb.own sr3.o (.inr (row_neE k12 sr3.o (by decide)).symm), sr3.n, fun i hi hi' => ?_, sr3.d⟩
    obtain ⟨B1, L1, B2, L2, e, z1, z2, q1, q2⟩ := sr3.r i hi hi'
    have dd : ∀ {G K N : Nat}, Ow w3 G K M N → some b12 ≠ some G := fun {G K N} ow e2 => by
      obtain ⟨_, _, _, f, ⟨c1, h1, _⟩, _⟩ := ow
      obtain ⟨c2, h2, _⟩ := k12
      cases e2
      rw [h1] at h2
      injection h2 with h2
      injection h2 with _ h3 _
      exact absurd h3 (by decide)
    exact ⟨B1, L1, B2, L2, e, z1, z2, kb.ow q1 (dd q1), kb.ow q2 (dd q2)⟩
  · have hw2 := bl_step BB hb
    have hw3 := hw2.alloc hw2.size (bxE (bk M A1 K1 (S1 p), bk M A2 K2 (S2 p)))
    have hw4 := hw3.grown hg (by have := hw2.size; simp; omega) (fun q hq => (o2'.lt q hq).1)
    exact bl_set hw4 h12 v'
set_option maxHeartbeats 6400000 in
set_option maxRecDepth 100000 in
theorem see_ok (H V C g o m cap r s sy sx t l b q A B N xs xm M P : Nat) (bd : Int) (w : World) (hmc : m ≤ cap) (hcap : cap ≤ 9223372036854775807) (rd : Wr w (some ⟨g, o, none⟩) m N) (hH : 1 ≤ H ∧ H ≤ 4096) (hV : 1 ≤ V ∧ V ≤ 4096) (hC : 1 ≤ C ∧ C ≤ 4096) (hr : 1 ≤ r ∧ r ≤ 15) (hs : 1 ≤ s ∧ s ≤ 15) (hsy : sy ≤ 15) (hsx : sx ≤ 15) (ht : t ≤ 14) (hl : l ≤ 14) (hA : 1 ≤ A ∧ A ≤ 4096) (hB : 1 ≤ B ∧ B ≤ 4096)
    (k1 : cuk H V C m N = 0) (hm : m = H * V * nw C) (k2 : Sg.wiE r s sy sx t l b q = 0) (k3 : -1 ≤ bd ∧ bd ≤ 1) (k4 : Sg.slV H V C r s sy sx t l b q 1 = Sg.sle A B 1 0) (k5 : A * B * r * s * nw C ≤ 4194304) (hM : r * s * nw C = M) (hP : A * B = P) (hxs : xs = if 0 < bd then ful C else 0) (hxm : xm = if bd = 0 then 0 else ful C) :
    Calls Try.prog 6 #[cuv H V C (some ⟨g, o, none⟩) m cap, Sg.win r s sy sx t l b q, .int .i64 bd] w fun e w' => ∃ u L, e = .returned (.tuple #[u, Sg.shp A B 1, .int .i64 0]) ∧ Sr w' w.heap.size u L (List.range P) M (seS H V C N s r sy sx t l B xs) (seM H V C s r sy sx t l B xm) ∧ Below w.heap.size w w' := by
  have HO := hid1 (fun W r' => outline_ok H V C (some ⟨g, o, none⟩) m cap N A B r s C r s sy sx t l b q bd W hmc hcap r' k1 k2 k3 k4 rfl rfl rfl k5)
  have HL := hid1 (fun W => lookAt_any H V C g o m cap r s sy sx t l b q bd W hC hr hs k3 xs xm hxs hxm)
  rw [hM] at HL
  have hxs' : xs < 2 ^ (64 * nw C) := by rw [hxs]; split; exact ful_words C; exact Nat.two_pow_pos _
  have hxm' : xm < 2 ^ (64 * nw C) := by rw [hxm]; split; exact Nat.two_pow_pos _; exact ful_words C
  have HF := hid1 (fun ch G1 G2 y x (S1 S2 : Nat) W (hy : y ≤ 8192) (hx : x ≤ 8192) e1 e2 r1 r2 r3 r4 => from_any H V C g o m cap r s sy sx t l b q ch G1 G2 M N y x xs xm S1 S2 _ _ W hH hV hC hr hs hsy hsx ht hl hy hx hm hmc hM hxs' hxm' rfl rfl e1 e2 r1 r2 r3 r4)
  have HS := hid1 (fun n Bc W hn r' => pplaces_stops n Bc A B 1 hn hA.2 hB.2 hB.1 W r')
  rw [hP] at HS
  have hP2 : P ≤ 16777216 := by rw [← hP]; exact Nat.mul_le_mul hA.2 hB.2
  have iP : (A : Int) * (B : Int) = (P : Int) := by rw [← hP]; push_cast; rfl
  have wP : IntKind.i64.wrap (P : Int) = (P : Int) := by rw [IntKind.wrap_i64]; omega
  have RD := hid1 rd
  have HPP := hid1 hP
  clear rd k1 k2 k3 k4 k5 hM hm hxs hxm hP hxs' hxm'
  obtain ⟨i0, hi, hz0, hz1, hz2⟩ := info_parts info_rowE
  refine (callsIn_wide (n := 3)).1 (callsIn_of_wp_marks Try.func6 rfl trivial ?_ rfl)
  simp only [Try.ntmps6, List.size_toArray, List.length_cons, List.length_nil, Nat.reduceAdd, Nat.reduceSub, Array.replicate_succ, Array.replicate_zero, List.push_toArray, List.append_toArray, List.nil_append, List.cons_append]
  refine wpIn_wide.2 ?_
  go_wp2_with fail
  refine gen_calls (fun W => W.heap.size = w.heap.size + 3 ∧ Below w.heap.size w W ∧ W.rowIs w.heap.size 31 4 (cf H V C (some ⟨g, o, none⟩) m cap) ∧ Sg.Wn W (w.heap.size + 1) 0 r s sy sx t l b q ∧ W.rowIs (w.heap.size + 2) 29 3 (hf 0 0 0)) (by obtain ⟨X, rfl, z⟩ := out_start w H V C (some ⟨g, o, none⟩) m cap r s sy sx t l b q; exact z) ?_
  rintro W ⟨z0, B0, b0, b1, b2⟩
  refine (HO.out W (RD.out.below B0)).mono ?_
  rintro e w1 ⟨rfl, hb⟩
  have z1 := hb.size
  replace b0 := keepr hb b0
  replace b1 := b1.keep hb
  replace b2 := keepr hb b2
  have B1 := bl_step B0 hb
  clear hb B0 HO
  have b1' := b1
  obtain ⟨n0, n1, n2, n3, n4, n5, n6, n7⟩ := b1'
  simp only [Nat.zero_add] at n1 n2 n3 n4 n5 n6 n7
  have e0 := cf0 b0
  have e1 := cf1 b0
  have e2 := cf2 b0
  have e3 := cf3 b0
  have l0 := b0.lt
  have l1 : w.heap.size + 1 < w1.heap.size := by omega
  go_wp2_with fail
  refine gen_calls (fun X => X.rowIs (w.heap.size + 2) 29 3 (hf 0 0 0) ∧ X.rowIs w1.heap.size 29 3 (hf A B 1) ∧ Below w.heap.size w X) ⟨b2.alloc _, hf_new _ _ _ _ _, bl_alloc B1 _⟩ ?_
  clear b0 b1 b2 B1 n0 n1 n2 n3 n4 n5 n6 n7 e0 e1 e2 e3 l0 l1
  rintro X ⟨b2, b3, BX⟩
  refine (HL.out X).mono ?_
  rintro e y1 ⟨ch, G1, G2, rfl, hch, hG1, hG2, rc, g1, g2, hb⟩
  replace b2 := keepr hb b2
  replace b3 := keepr hb b3
  have BY := bl_step BX hb
  have lX := b3.lt
  clear hb BX HL
  have HB2 := hid1 b2
  have HB3 := hid1 b3
  have HBY := hid1 BY
  have HRC := hid1 rc
  have HG1 := hid1 g1
  have HG2 := hid1 g2
  clear b2 b3 BY rc g1 g2
  go_upto_region 5 with fail
  obtain ⟨vw, evw⟩ : ∃ vw : Vw, (⟨H, V, C, some ⟨g, o, none⟩, m, cap, r, s, sy, sx, t, l, b, q, nw C, some ⟨ch, 0, none⟩, nw C, bt M G1 0, bt M G2 0⟩ : Vw) = vw := ⟨_, rfl⟩
  have HVW := hid1 evw
  refine gen_world (fun U => U.rowIs (w.heap.size + 2) 29 3 (hf 0 0 0) ∧ U.rowIs w1.heap.size 29 3 (hf A B 1) ∧ U.rowIs y1.heap.size 56 18 vw.f ∧ U.rowIs ch 41 (nw C) (wf (ful C)) ∧ U.rowIs G1 41 M (wf (js (64 * nw C) (fun _ => xs) (r * s))) ∧ U.rowIs G2 41 M (wf (js (64 * nw C) (fun _ => xm) (r * s))) ∧ Below w.heap.size w U)
    ⟨HB2.out.alloc _, HB3.out.alloc _, by have := vw_new y1 vw; rw [← evw] at this; rw [← evw]; exact this, HRC.out.alloc _, HG1.out.alloc _, HG2.out.alloc _, bl_alloc HBY.out _⟩ ?_
  have ly := HB3.out.lt
  clear HB2 HB3 HRC HG1 HG2 HBY evw
  rintro U ⟨b2, b3, b11, rc, g1, g2, BU⟩
  have lU := b11.lt
  have h0 := hf0 b3
  have h1 := hf1 b3
  have h2 := hf2 b3
  have HB2 := hid1 b2
  have HB3 := hid1 b3
  have HB11 := hid1 b11
  have HRC := hid1 rc
  have HG1 := hid1 g1
  have HG2 := hid1 g2
  have HBU := hid1 BU
  have lw : w.heap.size ≤ U.heap.size := BU.size
  clear b2 b3 b11 rc g1 g2 BU
  go_upto_region 6 with (refine wpList_make_own U rfl _ _ 32 rfl w.heap.size 46 i0 _ 4 und_rowsE hi hz0 hz1 .i64 .i64 _ P (by go_simp) (by go_simp) rfl (by rw [hz2]; omega) (by unfold maxLen; omega) lw ?_; intro w' own gr)
  have bw' := grown_belE gr
  have lw' := gr.size
  have B5 : Below U.heap.size U (w'.alloc (.cells #[.slice (some ⟨U.heap.size, 0, none⟩) 0 P] 32)) := bl_alloc bw' _
  have r12 := one_new w' (.slice (some ⟨U.heap.size, 0, none⟩) 0 P) 32
  have own5 := own.alloc (.cells #[.slice (some ⟨U.heap.size, 0, none⟩) 0 P] 32)
  have z5 : (w'.alloc (.cells #[.slice (some ⟨U.heap.size, 0, none⟩) 0 P] 32)).heap.size = w'.heap.size + 1 := by simp
  obtain ⟨W5, eW5⟩ : ∃ W5, w'.alloc (.cells #[.slice (some ⟨U.heap.size, 0, none⟩) 0 P] 32) = W5 := ⟨_, rfl⟩
  rw [eW5] at B5 r12 own5 z5 ⊢
  have HR12 := hid1 r12
  have HOW := hid1 own5
  have HB5 := hid1 B5
  clear eW5 r12 own5 B5 own gr bw' h0 h1 h2
  have b3 := keepr HB5.out HB3.out
  have h0 := hf0 b3
  have h1 := hf1 b3
  have h2 := hf2 b3
  clear b3
  go_wp2_with fail
  refine (pplaces_any _ _ _ _).mono ?_
  rintro e w4 ⟨rfl, rfl⟩
  go_wp2_with fail
  have R4 := hf_new W5 A B 1 29
  have HAL : Hid (Below W5.heap.size W5 (W5.alloc (.cells #[.int .i64 A, .int .i64 B, .int .i64 1] 29))) := bl_alloc (Below.refl _ _) _
  have z6 : (W5.alloc (.cells #[.int .i64 A, .int .i64 B, .int .i64 1] 29)).heap.size = W5.heap.size + 1 := by simp
  obtain ⟨W6, eW6⟩ : ∃ W6, W5.alloc (.cells #[.int .i64 A, .int .i64 B, .int .i64 1] 29) = W6 := ⟨_, rfl⟩
  rw [eW6] at R4 HAL z6
  rw [eW6]
  clear eW6 h0 h1 h2
  rw [z5] at R4
  have SM0 : Sm w W6 vw (w.heap.size + 2) w1.heap.size y1.heap.size w'.heap.size (w'.heap.size + 1) ch G1 G2 M (js (64 * nw C) (fun _ => xs) (r * s)) (js (64 * nw C) (fun _ => xm) (r * s)) A B C (([] : List (Fin P)).map (·.1)) (seS H V C N s r sy sx t l B xs) (seM H V C s r sy sx t l B xm) := by
    have bb : ∀ {b t n : Nat} {f : Nat → Value}, U.rowIs b t n f → W6.rowIs b t n f := fun h => keepr HAL.out (keepr HB5.out h)
    exact ⟨bb HB2.out, bb HB3.out, bb HB11.out, R4, bb HRC.out, bb HG1.out, bb HG2.out, _, [], keepr HAL.out HR12.out, own_keepE HOW.out HAL.out, rfl, fun i h => absurd h (by simp), List.nodup_nil⟩
  have B6 : Below w.heap.size w W6 := bl_step (bl_step HBU.out HB5.out) HAL.out
  refine (wpIn_wide (n := 3)).1 ?_
  refine wpIn_rangeFunc_ownG rfl (by decide) (gf := 35) (lb := #[.pointer (some ⟨w'.heap.size + 1, 0, none⟩)]) rfl trivial (enters_of Try.func35 (by kernel_rfl) rfl)
    (HS.out 2 (w'.heap.size + 1) W6 (by decide) R4) (fun h k => k.trans h) (fun W l o o' hl _ _ _ => World.putObj_heap_other (by omega)) (Below.refl _ _) (fun _ => rfl)
    (fun (pre : List (Fin P)) W => Sm w W vw (w.heap.size + 2) w1.heap.size y1.heap.size w'.heap.size (w'.heap.size + 1) ch G1 G2 M (js (64 * nw C) (fun _ => xs) (r * s)) (js (64 * nw C) (fun _ => xm) (r * s)) A B C (pre.map (·.1)) (seS H V C N s r sy sx t l B xs) (seM H V C s r sy sx t l B xm) ∧ Below w.heap.size w W)
    (fun (_ : Code) (_ : List (Fin P)) _ => False)
    (OwnFrom.and (Own.from sm_own _) (ownFrom_below (Nat.le_refl _) (by have := B6.size; omega)))
    (fun _ _ _ _ _ hs _ _ => hs)
    ⟨SM0, B6⟩ ?a1 ?assign ?body ?done ?stop
  case assign =>
    intro l x W K hK
    gi_wp2
    exact hK
  case body =>
    clear SM0 B6 R4 HB2 HB3 HB11 HRC HG1 HG2 HBU HR12 HOW HB5 HAL
    rintro lr pre x W ⟨sm, BB⟩ hpl
    obtain ⟨r7, r9, r11, rI, rc, g1, g2, u, L, r12, sr⟩ := sm
    obtain ⟨ua, un, uc, rfl⟩ := own_isE sr.o
    have c12 := one_cell r12
    obtain ⟨i, hxi⟩ : ∃ i, x.1 = i := ⟨_, rfl⟩
    have hxP : i < P := by rw [← hxi]; exact x.2
    have hiA : i / B < A := Nat.div_lt_of_lt_mul (by rw [Nat.mul_comm, HPP.out]; exact hxP)
    have hiB : i % B < B := Nat.mod_lt _ (by omega)
    have HFI := hid1 (fun W r1 r2 r3 r4 => HF.out ch G1 G2 (i / B) (i % B) (seS H V C N s r sy sx t l B xs i) (seM H V C s r sy sx t l B xm i) W (by omega) (by omega) rfl rfl r1 r2 r3 r4)
    have HX := hid1 hxi
    have hlen : L.length ≤ 16777216 := by
      rw [sr.n, List.length_map]
      have hpl' : pre.length < P := hpl
      omega
    rw [hxi]
    obtain ⟨yy, eyy⟩ : ∃ yy, i / B = yy := ⟨_, rfl⟩
    obtain ⟨xx, exx⟩ : ∃ xx, i % B = xx := ⟨_, rfl⟩
    have ey : (i : Int) / (B : Int) = (yy : Int) := by rw [← eyy]; simp
    have ex : (i : Int) % (B : Int) = (xx : Int) := by rw [← exx]; simp
    rw [eyy, exx] at HFI
    try rw [eyy, exx]
    try rw [ey, ex]
    have HSR := hid1 sr
    have HR11 := hid1 r11
    have HR12 := hid1 r12
    have HRC := hid1 rc
    have HG1 := hid1 g1
    have HG2 := hid1 g2
    have HBB := hid1 BB
    obtain ⟨LS, eLS⟩ : ∃ LS, Vw.ls ⟨H, V, C, some ⟨g, o, none⟩, m, cap, r, s, sy, sx, t, l, b, q, nw C, some ⟨ch, 0, none⟩, nw C, bt M G1 0, bt M G2 0⟩ = LS := ⟨_, rfl⟩
    have ELS := hid1 eLS
    rw [show Vw.val ⟨H, V, C, some ⟨g, o, none⟩, m, cap, r, s, sy, sx, t, l, b, q, nw C, some ⟨ch, 0, none⟩, nw C, bt M G1 0, bt M G2 0⟩ = Value.agg LS.toArray from by rw [← eLS]; rfl] at HFI
    have hinfo : (Try.prog.info? 56).map (·.size) = some LS.length := by rw [← eLS]; exact info_vw
    have HSB : Hid (∀ Y, Below W.heap.size W Y → Y.rangeAt y1.heap.size 0 LS) := fun Y hY => by rw [← ELS.out, HVW.out]; exact vw_range (keepr hY HR11.out)
    have hS0 : W.drew.rangeAt y1.heap.size 0 LS := HSB.out _ (Below.refl _ _).drew
    clear eLS eyy exx hxi r11 r12 rc g1 g2 sr BB
    gi_wp2
    refine region_round follows (by kernel_rfl) (noOut_block noOut) (wpAny_of_held (S := fun Y => Y.rangeAt y1.heap.size 0 LS) _ _ _ _ ?_)
    refine wpAnyH_take (i := 1) (v := .agg LS.toArray) rfl (by kernel_rfl) (by kernel_rfl) (by kernel_rfl) (fun _ _ _ h => h) (yieldsIf_load_mid (by rfl) _ _ rfl y1.heap.size 0 rfl LS _ (fun _ h => h) Try.underlying56 rfl hinfo) hS0 ?_
    simp only [Act.put, List.setIfInBounds_toArray]
    refine wpAnyH_take (i := 2) (v := .int .i64 yy) rfl (by kernel_rfl) (by kernel_rfl) (by kernel_rfl) (fun _ _ _ h => h) (Or.inl ⟨by rfl, fun w hSw => by go_simp⟩) hS0 ?_
    simp only [Act.put]
    refine wpAnyH_take (i := 3) (v := .int .i64 xx) rfl (by kernel_rfl) (by kernel_rfl) (by kernel_rfl) (fun _ _ _ h => h) (Or.inl ⟨by rfl, fun w hSw => by go_simp⟩) hS0 ?_
    simp only [Act.put]
    refine wpAnyH_ready (rs := [0, 4]) (by kernel_rfl) (by simp) ?_
    refine AllReadyH.cons rfl (fun K hK => ?_) ?_
    · go_simp
      refine hK.out _ _ hS0 (fun _ => ?_)
      clear hK K
      refine wpAnyH_ready (rs := [4]) (by kernel_rfl) (by simp) ?_
      refine AllReadyH.cons rfl (fun K hK => ?_) ?_
      · go_simp
        refine (HFI.out W.drew (RD.out.below HBB.out.drew) HRC.out.drew HG1.out.drew HG2.out.drew).mono ?_
        rintro e w2 ⟨A1, K1, A2, K2, rfl, hA1, hA2, hne, o1, o2, hb⟩
        have hbW : Below W.heap.size W w2 := bl_step (Below.refl _ _).drew hb
        have HO := hid1 (own_keepE HSR.out.o hbW)
        have hbs : w.heap.size ≤ w2.heap.size := Nat.le_trans HBB.out.size hbW.size
        have c12b := keepc hbW c12
        have HK := hid1 (fun v' w3 ho hg => sm_push (v' := v') (w3 := w3) (p := i) (Bk := W6.heap.size) r7 r9 HR11.out rI HRC.out HG1.out HG2.out HR12.out HSR.out HBB.out (by omega) hbW o1 o2 (by simpa using hA1) (by simpa using hA2) hne ho hg)
        have H12 : Hid (∀ w3, (w2.alloc (bxE (bk M A1 K1 (seS H V C N s r sy sx t l B xs i), bk M A2 K2 (seM H V C s r sy sx t l B xm i)))).grownBy w3 (Value.slice ua un uc).ownBlock → w3.rowIs w'.heap.size 32 1 (fun _ => .slice ua un uc)) := fun w3 hg => app_row hbW HR12.out HSR.out.o hg (by decide)
        have H11 : Hid (∀ w3, (w2.alloc (bxE (bk M A1 K1 (seS H V C N s r sy sx t l B xs i), bk M A2 K2 (seM H V C s r sy sx t l B xm i)))).grownBy w3 (Value.slice ua un uc).ownBlock → w3.rangeAt y1.heap.size 0 LS) := fun w3 hg => by rw [← ELS.out, HVW.out]; exact vw_range (app_row hbW HR11.out HSR.out.o hg (by decide))
        clear hb o1 o2 hA1 hA2
        refine hK.out _ _ (HSB.out w2 hbW) (fun _ => ?_)
        clear hK K
        refine wpAnyH_ready (rs := [5]) (by kernel_rfl) (by simp) ?_
        refine AllReadyH.cons rfl (fun K hK => ?_) ?_
        · go_simp
          refine hK.out _ _ (HSB.out _ (bl_alloc hbW _)) (fun _ => ?_)
          clear hK K
          refine wpAnyH_ready (rs := [6]) (by kernel_rfl) (by simp) ?_
          refine AllReadyH.cons rfl (fun K hK => ?_) ?_
          · refine stepRE rfl _ _ rfl w.heap.size (.slice ua un uc) L rfl HO.out (bk M A1 K1 (seS H V C N s r sy sx t l B xs i), bk M A2 K2 (seM H V C s r sy sx t l B xm i)) rfl hlen hbs ?_
            intro v' w3 hown hgrow
            obtain ⟨va, vn, vc, rfl⟩ := own_isE hown
            have p12 := one_cell (H12.out w3 hgrow)
            have f12 := one_frozen (H12.out w3 hgrow)
            refine hK.out _ _ (H11.out w3 hgrow) (fun _ => ?_)
            clear hK K
            simp only [Act.put, List.setIfInBounds_toArray]
            refine wpAnyH_ready (rs := [7]) (by kernel_rfl) (by simp) ?_
            refine AllReadyH.cons rfl (fun K hK => ?_) ?_
            · go_simp
              obtain ⟨q1, q2, q3, q4⟩ := HK.out _ w3 hown hgrow
              refine hK.out _ _ (by rw [← ELS.out, HVW.out]; exact vw_range q3.r11) (fun _ => ?_)
              clear hK K
              refine wpAnyH_done (by kernel_rfl) ?_ _
              refine ⟨q1, q2, ?_, q4⟩
              rw [List.map_append]
              simp only [List.map_cons, List.map_nil, HX.out]
              exact q3
            exact AllReadyH.nil
          exact AllReadyH.nil
        exact AllReadyH.nil
      exact AllReadyH.nil
    refine AllReadyH.cons rfl (fun K hK => ?_) ?_
    · go_simp
      refine (HFI.out W.drew (RD.out.below HBB.out.drew) HRC.out.drew HG1.out.drew HG2.out.drew).mono ?_
      rintro e w2 ⟨A1, K1, A2, K2, rfl, hA1, hA2, hne, o1, o2, hb⟩
      have hbW : Below W.heap.size W w2 := bl_step (Below.refl _ _).drew hb
      have HO := hid1 (own_keepE HSR.out.o hbW)
      have hbs : w.heap.size ≤ w2.heap.size := Nat.le_trans HBB.out.size hbW.size
      have c12b := keepc hbW c12
      have HK := hid1 (fun v' w3 ho hg => sm_push (v' := v') (w3 := w3) (p := i) (Bk := W6.heap.size) r7 r9 HR11.out rI HRC.out HG1.out HG2.out HR12.out HSR.out HBB.out (by omega) hbW o1 o2 (by simpa using hA1) (by simpa using hA2) hne ho hg)
      have H12 : Hid (∀ w3, (w2.alloc (bxE (bk M A1 K1 (seS H V C N s r sy sx t l B xs i), bk M A2 K2 (seM H V C s r sy sx t l B xm i)))).grownBy w3 (Value.slice ua un uc).ownBlock → w3.rowIs w'.heap.size 32 1 (fun _ => .slice ua un uc)) := fun w3 hg => app_row hbW HR12.out HSR.out.o hg (by decide)
      have H11 : Hid (∀ w3, (w2.alloc (bxE (bk M A1 K1 (seS H V C N s r sy sx t l B xs i), bk M A2 K2 (seM H V C s r sy sx t l B xm i)))).grownBy w3 (Value.slice ua un uc).ownBlock → w3.rangeAt y1.heap.size 0 LS) := fun w3 hg => by rw [← ELS.out, HVW.out]; exact vw_range (app_row hbW HR11.out HSR.out.o hg (by decide))
      clear hb o1 o2 hA1 hA2
      refine hK.out _ _ (HSB.out w2 hbW) (fun _ => ?_)
      clear hK K
      refine wpAnyH_ready (rs := [0, 5]) (by kernel_rfl) (by simp) ?_
      refine AllReadyH.cons rfl (fun K hK => ?_) ?_
      · go_simp
        refine hK.out _ _ (HSB.out w2 hbW) (fun _ => ?_)
        clear hK K
        refine wpAnyH_ready (rs := [5]) (by kernel_rfl) (by simp) ?_
        refine AllReadyH.cons rfl (fun K hK => ?_) ?_
        · go_simp
          refine hK.out _ _ (HSB.out _ (bl_alloc hbW _)) (fun _ => ?_)
          clear hK K
          refine wpAnyH_ready (rs := [6]) (by kernel_rfl) (by simp) ?_
          refine AllReadyH.cons rfl (fun K hK => ?_) ?_
          · refine stepRE rfl _ _ rfl w.heap.size (.slice ua un uc) L rfl HO.out (bk M A1 K1 (seS H V C N s r sy sx t l B xs i), bk M A2 K2 (seM H V C s r sy sx t l B xm i)) rfl hlen hbs ?_
            intro v' w3 hown hgrow
            obtain ⟨va, vn, vc, rfl⟩ := own_isE hown
            have p12 := one_cell (H12.out w3 hgrow)
            have f12 := one_frozen (H12.out w3 hgrow)
            refine hK.out _ _ (H11.out w3 hgrow) (fun _ => ?_)
            clear hK K
            simp only [Act.put, List.setIfInBounds_toArray]
            refine wpAnyH_ready (rs := [7]) (by kernel_rfl) (by simp) ?_
            refine AllReadyH.cons rfl (fun K hK => ?_) ?_
            · go_simp
              obtain ⟨q1, q2, q3, q4⟩ := HK.out _ w3 hown hgrow
              refine hK.out _ _ (by rw [← ELS.out, HVW.out]; exact vw_range q3.r11) (fun _ => ?_)
              clear hK K
              refine wpAnyH_done (by kernel_rfl) ?_ _
              refine ⟨q1, q2, ?_, q4⟩
              rw [List.map_append]
              simp only [List.map_cons, List.map_nil, HX.out]
              exact q3
            exact AllReadyH.nil
          exact AllReadyH.nil
        exact AllReadyH.nil
      refine AllReadyH.cons rfl (fun K hK => ?_) ?_
      · go_simp
        refine hK.out _ _ (HSB.out _ (bl_alloc hbW _)) (fun _ => ?_)
        clear hK K
        refine wpAnyH_ready (rs := [0]) (by kernel_rfl) (by simp) ?_
        refine AllReadyH.cons rfl (fun K hK => ?_) ?_
        · have c12c : ∀ ob, (w2.alloc ob).cell? ⟨w'.heap.size, 0, none⟩ = some (.slice ua un uc) := fun ob => keepc (bl_alloc (Below.refl _ _) ob) c12b
          go_simp
          refine hK.out _ _ (HSB.out _ (bl_alloc hbW _)) (fun _ => ?_)
          clear hK K
          refine wpAnyH_ready (rs := [6]) (by kernel_rfl) (by simp) ?_
          refine AllReadyH.cons rfl (fun K hK => ?_) ?_
          · refine stepRE rfl _ _ rfl w.heap.size (.slice ua un uc) L rfl HO.out (bk M A1 K1 (seS H V C N s r sy sx t l B xs i), bk M A2 K2 (seM H V C s r sy sx t l B xm i)) rfl hlen hbs ?_
            intro v' w3 hown hgrow
            obtain ⟨va, vn, vc, rfl⟩ := own_isE hown
            have p12 := one_cell (H12.out w3 hgrow)
            have f12 := one_frozen (H12.out w3 hgrow)
            refine hK.out _ _ (H11.out w3 hgrow) (fun _ => ?_)
            clear hK K
            simp only [Act.put, List.setIfInBounds_toArray]
            refine wpAnyH_ready (rs := [7]) (by kernel_rfl) (by simp) ?_
            refine AllReadyH.cons rfl (fun K hK => ?_) ?_
            · go_simp
              obtain ⟨q1, q2, q3, q4⟩ := HK.out _ w3 hown hgrow
              refine hK.out _ _ (by rw [← ELS.out, HVW.out]; exact vw_range q3.r11) (fun _ => ?_)
              clear hK K
              refine wpAnyH_done (by kernel_rfl) ?_ _
              refine ⟨q1, q2, ?_, q4⟩
              rw [List.map_append]
              simp only [List.map_cons, List.map_nil, HX.out]
              exact q3
            exact AllReadyH.nil
          exact AllReadyH.nil
        exact AllReadyH.nil
      exact AllReadyH.nil
    exact AllReadyH.nil
  case done =>
    clear SM0 B6 R4 HB2 HB3 HB11 HRC HG1 HG2 HBU HR12 HOW HB5 HAL HS HF
    rintro D ys W hD rfl ⟨sm, BB⟩ hK
    obtain ⟨r7, r9, _, _, _, _, _, u, L, r12, sr⟩ := sm
    rw [upt_val] at sr
    obtain ⟨ua, un, uc, rfl⟩ := own_isE sr.o
    have c12 := one_cell r12
    have h0 := hf0 r9
    have h1 := hf1 r9
    have h2 := hf2 r9
    have r7' : W.rowIs (w.heap.size + 1 + 1) 29 3 (hf 0 0 0) := r7
    have d0 := hf0 r7'
    have d1 := hf1 r7'
    have d2 := hf2 r7'
    have f0 := r7'.frozen 0
    have f1 := r7'.frozen 1
    have f2 := r7'.frozen 2
    have HR7 := hid1 r7
    have HSR := hid1 sr
    have HBB := hid1 BB
    clear r7 r7' r9 r12 sr BB
    go_wp2_with fail
    refine still_tail 3 (by kernel_rfl) ?_
    simp only [List.take_succ_cons, List.take_zero, List.drop_succ_cons, List.drop_zero]
    repeat still_step
    refine wpStill_nil ?_
    go_wp2_with fail
    have hK2 := (((KeepsOthers.setCell W.drew ⟨w.heap.size + 1 + 1, 0, none⟩ (.int .i64 A)).trans (KeepsOthers.setCell _ ⟨w.heap.size + 1 + 1, 1, none⟩ (.int .i64 B))).trans (KeepsOthers.setCell _ ⟨w.heap.size + 1 + 1, 2, none⟩ (.int .i64 1))).same D _ hK rfl
    have bt7 : But (w.heap.size + 2) W.drew (((W.drew.setCell ⟨w.heap.size + 2, 0, none⟩ (.int .i64 A)).setCell ⟨w.heap.size + 2, 1, none⟩ (.int .i64 B)).setCell ⟨w.heap.size + 2, 2, none⟩ (.int .i64 1)) := (((But.refl _ _).set _).set _).set _
    have sr2 := (HSR.out.keep (kc_below (Below.refl _ _).drew)).other HR7.out.drew (by decide) (by decide) bt7
    have hc := hf_set HR7.out.drew A B 1
    have B5 := bl_set (bl_set (bl_set HBB.out.drew (by omega) (.int .i64 A) (b := w.heap.size + 2) (o := 0)) (by omega) (.int .i64 B) (b := w.heap.size + 2) (o := 1)) (by omega) (.int .i64 1) (b := w.heap.size + 2) (o := 2)
    refine ⟨by simp, .inl ⟨_, _, rfl, run_takeDeferred hK2, ?_⟩⟩
    have m0 : ((((W.setCell ⟨w.heap.size + 1 + 1, 0, none⟩ (.int .i64 A)).setCell ⟨w.heap.size + 1 + 1, 1, none⟩ (.int .i64 B)).setCell ⟨w.heap.size + 1 + 1, 2, none⟩ (.int .i64 1)).drew.putObj D (.deferred none)).cell? ⟨w.heap.size + 1 + 1, 0, none⟩ = some (.int .i64 A) := cell_kept (hf0 hc) (grownBy_putObj' _ D (.deferred none)) (fun r e => by cases e; exact ⟨_, hK2, rfl⟩)
    have m1 : ((((W.setCell ⟨w.heap.size + 1 + 1, 0, none⟩ (.int .i64 A)).setCell ⟨w.heap.size + 1 + 1, 1, none⟩ (.int .i64 B)).setCell ⟨w.heap.size + 1 + 1, 2, none⟩ (.int .i64 1)).drew.putObj D (.deferred none)).cell? ⟨w.heap.size + 1 + 1, 1, none⟩ = some (.int .i64 B) := cell_kept (hf1 hc) (grownBy_putObj' _ D (.deferred none)) (fun r e => by cases e; exact ⟨_, hK2, rfl⟩)
    have m2 : ((((W.setCell ⟨w.heap.size + 1 + 1, 0, none⟩ (.int .i64 A)).setCell ⟨w.heap.size + 1 + 1, 1, none⟩ (.int .i64 B)).setCell ⟨w.heap.size + 1 + 1, 2, none⟩ (.int .i64 1)).drew.putObj D (.deferred none)).cell? ⟨w.heap.size + 1 + 1, 2, none⟩ = some (.int .i64 1) := cell_kept (hf2 hc) (grownBy_putObj' _ D (.deferred none)) (fun r e => by cases e; exact ⟨_, hK2, rfl⟩)
    refine ⟨.tuple #[.slice ua un uc, Sg.shp A B 1, .int .i64 0], ?_, _, L, rfl, sr2.keep (kc_own (grownBy_putObj' _ D (.deferred none)) (fun r e => by cases e; exact ⟨_, hK2, rfl⟩)), B5.trans (belowK_b (w := w) (Nat.le_refl _) _ D _ _ (by omega) hK2 rfl rfl)⟩
    simp [results, Try.f6, go_sem, m0, m1, m2]
  case stop =>
    rintro D c pre W hD _ h _
    exact h.elim
end Go.Proofs.Ytohkiknhjcibgaa
