/- CACHE: Get and Put by what the cache keeps. -/
import Derived.Test.YtpjcpikafpnmpaaAK12
namespace Go.Proofs.Ytpjcpikafpnmpaa
open Go.RowKit

/-- What is kept: key, Logits, Arg. -/
abbrev En := ByteArray × List Int × Int
def ct (L : List Ce) : List En := L.map fun x => (x.k, x.l, x.a)
def is (s : ByteArray) (e : En) : Bool := decide (e.1 = s)
/-- The entry of a key. -/
def atE (E : List En) (s : ByteArray) : Option En := E.find? (is s)
/-- The others. -/
def wo (E : List En) (s : ByteArray) : List En := E.filter fun e => !is s e
/-- Get: the row behind it. -/
def gtE (E : List En) (s : ByteArray) : List En := match atE E s with
  | some e => e :: wo E s
  | none => E
def gtB (E : List En) (s : ByteArray) : Bool := (atE E s).isSome
def gtL (E : List En) (s : ByteArray) : List Int := match atE E s with
  | some e => e.2.1
  | none => []
def gtA (E : List En) (s : ByteArray) : Int := match atE E s with
  | some e => e.2.2
  | none => 0
/-- Put: the row behind it. -/
def ptE (rm : Nat) (E : List En) (e : En) : List En := (e :: wo E e.1).take rm
theorem ct_app (A C : List Ce) : ct (A ++ C) = ct A ++ ct C := by simp [ct]
theorem wo_none {E : List En} {s : ByteArray} (h : ∀ e ∈ E, e.1 ≠ s) : wo E s = E := by
  unfold wo
  rw [List.filter_eq_self]
  intro e he
  simp [is, h e he]
theorem at_none {E : List En} {s : ByteArray} (h : ∀ e ∈ E, e.1 ≠ s) : atE E s = none := by
  unfold atE
  rw [List.find?_eq_none]
  intro e he
  simp [is, h e he]
theorem ct_mem {L : List Ce} {e : En} (h : e ∈ ct L) : ∃ x ∈ L, e = (x.k, x.l, x.a) := by
  obtain ⟨x, hx, e⟩ := List.mem_map.1 h
  exact ⟨x, hx, e.symm⟩
theorem split_key {A C : List Ce} {x : Ce} (h : ((A ++ x :: C).map (·.k)).Nodup) : atE (ct (A ++ x :: C)) x.k = some (x.k, x.l, x.a) ∧ wo (ct (A ++ x :: C)) x.k = ct (A ++ C) := by
  rw [List.map_append, List.nodup_append] at h
  have hA : ∀ e ∈ ct A, e.1 ≠ x.k := fun e he => by
    obtain ⟨y, hy, rfl⟩ := ct_mem he
    exact h.2.2 _ (List.mem_map_of_mem hy) _ (List.mem_map_of_mem (by simp))
  have hC : ∀ e ∈ ct C, e.1 ≠ x.k := fun e he => by
    obtain ⟨y, hy, rfl⟩ := ct_mem he
    exact fun e => (List.nodup_cons.1 h.2.1).1 (List.mem_map.2 ⟨y, hy, e⟩)
  constructor
  · have e := at_none hA
    unfold atE at e ⊢
    rw [ct_app, List.find?_append, e]
    simp [ct, is]
  · have e1 := wo_none hA
    have e2 := wo_none hC
    rw [ct_app, ct_app]
    unfold wo at e1 e2 ⊢
    rw [List.filter_append, e1]
    congr 1
    show List.filter _ ((x.k, x.l, x.a) :: ct C) = ct C
    rw [List.filter_cons_of_neg (by simp [is]), e2]
/-- A key is there, or it is not. -/
theorem key_cases (L : List Ce) (s : ByteArray) : (∃ A x C, L = A ++ x :: C ∧ x.k = s) ∨ ∀ y ∈ L, y.k ≠ s := by
  by_cases h : ∃ x ∈ L, x.k = s
  · obtain ⟨x, hx, e⟩ := h
    obtain ⟨A, C, rfl⟩ := List.append_of_mem hx
    exact .inl ⟨A, x, C, rfl, e⟩
  · exact .inr fun y hy e => h ⟨y, hy, e⟩
theorem get_any (S : Nat → Prop) (p : Nat) {rm : Int} {bm : Nat} {h m : Int} (L : List Ce) (w : World) (c : Ch w S p rm 0 bm h m L) (ao : Option Addr) (cap : Nat) (s : ByteArray) (hs : Bs w ao s) (hd : Bo S ao s) (hz : s.size ≤ 9223372036854775807) (hh : h < 4611686018427387904) (hm : m < 4611686018427387904) (hS : ∀ k, S k → k < w.heap.size) :
    Calls Try.prog 10 #[.pointer (some ⟨p, 0, none⟩), .slice ao s.size cap] w fun e w' => ∃ v L', e = .returned (.tuple #[rsv v (gtA (ct L) s), .bool (gtB (ct L) s)]) ∧ Ow w' w.heap.size v (gtL (ct L) s) ∧ ct L' = gtE (ct L) s ∧ Ch w' S p rm 0 bm (if gtB (ct L) s = true then h + 1 else h) (if gtB (ct L) s = true then m else m + 1) L' ∧ BP S w w' := by
  rcases key_cases L s with ⟨A, x, C, rfl, rfl⟩ | hn
  · obtain ⟨e1, e2⟩ := split_key c.ks
    refine (get_hit S p A C x w c ao cap hs hd hh hS).mono ?_
    rintro e w' ⟨v, rfl, ow, c', b⟩
    refine ⟨v, x :: (A ++ C), ?_, ?_, ?_, ?_, b⟩
    · simp [gtA, gtB, e1]
    · simpa [gtL, e1] using ow
    · simp only [gtE, e1, e2]; rfl
    · simpa [gtB, e1] using c'
  · have e1 : atE (ct L) s = none := at_none fun e he => by
      obtain ⟨y, hy, rfl⟩ := ct_mem he
      exact hn y hy
    refine (get_miss S p w c ao cap s hs hd hz hm hn).mono ?_
    rintro e w' ⟨rfl, c', b⟩
    refine ⟨.slice none 0 0, L, ?_, ?_, ?_, ?_, b⟩
    · simp [gtA, gtB, e1]
    · simp only [gtL, e1]; exact World.ownsRow_nil _ _ _ _
    · simp [gtE, e1]
    · simpa [gtB, e1] using c'
theorem put_any (S : Nat → Prop) (p : Nat) {rm : Int} {bm : Nat} {h m : Int} (L : List Ce) (w : World) (c : Ch w S p rm 0 bm h m L) (ao : Option Addr) (cap : Nat) (s : ByteArray) (hs : Bs w ao s) (hd : Bo S ao s) (hz : s.size ≤ 65536) (hS : ∀ k, S k → k < w.heap.size)
    (ro : Option Addr) (rc : Nat) (l : List Int) (a : Int) (hrc : ro = none → rc = 0) (hr : Nm w ro l) (hM : l.length * 8 ≤ 140737488355328) :
    Calls Try.prog 11 #[.pointer (some ⟨p, 0, none⟩), .slice ao s.size cap, rsv (.slice ro l.length rc) a] w fun e w' => e = .returned (.int .i64 0) ∧ ∃ L', ct L' = ptE rm.toNat (ct L) (s, l, a) ∧ Ch w' (grown S w w') p rm 0 bm h m L' ∧ BP S w w' := by
  have hrom := c.rom
  have hlen : (ct L).length = L.length := by simp [ct]
  rcases key_cases L s with ⟨A, x, C, rfl, rfl⟩ | hn
  · obtain ⟨e1, e2⟩ := split_key c.ks
    refine (put_hit S p A C x w c ao cap hs hd ro rc l a hrc hr hM).mono ?_
    rintro e w' ⟨rfl, v, c', b⟩
    refine ⟨rfl, _, ?_, c', b⟩
    have hl : (ct (A ++ C)).length + 1 ≤ rm.toNat := by
      simp [ct] at hrom ⊢
      omega
    unfold ptE
    rw [e2, List.take_of_length_le (by simpa using hl)]
    rfl
  · have e2 : wo (ct L) s = ct L := wo_none fun e he => by
      obtain ⟨y, hy, rfl⟩ := ct_mem he
      exact hn y hy
    refine (put_miss S p L w c ao cap s hs hd hz hn hS ro rc l a hrc hr hM).mono ?_
    rintro e w' ⟨rfl, b', v, L', hL, c', b⟩
    refine ⟨rfl, _, ?_, c', b⟩
    unfold ptE
    rw [e2]
    show (s, l, a) :: ct L' = _
    rcases hL with ⟨rfl, h1⟩ | ⟨h1, rfl⟩
    · rw [List.take_of_length_le (by simp [hlen]; omega)]
    · obtain ⟨k, hk⟩ : ∃ k, rm.toNat = k + 1 := ⟨rm.toNat - 1, by omega⟩
      rw [hk, List.take_succ_cons]
      congr 1
      have : L.dropLast = L.take k := by rw [List.dropLast_eq_take]; congr 1; omega
      rw [this]
      simp [ct, List.map_take]
end Go.Proofs.Ytpjcpikafpnmpaa
