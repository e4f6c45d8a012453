/- RankOrder: mathematics; Top refuses; truth values. -/
import Derived.Test.YtfdkjckoelmgeaaDoorRF1
namespace Go.Proofs.YtfdkjckoelmgeaaDoor
open Go.RowKit Go.Sort

/-- Which places were seen among the first i. -/
def se (L : List (Int × Int)) (i t : Nat) : Bool := (L.take i).any fun p => p.1 == (t : Int)
theorem se_zero (L : List (Int × Int)) (t : Nat) : se L 0 t = false := rfl
theorem se_step {L : List (Int × Int)} {i : Nat} {p : Int × Int} (h : L[i]? = some p) (t : Nat) : se L (i + 1) t = (se L i t || p.1 == (t : Int)) := by
  unfold se
  rw [List.take_add_one, h]
  simp
theorem tp_same {l : List Int} {n i j : Nat} {p q : Int × Int} (hi : (tp l n)[i]? = some p) (hj : (tp l n)[j]? = some q) (h : p.1 = q.1) : p = q := by
  obtain ⟨a, _, ea⟩ := tp_mem hi
  obtain ⟨b, _, eb⟩ := tp_mem hj
  subst ea eb
  dsimp only at h
  have : a = b := by omega
  rw [this]
/-- None is seen twice. -/
theorem se_no {l : List Int} {n i k : Nat} {p : Int × Int} (h : (tp l n)[i]? = some p) (hk : p.1 = (k : Int)) : se (tp l n) i k = false := by
  cases hs : se (tp l n) i k with
  | false => rfl
  | true =>
    unfold se at hs
    rw [List.any_eq_true] at hs
    obtain ⟨q, hq, e⟩ := hs
    obtain ⟨j, hj, e2⟩ := List.mem_iff_getElem.1 hq
    have hji : j < i := by rw [List.length_take] at hj; omega
    have hj2 : (tp l n)[j]? = some q := by
      rw [← e2, List.getElem_take, List.getElem?_eq_getElem]
    have e3 : q.1 = p.1 := by rw [hk]; exact by simpa using e
    have e4 := tp_same hj2 h e3
    subst e4
    have := tp_lt hji hj2 h
    omega
/-- What was not seen is not above the last one. -/
theorem se_left {l : List Int} {n i : Nat} {p : Int × Int} (h : (tp l n)[(tp l n).length - 1]? = some p) (hi : i < l.length) (hs : se (tp l n) (tp l n).length i = false) : ¬ (p.2 < l.getD i 0 ∨ (p.2 = l.getD i 0 ∧ (i : Int) < p.1)) := by
  refine tp_left h hi fun k hk e => ?_
  have : se (tp l n) (tp l n).length i = true := by
    unfold se
    rw [List.take_length, List.any_eq_true]
    exact ⟨_, List.mem_of_getElem? e, by simp⟩
  rw [hs] at this
  cases this
theorem tp_idx {l : List Int} {n j : Nat} {p : Int × Int} (h : (tp l n)[j]? = some p) : ∃ k : Nat, k < l.length ∧ p.1 = (k : Int) ∧ p.2 = l.getD k 0 := by
  obtain ⟨k, hk, e⟩ := tp_mem h
  exact ⟨k, hk, by rw [e], by rw [e]⟩
set_option maxRecDepth 100000 in
theorem top_bad (ao : Option Addr) (n cap : Nat) (N : Int) (w : World) (h0 : N < 0) :
    Calls Tryd.prog 9 #[.slice ao n cap, .int .i64 N] w fun e w' => e = .returned (.tuple #[.slice none 0 0, .int .i64 1]) ∧ w' = w := by
  go_enter Tryd.func9, Tryd.ntmps9
  go_wp2_with fail
  go_ret2
  exact ⟨rfl, rfl⟩
/-- Top of any list, as values and memory. -/
theorem top_rk (ao : Option Addr) (l : List Int) (cap : Nat) (N : Int) (w : World) (hN2 : N ≤ 9223372036854775807) (hl : l.length ≤ 4294967296) (h : Nm w ao l) (h0 : 0 ≤ N) :
    Calls Tryd.prog 9 #[.slice ao l.length cap, .int .i64 N] w fun e w' => ∃ a c, e = .returned (.tuple #[.slice a (tp l N.toNat).length c, .int .i64 0]) ∧ Hid (Rkm w' a (tp l N.toNat)) ∧ (tp l N.toNat).length ≤ c ∧ Below w.heap.size w w' := by
  refine (top_any ao l cap N w hN2 hl h h0).mono ?_
  rintro e w' ⟨v', rfl, k1, k2⟩
  have k3 := k1
  obtain ⟨a, c, rfl, hr⟩ := own_rkm k1
  refine ⟨a, c, rfl, hr, ?_, k2⟩
  rcases k3.2 with ⟨e1, e2⟩ | ⟨g, cap', cur, e1, _, _, h4, _⟩
  · rw [e2]; exact Nat.zero_le _
  · cases e1; exact h4
theorem info_bool : (Tryd.prog.info? 4).map (fun i => (i.zero, i.size, i.bytes)) = some (some (.bool false), 1, 1) := by kernel_rfl
theorem und_bools : Tryd.prog.underlying 28 = some (.slice 4) := by kernel_rfl
end Go.Proofs.YtfdkjckoelmgeaaDoor
