/- PACKAGE rank: Arg. -/
import Derived.Test.YtfdkjckoelmgeaaDoorRK0
import Derived.Test.YtfdkjckoelmgeaaDoorRM1
namespace Go.Proofs.YtfdkjckoelmgeaaDoor
open Go.RowKit

/-- The place of the greatest of the first k numbers, the lowest one; -1, if there is none. -/
def ag (f : Nat → Int) : Nat → Int
  | 0 => -1
  | k + 1 => if ag f k < 0 ∨ f (ag f k).toNat < f k then (k : Int) else ag f k
theorem ag_bd (f : Nat → Int) (k : Nat) : -1 ≤ ag f k ∧ ag f k < (k : Int) ∧ (0 < k → 0 ≤ ag f k) := by
  induction k with
  | zero => simp [ag]
  | succ k ih =>
    unfold ag
    split <;> omega
theorem ag_top (f : Nat → Int) (k : Nat) : ∀ j, j < k → f j ≤ f (ag f k).toNat ∧ ((j : Int) < ag f k → f j < f (ag f k).toNat) := by
  induction k with
  | zero => intro j hj; omega
  | succ k ih =>
    intro j hj
    have hb := ag_bd f k
    unfold ag
    split
    · rename_i hc
      simp only [Int.toNat_natCast]
      by_cases hjk : j = k
      · subst hjk; exact ⟨Int.le_refl _, fun h => by omega⟩
      · rcases hc with hc | hc
        · have : k = 0 := by omega
          omega
        · have := ih j (by omega)
          exact ⟨by omega, fun _ => by omega⟩
    · rename_i hc
      by_cases hjk : j = k
      · subst hjk; exact ⟨by omega, fun h => by omega⟩
      · exact ih j (by omega)
set_option maxRecDepth 100000 in
theorem arg_any (ao : Option Addr) (l : List Int) (cap : Nat) (w : World) (hl : l.length ≤ 9223372036854775807) (h : Nm w ao l) :
    Calls Tryd.prog 10 #[.slice ao l.length cap] w fun e w' => e = .returned (.int .i64 (ag (fun j => l.getD j 0) l.length)) ∧ w' = w := by
  have H1 := hid1 h
  clear h
  obtain ⟨n, hn⟩ : ∃ n, l.length = n := ⟨_, rfl⟩
  obtain ⟨F, hF⟩ : ∃ F : Nat → Int, (fun j => l.getD j 0) = F := ⟨_, rfl⟩
  have HC : Hid (∀ k, k < n → ∃ g o, ao = some ⟨g, o, none⟩ ∧ w.cell? ⟨g, o + k, none⟩ = some (.int .i64 (F k))) := fun k hk => by
    obtain ⟨g, o, e, c⟩ := H1.out.at (k := k) (by omega)
    refine ⟨g, o, e, ?_⟩
    rw [c, ← hF]
    simp [List.getD_eq_getElem?_getD, List.getElem?_eq_getElem (show k < l.length by omega)]
  rw [hn, hF]
  rw [hn] at hl
  clear H1 hF hn
  go_enter Tryd.func10, Tryd.ntmps10
  go_wp2_with fail
  go_loopw [3, 8] (fun x y wr => ∃ k : Nat, k ≤ n ∧ x = .int .i64 (ag F k) ∧ y = .int .i64 k ∧ wr = w) (fun _ y _ => n - (intOf y).toNat)
  case atStart => exact ⟨0, Nat.zero_le _, rfl, rfl, rfl⟩
  case round =>
    obtain ⟨k, hk, rfl, rfl, rfl⟩ := hrel
    obtain ⟨hb1, hb2, hb3⟩ := ag_bd F k
    have hstep : ag F (k + 1) = if ag F k < 0 ∨ F (ag F k).toNat < F k then (k : Int) else ag F k := rfl
    by_cases hlt : k < n
    · obtain ⟨g, o, rfl, d1⟩ := HC.out k hlt
      have ik : (k : Int) < (n : Int) := by omega
      have ik0 : (0 : Int) ≤ (k : Int) := by omega
      by_cases hneg : ag F k < 0
      · rw [if_pos (.inl hneg)] at hstep
        generalize ag F k = A at *
        go_wp2_with fail
        exact ⟨⟨k + 1, by omega, by rw [hstep], by go_num, by first | rfl | trivial⟩, by simp [intOf]; omega⟩
      · obtain ⟨g', o', e', d2⟩ := HC.out (ag F k).toNat (by omega)
        cases e'
        have hA : 0 ≤ ag F k := by omega
        have hA2 : ag F k < (n : Int) := by omega
        generalize ag F k = A at *
        obtain ⟨A', rfl⟩ := Int.eq_ofNat_of_zero_le hA
        simp only [Int.toNat_natCast] at d2 hstep
        by_cases hgt : F A' < F k
        · rw [if_pos (.inr hgt)] at hstep
          go_wp2_with fail
          exact ⟨⟨k + 1, by omega, by rw [hstep], by go_num, by first | rfl | trivial⟩, by simp [intOf]; omega⟩
        · rw [if_neg (by omega)] at hstep
          go_wp2_with fail
          exact ⟨⟨k + 1, by omega, by rw [hstep], by go_num, by first | rfl | trivial⟩, by simp [intOf]; omega⟩
    · have hkN : k = n := by omega
      subst hkN
      go_wp2_with fail
      go_ret
      exact ⟨rfl, rfl⟩
end Go.Proofs.YtfdkjckoelmgeaaDoor
