/- SHAPES: THE DOCUMENT'S OWN WINDOW, STEPS, WALKED. -/
import Derived.Test.YtlghmojjcfjibaaSW6
namespace Go.Proofs.Ytlghmojjcfjibaa.Sg
open Go.RowKit

set_option maxHeartbeats 800000 in
set_option maxRecDepth 100000 in
theorem rwin_ok (r s sy sx t l b q : Int) (h0 : 1 ≤ r ∧ r ≤ 15) (h1 : 1 ≤ s ∧ s ≤ 15) (h2 : 1 ≤ sy ∧ sy ≤ 15) (h3 : 1 ≤ sx ∧ sx ≤ 15) (h4 : 0 ≤ t ∧ t ≤ 14) (h5 : 0 ≤ l ∧ l ≤ 14) (h6 : 0 ≤ b ∧ b ≤ 14) (h7 : 0 ≤ q ∧ q ≤ 14) (w : World) :
    Calls Try.prog 57 #[win r s sy sx t l b q] w fun e w' => e = .returned (.int .i64 0) ∧ Below w.heap.size w w' := by
  go_enter Try.func57, Try.ntmps57
  go_wp2_with (first | (go_at_call 66; refine (in_yes _ _ _ (by omega) (by omega) _).mono ?_; rintro e w' ⟨rfl, rfl⟩) | (go_at_call 66; refine (in_no _ _ _ (by omega) _).mono ?_; rintro e w' ⟨rfl, rfl⟩))
  go_ret
  exact ⟨rfl, bl_alloc (Below.refl _ _) _⟩
set_option maxHeartbeats 800000 in
set_option maxRecDepth 100000 in
theorem rwin_n0 (r s sy sx t l b q : Int) (h0 : ¬ (1 ≤ r ∧ r ≤ 15)) (w : World) :
    Calls Try.prog 57 #[win r s sy sx t l b q] w fun e w' => e = .returned (.int .i64 56) ∧ Below w.heap.size w w' := by
  go_enter Try.func57, Try.ntmps57
  go_wp2_with (first | (go_at_call 66; refine (in_yes _ _ _ (by omega) (by omega) _).mono ?_; rintro e w' ⟨rfl, rfl⟩) | (go_at_call 66; refine (in_no _ _ _ (by omega) _).mono ?_; rintro e w' ⟨rfl, rfl⟩))
  go_ret
  exact ⟨rfl, bl_alloc (Below.refl _ _) _⟩
set_option maxHeartbeats 800000 in
set_option maxRecDepth 100000 in
theorem rwin_n1 (r s sy sx t l b q : Int) (h0 : 1 ≤ r ∧ r ≤ 15) (h1 : ¬ (1 ≤ s ∧ s ≤ 15)) (w : World) :
    Calls Try.prog 57 #[win r s sy sx t l b q] w fun e w' => e = .returned (.int .i64 56) ∧ Below w.heap.size w w' := by
  go_enter Try.func57, Try.ntmps57
  go_wp2_with (first | (go_at_call 66; refine (in_yes _ _ _ (by omega) (by omega) _).mono ?_; rintro e w' ⟨rfl, rfl⟩) | (go_at_call 66; refine (in_no _ _ _ (by omega) _).mono ?_; rintro e w' ⟨rfl, rfl⟩))
  go_ret
  exact ⟨rfl, bl_alloc (Below.refl _ _) _⟩
set_option maxHeartbeats 800000 in
set_option maxRecDepth 100000 in
theorem rwin_n2 (r s sy sx t l b q : Int) (h0 : 1 ≤ r ∧ r ≤ 15) (h1 : 1 ≤ s ∧ s ≤ 15) (h2 : ¬ (1 ≤ sy ∧ sy ≤ 15)) (w : World) :
    Calls Try.prog 57 #[win r s sy sx t l b q] w fun e w' => e = .returned (.int .i64 56) ∧ Below w.heap.size w w' := by
  go_enter Try.func57, Try.ntmps57
  go_wp2_with (first | (go_at_call 66; refine (in_yes _ _ _ (by omega) (by omega) _).mono ?_; rintro e w' ⟨rfl, rfl⟩) | (go_at_call 66; refine (in_no _ _ _ (by omega) _).mono ?_; rintro e w' ⟨rfl, rfl⟩))
  go_ret
  exact ⟨rfl, bl_alloc (Below.refl _ _) _⟩
set_option maxHeartbeats 800000 in
set_option maxRecDepth 100000 in
theorem rwin_n3 (r s sy sx t l b q : Int) (h0 : 1 ≤ r ∧ r ≤ 15) (h1 : 1 ≤ s ∧ s ≤ 15) (h2 : 1 ≤ sy ∧ sy ≤ 15) (h3 : ¬ (1 ≤ sx ∧ sx ≤ 15)) (w : World) :
    Calls Try.prog 57 #[win r s sy sx t l b q] w fun e w' => e = .returned (.int .i64 56) ∧ Below w.heap.size w w' := by
  go_enter Try.func57, Try.ntmps57
  go_wp2_with (first | (go_at_call 66; refine (in_yes _ _ _ (by omega) (by omega) _).mono ?_; rintro e w' ⟨rfl, rfl⟩) | (go_at_call 66; refine (in_no _ _ _ (by omega) _).mono ?_; rintro e w' ⟨rfl, rfl⟩))
  go_ret
  exact ⟨rfl, bl_alloc (Below.refl _ _) _⟩
set_option maxHeartbeats 800000 in
set_option maxRecDepth 100000 in
theorem rwin_n4 (r s sy sx t l b q : Int) (h0 : 1 ≤ r ∧ r ≤ 15) (h1 : 1 ≤ s ∧ s ≤ 15) (h2 : 1 ≤ sy ∧ sy ≤ 15) (h3 : 1 ≤ sx ∧ sx ≤ 15) (h4 : ¬ (0 ≤ t ∧ t ≤ 14)) (w : World) :
    Calls Try.prog 57 #[win r s sy sx t l b q] w fun e w' => e = .returned (.int .i64 56) ∧ Below w.heap.size w w' := by
  go_enter Try.func57, Try.ntmps57
  go_wp2_with (first | (go_at_call 66; refine (in_yes _ _ _ (by omega) (by omega) _).mono ?_; rintro e w' ⟨rfl, rfl⟩) | (go_at_call 66; refine (in_no _ _ _ (by omega) _).mono ?_; rintro e w' ⟨rfl, rfl⟩))
  go_ret
  exact ⟨rfl, bl_alloc (Below.refl _ _) _⟩
set_option maxHeartbeats 800000 in
set_option maxRecDepth 100000 in
theorem rwin_n5 (r s sy sx t l b q : Int) (h0 : 1 ≤ r ∧ r ≤ 15) (h1 : 1 ≤ s ∧ s ≤ 15) (h2 : 1 ≤ sy ∧ sy ≤ 15) (h3 : 1 ≤ sx ∧ sx ≤ 15) (h4 : 0 ≤ t ∧ t ≤ 14) (h5 : ¬ (0 ≤ l ∧ l ≤ 14)) (w : World) :
    Calls Try.prog 57 #[win r s sy sx t l b q] w fun e w' => e = .returned (.int .i64 56) ∧ Below w.heap.size w w' := by
  go_enter Try.func57, Try.ntmps57
  go_wp2_with (first | (go_at_call 66; refine (in_yes _ _ _ (by omega) (by omega) _).mono ?_; rintro e w' ⟨rfl, rfl⟩) | (go_at_call 66; refine (in_no _ _ _ (by omega) _).mono ?_; rintro e w' ⟨rfl, rfl⟩))
  go_ret
  exact ⟨rfl, bl_alloc (Below.refl _ _) _⟩
set_option maxHeartbeats 800000 in
set_option maxRecDepth 100000 in
theorem rwin_n6 (r s sy sx t l b q : Int) (h0 : 1 ≤ r ∧ r ≤ 15) (h1 : 1 ≤ s ∧ s ≤ 15) (h2 : 1 ≤ sy ∧ sy ≤ 15) (h3 : 1 ≤ sx ∧ sx ≤ 15) (h4 : 0 ≤ t ∧ t ≤ 14) (h5 : 0 ≤ l ∧ l ≤ 14) (h6 : ¬ (0 ≤ b ∧ b ≤ 14)) (w : World) :
    Calls Try.prog 57 #[win r s sy sx t l b q] w fun e w' => e = .returned (.int .i64 56) ∧ Below w.heap.size w w' := by
  go_enter Try.func57, Try.ntmps57
  go_wp2_with (first | (go_at_call 66; refine (in_yes _ _ _ (by omega) (by omega) _).mono ?_; rintro e w' ⟨rfl, rfl⟩) | (go_at_call 66; refine (in_no _ _ _ (by omega) _).mono ?_; rintro e w' ⟨rfl, rfl⟩))
  go_ret
  exact ⟨rfl, bl_alloc (Below.refl _ _) _⟩
set_option maxHeartbeats 800000 in
set_option maxRecDepth 100000 in
theorem rwin_n7 (r s sy sx t l b q : Int) (h0 : 1 ≤ r ∧ r ≤ 15) (h1 : 1 ≤ s ∧ s ≤ 15) (h2 : 1 ≤ sy ∧ sy ≤ 15) (h3 : 1 ≤ sx ∧ sx ≤ 15) (h4 : 0 ≤ t ∧ t ≤ 14) (h5 : 0 ≤ l ∧ l ≤ 14) (h6 : 0 ≤ b ∧ b ≤ 14) (h7 : ¬ (0 ≤ q ∧ q ≤ 14)) (w : World) :
    Calls Try.prog 57 #[win r s sy sx t l b q] w fun e w' => e = .returned (.int .i64 56) ∧ Below w.heap.size w w' := by
  go_enter Try.func57, Try.ntmps57
  go_wp2_with (first | (go_at_call 66; refine (in_yes _ _ _ (by omega) (by omega) _).mono ?_; rintro e w' ⟨rfl, rfl⟩) | (go_at_call 66; refine (in_no _ _ _ (by omega) _).mono ?_; rintro e w' ⟨rfl, rfl⟩))
  go_ret
  exact ⟨rfl, bl_alloc (Below.refl _ _) _⟩
theorem rwindow_any (r s sy sx t l b q : Int) (w : World) :
    Calls Try.prog 57 #[win r s sy sx t l b q] w fun e w' => e = .returned (.int .i64 (wiE r s sy sx t l b q)) ∧ Below w.heap.size w w' := by
  unfold wiE
  by_cases hw : WOk r s sy sx t l b q
  · rw [if_pos hw]
    obtain ⟨⟨a1, a2, a3, a4⟩, b1, b2, b3, b4⟩ := hw
    exact rwin_ok r s sy sx t l b q a1 b1 a2 b2 a3 b3 a4 b4 w
  · rw [if_neg hw]
    by_cases h0 : 1 ≤ r ∧ r ≤ 15
    rotate_left
    · exact rwin_n0 r s sy sx t l b q h0 w
    by_cases h1 : 1 ≤ s ∧ s ≤ 15
    rotate_left
    · exact rwin_n1 r s sy sx t l b q h0 h1 w
    by_cases h2 : 1 ≤ sy ∧ sy ≤ 15
    rotate_left
    · exact rwin_n2 r s sy sx t l b q h0 h1 h2 w
    by_cases h3 : 1 ≤ sx ∧ sx ≤ 15
    rotate_left
    · exact rwin_n3 r s sy sx t l b q h0 h1 h2 h3 w
    by_cases h4 : 0 ≤ t ∧ t ≤ 14
    rotate_left
    · exact rwin_n4 r s sy sx t l b q h0 h1 h2 h3 h4 w
    by_cases h5 : 0 ≤ l ∧ l ≤ 14
    rotate_left
    · exact rwin_n5 r s sy sx t l b q h0 h1 h2 h3 h4 h5 w
    by_cases h6 : 0 ≤ b ∧ b ≤ 14
    rotate_left
    · exact rwin_n6 r s sy sx t l b q h0 h1 h2 h3 h4 h5 h6 w
    by_cases h7 : 0 ≤ q ∧ q ≤ 14
    rotate_left
    · exact rwin_n7 r s sy sx t l b q h0 h1 h2 h3 h4 h5 h6 h7 w
    exact absurd ⟨⟨h0, h2, h4, h6⟩, h1, h3, h5, h7⟩ hw
theorem stN_done {n bf af wi st j all : Int} (ha : all = n + bf + af) (h1 : 1 ≤ st) (h2 : j * st + wi > all) (h3 : j = 0 ∨ (1 ≤ j ∧ (j - 1) * st + wi ≤ all)) : stN n bf af wi st = j := by
  have e : bf + n + af = all := by omega
  unfold stN
  rw [e]
  rcases h3 with rfl | ⟨h4, h5⟩
  · rw [if_pos (by omega)]
  · have e2 : (j - 1) * st = j * st - st := by rw [Int.sub_mul, Int.one_mul]
    have k : 0 ≤ (j - 1) * st := Int.mul_nonneg (by omega) (by omega)
    rw [if_neg (by omega), (div_is (a := all - wi) (b := st) (q := j - 1) (r := all - wi - (j - 1) * st) (by omega) (by omega) (by omega)).1]
    omega
set_option maxHeartbeats 800000 in
set_option maxRecDepth 100000 in
theorem steps_any (n bf af wi st all V : Int) (hn : 1 ≤ n ∧ n ≤ 4096) (hs : SideOk bf af wi st) (ha : all = n + bf + af) (hV : stN n bf af wi st = V) (w : World) :
    Calls Try.prog 68 #[.int .i64 all, .int .i64 wi, .int .i64 st] w fun e w' => e = .returned (.int .i64 V) ∧ w' = w := by
  obtain ⟨h1, h2, h3, h4⟩ := hs
  have HV := hid1 hV
  clear hV
  go_enter Try.func68, Try.ntmps68
  go_wp2_with fail
  go_loop [7, 8] (fun n x => ∃ j A : Int, 0 ≤ j ∧ A = j * st ∧ (j = 0 ∨ (1 ≤ j ∧ (j - 1) * st + wi ≤ all)) ∧ n = .int .i64 j ∧ x = .int .i64 A) (fun _ x => (all + 32 - intOf x).toNat)
  case atStart => exact ⟨0, 0, by omega, by omega, .inl rfl, rfl, rfl⟩
  case round =>
    obtain ⟨j, A, hj, hA, hp, rfl, rfl⟩ := hrel
    have pj : j ≤ j * st := by
      have := Int.mul_le_mul_of_nonneg_left h2.1 hj
      omega
    have e2 : (j - 1) * st = j * st - st := by rw [Int.sub_mul, Int.one_mul]
    have e3 : (j + 1) * st = j * st + st := by rw [Int.add_mul, Int.one_mul]
    have z1 : 0 ≤ A := by omega
    have z2 : A ≤ 4140 := by rcases hp with rfl | hp <;> omega
    have d0 := wr_id (x := A + wi) (by omega) (by omega)
    have z3 : j ≤ A := by omega
    have F1 := hid1 (show A + st = (j + 1) * st by omega)
    have F2 := hid1 hA
    clear hA e2 e3 pj
    by_cases hlt : A + wi ≤ all
    · have d1 := wr_id (x := j + 1) (by omega) (by omega)
      have d2 := wr_id (x := A + st) (by omega) (by omega)
      go_wp2_with fail
      refine ⟨⟨j + 1, A + st, by omega, F1.out, .inr ⟨by omega, ?_⟩, rfl, rfl⟩, by simp [intOf]; omega⟩
      rw [show j + 1 - 1 = j by omega, ← F2.out]; omega
    · obtain rfl : V = j := HV.out.symm.trans (stN_done ha h2.1 (by rw [← F2.out]; omega) hp)
      go_wp2_with fail
      go_ret
      exact ⟨rfl, rfl⟩
end Go.Proofs.Ytlghmojjcfjibaa.Sg
