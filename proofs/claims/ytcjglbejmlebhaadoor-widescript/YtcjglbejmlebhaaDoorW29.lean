import Derived.Test.YtcjglbejmlebhaaDoorW28
namespace Go.Proofs.YtcjglbejmlebhaaDoor
open Go.RowKit Go.Shelf
attribute [local go_sem ↓] Go.wp_at_zero Go.wp_at_succ

theorem dgs_dg (n : Int) : ∀ k, Dg (dgs n k)
  | 0 => fun _ h => by simp [dgs] at h
  | k + 1 => (dgs_dg n k).snoc (by omega)
theorem dgs_val (n : Int) : ∀ k, val (dgs n k) + 65536 ^ k * shr n k = n
  | 0 => by simp [dgs, shr, val]
  | k + 1 => by
    have ih := dgs_val n k
    simp only [dgs, shr, val_app, dgs_len, val, Int.pow_succ]
    generalize shr n k = s at *
    generalize (65536 : Int) ^ k = p at *
    have e : s % 65536 + 65536 * (s / 65536) = s := Int.emod_add_mul_ediv s 65536
    have e2 : p * (s % 65536) + p * 65536 * (s / 65536) = p * s := by
      rw [Int.mul_assoc, ← Int.mul_add, e]
    have e4 : s % 65536 + 65536 * 0 = s % 65536 := by omega
    rw [e4]; omega
theorem dgs_four {n : Int} (h : U64 n) : val (dgs n 4) = n := by
  have h1 := dgs_val n 4
  have h2 : shr n 4 = 0 := by
    obtain ⟨a, b⟩ := h
    simp only [shr]; omega
  rw [h2] at h1; omega

set_option maxHeartbeats 1600000 in
set_option maxRecDepth 100000 in
theorem rint_nn (n : Int) (h : I64 n) (h0 : 0 ≤ n) (w : World) :
    Calls Tryd.prog 35 #[.int .i64 n] w fun e w' => ∃ z, e = .returned z ∧ Bg w' z n ∧ Below w.heap.size w w' := by
  obtain ⟨a1, a2⟩ := h
  have hu : U64 n := ⟨by omega, by omega⟩
  have h1 : ¬ n < 0 := by omega
  have HU := hid1 hu
  clear hu
  go_enter Tryd.func35, Tryd.ntmps35
  go_wp2_with fail
  refine (digits_any n HU.out _).mono ?_
  rintro e w1 ⟨v, rfl, o1, hb1⟩
  obtain ⟨ao1, cap1, rfl, -⟩ := (Rd.own o1).parts
  have O1 := hid1 (Rd.own o1)
  clear o1
  have c2 := keepc hb1 (new0' w (.bool false) (.slice none 0 0) 44)
  have c3 := keepc hb1 (new1' w (.bool false) (.slice none 0 0) 44)
  have f2 := keepf hb1 (newlt' _ _) (newf' w (.bool false) (.slice none 0 0) 44 0)
  have f3 := keepf hb1 (newlt' _ _) (newf' w (.bool false) (.slice none 0 0) 44 1)
  have hB : Hid (Below w.heap.size w w1) := hid1 (bl_step (bl_alloc (Below.refl _ _) _) hb1)
  clear hb1
  go_wp2_with fail
  refine (trim_num n false _ (dgs n 4) _ O1.out (dgs_dg n 4) (by rw [dgs_four HU.out]; omega) (fun _ => rfl) (fun h => by omega)).mono ?_
  rintro e w2 ⟨y, s2, ao2, m2, cap2, rfl, rfl, hy, hb2⟩
  have HY := hid1 hy
  clear hy
  have q2 := keepc hb2 c2; have q3 := keepc hb2 c3
  have g2 := keepf hb2 (lt_of_cell c2) f2; have g3 := keepf hb2 (lt_of_cell c2) f3
  have hBB : Hid (Below w.heap.size w w2) := hid1 (bl_step hB.out hb2)
  clear hb2 c2 c3 f2 f3
  go_wp2_with fail
  simp [bodyPost, results, Tryd.results35, go_sem, q2, q3]
  exact big_ret HY.out hBB.out (by omega) ⟨_, q2⟩ _ _

set_option maxHeartbeats 1600000 in
set_option maxRecDepth 100000 in
theorem rint_neg (n : Int) (h : I64 n) (h0 : n < 0) (w : World) :
    Calls Tryd.prog 35 #[.int .i64 n] w fun e w' => ∃ z, e = .returned z ∧ Bg w' z n ∧ Below w.heap.size w w' := by
  obtain ⟨a1, a2⟩ := h
  have hu : U64 (-n) := ⟨by omega, by omega⟩
  have HU := hid1 hu
  clear hu
  go_enter Tryd.func35, Tryd.ntmps35
  go_wp2_with fail
  rw [show -(n + 1) + 1 = -n by omega]
  refine (digits_any (-n) HU.out _).mono ?_
  rintro e w1 ⟨v, rfl, o1, hb1⟩
  obtain ⟨ao1, cap1, rfl, -⟩ := (Rd.own o1).parts
  have O1 := hid1 (Rd.own o1)
  clear o1
  have c2 := keepc hb1 (new0' w (.bool false) (.slice none 0 0) 44)
  have c3 := keepc hb1 (new1' w (.bool false) (.slice none 0 0) 44)
  have f2 := keepf hb1 (newlt' _ _) (newf' w (.bool false) (.slice none 0 0) 44 0)
  have f3 := keepf hb1 (newlt' _ _) (newf' w (.bool false) (.slice none 0 0) 44 1)
  have hB : Hid (Below w.heap.size w w1) := hid1 (bl_step (bl_alloc (Below.refl _ _) _) hb1)
  clear hb1
  go_wp2_with fail
  refine (trim_num n true _ (dgs (-n) 4) _ O1.out (dgs_dg (-n) 4) (by rw [dgs_four HU.out]; omega) (fun h => by omega) (fun _ => rfl)).mono ?_
  rintro e w2 ⟨y, s2, ao2, m2, cap2, rfl, rfl, hy, hb2⟩
  have HY := hid1 hy
  clear hy
  have q2 := keepc hb2 c2; have q3 := keepc hb2 c3
  have g2 := keepf hb2 (lt_of_cell c2) f2; have g3 := keepf hb2 (lt_of_cell c2) f3
  have hBB : Hid (Below w.heap.size w w2) := hid1 (bl_step hB.out hb2)
  clear hb2 c2 c3 f2 f3
  go_wp2_with fail
  simp [bodyPost, results, Tryd.results35, go_sem, q2, q3]
  exact big_ret HY.out hBB.out (by omega) ⟨_, q2⟩ _ _
theorem rint_any (n : Int) (h : I64 n) (w : World) :
    Calls Tryd.prog 35 #[.int .i64 n] w fun e w' => ∃ z, e = .returned z ∧ Bg w' z n ∧ Below w.heap.size w w' := by
  by_cases h0 : n < 0
  · exact rint_neg n h h0 w
  · exact rint_nn n h (by omega) w
