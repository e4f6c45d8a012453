/- SHAPES: THE DOCUMENT'S OWN INDEX, PLACE, WINDOW, STEPS, WALKED. -/
import Derived.Test.YtdpdfopmmhpfmaaSW5
namespace Go.Proofs.Ytdpdfopmmhpfmaa
open Go.RowKit

set_option maxRecDepth 100000 in
theorem rindex_bad (h v c y x z : Int) (k : chk h v c ≠ 0) (w : World) :
    Calls Try.prog 17 #[shp h v c, .int .i64 y, .int .i64 x, .int .i64 z] w fun e w' => e = .returned (.tuple #[.int .i64 0, .int .i64 (chk h v c)]) ∧ Below w.heap.size w w' := by
  have HC := rcheck_any h v c
  generalize chk h v c = q at *
  go_enter Try.func17, Try.ntmps17
  go_wp2_with fail
  refine gen_calls (fun W => Below w.heap.size w W) (bl_alloc (Below.refl _ _) _) ?_
  rintro W B0
  refine (HC W).mono ?_
  rintro e w1 ⟨rfl, hb⟩
  go_wp2_with fail
  go_ret2
  exact ⟨rfl, bl_step B0 hb⟩
set_option maxRecDepth 100000 in
theorem rindex_in (h v c y x z : Int) (k : chk h v c = 0) (hi : Inn h v c y x z) (w : World) :
    Calls Try.prog 17 #[shp h v c, .int .i64 y, .int .i64 x, .int .i64 z] w fun e w' => e = .returned (.tuple #[.int .i64 ((y * v + x) * c + z), .int .i64 0]) ∧ Below w.heap.size w w' := by
  have HC := rcheck_any h v c
  rw [k] at HC
  obtain ⟨hs, _⟩ := chk_zero k
  have s1 := hs.1; have s2 := hs.2.1; have s3 := hs.2.2
  have e1 := wr_id (x := h - 1) (by omega) (by omega)
  have e2 := wr_id (x := v - 1) (by omega) (by omega)
  have e3 := wr_id (x := c - 1) (by omega) (by omega)
  obtain ⟨i1, i2, i3⟩ := hi
  have m1 := mul2 s2 s3
  have m2 := mulB (a := y) (b := v * c) (A := 4096) (B := 16777216) ⟨i1.1, by omega⟩ ⟨by omega, m1.2⟩
  have m3 := mulB (a := x) (b := c) (A := 4096) (B := 4096) ⟨i2.1, by omega⟩ ⟨by omega, s3.2⟩
  have q1 : (y * v + x) * c = y * (v * c) + x * c := by rw [Int.add_mul, Int.mul_assoc]
  rw [q1]
  have e4 := wr_id (x := v * c) (by omega) (by omega)
  have e5 := wr_id (x := y * (v * c)) (by omega) (by omega)
  have e6 := wr_id (x := x * c) (by omega) (by omega)
  have e7 := wr_id (x := y * (v * c) + x * c) (by omega) (by omega)
  have e8 := wr_id (x := y * (v * c) + x * c + z) (by omega) (by omega)
  clear q1
  clear hs
  go_enter Try.func17, Try.ntmps17
  go_wp2_with fail
  refine gen_calls (fun W => Below w.heap.size w W ∧ Sh W w.heap.size 0 h v c) ⟨bl_alloc (Below.refl _ _) _, sh_new _ _ _ _ _⟩ ?_
  rintro W ⟨B0, S0⟩
  refine (HC W).mono ?_
  rintro e w1 ⟨rfl, hb⟩
  obtain ⟨c0, c1, c2⟩ := S0.keep hb
  go_wp2_with (first | (go_at_call 30; refine (in_yes _ _ _ (by omega) (by omega) _).mono ?_; rintro e w' ⟨rfl, rfl⟩) | (go_at_call 30; refine (in_no _ _ _ (by omega) _).mono ?_; rintro e w' ⟨rfl, rfl⟩))
  go_ret2
  exact ⟨rfl, bl_step B0 hb⟩
set_option maxRecDepth 100000 in
theorem rindex_o1 (h v c y x z : Int) (k : chk h v c = 0) (h1 : ¬ (0 ≤ y ∧ y < h)) (w : World) :
    Calls Try.prog 17 #[shp h v c, .int .i64 y, .int .i64 x, .int .i64 z] w fun e w' => e = .returned (.tuple #[.int .i64 0, .int .i64 1]) ∧ Below w.heap.size w w' := by
  have HC := rcheck_any h v c
  rw [k] at HC
  obtain ⟨hs, _⟩ := chk_zero k
  have s1 := hs.1; have s2 := hs.2.1; have s3 := hs.2.2
  have e1 := wr_id (x := h - 1) (by omega) (by omega)
  have e2 := wr_id (x := v - 1) (by omega) (by omega)
  have e3 := wr_id (x := c - 1) (by omega) (by omega)
  clear hs
  go_enter Try.func17, Try.ntmps17
  go_wp2_with fail
  refine gen_calls (fun W => Below w.heap.size w W ∧ Sh W w.heap.size 0 h v c) ⟨bl_alloc (Below.refl _ _) _, sh_new _ _ _ _ _⟩ ?_
  rintro W ⟨B0, S0⟩
  refine (HC W).mono ?_
  rintro e w1 ⟨rfl, hb⟩
  obtain ⟨c0, c1, c2⟩ := S0.keep hb
  go_wp2_with (first | (go_at_call 30; refine (in_yes _ _ _ (by omega) (by omega) _).mono ?_; rintro e w' ⟨rfl, rfl⟩) | (go_at_call 30; refine (in_no _ _ _ (by omega) _).mono ?_; rintro e w' ⟨rfl, rfl⟩))
  go_ret2
  exact ⟨rfl, bl_step B0 hb⟩
set_option maxRecDepth 100000 in
theorem rindex_o2 (h v c y x z : Int) (k : chk h v c = 0) (h1 : 0 ≤ y ∧ y < h) (h2 : ¬ (0 ≤ x ∧ x < v)) (w : World) :
    Calls Try.prog 17 #[shp h v c, .int .i64 y, .int .i64 x, .int .i64 z] w fun e w' => e = .returned (.tuple #[.int .i64 0, .int .i64 1]) ∧ Below w.heap.size w w' := by
  have HC := rcheck_any h v c
  rw [k] at HC
  obtain ⟨hs, _⟩ := chk_zero k
  have s1 := hs.1; have s2 := hs.2.1; have s3 := hs.2.2
  have e1 := wr_id (x := h - 1) (by omega) (by omega)
  have e2 := wr_id (x := v - 1) (by omega) (by omega)
  have e3 := wr_id (x := c - 1) (by omega) (by omega)
  clear hs
  go_enter Try.func17, Try.ntmps17
  go_wp2_with fail
  refine gen_calls (fun W => Below w.heap.size w W ∧ Sh W w.heap.size 0 h v c) ⟨bl_alloc (Below.refl _ _) _, sh_new _ _ _ _ _⟩ ?_
  rintro W ⟨B0, S0⟩
  refine (HC W).mono ?_
  rintro e w1 ⟨rfl, hb⟩
  obtain ⟨c0, c1, c2⟩ := S0.keep hb
  go_wp2_with (first | (go_at_call 30; refine (in_yes _ _ _ (by omega) (by omega) _).mono ?_; rintro e w' ⟨rfl, rfl⟩) | (go_at_call 30; refine (in_no _ _ _ (by omega) _).mono ?_; rintro e w' ⟨rfl, rfl⟩))
  go_ret2
  exact ⟨rfl, bl_step B0 hb⟩
set_option maxRecDepth 100000 in
theorem rindex_o3 (h v c y x z : Int) (k : chk h v c = 0) (h1 : 0 ≤ y ∧ y < h) (h2 : 0 ≤ x ∧ x < v) (h3 : ¬ (0 ≤ z ∧ z < c)) (w : World) :
    Calls Try.prog 17 #[shp h v c, .int .i64 y, .int .i64 x, .int .i64 z] w fun e w' => e = .returned (.tuple #[.int .i64 0, .int .i64 1]) ∧ Below w.heap.size w w' := by
  have HC := rcheck_any h v c
  rw [k] at HC
  obtain ⟨hs, _⟩ := chk_zero k
  have s1 := hs.1; have s2 := hs.2.1; have s3 := hs.2.2
  have e1 := wr_id (x := h - 1) (by omega) (by omega)
  have e2 := wr_id (x := v - 1) (by omega) (by omega)
  have e3 := wr_id (x := c - 1) (by omega) (by omega)
  clear hs
  go_enter Try.func17, Try.ntmps17
  go_wp2_with fail
  refine gen_calls (fun W => Below w.heap.size w W ∧ Sh W w.heap.size 0 h v c) ⟨bl_alloc (Below.refl _ _) _, sh_new _ _ _ _ _⟩ ?_
  rintro W ⟨B0, S0⟩
  refine (HC W).mono ?_
  rintro e w1 ⟨rfl, hb⟩
  obtain ⟨c0, c1, c2⟩ := S0.keep hb
  go_wp2_with (first | (go_at_call 30; refine (in_yes _ _ _ (by omega) (by omega) _).mono ?_; rintro e w' ⟨rfl, rfl⟩) | (go_at_call 30; refine (in_no _ _ _ (by omega) _).mono ?_; rintro e w' ⟨rfl, rfl⟩))
  go_ret2
  exact ⟨rfl, bl_step B0 hb⟩
theorem rindex_any (h v c y x z : Int) (w : World) :
    Calls Try.prog 17 #[shp h v c, .int .i64 y, .int .i64 x, .int .i64 z] w fun e w' => e = .returned (.tuple #[.int .i64 (ixN h v c y x z), .int .i64 (ixE h v c y x z)]) ∧ Below w.heap.size w w' := by
  unfold ixN ixE
  by_cases k : chk h v c = 0
  · rw [if_pos k]
    by_cases hi : Inn h v c y x z
    · rw [if_pos ⟨k, hi⟩, if_pos hi]
      exact rindex_in h v c y x z k hi w
    · rw [if_neg (fun q => hi q.2), if_neg hi]
      by_cases h1 : 0 ≤ y ∧ y < h
      · by_cases h2 : 0 ≤ x ∧ x < v
        · exact rindex_o3 h v c y x z k h1 h2 (fun h3 => hi ⟨h1, h2, h3⟩) w
        · exact rindex_o2 h v c y x z k h1 h2 w
      · exact rindex_o1 h v c y x z k h1 w
  · rw [if_neg (fun q => k q.1), if_neg k]
    exact rindex_bad h v c y x z k w
set_option maxRecDepth 100000 in
theorem rplace_bad (h v c i : Int) (k : chk h v c ≠ 0) (w : World) :
    Calls Try.prog 18 #[shp h v c, .int .i64 i] w fun e w' => e = .returned (quad 0 0 0 (chk h v c)) ∧ Below w.heap.size w w' := by
  have HC := rcheck_any h v c
  generalize chk h v c = q at *
  go_enter Try.func18, Try.ntmps18
  go_wp2_with fail
  refine gen_calls (fun W => Below w.heap.size w W) (bl_alloc (Below.refl _ _) _) ?_
  rintro W B0
  refine (HC W).mono ?_
  rintro e w1 ⟨rfl, hb⟩
  go_wp2_with fail
  simp [bodyPost, results, Try.results18, go_sem]
  exact bl_step B0 hb
theorem div_is {a b q r : Int} (h : a = q * b + r) (h1 : 0 ≤ r) (h2 : r < b) : a / b = q ∧ a % b = r :=
  (Int.ediv_emod_unique (by omega)).2 ⟨by rw [h, Int.mul_comm q b]; omega, h1, h2⟩
theorem place_math {i j I m J v c : Int} (h1 : i = j * (v * c) + I) (h2 : I < v * c) (h3 : I = m * c + J) (h4 : 0 ≤ J) (h5 : J < c) (hm : 0 ≤ m) : i / c / v = j ∧ i / c % v = m ∧ i % c = J := by
  have a1 : i = (j * v + m) * c + J := by rw [h1, h3, Int.add_mul, Int.mul_assoc]; omega
  obtain ⟨q, r⟩ := div_is a1 h4 h5
  have hv : m < v := by
    apply Int.lt_of_mul_lt_mul_right (a := c) _ (by omega)
    omega
  obtain ⟨q2, r2⟩ := div_is (a := j * v + m) (b := v) (q := j) (r := m) rfl hm hv
  rw [q, r]
  exact ⟨q2, r2, rfl⟩
set_option maxRecDepth 100000 in
theorem rplace_out (h v c i : Int) (k : chk h v c = 0) (hp : ¬ Pin h v c i) (w : World) :
    Calls Try.prog 18 #[shp h v c, .int .i64 i] w fun e w' => e = .returned (quad 0 0 0 1) ∧ Below w.heap.size w w' := by
  have HC := rcheck_any h v c
  rw [k] at HC
  obtain ⟨hs, _⟩ := chk_zero k
  have m1 := mul2 hs.1 hs.2.1
  have m2 := mul3 hs
  have e1 := wr_id (x := h * v) (by omega) (by omega)
  have e2 := wr_id (x := h * v * c) (by omega) (by omega)
  have e3 := wr_id (x := h * v * c - 1) (by omega) (by omega)
  unfold Pin at hp
  clear hs
  go_enter Try.func18, Try.ntmps18
  go_wp2_with fail
  refine gen_calls (fun W => Below w.heap.size w W ∧ Sh W w.heap.size 0 h v c) ⟨bl_alloc (Below.refl _ _) _, sh_new _ _ _ _ _⟩ ?_
  rintro W ⟨B0, S0⟩
  refine (HC W).mono ?_
  rintro e w1 ⟨rfl, hb⟩
  obtain ⟨c0, c1, c2⟩ := S0.keep hb
  go_wp2_with (first | (go_at_call 30; refine (in_yes _ _ _ (by omega) (by omega) _).mono ?_; rintro e w' ⟨rfl, rfl⟩) | (go_at_call 30; refine (in_no _ _ _ (by omega) _).mono ?_; rintro e w' ⟨rfl, rfl⟩))
  simp [bodyPost, results, Try.results18, go_sem]
  exact bl_step B0 hb
set_option maxHeartbeats 800000 in
set_option maxRecDepth 100000 in
theorem rplace_in (h v c i Y X Z : Int) (k : chk h v c = 0) (hp : Pin h v c i) (hY : i / c / v = Y) (hX : i / c % v = X) (hZ : i % c = Z) (w : World) :
    Calls Try.prog 18 #[shp h v c, .int .i64 i] w fun e w' => e = .returned (quad Y X Z 0) ∧ Below w.heap.size w w' := by
  have HC := rcheck_any h v c
  rw [k] at HC
  obtain ⟨hs, hn⟩ := chk_zero k
  have m1 := mul2 hs.1 hs.2.1
  have m2 := mul3 hs
  have m3 := mul2 hs.2.1 hs.2.2
  have e1 := wr_id (x := h * v) (by omega) (by omega)
  have e2 := wr_id (x := h * v * c) (by omega) (by omega)
  have e3 := wr_id (x := h * v * c - 1) (by omega) (by omega)
  have e4 := wr_id (x := v * c) (by omega) (by omega)
  have s3 := hs.2.2
  unfold Pin at hp
  clear hs
  have HY := hid1 (And.intro hY (And.intro hX hZ))
  clear hY hX hZ
  go_enter Try.func18, Try.ntmps18
  go_wp2_with fail
  refine gen_calls (fun W => Below w.heap.size w W ∧ Sh W w.heap.size 0 h v c) ⟨bl_alloc (Below.refl _ _) _, sh_new _ _ _ _ _⟩ ?_
  rintro W ⟨B0, S0⟩
  refine (HC W).mono ?_
  rintro e w1 ⟨rfl, hb⟩
  obtain ⟨c0, c1, c2⟩ := S0.keep hb
  go_wp2_with (first | (go_at_call 30; refine (in_yes _ _ _ (by omega) (by omega) _).mono ?_; rintro e w' ⟨rfl, rfl⟩) | (go_at_call 30; refine (in_no _ _ _ (by omega) _).mono ?_; rintro e w' ⟨rfl, rfl⟩))
  generalize hVC : v * c = vc at *
  go_loop [9, 1] (fun y x => ∃ j I : Int, 0 ≤ j ∧ 0 ≤ I ∧ i = j * vc + I ∧ y = .int .i64 j ∧ x = .int .i64 I) (fun _ x => (intOf x).toNat)
  case atStart => exact ⟨0, i, by omega, by omega, by omega, rfl, rfl⟩
  case round =>
    obtain ⟨j, I, hj, hI, hi, rfl, rfl⟩ := hrel
    have pj : j ≤ j * vc := by
      have := Int.mul_le_mul_of_nonneg_left (show (1 : Int) ≤ vc by omega) hj
      omega
    by_cases hlt : I ≥ vc
    · have d1 := wr_id (x := j + 1) (by omega) (by omega)
      have d2 := wr_id (x := I - vc) (by omega) (by omega)
      go_wp2_with fail
      refine ⟨⟨j + 1, I - vc, by omega, by omega, by rw [Int.add_mul]; omega, rfl, rfl⟩, by simp [intOf]; omega⟩
    · go_wp2_with fail
      go_loop [10, 1] (fun y x => ∃ m J : Int, 0 ≤ m ∧ 0 ≤ J ∧ I = m * c + J ∧ y = .int .i64 m ∧ x = .int .i64 J) (fun _ x => (intOf x).toNat)
      case atStart => exact ⟨0, I, by omega, by omega, by omega, rfl, rfl⟩
      case round =>
        obtain ⟨m, J, hm, hJ, hi2, rfl, rfl⟩ := hrel
        have pm : m ≤ m * c := by
          have := Int.mul_le_mul_of_nonneg_left (show (1 : Int) ≤ c by omega) hm
          omega
        by_cases hlt2 : J ≥ c
        · have d1 := wr_id (x := m + 1) (by omega) (by omega)
          have d2 := wr_id (x := J - c) (by omega) (by omega)
          go_wp2_with fail
          refine ⟨⟨m + 1, J - c, by omega, by omega, by rw [Int.add_mul]; omega, rfl, rfl⟩, by simp [intOf]; omega⟩
        · obtain ⟨rfl, rfl, rfl⟩ : Y = j ∧ X = m ∧ Z = J := by
            obtain ⟨y1, y2, y3⟩ := HY.out
            obtain ⟨z1, z2, z3⟩ := place_math (i := i) (j := j) (I := I) (m := m) (J := J) (v := v) (c := c) (by rw [hVC]; exact hi) (by rw [hVC]; omega) hi2 hJ (by omega) hm
            exact ⟨y1.symm.trans z1, y2.symm.trans z2, y3.symm.trans z3⟩
          go_wp2_with fail
          simp [bodyPost, results, Try.results18, go_sem]
          exact bl_step B0 hb
theorem rplace_any (h v c i : Int) (w : World) :
    Calls Try.prog 18 #[shp h v c, .int .i64 i] w fun e w' => e = .returned (quad (pl h v c i (i / c / v)) (pl h v c i (i / c % v)) (pl h v c i (i % c)) (plE h v c i)) ∧ Below w.heap.size w w' := by
  unfold pl plE
  by_cases k : chk h v c = 0
  · rw [if_pos k]
    by_cases hi : Pin h v c i
    · rw [if_pos ⟨k, hi⟩, if_pos ⟨k, hi⟩, if_pos ⟨k, hi⟩, if_pos hi]
      exact rplace_in h v c i _ _ _ k hi rfl rfl rfl w
    · rw [if_neg (fun q => hi q.2), if_neg (fun q => hi q.2), if_neg (fun q => hi q.2), if_neg hi]
      exact rplace_out h v c i k hi w
  · rw [if_neg (fun q => k q.1), if_neg (fun q => k q.1), if_neg (fun q => k q.1), if_neg k]
    exact rplace_bad h v c i k w
end Go.Proofs.Ytdpdfopmmhpfmaa
