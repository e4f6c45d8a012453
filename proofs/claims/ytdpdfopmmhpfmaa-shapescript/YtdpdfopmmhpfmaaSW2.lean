/- SHAPES: INDEX, PLACE, ONE SIDE, WINDOW OF THE PROGRAM, WALKED. -/
import Derived.Test.YtdpdfopmmhpfmaaSW1
namespace Go.Proofs.Ytdpdfopmmhpfmaa
open Go.RowKit

def Inn (h v c y x z : Int) : Prop := (0 ≤ y ∧ y < h) ∧ (0 ≤ x ∧ x < v) ∧ (0 ≤ z ∧ z < c)
instance (h v c y x z : Int) : Decidable (Inn h v c y x z) := by unfold Inn; infer_instance
def ixN (h v c y x z : Int) : Int := if chk h v c = 0 ∧ Inn h v c y x z then (y * v + x) * c + z else 0
def ixE (h v c y x z : Int) : Int := if chk h v c = 0 then (if Inn h v c y x z then 0 else 1) else chk h v c
theorem mulB {a b A B : Int} (h1 : 0 ≤ a ∧ a ≤ A) (h2 : 0 ≤ b ∧ b ≤ B) : 0 ≤ a * b ∧ a * b ≤ A * B :=
  ⟨Int.mul_nonneg h1.1 h2.1, Int.mul_le_mul h1.2 h2.2 h2.1 (by omega)⟩
theorem inn_b {h v c y x z : Int} (hs : Sides h v c) (hi : Inn h v c y x z) : (0 ≤ y * v ∧ y * v ≤ 16777216) ∧ (0 ≤ (y * v + x) * c ∧ (y * v + x) * c ≤ 68736253952) := by
  obtain ⟨s1, s2, s3⟩ := hs
  obtain ⟨i1, i2, i3⟩ := hi
  have a1 := mulB (a := y) (b := v) (A := 4096) (B := 4096) ⟨i1.1, by omega⟩ ⟨by omega, s2.2⟩
  have a2 := mulB (a := y * v + x) (b := c) (A := 16781312) (B := 4096) ⟨by omega, by omega⟩ ⟨by omega, s3.2⟩
  exact ⟨⟨a1.1, by omega⟩, a2.1, by omega⟩
set_option maxRecDepth 100000 in
theorem index_bad (h v c y x z : Int) (k : chk h v c ≠ 0) (w : World) :
    Calls Try.prog 12 #[shp h v c, .int .i64 y, .int .i64 x, .int .i64 z] w fun e w' => e = .returned (.tuple #[.int .i64 0, .int .i64 (chk h v c)]) ∧ Below w.heap.size w w' := by
  have HC := check_any h v c
  generalize chk h v c = q at *
  go_enter Try.func12, Try.ntmps12
  go_wp2_with fail
  refine gen_calls (fun W => Below w.heap.size w W) (bl_alloc (Below.refl _ _) _) ?_
  rintro W B0
  refine (HC W).mono ?_
  rintro e w1 ⟨rfl, hb⟩
  go_wp2_with fail
  go_ret2
  exact ⟨rfl, bl_step B0 hb⟩
set_option maxRecDepth 100000 in
theorem index_in (h v c y x z : Int) (k : chk h v c = 0) (hi : Inn h v c y x z) (w : World) :
    Calls Try.prog 12 #[shp h v c, .int .i64 y, .int .i64 x, .int .i64 z] w fun e w' => e = .returned (.tuple #[.int .i64 ((y * v + x) * c + z), .int .i64 0]) ∧ Below w.heap.size w w' := by
  have HC := check_any h v c
  rw [k] at HC
  obtain ⟨hs, _⟩ := chk_zero k
  obtain ⟨b1, b2⟩ := inn_b hs hi
  have s1 := hs.1; have s2 := hs.2.1; have s3 := hs.2.2
  obtain ⟨⟨i1, i2⟩, ⟨i3, i4⟩, i5, i6⟩ := hi
  have e1 := wr_id (x := y * v) (by omega) (by omega)
  have e2 := wr_id (x := y * v + x) (by omega) (by omega)
  have e3 := wr_id (x := (y * v + x) * c) (by omega) (by omega)
  have e4 := wr_id (x := (y * v + x) * c + z) (by omega) (by omega)
  have n1 := mn3_is y x z
  obtain ⟨lo, n0⟩ : ∃ lo, mn3 y x z = lo := ⟨_, rfl⟩
  rw [n0] at n1
  unfold mn3 at n0
  have t1 : ¬ lo < 0 := by omega
  have t2 : ¬ y ≥ h := by omega
  have t3 : ¬ x ≥ v := by omega
  have t4 : ¬ z ≥ c := by omega
  go_enter Try.func12, Try.ntmps12
  go_wp2_with fail
  refine gen_calls (fun W => Below w.heap.size w W ∧ Sh W w.heap.size 0 h v c) ⟨bl_alloc (Below.refl _ _) _, sh_new _ _ _ _ _⟩ ?_
  rintro W ⟨B0, S0⟩
  refine (HC W).mono ?_
  rintro e w1 ⟨rfl, hb⟩
  obtain ⟨c0, c1, c2⟩ := S0.keep hb
  go_wp2_with fail
  go_ret2
  exact ⟨rfl, bl_step B0 hb⟩
set_option maxRecDepth 100000 in
theorem index_out1 (h v c y x z : Int) (k : chk h v c = 0) (t1 : mn3 y x z < 0) (w : World) :
    Calls Try.prog 12 #[shp h v c, .int .i64 y, .int .i64 x, .int .i64 z] w fun e w' => e = .returned (.tuple #[.int .i64 0, .int .i64 1]) ∧ Below w.heap.size w w' := by
  have HC := check_any h v c
  rw [k] at HC
  obtain ⟨lo, n0⟩ : ∃ lo, mn3 y x z = lo := ⟨_, rfl⟩
  rw [n0] at t1
  unfold mn3 at n0
  go_enter Try.func12, Try.ntmps12
  go_wp2_with fail
  refine gen_calls (fun W => Below w.heap.size w W ∧ Sh W w.heap.size 0 h v c) ⟨bl_alloc (Below.refl _ _) _, sh_new _ _ _ _ _⟩ ?_
  rintro W ⟨B0, S0⟩
  refine (HC W).mono ?_
  rintro e w1 ⟨rfl, hb⟩
  obtain ⟨c0, c1, c2⟩ := S0.keep hb
  go_wp2_with fail
  go_ret2
  exact ⟨rfl, bl_step B0 hb⟩
set_option maxRecDepth 100000 in
theorem index_out2 (h v c y x z : Int) (k : chk h v c = 0) (t1 : ¬ mn3 y x z < 0) (t2 : y ≥ h) (w : World) :
    Calls Try.prog 12 #[shp h v c, .int .i64 y, .int .i64 x, .int .i64 z] w fun e w' => e = .returned (.tuple #[.int .i64 0, .int .i64 1]) ∧ Below w.heap.size w w' := by
  have HC := check_any h v c
  rw [k] at HC
  obtain ⟨lo, n0⟩ : ∃ lo, mn3 y x z = lo := ⟨_, rfl⟩
  rw [n0] at t1
  unfold mn3 at n0
  go_enter Try.func12, Try.ntmps12
  go_wp2_with fail
  refine gen_calls (fun W => Below w.heap.size w W ∧ Sh W w.heap.size 0 h v c) ⟨bl_alloc (Below.refl _ _) _, sh_new _ _ _ _ _⟩ ?_
  rintro W ⟨B0, S0⟩
  refine (HC W).mono ?_
  rintro e w1 ⟨rfl, hb⟩
  obtain ⟨c0, c1, c2⟩ := S0.keep hb
  go_wp2_with fail
  go_ret2
  exact ⟨rfl, bl_step B0 hb⟩
set_option maxRecDepth 100000 in
theorem index_out3 (h v c y x z : Int) (k : chk h v c = 0) (t1 : ¬ mn3 y x z < 0) (t2 : ¬ y ≥ h) (t3 : x ≥ v) (w : World) :
    Calls Try.prog 12 #[shp h v c, .int .i64 y, .int .i64 x, .int .i64 z] w fun e w' => e = .returned (.tuple #[.int .i64 0, .int .i64 1]) ∧ Below w.heap.size w w' := by
  have HC := check_any h v c
  rw [k] at HC
  obtain ⟨lo, n0⟩ : ∃ lo, mn3 y x z = lo := ⟨_, rfl⟩
  rw [n0] at t1
  unfold mn3 at n0
  go_enter Try.func12, Try.ntmps12
  go_wp2_with fail
  refine gen_calls (fun W => Below w.heap.size w W ∧ Sh W w.heap.size 0 h v c) ⟨bl_alloc (Below.refl _ _) _, sh_new _ _ _ _ _⟩ ?_
  rintro W ⟨B0, S0⟩
  refine (HC W).mono ?_
  rintro e w1 ⟨rfl, hb⟩
  obtain ⟨c0, c1, c2⟩ := S0.keep hb
  go_wp2_with fail
  go_ret2
  exact ⟨rfl, bl_step B0 hb⟩
set_option maxRecDepth 100000 in
theorem index_out4 (h v c y x z : Int) (k : chk h v c = 0) (t1 : ¬ mn3 y x z < 0) (t2 : ¬ y ≥ h) (t3 : ¬ x ≥ v) (t4 : z ≥ c) (w : World) :
    Calls Try.prog 12 #[shp h v c, .int .i64 y, .int .i64 x, .int .i64 z] w fun e w' => e = .returned (.tuple #[.int .i64 0, .int .i64 1]) ∧ Below w.heap.size w w' := by
  have HC := check_any h v c
  rw [k] at HC
  obtain ⟨lo, n0⟩ : ∃ lo, mn3 y x z = lo := ⟨_, rfl⟩
  rw [n0] at t1
  unfold mn3 at n0
  go_enter Try.func12, Try.ntmps12
  go_wp2_with fail
  refine gen_calls (fun W => Below w.heap.size w W ∧ Sh W w.heap.size 0 h v c) ⟨bl_alloc (Below.refl _ _) _, sh_new _ _ _ _ _⟩ ?_
  rintro W ⟨B0, S0⟩
  refine (HC W).mono ?_
  rintro e w1 ⟨rfl, hb⟩
  obtain ⟨c0, c1, c2⟩ := S0.keep hb
  go_wp2_with fail
  go_ret2
  exact ⟨rfl, bl_step B0 hb⟩
theorem index_any (h v c y x z : Int) (w : World) :
    Calls Try.prog 12 #[shp h v c, .int .i64 y, .int .i64 x, .int .i64 z] w fun e w' => e = .returned (.tuple #[.int .i64 (ixN h v c y x z), .int .i64 (ixE h v c y x z)]) ∧ Below w.heap.size w w' := by
  unfold ixN ixE
  by_cases k : chk h v c = 0
  · rw [if_pos k]
    by_cases hi : Inn h v c y x z
    · rw [if_pos ⟨k, hi⟩, if_pos hi]
      exact index_in h v c y x z k hi w
    · rw [if_neg (fun q => hi q.2), if_neg hi]
      have n1 := mn3_is y x z
      unfold Inn at hi
      by_cases t1 : mn3 y x z < 0
      · exact index_out1 h v c y x z k t1 w
      · by_cases t2 : y ≥ h
        · exact index_out2 h v c y x z k t1 t2 w
        · by_cases t3 : x ≥ v
          · exact index_out3 h v c y x z k t1 t2 t3 w
          · exact index_out4 h v c y x z k t1 t2 t3 (by omega) w
  · rw [if_neg (fun q => k q.1), if_neg k]
    exact index_bad h v c y x z k w
def Pin (h v c i : Int) : Prop := 0 ≤ i ∧ i < h * v * c
instance (h v c i : Int) : Decidable (Pin h v c i) := by unfold Pin; infer_instance
def pl (h v c i r : Int) : Int := if chk h v c = 0 ∧ Pin h v c i then r else 0
def plE (h v c i : Int) : Int := if chk h v c = 0 then (if Pin h v c i then 0 else 1) else chk h v c
abbrev quad (a b c d : Int) : Value := .tuple #[.int .i64 a, .int .i64 b, .int .i64 c, .int .i64 d]
set_option maxRecDepth 100000 in
theorem place_bad (h v c i : Int) (k : chk h v c ≠ 0) (w : World) :
    Calls Try.prog 11 #[shp h v c, .int .i64 i] w fun e w' => e = .returned (quad 0 0 0 (chk h v c)) ∧ Below w.heap.size w w' := by
  have HC := elems_any h v c
  unfold elN at HC
  rw [if_neg k] at HC
  generalize chk h v c = q at *
  go_enter Try.func11, Try.ntmps11
  go_wp2_with fail
  refine gen_calls (fun W => Below w.heap.size w W) (bl_alloc (Below.refl _ _) _) ?_
  rintro W B0
  refine (HC W).mono ?_
  rintro e w1 ⟨rfl, hb⟩
  go_wp2_with fail
  simp [bodyPost, results, Try.results11, go_sem]
  exact bl_step B0 hb
set_option maxRecDepth 100000 in
theorem place_out1 (h v c i : Int) (k : chk h v c = 0) (t1 : i < 0) (w : World) :
    Calls Try.prog 11 #[shp h v c, .int .i64 i] w fun e w' => e = .returned (quad 0 0 0 1) ∧ Below w.heap.size w w' := by
  have HC := elems_any h v c
  unfold elN at HC
  rw [k, if_pos rfl] at HC
  go_enter Try.func11, Try.ntmps11
  go_wp2_with fail
  refine gen_calls (fun W => Below w.heap.size w W) (bl_alloc (Below.refl _ _) _) ?_
  rintro W B0
  refine (HC W).mono ?_
  rintro e w1 ⟨rfl, hb⟩
  go_wp2_with fail
  simp [bodyPost, results, Try.results11, go_sem]
  exact bl_step B0 hb
set_option maxRecDepth 100000 in
theorem place_out2 (h v c i : Int) (k : chk h v c = 0) (t1 : ¬ i < 0) (t2 : i ≥ h * v * c) (w : World) :
    Calls Try.prog 11 #[shp h v c, .int .i64 i] w fun e w' => e = .returned (quad 0 0 0 1) ∧ Below w.heap.size w w' := by
  have HC := elems_any h v c
  unfold elN at HC
  rw [k, if_pos rfl] at HC
  generalize h * v * c = n at *
  go_enter Try.func11, Try.ntmps11
  go_wp2_with fail
  refine gen_calls (fun W => Below w.heap.size w W) (bl_alloc (Below.refl _ _) _) ?_
  rintro W B0
  refine (HC W).mono ?_
  rintro e w1 ⟨rfl, hb⟩
  go_wp2_with fail
  simp [bodyPost, results, Try.results11, go_sem]
  exact bl_step B0 hb
set_option maxRecDepth 100000 in
theorem place_in (h v c i : Int) (k : chk h v c = 0) (t1 : ¬ i < 0) (t2 : ¬ i ≥ h * v * c) (w : World) :
    Calls Try.prog 11 #[shp h v c, .int .i64 i] w fun e w' => e = .returned (quad (i / c / v) (i / c % v) (i % c) 0) ∧ Below w.heap.size w w' := by
  have HC := elems_any h v c
  unfold elN at HC
  rw [k, if_pos rfl] at HC
  obtain ⟨hs, hn⟩ := chk_zero k
  have s2 := hs.2.1; have s3 := hs.2.2
  obtain ⟨n, hN⟩ : ∃ n, h * v * c = n := ⟨_, rfl⟩
  rw [hN] at HC t2 hn
  have c0' : ¬ c = 0 := by omega
  have v0' : ¬ v = 0 := by omega
  have q1 : Int.tdiv i c = i / c := Int.tdiv_eq_ediv_of_nonneg (by omega)
  have q1' : Int.tmod i c = i % c := Int.tmod_eq_emod_of_nonneg (by omega)
  have p1 : 0 ≤ i / c := Int.ediv_nonneg (by omega) (by omega)
  have p2 : i / c ≤ i := Int.ediv_le_self _ (by omega)
  have p3 : 0 ≤ i % c := Int.emod_nonneg _ c0'
  have p4 : i % c < c := Int.emod_lt_of_pos _ (by omega)
  generalize hP : i / c = p at *
  generalize hR : i % c = r at *
  have q2 : Int.tdiv p v = p / v := Int.tdiv_eq_ediv_of_nonneg p1
  have q2' : Int.tmod p v = p % v := Int.tmod_eq_emod_of_nonneg p1
  have p5 : 0 ≤ p / v := Int.ediv_nonneg p1 (by omega)
  have p6 : p / v ≤ p := Int.ediv_le_self _ p1
  have p7 : 0 ≤ p % v := Int.emod_nonneg _ v0'
  have p8 : p % v < v := Int.emod_lt_of_pos _ (by omega)
  generalize hY : p / v = yy at *
  generalize hX : p % v = xx at *
  have e1 := wr_id (x := p) (by omega) (by omega)
  have e2 := wr_id (x := r) (by omega) (by omega)
  have e3 := wr_id (x := yy) (by omega) (by omega)
  have e4 := wr_id (x := xx) (by omega) (by omega)
  clear hN hP hR hY hX
  go_enter Try.func11, Try.ntmps11
  go_wp2_with fail
  refine gen_calls (fun W => Below w.heap.size w W ∧ Sh W w.heap.size 0 h v c) ⟨bl_alloc (Below.refl _ _) _, sh_new _ _ _ _ _⟩ ?_
  rintro W ⟨B0, S0⟩
  refine (HC W).mono ?_
  rintro e w1 ⟨rfl, hb⟩
  obtain ⟨c0, c1, c2⟩ := S0.keep hb
  go_wp2_with fail
  go_quiet (fail)
  go_wp2_with fail
  simp [bodyPost, results, Try.results11, go_sem]
  exact bl_drewN (bl_step B0 hb) _
theorem place_any (h v c i : Int) (w : World) :
    Calls Try.prog 11 #[shp h v c, .int .i64 i] w fun e w' => e = .returned (quad (pl h v c i (i / c / v)) (pl h v c i (i / c % v)) (pl h v c i (i % c)) (plE h v c i)) ∧ Below w.heap.size w w' := by
  unfold pl plE
  by_cases k : chk h v c = 0
  · rw [if_pos k]
    by_cases hi : Pin h v c i
    · have hi' := hi
      unfold Pin at hi'
      rw [if_pos ⟨k, hi⟩, if_pos ⟨k, hi⟩, if_pos ⟨k, hi⟩, if_pos hi]
      exact place_in h v c i k (by omega) (by omega) w
    · rw [if_neg (fun q => hi q.2), if_neg (fun q => hi q.2), if_neg (fun q => hi q.2), if_neg hi]
      unfold Pin at hi
      by_cases t1 : i < 0
      · exact place_out1 h v c i k t1 w
      · exact place_out2 h v c i k t1 (by omega) w
  · rw [if_neg (fun q => k q.1), if_neg (fun q => k q.1), if_neg (fun q => k q.1), if_neg k]
    exact place_bad h v c i k w
end Go.Proofs.Ytdpdfopmmhpfmaa
