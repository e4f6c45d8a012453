/- SHAPES: INDEX, PLACE, ONE SIDE, WINDOW OF THE PROGRAM, WALKED. -/
import Derived.Test.YthjebjhepdclkaaSW1
namespace Go.Proofs.Ythjebjhepdclkaa.Sg
open Go.RowKit

def Inn (h v c y x z : Int) : Prop := (0 ≤ y ∧ y < h) ∧ (0 ≤ x ∧ x < v) ∧ (0 ≤ z ∧ z < c)
instance (h v c y x z : Int) : Decidable (Inn h v c y x z) := by unfold Inn; infer_instance
def ixN (h v c y x z : Int) : Int := if chk h v c = 0 ∧ Inn h v c y x z then (y * v + x) * c + z else 0
def ixE (h v c y x z : Int) : Int := if chk h v c = 0 then (if Inn h v c y x z then 0 else 1) else chk h v c
theorem mulB {a b A B : Int} (h1 : 0 ≤ a ∧ a ≤ A) (h2 : 0 ≤ b ∧ b ≤ B) : 0 ≤ a * b ∧ a * b ≤ A * B :=
  ⟨Int.mul_nonneg h1.1 h2.1, Int.mul_le_mul h1.2 h2.2 h2.1 (by omega)⟩
theorem inn_b {h v c y x z : Int} (hs : Sides h v c) (hi : Inn h v c y x z) : (0 ≤ y * v ∧ y * v ≤ 16777216) ∧ (0 ≤ (y * v + x) * c ∧ (y * v + x) * c ≤ 68736253952) := by
  obtain ⟨s1, s2, s3⟩ := hs
  obtain ⟨i1, i2, i3⟩ := hi
  have a1 := mulB (a := y) (b := v) (A := 4096) (B := 4096) ⟨i1.1, by omega⟩ ⟨by omega, s2.2⟩
  have a2 := mulB (a := y * v + x) (b := c) (A := 16781312) (B := 4096) ⟨by omega, by omega⟩ ⟨by omega, s3.2⟩
  exact ⟨⟨a1.1, by omega⟩, a2.1, by omega⟩
set_option maxRecDepth 100000 in
theorem index_bad (h v c y x z : Int) (k : chk h v c ≠ 0) (w : World) :
    Calls Try.prog 24 #[shp h v c, .int .i64 y, .int .i64 x, .int .i64 z] w fun e w' => e = .returned (.tuple #[.int .i64 0, .int .i64 (chk h v c)]) ∧ Below w.heap.size w w' := by
  have HC := check_any h v c
  generalize chk h v c = q at *
  go_enter Try.func24, Try.ntmps24
  go_wp2_with fail
  refine gen_calls (fun W => Below w.heap.size w W) (bl_alloc (Below.refl _ _) _) ?_
  rintro W B0
  refine (HC W).mono ?_
  rintro e w1 ⟨rfl, hb⟩
  go_wp2_with fail
  go_ret2
  exact ⟨rfl, bl_step B0 hb⟩
set_option maxRecDepth 100000 in
theorem index_in (h v c y x z : Int) (k : chk h v c = 0) (hi : Inn h v c y x z) (w : World) :
    Calls Try.prog 24 #[shp h v c, .int .i64 y, .int .i64 x, .int .i64 z] w fun e w' => e = .returned (.tuple #[.int .i64 ((y * v + x) * c + z), .int .i64 0]) ∧ Below w.heap.size w w' := by
  have HC := check_any h v c
  rw [k] at HC
  obtain ⟨hs, _⟩ := chk_zero k
  obtain ⟨b1, b2⟩ := inn_b hs hi
  have s1 := hs.1; have s2 := hs.2.1; have s3 := hs.2.2
  obtain ⟨⟨i1, i2⟩, ⟨i3, i4⟩, i5, i6⟩ := hi
  have e1 := wr_id (x := y * v) (by omega) (by omega)
  have e2 := wr_id (x := y * v + x) (by omega) (by omega)
  have e3 := wr_id (x := (y * v + x) * c) (by omega) (by omega)
  have e4 := wr_id (x := (y * v + x) * c + z) (by omega) (by omega)
  have n1 := mn3_is y x z
  obtain ⟨lo, n0⟩ : ∃ lo, mn3 y x z = lo := ⟨_, rfl⟩
  rw [n0] at n1
  unfold mn3 at n0
  have t1 : ¬ lo < 0 := by omega
  have t2 : ¬ y ≥ h := by omega
  have t3 : ¬ x ≥ v := by omega
  have t4 : ¬ z ≥ c := by omega
  go_enter Try.func24, Try.ntmps24
  go_wp2_with fail
  refine gen_calls (fun W => Below w.heap.size w W ∧ Sh W w.heap.size 0 h v c) ⟨bl_alloc (Below.refl _ _) _, sh_new _ _ _ _ _⟩ ?_
  rintro W ⟨B0, S0⟩
  refine (HC W).mono ?_
  rintro e w1 ⟨rfl, hb⟩
  obtain ⟨c0, c1, c2⟩ := S0.keep hb
  go_wp2_with fail
  go_ret2
  exact ⟨rfl, bl_step B0 hb⟩
set_option maxRecDepth 100000 in
theorem index_out1 (h v c y x z : Int) (k : chk h v c = 0) (t1 : mn3 y x z < 0) (w : World) :
    Calls Try.prog 24 #[shp h v c, .int .i64 y, .int .i64 x, .int .i64 z] w fun e w' => e = .returned (.tuple #[.int .i64 0, .int .i64 1]) ∧ Below w.heap.size w w' := by
  have HC := check_any h v c
  rw [k] at HC
  obtain ⟨lo, n0⟩ : ∃ lo, mn3 y x z = lo := ⟨_, rfl⟩
  rw [n0] at t1
  unfold mn3 at n0
  go_enter Try.func24, Try.ntmps24
  go_wp2_with fail
  refine gen_calls (fun W => Below w.heap.size w W ∧ Sh W w.heap.size 0 h v c) ⟨bl_alloc (Below.refl _ _) _, sh_new _ _ _ _ _⟩ ?_
  rintro W ⟨B0, S0⟩
  refine (HC W).mono ?_
  rintro e w1 ⟨rfl, hb⟩
  obtain ⟨c0, c1, c2⟩ := S0.keep hb
  go_wp2_with fail
  go_ret2
  exact ⟨rfl, bl_step B0 hb⟩
set_option maxRecDepth 100000 in
theorem index_out2 (h v c y x z : Int) (k : chk h v c = 0) (t1 : ¬ mn3 y x z < 0) (t2 : y ≥ h) (w : World) :
    Calls Try.prog 24 #[shp h v c, .int .i64 y, .int .i64 x, .int .i64 z] w fun e w' => e = .returned (.tuple #[.int .i64 0, .int .i64 1]) ∧ Below w.heap.size w w' := by
  have HC := check_any h v c
  rw [k] at HC
  obtain ⟨lo, n0⟩ : ∃ lo, mn3 y x z = lo := ⟨_, rfl⟩
  rw [n0] at t1
  unfold mn3 at n0
  go_enter Try.func24, Try.ntmps24
  go_wp2_with fail
  refine gen_calls (fun W => Below w.heap.size w W ∧ Sh W w.heap.size 0 h v c) ⟨bl_alloc (Below.refl _ _) _, sh_new _ _ _ _ _⟩ ?_
  rintro W ⟨B0, S0⟩
  refine (HC W).mono ?_
  rintro e w1 ⟨rfl, hb⟩
  obtain ⟨c0, c1, c2⟩ := S0.keep hb
  go_wp2_with fail
  go_ret2
  exact ⟨rfl, bl_step B0 hb⟩
set_option maxRecDepth 100000 in
theorem index_out3 (h v c y x z : Int) (k : chk h v c = 0) (t1 : ¬ mn3 y x z < 0) (t2 : ¬ y ≥ h) (t3 : x ≥ v) (w : World) :
    Calls Try.prog 24 #[shp h v c, .int .i64 y, .int .i64 x, .int .i64 z] w fun e w' => e = .returned (.tuple #[.int .i64 0, .int .i64 1]) ∧ Below w.heap.size w w' := by
  have HC := check_any h v c
  rw [k] at HC
  obtain ⟨lo, n0⟩ : ∃ lo, mn3 y x z = lo := ⟨_, rfl⟩
  rw [n0] at t1
  unfold mn3 at n0
  go_enter Try.func24, Try.ntmps24
  go_wp2_with fail
  refine gen_calls (fun W => Below w.heap.size w W ∧ Sh W w.heap.size 0 h v c) ⟨bl_alloc (Below.refl _ _) _, sh_new _ _ _ _ _⟩ ?_
  rintro W ⟨B0, S0⟩
  refine (HC W).mono ?_
  rintro e w1 ⟨rfl, hb⟩
  obtain ⟨c0, c1, c2⟩ := S0.keep hb
  go_wp2_with fail
  go_ret2
  exact ⟨rfl, bl_step B0 hb⟩
set_option maxRecDepth 100000 in
theorem index_out4 (h v c y x z : Int) (k : chk h v c = 0) (t1 : ¬ mn3 y x z < 0) (t2 : ¬ y ≥ h) (t3 : ¬ x ≥ v) (t4 : z ≥ c) (w : World) :
    Calls Try.prog 24 #[shp h v c, .int .i64 y, .int .i64 x, .int .i64 z] w fun e w' => e = .returned (.tuple #[.int .i64 0, .int .i64 1]) ∧ Below w.heap.size w w' := by
  have HC := check_any h v c
  rw [k] at HC
  obtain ⟨lo, n0⟩ : ∃ lo, mn3 y x z = lo := ⟨_, rfl⟩
  rw [n0] at t1
  unfold mn3 at n0
  go_enter Try.func24, Try.ntmps24
  go_wp2_with fail
  refine gen_calls (fun W => Below w.heap.size w W ∧ Sh W w.heap.size 0 h v c) ⟨bl_alloc (Below.refl _ _) _, sh_new _ _ _ _ _⟩ ?_
  rintro W ⟨B0, S0⟩
  refine (HC W).mono ?_
  rintro e w1 ⟨rfl, hb⟩
  obtain ⟨c0, c1, c2⟩ := S0.keep hb
  go_wp2_with fail
  go_ret2
  exact ⟨rfl, bl_step B0 hb⟩
theorem index_any (h v c y x z : Int) (w : World) :
    Calls Try.prog 24 #[shp h v c, .int .i64 y, .int .i64 x, .int .i64 z] w fun e w' => e = .returned (.tuple #[.int .i64 (ixN h v c y x z), .int .i64 (ixE h v c y x z)]) ∧ Below w.heap.size w w' := by
  unfold ixN ixE
  by_cases k : chk h v c = 0
  · rw [if_pos k]
    by_cases hi : Inn h v c y x z
    · rw [if_pos ⟨k, hi⟩, if_pos hi]
      exact index_in h v c y x z k hi w
    · rw [if_neg (fun q => hi q.2), if_neg hi]
      have n1 := mn3_is y x z
      unfold Inn at hi
      by_cases t1 : mn3 y x z < 0
      · exact index_out1 h v c y x z k t1 w
      · by_cases t2 : y ≥ h
        · exact index_out2 h v c y x z k t1 t2 w
        · by_cases t3 : x ≥ v
          · exact index_out3 h v c y x z k t1 t2 t3 w
          · exact index_out4 h v c y x z k t1 t2 t3 (by omega) w
  · rw [if_neg (fun q => k q.1), if_neg k]
    exact index_bad h v c y x z k w
def Pin (h v c i : Int) : Prop := 0 ≤ i ∧ i < h * v * c
instance (h v c i : Int) : Decidable (Pin h v c i) := by unfold Pin; infer_instance
def pl (h v c i r : Int) : Int := if chk h v c = 0 ∧ Pin h v c i then r else 0
def plE (h v c i : Int) : Int := if chk h v c = 0 then (if Pin h v c i then 0 else 1) else chk h v c
abbrev quad (a b c d : Int) : Value := .tuple #[.int .i64 a, .int .i64 b, .int .i64 c, .int .i64 d]
end Go.Proofs.Ythjebjhepdclkaa.Sg
