/- SHAPES: INDEX, PLACE, ONE SIDE, WINDOW OF THE PROGRAM, WALKED. -/
import Derived.Test.YtohkiknhjcibgaaSW1
namespace Go.Proofs.Ytohkiknhjcibgaa.Sg
open Go.RowKit

def Inn (h v c y x z : Int) : Prop := (0 ≤ y ∧ y < h) ∧ (0 ≤ x ∧ x < v) ∧ (0 ≤ z ∧ z < c)
instance (h v c y x z : Int) : Decidable (Inn h v c y x z) := by unfold Inn; infer_instance
def ixN (h v c y x z : Int) : Int := if chk h v c = 0 ∧ Inn h v c y x z then (y * v + x) * c + z else 0
def ixE (h v c y x z : Int) : Int := if chk h v c = 0 then (if Inn h v c y x z then 0 else 1) else chk h v c
theorem mulB {a b A B : Int} (h1 : 0 ≤ a ∧ a ≤ A) (h2 : 0 ≤ b ∧ b ≤ B) : 0 ≤ a * b ∧ a * b ≤ A * B :=
  ⟨Int.mul_nonneg h1.1 h2.1, Int.mul_le_mul h1.2 h2.2 h2.1 (by omega)⟩
theorem inn_b {h v c y x z : Int} (hs : Sides h v c) (hi : Inn h v c y x z) : (0 ≤ y * v ∧ y * v ≤ 16777216) ∧ (0 ≤ (y * v + x) * c ∧ (y * v + x) * c ≤ 68736253952) := by
  obtain ⟨s1, s2, s3⟩ := hs
  obtain ⟨i1, i2, i3⟩ := hi
  have a1 := mulB (a := y) (b := v) (A := 4096) (B := 4096) ⟨i1.1, by omega⟩ ⟨by omega, s2.2⟩
  have a2 := mulB (a := y * v + x) (b := c) (A := 16781312) (B := 4096) ⟨by omega, by omega⟩ ⟨by omega, s3.2⟩
  exact ⟨⟨a1.1, by omega⟩, a2.1, by omega⟩
def Pin (h v c i : Int) : Prop := 0 ≤ i ∧ i < h * v * c
instance (h v c i : Int) : Decidable (Pin h v c i) := by unfold Pin; infer_instance
def pl (h v c i r : Int) : Int := if chk h v c = 0 ∧ Pin h v c i then r else 0
def plE (h v c i : Int) : Int := if chk h v c = 0 then (if Pin h v c i then 0 else 1) else chk h v c
abbrev quad (a b c d : Int) : Value := .tuple #[.int .i64 a, .int .i64 b, .int .i64 c, .int .i64 d]
end Go.Proofs.Ytohkiknhjcibgaa.Sg
