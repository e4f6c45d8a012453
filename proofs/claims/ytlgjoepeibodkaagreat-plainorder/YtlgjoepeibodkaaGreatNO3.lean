/- bound: a layer with weights. -/
import Derived.Test.YtlgjoepeibodkaaGreatNO2
namespace Go.Proofs.YtlgjoepeibodkaaGreat.Nn
open Go.RowKit

theorem mulW {p : Nat} {x : Int} (hp : p ≤ 16777216) (hx : -128 ≤ x ∧ x ≤ 127) : -2147483648 ≤ (p : Int) * x ∧ (p : Int) * x ≤ 2147483648 := by
  have h1 : (p : Int) * x ≤ 16777216 * 128 := by
    by_cases h0 : 0 ≤ x
    · exact Int.le_trans (Int.mul_le_mul_of_nonneg_right (show (p : Int) ≤ 16777216 by omega) h0) (Int.mul_le_mul_of_nonneg_left (by omega) (by decide))
    · exact Int.le_trans (Int.mul_nonpos_of_nonneg_of_nonpos (by omega) (by omega)) (by decide)
  have h2 : (p : Int) * (-x) ≤ 16777216 * 128 := by
    by_cases h0 : 0 ≤ -x
    · exact Int.le_trans (Int.mul_le_mul_of_nonneg_right (show (p : Int) ≤ 16777216 by omega) h0) (Int.mul_le_mul_of_nonneg_left (by omega) (by decide))
    · exact Int.le_trans (Int.mul_nonpos_of_nonneg_of_nonpos (by omega) (by omega)) (by decide)
  rw [Int.mul_neg] at h2
  omega
/-- The reach of the output k without its bias. -/
def wLo (ws : Nat → Int) (F : Nat) (lo hi : Int) (k : Nat) : Int := (cnW (fun j => ws (k * F + j)) 1 F : Nat) * lo - (cnW (fun j => ws (k * F + j)) (-1) F : Nat) * hi
def wHi (ws : Nat → Int) (F : Nat) (lo hi : Int) (k : Nat) : Int := (cnW (fun j => ws (k * F + j)) 1 F : Nat) * hi - (cnW (fun j => ws (k * F + j)) (-1) F : Nat) * lo
theorem w_bd (ws : Nat → Int) {F : Nat} {lo hi : Int} (k : Nat) (hF : F ≤ 16777216) (hl : -128 ≤ lo ∧ lo ≤ 127) (hh : -128 ≤ hi ∧ hi ≤ 127) : (-4294967296 ≤ wLo ws F lo hi k ∧ wLo ws F lo hi k ≤ 4294967296) ∧ (-4294967296 ≤ wHi ws F lo hi k ∧ wHi ws F lo hi k ≤ 4294967296) := by
  have a1 := cnW_le (fun j => ws (k * F + j)) 1 F
  have a2 := cnW_le (fun j => ws (k * F + j)) (-1) F
  have b1 := mulW (p := cnW (fun j => ws (k * F + j)) 1 F) (by omega) hl
  have b2 := mulW (p := cnW (fun j => ws (k * F + j)) (-1) F) (by omega) hh
  have b3 := mulW (p := cnW (fun j => ws (k * F + j)) 1 F) (by omega) hh
  have b4 := mulW (p := cnW (fun j => ws (k * F + j)) (-1) F) (by omega) hl
  unfold wLo wHi
  omega
def bsO (L : Ly) (k : Nat) : Int := if k < L.mb then L.bs k else 0
/-- ofWeights, then times: the two calls of a round as one. -/
theorem kmeet_of {J K : Act → World → Prop} {Q : Exit → Act → World → Prop} {a : Act} {w : World} (hK : ∀ a' w', Met J a' w' → K a' w') (h : Met J a w) : Exit.then K Q Exit.normal a w := hK _ _ h
theorem kpW {V Y : World} {b g o m cw : Nat} {lo hi : Int} (h2 : V.cell? ⟨b, 12, none⟩ = some (.slice (some ⟨g, o, none⟩) m cw)) (h3 : V.cell? ⟨b + 1, 0, none⟩ = some (.int .i64 lo) ∧ V.cell? ⟨b + 1, 1, none⟩ = some (.int .i64 hi)) (hb : Below V.heap.size V Y) :
    Y.cell? ⟨b, 12, none⟩ = some (.slice (some ⟨g, o, none⟩) m cw) ∧ Y.cell? ⟨b + 1, 0, none⟩ = some (.int .i64 lo) ∧ Y.cell? ⟨b + 1, 1, none⟩ = some (.int .i64 hi) :=
  ⟨keepc hb h2, keepc hb h3.1, keepc hb h3.2⟩
theorem cell_two {Y : World} {b c i j k : Nat} {u v x : Value} (h : Y.cell? ⟨b, i, none⟩ = some x) (hn : b ≠ c) : ((Y.setCell ⟨c, j, none⟩ u).setCell ⟨c, k, none⟩ v).cell? ⟨b, i, none⟩ = some x := by
  have e : ((Y.setCell ⟨c, j, none⟩ u).setCell ⟨c, k, none⟩ v).heap[b]? = Y.heap[b]? := by rw [Below.heap_setCell _ _ _ _ (by show b ≠ c; exact hn), Below.heap_setCell _ _ _ _ (by show b ≠ c; exact hn)]
  exact (World.cell?_of_block (w := Y) e).trans h
theorem heap_two {Y : World} {b c j k : Nat} {u v : Value} (hn : b ≠ c) : ((Y.setCell ⟨c, j, none⟩ u).setCell ⟨c, k, none⟩ v).heap[b]? = Y.heap[b]? := by rw [Below.heap_setCell _ _ _ _ (by show b ≠ c; exact hn), Below.heap_setCell _ _ _ _ (by show b ≠ c; exact hn)]
theorem kpW2 {V Y : World} {b g o m cw : Nat} {lo hi : Int} (h2 : V.cell? ⟨b, 12, none⟩ = some (.slice (some ⟨g, o, none⟩) m cw)) (h3 : V.cell? ⟨b + 1, 0, none⟩ = some (.int .i64 lo) ∧ V.cell? ⟨b + 1, 1, none⟩ = some (.int .i64 hi)) (hb : Below V.heap.size V Y) (i j : Nat) (u v : Value) :
    ((Y.setCell ⟨b + 2, i, none⟩ u).setCell ⟨b + 2, j, none⟩ v).cell? ⟨b, 12, none⟩ = some (.slice (some ⟨g, o, none⟩) m cw) ∧ ((Y.setCell ⟨b + 2, i, none⟩ u).setCell ⟨b + 2, j, none⟩ v).cell? ⟨b + 1, 0, none⟩ = some (.int .i64 lo) ∧ ((Y.setCell ⟨b + 2, i, none⟩ u).setCell ⟨b + 2, j, none⟩ v).cell? ⟨b + 1, 1, none⟩ = some (.int .i64 hi) :=
  ⟨cell_two (keepc hb h2) (by omega), cell_two (keepc hb h3.1) (by omega), cell_two (keepc hb h3.2) (by omega)⟩
end Go.Proofs.YtlgjoepeibodkaaGreat.Nn
