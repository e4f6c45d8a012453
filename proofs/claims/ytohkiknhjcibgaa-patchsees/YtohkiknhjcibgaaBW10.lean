/- begun. -/
import Derived.Test.YtohkiknhjcibgaaBW9
namespace Go.Proofs.Ytohkiknhjcibgaa
open Go.RowKit

/-- A row that was laid there word by word. -/
theorem rd_one {w : World} {g x : Nat} (hx : x < 18446744073709551616) (c : w.cell? ⟨g, 0, none⟩ = some (.int .u64 x)) : Rd w (some ⟨g, 0, none⟩) 1 x := by
  refine ⟨by rw [two64] at hx; simpa using hx, fun _ => ⟨g, rfl, fun k hk => ?_⟩⟩
  obtain rfl : k = 0 := by omega
  rw [c]
  have e : wd x 0 = x := by unfold wd; simp; omega
  simp [wf, e]
theorem rd_two {w : World} {g x y : Nat} (hx : x < 18446744073709551616) (hy : y < 18446744073709551616) (c : w.cell? ⟨g, 0, none⟩ = some (.int .u64 x)) (d : w.cell? ⟨g, 1, none⟩ = some (.int .u64 y)) : Rd w (some ⟨g, 0, none⟩) 2 (x + 18446744073709551616 * y) := by
  have e2 : (2 : Nat) ^ 64 = 18446744073709551616 := by decide
  have e3 : (2 : Nat) ^ (64 * 2) = 18446744073709551616 * 18446744073709551616 := by decide
  refine ⟨by rw [e3]; omega, fun _ => ⟨g, rfl, fun k hk => ?_⟩⟩
  rcases (show k = 0 ∨ k = 1 by omega) with rfl | rfl
  · rw [c]
    have e : wd (x + 18446744073709551616 * y) 0 = x := by unfold wd; simp; omega
    simp [wf, e]
  · rw [d]
    have e : wd (x + 18446744073709551616 * y) 1 = y := by unfold wd; rw [Nat.mul_one, e2]; omega
    simp [wf, e]
theorem cell4 (W : World) (a b c d : Value) (t : TypeId) : (W.alloc (.cells #[a, b, c, d] t)).cell? ⟨W.heap.size, 0, none⟩ = some a ∧ (W.alloc (.cells #[a, b, c, d] t)).cell? ⟨W.heap.size, 1, none⟩ = some b ∧ (W.alloc (.cells #[a, b, c, d] t)).cell? ⟨W.heap.size, 2, none⟩ = some c ∧ (W.alloc (.cells #[a, b, c, d] t)).cell? ⟨W.heap.size, 3, none⟩ = some d := by simp [go_sem]
theorem pk4 : pk [1, -1, 0, 5] 4 = 9 := by decide
theorem pc66 : pc (18446744073709551615 + 18446744073709551616 * 3) 70 = 66 := by decide +kernel
theorem sl67 : sl (9223372036854775808 + 18446744073709551616 * 33) 63 70 = 67 := by decide +kernel

theorem b_tail (w : World) : Calls Try.prog 34 #[.int .i64 65] w fun e w' => e = .returned (.int .u64 1) ∧ w' = w := tail_pos 65 (by omega) (by omega) w
theorem b_check (ao : Option Addr) (w : World) (h : Rd w ao 1 8) : Calls Try.prog 42 #[rv 3 ao 1 1] w fun e w' => e = .returned (.int .i64 20) ∧ Below w.heap.size w w' := by
  refine (check_any 3 ao 1 1 8 w (by omega) h).mono ?_
  rintro e w1 ⟨rfl, hb⟩
  exact ⟨rfl, hb⟩
theorem new_one (W : World) (a : Value) (t : TypeId) : (W.alloc (.cells #[a] t)).cell? ⟨W.heap.size, 0, none⟩ = some a := by simp [go_sem]
theorem row9 {w : World} {g x : Nat} (hx : x < 18446744073709551616) (h : w.rowIs g 41 1 (wf x)) : Rd w (some ⟨g, 0, none⟩) 1 x := Rd.row h (by rw [two64] at hx; simpa using hx)

end Go.Proofs.Ytohkiknhjcibgaa
