/- begun. -/
import Derived.Test.YteghelmbibpohaaBW9
namespace Go.Proofs.Yteghelmbibpohaa
open Go.RowKit

/-- A row that was laid there word by word. -/
theorem rd_one {w : World} {g x : Nat} (hx : x < 18446744073709551616) (c : w.cell? ⟨g, 0, none⟩ = some (.int .u64 x)) : Rd w (some ⟨g, 0, none⟩) 1 x := by
  refine ⟨by rw [two64] at hx; simpa using hx, fun _ => ⟨g, rfl, fun k hk => ?_⟩⟩
  obtain rfl : k = 0 := by omega
  rw [c]
  have e : wd x 0 = x := by unfold wd; simp; omega
  simp [wf, e]
theorem rd_two {w : World} {g x y : Nat} (hx : x < 18446744073709551616) (hy : y < 18446744073709551616) (c : w.cell? ⟨g, 0, none⟩ = some (.int .u64 x)) (d : w.cell? ⟨g, 1, none⟩ = some (.int .u64 y)) : Rd w (some ⟨g, 0, none⟩) 2 (x + 18446744073709551616 * y) := by
  have e2 : (2 : Nat) ^ 64 = 18446744073709551616 := by decide
  have e3 : (2 : Nat) ^ (64 * 2) = 18446744073709551616 * 18446744073709551616 := by decide
  refine ⟨by rw [e3]; omega, fun _ => ⟨g, rfl, fun k hk => ?_⟩⟩
  rcases (show k = 0 ∨ k = 1 by omega) with rfl | rfl
  · rw [c]
    have e : wd (x + 18446744073709551616 * y) 0 = x := by unfold wd; simp; omega
    simp [wf, e]
  · rw [d]
    have e : wd (x + 18446744073709551616 * y) 1 = y := by unfold wd; rw [Nat.mul_one, e2]; omega
    simp [wf, e]
theorem cell4 (W : World) (a b c d : Value) (t : TypeId) : (W.alloc (.cells #[a, b, c, d] t)).cell? ⟨W.heap.size, 0, none⟩ = some a ∧ (W.alloc (.cells #[a, b, c, d] t)).cell? ⟨W.heap.size, 1, none⟩ = some b ∧ (W.alloc (.cells #[a, b, c, d] t)).cell? ⟨W.heap.size, 2, none⟩ = some c ∧ (W.alloc (.cells #[a, b, c, d] t)).cell? ⟨W.heap.size, 3, none⟩ = some d := by simp [go_sem]
theorem pk4 : pk [1, -1, 0, 5] 4 = 9 := by decide
theorem pc66 : pc (18446744073709551615 + 18446744073709551616 * 3) 70 = 66 := by decide +kernel
theorem sl67 : sl (9223372036854775808 + 18446744073709551616 * 33) 63 70 = 67 := by decide +kernel

theorem b_pack (ao : Option Addr) (cap : Nat) (w : World) (h : R8 w ao [1, -1, 0, 5]) :
    Calls Try.prog 10 #[.slice ao 4 cap] w fun e w' => ∃ g, e = .returned (.tuple #[rv 4 (some ⟨g, 0, none⟩) 1 1, .int .i64 0]) ∧ w'.rowIs g 35 1 (wf 9) ∧ Below w.heap.size w w' := by
  refine (pack_any [1, -1, 0, 5] 4 rfl ao cap w (by omega) h).mono ?_
  rintro e w1 ⟨g, rfl, _, hrow, hb⟩
  rw [pk4] at hrow
  exact ⟨g, rfl, hrow, hb⟩
theorem b_count (ao : Option Addr) (w : World) (h : Rd w ao 2 (18446744073709551615 + 18446744073709551616 * 3)) :
    Calls Try.prog 33 #[rv 70 ao 2 2] w fun e w' => e = .returned (.tuple #[.int .i64 66, .int .i64 0]) ∧ Below w.heap.size w w' := by
  refine (count_any 70 _ ao 2 w (by omega) (by decide) h).mono ?_
  rintro e w1 ⟨rfl, hb⟩
  rw [pc66]
  exact ⟨rfl, hb⟩
theorem b_slice (ao : Option Addr) (w : World) (h : Rd w ao 2 (9223372036854775808 + 18446744073709551616 * 33)) :
    Calls Try.prog 12 #[rv 70 ao 2 2, .int .i64 63, .int .i64 70] w fun e w' => ∃ g, e = .returned (.tuple #[rv 7 (some ⟨g, 0, none⟩) 1 1, .int .i64 0]) ∧ w'.rowIs g 35 1 (wf 67) ∧ Below w.heap.size w w' := by
  refine (slice_any 70 _ 63 70 ao 2 w (by omega) (by decide) h (by omega) (by omega)).mono ?_
  rintro e w1 ⟨g, rfl, _, hrow, hb⟩
  rw [sl67] at hrow
  exact ⟨g, rfl, hrow, hb⟩
theorem b_tail (w : World) : Calls Try.prog 19 #[.int .i64 65] w fun e w' => e = .returned (.int .u64 1) ∧ w' = w := tail_pos 65 (by omega) (by omega) w
theorem b_check (ao : Option Addr) (w : World) (h : Rd w ao 1 8) : Calls Try.prog 14 #[rv 3 ao 1 1] w fun e w' => e = .returned (.int .i64 20) ∧ Below w.heap.size w w' := by
  refine (check_any 3 ao 1 1 8 w (by omega) h).mono ?_
  rintro e w1 ⟨rfl, hb⟩
  exact ⟨rfl, hb⟩
theorem new_one (W : World) (a : Value) (t : TypeId) : (W.alloc (.cells #[a] t)).cell? ⟨W.heap.size, 0, none⟩ = some a := by simp [go_sem]
theorem row9 {w : World} {g x : Nat} (hx : x < 18446744073709551616) (h : w.rowIs g 35 1 (wf x)) : Rd w (some ⟨g, 0, none⟩) 1 x := Rd.row h (by rw [two64] at hx; simpa using hx)

set_option maxHeartbeats 2000000 in
set_option maxRecDepth 100000 in
theorem begun_any (w : World) :
    Calls Try.prog 9 #[] w fun e w' => e = .returned (.bool true) ∧ Below w.heap.size w w' := by
  go_enter Try.func9, Try.ntmps9
  go_wp2_with fail
  refine gen_calls (fun W => Below w.heap.size w W ∧ R8 W (some ⟨w.heap.size, 0, none⟩) [1, -1, 0, 5]) ⟨bl_alloc (Below.refl _ _) _, ?_⟩ ?_
  · intro k hk
    refine ⟨w.heap.size, 0, rfl, ?_⟩
    rw [Nat.zero_add]
    obtain ⟨e0, e1, e2, e3⟩ := cell4 w (.int .i8 1) (.int .i8 (-1)) (.int .i8 0) (.int .i8 5) 24
    rcases (show k = 0 ∨ k = 1 ∨ k = 2 ∨ k = 3 by simp at hk; omega) with rfl | rfl | rfl | rfl
    · exact e0
    · exact e1
    · exact e2
    · exact e3
  rintro W ⟨B0, hr⟩
  refine (b_pack _ _ W hr).mono ?_
  rintro e w1 ⟨g, rfl, hrow, hb1⟩
  have B1 := bl_step B0 hb1
  clear hr hb1 B0
  go_wp2_with fail
  refine gen_calls (fun W => Below w.heap.size w W ∧ W.rowIs w1.heap.size 27 2 (sf 4 (some ⟨g, 0, none⟩) 1 1) ∧ W.rowIs g 35 1 (wf 9) ∧ Rd W (some ⟨w1.heap.size + 1, 0, none⟩) 2 (18446744073709551615 + 18446744073709551616 * 3))
    ⟨bl_alloc (bl_alloc B1 _) _, (row_new _ _ _ _ _ _).alloc _, (hrow.alloc _).alloc _, rd_two (by decide) (by decide) (by simp [go_sem]) (by simp [go_sem])⟩ ?_
  clear B1 hrow
  rintro W1 ⟨B1, r1, hrow, hr⟩
  refine (b_count _ W1 hr).mono ?_
  rintro e w2 ⟨rfl, hb2⟩
  have B2 := bl_step B1 hb2
  replace r1 := keepr hb2 r1
  replace hrow := keepr hb2 hrow
  clear hb2 B1 hr
  go_wp2_with fail
  refine gen_calls (fun W => Below w.heap.size w W ∧ W.rowIs w1.heap.size 27 2 (sf 4 (some ⟨g, 0, none⟩) 1 1) ∧ W.rowIs g 35 1 (wf 9) ∧ Rd W (some ⟨w2.heap.size, 0, none⟩) 2 (9223372036854775808 + 18446744073709551616 * 33))
    ⟨bl_alloc B2 _, r1.alloc _, hrow.alloc _, rd_two (by decide) (by decide) (by simp [go_sem]) (by simp [go_sem])⟩ ?_
  clear B2 hrow r1
  rintro W2 ⟨B2, r1, hrow, hr⟩
  refine (b_slice _ W2 hr).mono ?_
  rintro e w3 ⟨g3, rfl, hrow3, hb3⟩
  have B3 := bl_step B2 hb3
  replace r1 := keepr hb3 r1
  replace hrow := keepr hb3 hrow
  have l1 := r1.lt
  have c0 := sf_len r1
  have c1 := sf_ws r1
  clear hb3 B2 hr
  go_wp2_with fail
  refine gen_calls (fun W => Below w.heap.size w W ∧ W.rowIs w3.heap.size 27 2 (sf 7 (some ⟨g3, 0, none⟩) 1 1) ∧ W.rowIs g3 35 1 (wf 67) ∧ Rd W (some ⟨g, 0, none⟩) 1 9 ∧ Rd W (some ⟨w3.heap.size + 1, 0, none⟩) 1 9)
    ⟨bl_alloc (bl_alloc B3 _) _, (row_new _ _ _ _ _ _).alloc _, (hrow3.alloc _).alloc _, row9 (by decide) ((hrow.alloc _).alloc _), rd_one (by decide) (by simp [go_sem])⟩ ?_
  clear B3 hrow r1 c0 c1 l1 hrow3
  rintro W3 ⟨B3, r3, hrow3, ha, hb⟩
  refine (eqw_same 1 9 _ _ _ _ W3 (by omega) ha hb).mono ?_
  rintro e w4 ⟨rfl, hb4⟩
  have B4 := bl_step B3 hb4
  replace r3 := keepr hb4 r3
  replace hrow3 := keepr hb4 hrow3
  have l1 := r3.lt
  have c0 := sf_len r3
  have c1 := sf_ws r3
  clear hb4 B3 ha hb
  go_wp2_with fail
  refine gen_calls (fun W => Below w.heap.size w W ∧ Rd W (some ⟨g3, 0, none⟩) 1 67 ∧ Rd W (some ⟨w4.heap.size, 0, none⟩) 1 67)
    ⟨bl_alloc B4 _, row9 (by decide) (hrow3.alloc _), rd_one (by decide) (by simp [go_sem])⟩ ?_
  clear B4 r3 c0 c1 l1 hrow3
  rintro W4 ⟨B4, ha, hb⟩
  refine (eqw_same 1 67 _ _ _ _ W4 (by omega) ha hb).mono ?_
  rintro e w5 ⟨rfl, hb5⟩
  have B5 := bl_step B4 hb5
  clear hb5 B4 ha hb
  go_wp2_with fail
  refine (b_tail _).mono ?_
  rintro e w6 ⟨rfl, rfl⟩
  go_wp2_with fail
  refine gen_calls (fun W => Below w.heap.size w W ∧ Rd W (some ⟨w6.heap.size, 0, none⟩) 1 8) ⟨bl_alloc B5 _, rd_one (by decide) (by simp [go_sem])⟩ ?_
  clear B5
  rintro W5 ⟨B5, ha⟩
  refine (b_check _ W5 ha).mono ?_
  rintro e w7 ⟨rfl, hb7⟩
  go_wp2_with fail
  go_ret
  exact ⟨rfl, bl_step B5 hb7⟩
end Go.Proofs.Yteghelmbibpohaa
