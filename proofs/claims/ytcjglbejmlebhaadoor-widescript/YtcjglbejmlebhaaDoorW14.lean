import Derived.Test.YtcjglbejmlebhaaDoorW13
import Derived.Deep.DeepCutAuto
namespace Go.Proofs.YtcjglbejmlebhaaDoor
open Go.RowKit Go.Shelf
attribute [local go_sem ↓] Go.wp_at_zero Go.wp_at_succ

theorem new0 (W : World) (a b : Value) (t : TypeId) : (W.alloc (.cells #[a, b] t)).drew.cell? ⟨W.heap.size, 0, none⟩ = some a := by simp [go_sem]
theorem new1 (W : World) (a b : Value) (t : TypeId) : (W.alloc (.cells #[a, b] t)).drew.cell? ⟨W.heap.size, 1, none⟩ = some b := by simp [go_sem]
theorem newf (W : World) (a b : Value) (t : TypeId) (o : Nat) : (W.alloc (.cells #[a, b] t)).drew.frozen? ⟨W.heap.size, o, none⟩ = false := by simp [go_sem]
theorem newlt (W : World) (o : Obj) : W.heap.size < (W.alloc o).drew.heap.size := by simp
theorem new0' (W : World) (a b : Value) (t : TypeId) : (W.alloc (.cells #[a, b] t)).cell? ⟨W.heap.size, 0, none⟩ = some a := by simp [go_sem]
theorem new1' (W : World) (a b : Value) (t : TypeId) : (W.alloc (.cells #[a, b] t)).cell? ⟨W.heap.size, 1, none⟩ = some b := by simp [go_sem]
theorem newf' (W : World) (a b : Value) (t : TypeId) (o : Nat) : (W.alloc (.cells #[a, b] t)).frozen? ⟨W.heap.size, o, none⟩ = false := by simp [go_sem]
theorem newlt' (W : World) (o : Obj) : W.heap.size < (W.alloc o).heap.size := by simp
theorem lt_of_cell {W : World} {b o : Nat} {v : Value} (h : W.cell? ⟨b, o, none⟩ = some v) : b < W.heap.size := World.block_lt_of_cell? W ⟨b, o, none⟩ h
theorem gen_calls {P : Program} {f : FuncId} {args : Array Value} {Q : Ending → World → Prop} {W : World} (p : World → Prop) (hp : p W) (h : ∀ W', p W' → Calls P f args W' Q) : Calls P f args W Q := h W hp
theorem with_fact {T G : Prop} (h : T) (k : T → G) : G := k h

set_option maxHeartbeats 2000000 in
set_option maxRecDepth 100000 in
theorem begun_any (w : World) (L : Laid w) :
    Calls Tryd.prog 7 #[] w fun e w' => e = .returned (.bool true) ∧ Below w.heap.size w w' := by
  have HL := hid1 L
  clear L
  go_enter Tryd.func7, Tryd.ntmps7
  go_wp2_with fail
  refine (b_mul _).mono ?_
  rintro e w1 ⟨rfl, hb1⟩
  go_upto_region 2 with fail
  refine gen_world (fun W' => Below w.heap.size w W' ∧ w1.heap.size < W'.heap.size ∧ W'.cell? ⟨w1.heap.size, 0, none⟩ = some (.int .i64 (-1)) ∧ W'.cell? ⟨w1.heap.size, 1, none⟩ = some (.int .u64 2)) ⟨by repeat (first | exact Below.refl _ _ | refine bl_alloc ?_ _ | refine Below.drew ?_ | refine bl_drewN ?_ _ | refine bl_set ?_ (by omega) _ | refine bl_step ?_ (by assumption)), by simp, by simp [go_sem], by simp [go_sem]⟩ ?_
  rintro W1 ⟨B1, z1, m0, m1⟩
  go_cut [2, 3] (fun s2 s3 wx => ∃ M, s2 = .pointer (some ⟨M, 0, none⟩) ∧ s3 = .int .i64 0 ∧ Below W1.heap.size W1 wx ∧ wx.cell? ⟨M, 0, none⟩ = some (.int .i64 (-1)) ∧ wx.cell? ⟨M, 1, none⟩ = some (.int .u64 7))
  case first =>
    go_region_held3 (fun W => W.cell? ⟨w1.heap.size, 0, none⟩ = some (.int .i64 (-1)) ∧ W.cell? ⟨w1.heap.size, 1, none⟩ = some (.int .u64 2)) (((try dsimp only); exact ⟨keepc (W := W1) (by repeat (first | exact Below.refl _ _ | refine bl_alloc ?_ _ | refine Below.drew ?_ | refine bl_drewN ?_ _ | refine bl_set ?_ (by omega) _ | refine bl_step ?_ (by assumption))) m0, keepc (W := W1) (by repeat (first | exact Below.refl _ _ | refine bl_alloc ?_ _ | refine Below.drew ?_ | refine bl_drewN ?_ _ | refine bl_set ?_ (by omega) _ | refine bl_step ?_ (by assumption))) m1⟩))
      (first
        | (go_at_call 27; refine (b_of5 _).mono ?_; rintro e w2 ⟨rfl, hb2⟩; have s0 := hb2.size; simp at s0; have s2 : W1.heap.size ≤ w2.heap.size := (show Below W1.heap.size W1 w2 by repeat (first | exact Below.refl _ _ | refine bl_alloc ?_ _ | refine Below.drew ?_ | refine bl_drewN ?_ _ | refine bl_set ?_ (by omega) _ | refine bl_step ?_ (by assumption))).size)
        | (go_at_call 20; refine (b_add _).mono ?_; rintro e w3 ⟨rfl, hb3⟩; have s3 : W1.heap.size ≤ w3.heap.size := (show Below W1.heap.size W1 w3 by repeat (first | exact Below.refl _ _ | refine bl_alloc ?_ _ | refine Below.drew ?_ | refine bl_drewN ?_ _ | refine bl_set ?_ (by omega) _ | refine bl_step ?_ (by assumption))).size; have ya0 := keepc hb3 (keepc hb2 (new0 W1 (.int .i64 0) (.int .u64 0) _)); have ya1 := keepc hb3 (keepc hb2 (new1 W1 (.int .i64 0) (.int .u64 0) _)); have lt3 : W1.heap.size < w2.heap.size := s0; have fa0 := keepf hb3 lt3 (keepf hb2 (newlt W1 _) (newf W1 (.int .i64 0) (.int .u64 0) _ 0)); have fa1 := keepf hb3 lt3 (keepf hb2 (newlt W1 _) (newf W1 (.int .i64 0) (.int .u64 0) _ 1)))
        | (go_at_call 20; refine (b_add _).mono ?_; rintro e w3 ⟨rfl, hb3⟩; have s3 : W1.heap.size ≤ w3.heap.size := (show Below W1.heap.size W1 w3 by repeat (first | exact Below.refl _ _ | refine bl_alloc ?_ _ | refine Below.drew ?_ | refine bl_drewN ?_ _ | refine bl_set ?_ (by omega) _ | refine bl_step ?_ (by assumption))).size; have ya0 := keepc hb3 (new0' w2 (.int .i64 0) (.int .u64 0) _); have ya1 := keepc hb3 (new1' w2 (.int .i64 0) (.int .u64 0) _); have fa0 := keepf hb3 (newlt' w2 _) (newf' w2 (.int .i64 0) (.int .u64 0) _ 0); have fa1 := keepf hb3 (newlt' w2 _) (newf' w2 (.int .i64 0) (.int .u64 0) _ 1))
        | (go_at_call 20; refine (b_add _).mono ?_; rintro e w3 ⟨rfl, hb3⟩; have s3 : W1.heap.size ≤ w3.heap.size := (show Below W1.heap.size W1 w3 by repeat (first | exact Below.refl _ _ | refine bl_alloc ?_ _ | refine Below.drew ?_ | refine bl_drewN ?_ _ | refine bl_set ?_ (by omega) _ | refine bl_step ?_ (by assumption))).size; skip))
    all_goals go_wp2_with fail
    all_goals go_meet
    all_goals exact ⟨_, rfl, rfl, by repeat (first | exact Below.refl _ _ | refine bl_alloc ?_ _ | refine Below.drew ?_ | refine bl_drewN ?_ _ | refine bl_set ?_ (by omega) _ | refine bl_step ?_ (by assumption)), by simp [go_sem, *], by simp [go_sem, *]⟩
  case rest =>
    obtain ⟨M, rfl, rfl, hB, b0, b1⟩ := hcut
    have a0 := keepc hB m0; have a1 := keepc hB m1
    clear m0 m1
    have BC : Below w.heap.size w wc := bl_step B1 hB
    have HLC := hid1 (HL.out.on BC)
    go_wp2_with fail
    refine (b_of7 _).mono ?_
    rintro e w4 ⟨rfl, hb4⟩
    go_wp2_with fail
    refine (b_floor _).mono ?_
    rintro e w5 ⟨rfl, hb5⟩
    replace a0 := keepc hb4 a0; replace a1 := keepc hb4 a1
    replace b0 := keepc hb4 b0; replace b1 := keepc hb4 b1
    replace a0 := keepc hb5 a0; replace a1 := keepc hb5 a1
    replace b0 := keepc hb5 b0; replace b1 := keepc hb5 b1
    go_wp2_with fail
    refine gen_calls (fun W' => Below w5.heap.size w5 W' ∧ W'.cell? ⟨w5.heap.size, 0, none⟩ = some (.int .i64 (-1)) ∧ W'.cell? ⟨w5.heap.size, 1, none⟩ = some (.int .u64 18446744073709551612)) ⟨bl_alloc (Below.refl _ _) _, new0' _ _ _ _, new1' _ _ _ _⟩ ?_
    rintro W5 ⟨h5, c0, c1⟩
    replace a0 := keepc h5 a0; replace a1 := keepc h5 a1
    replace b0 := keepc h5 b0; replace b1 := keepc h5 b1
    refine (b_of7 _).mono ?_
    rintro e w6 ⟨rfl, hb6⟩
    go_wp2_with fail
    refine (b_ceil _).mono ?_
    rintro e w7 ⟨rfl, hb7⟩
    replace a0 := keepc hb6 a0; replace a1 := keepc hb6 a1
    replace b0 := keepc hb6 b0; replace b1 := keepc hb6 b1
    replace c0 := keepc hb6 c0; replace c1 := keepc hb6 c1
    replace a0 := keepc hb7 a0; replace a1 := keepc hb7 a1
    replace b0 := keepc hb7 b0; replace b1 := keepc hb7 b1
    replace c0 := keepc hb7 c0; replace c1 := keepc hb7 c1
    have za : w1.heap.size < w7.heap.size := lt_of_cell a0
    have zb : M < w7.heap.size := lt_of_cell b0
    have zc : w5.heap.size < w7.heap.size := lt_of_cell c0
    go_wp2_with fail
    refine gen_calls (fun W' => Below w7.heap.size w7 W' ∧ W'.cell? ⟨w7.heap.size, 0, none⟩ = some (.int .i64 (-1)) ∧ W'.cell? ⟨w7.heap.size, 1, none⟩ = some (.int .u64 18446744073709551613)) ⟨bl_alloc (Below.refl _ _) _, new0' _ _ _ _, new1' _ _ _ _⟩ ?_
    rintro W7 ⟨h7, d0, d1⟩
    replace a0 := keepc h7 a0; replace a1 := keepc h7 a1
    replace b0 := keepc h7 b0; replace b1 := keepc h7 b1
    replace c0 := keepc h7 c0; replace c1 := keepc h7 c1
    clear za zb zc
    refine (b_fit _).mono ?_
    rintro e w8 ⟨rfl, hb8⟩
    replace a0 := keepc hb8 a0; replace a1 := keepc hb8 a1
    replace b0 := keepc hb8 b0; replace b1 := keepc hb8 b1
    replace c0 := keepc hb8 c0; replace c1 := keepc hb8 c1
    replace d0 := keepc hb8 d0; replace d1 := keepc hb8 d1
    have B8 : Below wc.heap.size wc w8 := by repeat (first | exact Below.refl _ _ | refine bl_alloc ?_ _ | refine Below.drew ?_ | refine bl_drewN ?_ _ | refine bl_set ?_ (by omega) _ | refine bl_step ?_ (by assumption))
    have HL8 := hid1 (HLC.out.on B8)
    go_wp2_with fail
    refine (b_show _ HL8.out).mono ?_
    rintro e w9 ⟨rfl, hb9⟩
    replace a0 := keepc hb9 a0; replace a1 := keepc hb9 a1
    replace b0 := keepc hb9 b0; replace b1 := keepc hb9 b1
    replace c0 := keepc hb9 c0; replace c1 := keepc hb9 c1
    replace d0 := keepc hb9 d0; replace d1 := keepc hb9 d1
    have HL9 := hid1 (HL8.out.on hb9)
    go_wp2_with fail
    refine (b_read _ HL9.out).mono ?_
    rintro e w10 ⟨rfl, hb10⟩
    replace a0 := keepc hb10 a0; replace a1 := keepc hb10 a1
    replace b0 := keepc hb10 b0; replace b1 := keepc hb10 b1
    replace c0 := keepc hb10 c0; replace c1 := keepc hb10 c1
    replace d0 := keepc hb10 d0; replace d1 := keepc hb10 d1
    have za : w1.heap.size < w10.heap.size := lt_of_cell a0
    have zb : M < w10.heap.size := lt_of_cell b0
    have zc : w5.heap.size < w10.heap.size := lt_of_cell c0
    have zd : w7.heap.size < w10.heap.size := lt_of_cell d0
    go_wp2_with fail
    refine (b_cmp _).mono ?_
    rintro e w11 ⟨rfl, hb11⟩
    go_wp2
    go_ret
    refine ⟨rfl, ?_⟩
    repeat (first | exact Below.refl _ _ | refine bl_alloc ?_ _ | refine Below.drew ?_ | refine bl_drewN ?_ _ | refine bl_set ?_ (by omega) _ | refine bl_step ?_ (by assumption))
end Go.Proofs.YtcjglbejmlebhaaDoor
