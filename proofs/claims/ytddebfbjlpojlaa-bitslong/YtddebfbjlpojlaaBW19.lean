/- BitsLong. -/
import Derived.Test.YtddebfbjlpojlaaBW18
import Derived.Test.YtddebfbjlpojlaaBM8
namespace Go.Proofs.Ytddebfbjlpojlaa
open Go.RowKit

theorem nw_bd' : nw 16777216 ≤ 1048576 := Nat.le_trans (nw_bd (Nat.le_refl _)) (by omega)
theorem gen_list {P : Program} {ops : Array Oper} {Q : Exit → Act → World → Prop} {rest : List Oper} {a : Act} {W : World} (p : World → Prop) (hp : p W) (h : ∀ W', p W' → wpList P ops Q rest a W') : wpList P ops Q rest a W := h W hp
/-- The longest row, its last bit set. -/
structure Lg (A : Nat) : Prop where
  lt : A < 2 ^ 16777216
  only : Only A 16777215
theorem l_long (l : List Int) (hl : l.length = 16777217) (ao : Option Addr) (cap : Nat) (w : World) :
    Calls Try.prog 10 #[.slice ao 16777217 cap] w fun e w' => e = .returned (.tuple #[rv 0 none 0 0, .int .i64 2]) ∧ Below w.heap.size w w' := by
  have h := pack_long l ao cap w (by omega) (by omega)
  rw [hl] at h
  exact h
theorem l_pack (l : List Int) (hl : l.length = 16777217) (hi : ∀ i, ia l i = if i = 16777215 then 1 else 0) (ao : Option Addr) (cap : Nat) (w : World) (hr : R8 w ao l) :
    Calls Try.prog 10 #[.slice ao 16777216 cap] w fun e w' => ∃ g, e = .returned (.tuple #[rv 16777216 (some ⟨g, 0, none⟩) (nw 16777216) (nw 16777216), .int .i64 0]) ∧ ∃ A, Lg A ∧ w'.rowIs g 35 (nw 16777216) (wf A) ∧ Below w.heap.size w w' := by
  have hl2 : (l.take 16777216).length = 16777216 := by rw [List.length_take]; omega
  have h := pack_any (l.take 16777216) 16777216 hl2 ao cap w (Nat.le_refl _) (r8_take hr 16777216)
  have lg : Lg (pk (l.take 16777216) 16777216) := by
    have h0 := pk_lt (l.take 16777216) 16777216
    refine ⟨h0, fun i => ?_⟩
    rw [pk_bit]
    by_cases hi2 : i < 16777216
    · rw [ia_take hi2, hi i]
      by_cases e : i = 16777215
      · subst e; simp
      · simp [e]
    · have e : ¬ i = 16777215 := by omega
      simp [hi2, e]
  refine h.mono ?_
  rintro e w1 ⟨g, rfl, _, hrow, hb⟩
  exact ⟨g, rfl, _, lg, hrow, hb⟩
theorem l_count (A g cap : Nat) (lg : Lg A) (w : World) (h : w.rowIs g 35 (nw 16777216) (wf A)) :
    Calls Try.prog 11 #[rv 16777216 (some ⟨g, 0, none⟩) (nw 16777216) cap, .int .i64 0] w fun e w' => e = .returned (.int .i64 1) ∧ Below w.heap.size w w' := by
  refine (lcount_any 16777216 A _ cap w (Nat.le_refl _) lg.lt (Rd.row h (lt_nw lg.lt))).mono ?_
  rintro e w1 ⟨rfl, hb⟩
  rw [only_pc lg.only]
  exact ⟨rfl, hb⟩
theorem l_slice (A g cap : Nat) (lg : Lg A) (w : World) (h : w.rowIs g 35 (nw 16777216) (wf A)) :
    Calls Try.prog 12 #[rv 16777216 (some ⟨g, 0, none⟩) (nw 16777216) cap, .int .i64 16777213, .int .i64 16777216] w fun e w' => ∃ g', e = .returned (.tuple #[rv 3 (some ⟨g', 0, none⟩) 1 1, .int .i64 0]) ∧ w'.rowIs g' 35 1 (wf 4) ∧ Below w.heap.size w w' := by
  refine (slice_any 16777216 A 16777213 16777216 _ cap w (Nat.le_refl _) lg.lt (Rd.row h (lt_nw lg.lt)) (by omega) (Nat.le_refl _)).mono ?_
  rintro e w1 ⟨g', rfl, _, hrow, hb⟩
  rw [only_sl lg.only (by omega) (by omega)] at hrow
  exact ⟨g', rfl, hrow, hb⟩
theorem l_arg (A g cap : Nat) (lg : Lg A) (w : World) (h : w.rowIs g 35 (nw 16777216) (wf A)) :
    Calls Try.prog 12 #[rv 16777216 (some ⟨g, 0, none⟩) (nw 16777216) cap, .int .i64 0, .int .i64 16777217] w fun e w' => e = .returned (.tuple #[rv 0 none 0 0, .int .i64 1]) ∧ Below w.heap.size w w' :=
  slice_arg 16777216 A 0 16777217 _ cap w (Nat.le_refl _) lg.lt (Rd.row h (lt_nw lg.lt)) (by omega)
theorem g_join3 (Z A g gl cl cap : Nat) (hZ : Z ≤ 16777216) (hA : A < 2 ^ Z) (w : World) (h : w.rowIs g 35 (nw Z) (wf A))
    (c0 : w.cell? ⟨gl, 0, none⟩ = some (.int .i64 0)) (c1 : w.cell? ⟨gl, 1, none⟩ = some (.slice none 0 0)) (c2 : w.cell? ⟨gl, 2, none⟩ = some (.int .i64 Z)) (c3 : w.cell? ⟨gl, 3, none⟩ = some (.slice (some ⟨g, 0, none⟩) (nw Z) cap))
    (c4 : w.cell? ⟨gl, 4, none⟩ = some (.int .i64 0)) (c5 : w.cell? ⟨gl, 5, none⟩ = some (.slice none 0 0)) :
    Calls Try.prog 13 #[.slice (some ⟨gl, 0, none⟩) 3 cl] w fun e w' => ∃ g', e = .returned (.tuple #[rv Z (some ⟨g', 0, none⟩) (nw Z) (nw Z), .int .i64 0]) ∧ w'.rowIs g' 35 (nw Z) (wf A) ∧ Below w.heap.size w w' := by
  have hj := join_any 3 gl cl (three 0 Z 0) (three 0 A 0) (three none (some ⟨g, 0, none⟩) none) (three 0 cap 0) w (by omega)
    ⟨fun j hj => by
        rcases (show j = 0 ∨ j = 1 ∨ j = 2 by omega) with rfl | rfl | rfl
        · exact c0
        · exact c2
        · exact c4,
     fun j hj => by
        rcases (show j = 0 ∨ j = 1 ∨ j = 2 by omega) with rfl | rfl | rfl
        · show w.cell? ⟨gl, 1, none⟩ = some (.slice none (nw 0) 0); exact c1
        · exact c3
        · show w.cell? ⟨gl, 5, none⟩ = some (.slice none (nw 0) 0); exact c5,
     fun j hj => by
        rcases (show j = 0 ∨ j = 1 ∨ j = 2 by omega) with rfl | rfl | rfl
        · show Rd w none (nw 0) 0; exact Rd.nil w none
        · exact Rd.row h (lt_nw hA)
        · show Rd w none (nw 0) 0; exact Rd.nil w none,
     fun j hj => by
        rcases (show j = 0 ∨ j = 1 ∨ j = 2 by omega) with rfl | rfl | rfl
        · exact zero_lt 0
        · exact hA
        · exact zero_lt 0,
     fun j hj => by
        rcases (show j = 0 ∨ j = 1 ∨ j = 2 by omega) with rfl | rfl | rfl
        · show 0 ≤ 16777216; omega
        · exact hZ
        · show 0 ≤ 16777216; omega⟩ (by rw [off_three]; exact hZ)
  rw [off_three, jn_three] at hj
  refine hj.mono ?_
  rintro e w1 ⟨g', rfl, _, hrow, hb⟩
  exact ⟨g', rfl, hrow, hb⟩
theorem g_join2 (Z A g gx gl cl cap : Nat) (hZ : Z ≤ 16777216) (hZ2 : 16777216 < Z + 3) (hA : A < 2 ^ Z) (w : World) (h : w.rowIs g 35 (nw Z) (wf A)) (hx : w.rowIs gx 35 1 (wf 4))
    (c0 : w.cell? ⟨gl, 0, none⟩ = some (.int .i64 Z)) (c1 : w.cell? ⟨gl, 1, none⟩ = some (.slice (some ⟨g, 0, none⟩) (nw Z) cap)) (c2 : w.cell? ⟨gl, 2, none⟩ = some (.int .i64 3)) (c3 : w.cell? ⟨gl, 3, none⟩ = some (.slice (some ⟨gx, 0, none⟩) 1 1)) :
    Calls Try.prog 13 #[.slice (some ⟨gl, 0, none⟩) 2 cl] w fun e w' => e = .returned (.tuple #[rv 0 none 0 0, .int .i64 2]) ∧ Below w.heap.size w w' := by
  refine join_long 2 gl cl (two Z 3) (two A 4) (two (some ⟨g, 0, none⟩) (some ⟨gx, 0, none⟩)) (two cap 1) w (by omega)
    ⟨fun j hj => by
        rcases (show j = 0 ∨ j = 1 by omega) with rfl | rfl
        · exact c0
        · exact c2,
     fun j hj => by
        rcases (show j = 0 ∨ j = 1 by omega) with rfl | rfl
        · exact c1
        · show w.cell? ⟨gl, 3, none⟩ = some (.slice (some ⟨gx, 0, none⟩) (nw 3) 1); exact c3,
     fun j hj => by
        rcases (show j = 0 ∨ j = 1 by omega) with rfl | rfl
        · exact Rd.row h (lt_nw hA)
        · show Rd w (some ⟨gx, 0, none⟩) (nw 3) 4; exact Rd.row hx (lt_nw (n := 3) (show 4 < 2 ^ 3 by decide)),
     fun j hj => by
        rcases (show j = 0 ∨ j = 1 by omega) with rfl | rfl
        · exact hA
        · show 4 < 2 ^ 3; decide,
     fun j hj => by
        rcases (show j = 0 ∨ j = 1 by omega) with rfl | rfl
        · exact hZ
        · show 3 ≤ 16777216; omega⟩ ?_
  show 16777216 < (0 + Z) + 3
  omega

set_option maxHeartbeats 4000000 in
set_option maxRecDepth 100000 in
theorem long_walk (n : Int) (hn : -9223372036854775808 ≤ n ∧ n ≤ 9223372036854775807) (w : World) :
    Calls Try.prog 3 #[.int .i64 n] w fun e w' => e = .returned (.bool true) ∧ Below w.heap.size w w' := by
  obtain ⟨n1, n2⟩ := hn
  obtain ⟨i0, hi, hz0, hz1, hz2⟩ := info_parts info_i8
  obtain ⟨l1, hl1, hl2⟩ := one_list 16777217 16777215 (by omega)
  have HL := hid1 hl2
  have HL1 := hid1 hl1
  clear hl2 hl1
  by_cases h50 : n.tmod 50 = 0
  rotate_left
  · go_enter Try.func3, Try.ntmps3
    go_wp2_with fail
    refine (begun_any _).mono ?_
    rintro e w0 ⟨rfl, B0⟩
    go_wp2_with fail
    go_ret
    exact ⟨rfl, B0⟩
  · go_enter Try.func3, Try.ntmps3
    go_wp2_with fail
    refine (begun_any _).mono ?_
    rintro e w0 ⟨rfl, B0⟩
    go_wp2_with ((refine wpList_make_row _ rfl _ _ 23 rfl 24 i0 (.int .i8 0) und_i8s hi hz0 hz1 rfl .i64 .i64 16777217 rfl rfl (by rw [hz2]; omega) (by omega) ?_; refine gen_list (fun W => Below w.heap.size w W ∧ W.rowIs w0.heap.size 24 16777217 (fun _ => .int .i8 0)) ⟨bl_alloc B0 _, World.rowIs_made _ _ _ _⟩ ?_; have zs := B0.size; clear B0; rintro W0 ⟨B1, rl⟩; have cl := rl.cell (i := 16777215) (by omega); have fl := rl.frozen 16777215))
    refine gen_calls (fun W' => Below w.heap.size w W' ∧ R8 W' (some ⟨w0.heap.size, 0, none⟩) l1) ⟨bl_set B1 zs _, ?_⟩ ?_
    · intro k hk
      rw [HL1.out] at hk
      refine ⟨w0.heap.size, 0, rfl, ?_⟩
      rw [Nat.zero_add, HL.out k]
      refine ((rl.set 16777215 (.int .i8 1)).cell hk).trans ?_
      by_cases e : k = 16777215
      · rw [if_pos e, if_pos e]
      · rw [if_neg e, if_neg e]
    clear B1 rl cl fl
    rintro V0 ⟨B2, rr⟩
    refine (l_long l1 HL1.out _ _ V0).mono ?_
    rintro e w1 ⟨rfl, hbx⟩
    replace rr := rr.below hbx
    replace B2 := bl_step B2 hbx
    clear hbx
    go_wp2_with fail
    refine gen_calls (fun W' => Below w.heap.size w W' ∧ R8 W' (some ⟨w0.heap.size, 0, none⟩) l1) ⟨bl_alloc B2 _, rr.below (bl_alloc (Below.refl _ _) _)⟩ ?_
    clear B2 rr
    rintro V1 ⟨B2, rr⟩
    refine (l_pack l1 HL1.out HL.out _ _ V1 rr).mono ?_
    rintro e w2 ⟨gA, rfl, A, lg, rA, hbx⟩
    have LG := hid1 lg
    replace B2 := bl_step B2 hbx
    clear hbx rr lg
    go_wp2_with fail
    refine gen_calls (fun W' => Below w.heap.size w W' ∧ W'.rowIs w2.heap.size 27 2 (sf 16777216 (some ⟨gA, 0, none⟩) (nw 16777216) (nw 16777216)) ∧ W'.rowIs gA 35 (nw 16777216) (wf A)) ⟨bl_alloc B2 _, row_new _ _ _ _ _ _, rA.alloc _⟩ ?_
    clear B2  rA
    rintro V2 ⟨B2, sA, rA⟩
    refine (l_count A gA _ LG.out V2 rA).mono ?_
    rintro e w3 ⟨rfl, hbx⟩
    replace sA := keepr hbx sA
    replace rA := keepr hbx rA
    replace B2 := bl_step B2 hbx
    clear hbx
    have cA0 := sf_len sA
    have cA1 := sf_ws sA
    have lA := sA.lt
    go_wp2_with fail
    refine gen_calls (fun W' => Below w.heap.size w W' ∧ W'.rowIs w2.heap.size 27 2 (sf 16777216 (some ⟨gA, 0, none⟩) (nw 16777216) (nw 16777216)) ∧ W'.rowIs gA 35 (nw 16777216) (wf A)) ⟨B2, sA, rA⟩ ?_
    clear B2 sA cA0 cA1 lA rA
    rintro V3 ⟨B2, sA, rA⟩
    refine (l_slice A gA _ LG.out V3 rA).mono ?_
    rintro e w4 ⟨gX, rfl, rX, hbx⟩
    replace sA := keepr hbx sA
    replace rA := keepr hbx rA
    replace B2 := bl_step B2 hbx
    clear hbx
    have cA0 := sf_len sA
    have cA1 := sf_ws sA
    have lA := sA.lt
    go_wp2_with fail
    refine gen_calls (fun W' => Below w.heap.size w W' ∧ W'.rowIs w2.heap.size 27 2 (sf 16777216 (some ⟨gA, 0, none⟩) (nw 16777216) (nw 16777216)) ∧ W'.rowIs gA 35 (nw 16777216) (wf A) ∧ W'.rowIs w4.heap.size 27 2 (sf 3 (some ⟨gX, 0, none⟩) 1 1) ∧ W'.rowIs gX 35 1 (wf 4) ∧ W'.cell? ⟨w4.heap.size + 1, 0, none⟩ = some (.int .i64 0) ∧ W'.cell? ⟨w4.heap.size + 1, 1, none⟩ = some (.slice none 0 0) ∧ W'.cell? ⟨w4.heap.size + 1, 2, none⟩ = some (.int .i64 16777216) ∧ W'.cell? ⟨w4.heap.size + 1, 3, none⟩ = some (.slice (some ⟨gA, 0, none⟩) (nw 16777216) (nw 16777216)) ∧ W'.cell? ⟨w4.heap.size + 1, 4, none⟩ = some (.int .i64 0) ∧ W'.cell? ⟨w4.heap.size + 1, 5, none⟩ = some (.slice none 0 0)) ⟨bl_alloc (bl_alloc B2 _) _, (sA.alloc _).alloc _, (rA.alloc _).alloc _, (row_new _ _ _ _ _ _).alloc _, (rX.alloc _).alloc _, by simp [go_sem], by simp [go_sem], by simp [go_sem], by simp [go_sem], by simp [go_sem], by simp [go_sem]⟩ ?_
    clear B2 sA cA0 cA1 lA rA rX
    rintro V4 ⟨B2, sA, rA, sX, rX, k0, k1, k2, k3, k4, k5⟩
    refine (g_join3 16777216 A gA _ _ _ (Nat.le_refl _) LG.out.lt V4 rA k0 k1 k2 k3 k4 k5).mono ?_
    rintro e w5 ⟨gZ, rfl, rZ, hbx⟩
    clear k0 k1 k2 k3 k4 k5
    replace sA := keepr hbx sA
    replace rA := keepr hbx rA
    replace sX := keepr hbx sX
    replace rX := keepr hbx rX
    replace B2 := bl_step B2 hbx
    clear hbx
    have cA0 := sf_len sA
    have cA1 := sf_ws sA
    have lA := sA.lt
    have cX0 := sf_len sX
    have cX1 := sf_ws sX
    have lX := sX.lt
    go_wp2_with fail
    refine gen_calls (fun W' => Below w.heap.size w W' ∧ W'.rowIs w2.heap.size 27 2 (sf 16777216 (some ⟨gA, 0, none⟩) (nw 16777216) (nw 16777216)) ∧ W'.rowIs gA 35 (nw 16777216) (wf A) ∧ W'.rowIs w4.heap.size 27 2 (sf 3 (some ⟨gX, 0, none⟩) 1 1) ∧ W'.rowIs gX 35 1 (wf 4) ∧ W'.rowIs w5.heap.size 27 2 (sf 16777216 (some ⟨gZ, 0, none⟩) (nw 16777216) (nw 16777216)) ∧ W'.rowIs gZ 35 (nw 16777216) (wf A) ∧ W'.cell? ⟨w5.heap.size + 1, 0, none⟩ = some (.int .i64 16777216) ∧ W'.cell? ⟨w5.heap.size + 1, 1, none⟩ = some (.slice (some ⟨gA, 0, none⟩) (nw 16777216) (nw 16777216)) ∧ W'.cell? ⟨w5.heap.size + 1, 2, none⟩ = some (.int .i64 3) ∧ W'.cell? ⟨w5.heap.size + 1, 3, none⟩ = some (.slice (some ⟨gX, 0, none⟩) 1 1)) ⟨bl_alloc (bl_alloc B2 _) _, (sA.alloc _).alloc _, (rA.alloc _).alloc _, (sX.alloc _).alloc _, (rX.alloc _).alloc _, (row_new _ _ _ _ _ _).alloc _, (rZ.alloc _).alloc _, by simp [go_sem], by simp [go_sem], by simp [go_sem], by simp [go_sem]⟩ ?_
    clear B2 sA cA0 cA1 lA sX cX0 cX1 lX rA rX rZ
    rintro V5 ⟨B2, sA, rA, sX, rX, sZ, rZ, k0, k1, k2, k3⟩
    refine (g_join2 16777216 A gA gX _ _ _ (Nat.le_refl _) (by omega) LG.out.lt V5 rA rX k0 k1 k2 k3).mono ?_
    rintro e w6 ⟨rfl, hbx⟩
    clear k0 k1 k2 k3
    replace sA := keepr hbx sA
    replace rA := keepr hbx rA
    replace sX := keepr hbx sX
    replace rX := keepr hbx rX
    replace sZ := keepr hbx sZ
    replace rZ := keepr hbx rZ
    replace B2 := bl_step B2 hbx
    clear hbx
    have cA0 := sf_len sA
    have cA1 := sf_ws sA
    have lA := sA.lt
    have cX0 := sf_len sX
    have cX1 := sf_ws sX
    have lX := sX.lt
    have cZ0 := sf_len sZ
    have cZ1 := sf_ws sZ
    have lZ := sZ.lt
    go_wp2_with fail
    refine gen_calls (fun W' => Below w.heap.size w W' ∧ W'.rowIs w2.heap.size 27 2 (sf 16777216 (some ⟨gA, 0, none⟩) (nw 16777216) (nw 16777216)) ∧ W'.rowIs gA 35 (nw 16777216) (wf A) ∧ W'.rowIs w4.heap.size 27 2 (sf 3 (some ⟨gX, 0, none⟩) 1 1) ∧ W'.rowIs gX 35 1 (wf 4) ∧ W'.rowIs w5.heap.size 27 2 (sf 16777216 (some ⟨gZ, 0, none⟩) (nw 16777216) (nw 16777216)) ∧ W'.rowIs gZ 35 (nw 16777216) (wf A)) ⟨bl_alloc B2 _, sA.alloc _, rA.alloc _, sX.alloc _, rX.alloc _, sZ.alloc _, rZ.alloc _⟩ ?_
    clear B2 sA cA0 cA1 lA sX cX0 cX1 lX sZ cZ0 cZ1 lZ rA rX rZ
    rintro V6 ⟨B2, sA, rA, sX, rX, sZ, rZ⟩
    refine (l_arg A gA _ LG.out V6 rA).mono ?_
    rintro e w7 ⟨rfl, hbx⟩
    replace sA := keepr hbx sA
    replace rA := keepr hbx rA
    replace sX := keepr hbx sX
    replace rX := keepr hbx rX
    replace sZ := keepr hbx sZ
    replace rZ := keepr hbx rZ
    replace B2 := bl_step B2 hbx
    clear hbx
    have cA0 := sf_len sA
    have cA1 := sf_ws sA
    have lA := sA.lt
    have cX0 := sf_len sX
    have cX1 := sf_ws sX
    have lX := sX.lt
    have cZ0 := sf_len sZ
    have cZ1 := sf_ws sZ
    have lZ := sZ.lt
    go_wp2_with ((at_builtin; refine app_full rfl _ _ rfl gA (nw 16777216) A (by go_simp) ((rA.alloc _).alloc _) (nw_bd' ) (w7.heap.size + 1) (.int .u64 0) (by go_simp) (by simp [go_sem]) ?_; intro g9 c9 w8 hb8))
    have hb8' : Below w7.heap.size w7 w8 := bl_step (bl_alloc (bl_alloc (Below.refl _ _) _) _) hb8
    have hbx := hb8'
    clear hb8 hb8'
    clear cA0 cA1 lA
    clear cX0 cX1 lX
    clear cZ0 cZ1 lZ
    replace sA := keepr hbx sA
    replace rA := keepr hbx rA
    replace sX := keepr hbx sX
    replace rX := keepr hbx rX
    replace sZ := keepr hbx sZ
    replace rZ := keepr hbx rZ
    replace B2 := bl_step B2 hbx
    clear hbx
    have cA0 := sf_len sA
    have cA1 := sf_ws sA
    have lA := sA.lt
    have cX0 := sf_len sX
    have cX1 := sf_ws sX
    have lX := sX.lt
    have cZ0 := sf_len sZ
    have cZ1 := sf_ws sZ
    have lZ := sZ.lt
    refine (check_big 16777217 _ _ _ w8 (by omega)).mono ?_
    rintro e w9 ⟨rfl, hbx⟩
    clear cA0 cA1 lA
    clear cX0 cX1 lX
    clear cZ0 cZ1 lZ
    replace sA := keepr hbx sA
    replace rA := keepr hbx rA
    replace sX := keepr hbx sX
    replace rX := keepr hbx rX
    replace sZ := keepr hbx sZ
    replace rZ := keepr hbx rZ
    replace B2 := bl_step B2 hbx
    clear hbx
    have cA0 := sf_len sA
    have cA1 := sf_ws sA
    have lA := sA.lt
    have cX0 := sf_len sX
    have cX1 := sf_ws sX
    have lX := sX.lt
    have cZ0 := sf_len sZ
    have cZ1 := sf_ws sZ
    have lZ := sZ.lt
    go_wp2_with fail
    refine gen_calls (fun W' => Below w.heap.size w W' ∧ W'.rowIs w2.heap.size 27 2 (sf 16777216 (some ⟨gA, 0, none⟩) (nw 16777216) (nw 16777216)) ∧ W'.rowIs gA 35 (nw 16777216) (wf A) ∧ W'.rowIs w4.heap.size 27 2 (sf 3 (some ⟨gX, 0, none⟩) 1 1) ∧ W'.rowIs gX 35 1 (wf 4) ∧ W'.rowIs w5.heap.size 27 2 (sf 16777216 (some ⟨gZ, 0, none⟩) (nw 16777216) (nw 16777216)) ∧ W'.rowIs gZ 35 (nw 16777216) (wf A) ∧ Rd W' (some ⟨w9.heap.size, 0, none⟩) 1 4) ⟨bl_alloc B2 _, sA.alloc _, rA.alloc _, sX.alloc _, rX.alloc _, sZ.alloc _, rZ.alloc _, rd_one (by decide) (by simp [go_sem])⟩ ?_
    clear B2 sA cA0 cA1 lA sX cX0 cX1 lX sZ cZ0 cZ1 lZ rA rX rZ
    rintro V9 ⟨B2, sA, rA, sX, rX, sZ, rZ, rq⟩
    refine (eqw_same 1 4 _ _ _ _ V9 (by omega) (row9 (by decide) rX) rq).mono ?_
    rintro e w10 ⟨rfl, hbx⟩
    clear rq
    replace sA := keepr hbx sA
    replace rA := keepr hbx rA
    replace sX := keepr hbx sX
    replace rX := keepr hbx rX
    replace sZ := keepr hbx sZ
    replace rZ := keepr hbx rZ
    replace B2 := bl_step B2 hbx
    clear hbx
    have cA0 := sf_len sA
    have cA1 := sf_ws sA
    have lA := sA.lt
    have cX0 := sf_len sX
    have cX1 := sf_ws sX
    have lX := sX.lt
    have cZ0 := sf_len sZ
    have cZ1 := sf_ws sZ
    have lZ := sZ.lt
    go_wp2_with fail
    refine (eq_same 16777216 (nw 16777216) A _ _ _ _ w10 (nw_bd (Nat.le_refl _)) (Rd.row rZ (lt_nw LG.out.lt)) (Rd.row rA (lt_nw LG.out.lt))).mono ?_
    rintro e w11 ⟨rfl, hbx⟩
    go_wp2_with fail
    go_ret
    exact ⟨rfl, bl_step B2 hbx⟩
end Go.Proofs.Ytddebfbjlpojlaa
