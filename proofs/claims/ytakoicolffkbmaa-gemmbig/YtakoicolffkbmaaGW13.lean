/- GemmBig. -/
import Derived.Test.YtakoicolffkbmaaGW12
namespace Go.Proofs.Ytakoicolffkbmaa
open Go.RowKit

theorem info_row : (Try.prog.info? 28).map (fun i => (i.zero, i.size, i.bytes)) = some (some (.agg #[.int .i64 0, .slice none 0 0, .int .i64 0, .slice none 0 0]), 4, 64) := by kernel_rfl
theorem und_rows : Try.prog.underlying 23 = some (.slice 28) := by kernel_rfl
/-- The cells of rows that are nothing. -/
def zr (k : Nat) : Value := if k % 2 = 0 then .int .i64 0 else .slice none 0 0
theorem make_rows (n : Nat) (hn : n ≤ 1048576) (w : World) : ∃ w', (Instr.makeSlice 23 (.int .i64 (n : Int)) (.int .i64 (n : Int))).run Try.prog w = .ok (.slice (some ⟨w.heap.size, 0, none⟩) n n) w' ∧ Below w.heap.size w w' ∧ w'.rowIs w.heap.size 28 (n * 4) zr := by
  obtain ⟨i0, hi, hz0, hz1, hz2⟩ := info_parts info_row
  obtain ⟨w', h1, h2, h3⟩ := run_make_full (P := Try.prog) w w.heap.size 23 28 i0 _ 4 und_rows hi hz0 hz1 .i64 .i64 n (by rw [hz2]; omega) (by unfold maxLen; omega) (Nat.le_refl _)
  refine ⟨w', h1, ⟨h3.os, h3.tape, h3.output, h3.size, fun k hk => h3.block k hk (by simp)⟩, ?_⟩
  rcases h2.2 with ⟨h, _⟩ | ⟨g, cap, cur, h, _, hg, _, _, hs, ht⟩
  · cases h
  · injection h with h h'  h''
    injection h with h
    injection h with h
    subst h h''
    have hcur : cur = madeCells (Value.agg #[.int .i64 0, .slice none 0 0, .int .i64 0, .slice none 0 0]).cells (n * 4) := by
      apply Array.ext'
      rw [← ht, List.take_of_length_le (by simp [hs])]
    refine ⟨cur, hg, hs, fun k hk => ?_⟩
    have e : (Value.agg #[.int .i64 0, .slice none 0 0, .int .i64 0, .slice none 0 0]).cells = #[.int .i64 0, .slice none 0 0, .int .i64 0, .slice none 0 0] := by simp [Value.cells]
    rw [hcur, e]
    have hk' : k < n * 4 := hk
    simp only [madeCells, Array.getElem?_map, Array.getElem?_range, hk', if_true, Option.map_some]
    congr 1
    unfold zr
    rcases (show k % 4 = 0 ∨ k % 4 = 1 ∨ k % 4 = 2 ∨ k % 4 = 3 by omega) with h | h | h | h
    · rw [if_pos (by omega)]; simp [h]
    · rw [if_neg (by omega)]; simp [h]
    · rw [if_pos (by omega)]; simp [h]
    · rw [if_neg (by omega)]; simp [h]
abbrev zb : Bt × Bt := (⟨0, none, 0, 0, 0⟩, ⟨-1, none, 0, 0, 0⟩)
/-- n rows that are nothing; n columns, the one with the number 5 of a Len below 0. -/
def rl (n : Nat) : List (Bt × Bt) := (List.range n).map fun _ => z0
def cl (n : Nat) : List (Bt × Bt) := (List.range n).map fun i => if i = 5 then zb else z0
theorem rl_len (n : Nat) : (rl n).length = n := by simp [rl]
theorem cl_len (n : Nat) : (cl n).length = n := by simp [cl]
theorem rw_nil (w : World) (x : Int) : Rw w ⟨x, none, 0, 0, 0⟩ := ⟨by simp, by simp, fun k hk => absurd hk (by simp)⟩
theorem lq_rl {w : World} {g n : Nat} (h : w.rowIs g 28 (n * 4) zr) : Lq w (some ⟨g, 0, none⟩) (rl n) := fun i hi => by
  have hi' : i < n := by rw [rl_len] at hi; exact hi
  have e : (rl n)[i] = z0 := by simp [rl]
  rw [e]
  refine ⟨⟨g, 0, rfl, ?_, ?_, ?_, ?_⟩, rw_nil _ _, rw_nil _ _⟩
  · have := h.cell (i := 0 + i * 4) (by omega); rw [this]; unfold zr; rw [if_pos (by omega)]
  · have := h.cell (i := 0 + i * 4 + 1) (by omega); rw [this]; unfold zr; rw [if_neg (by omega)]
  · have := h.cell (i := 0 + i * 4 + 2) (by omega); rw [this]; unfold zr; rw [if_pos (by omega)]
  · have := h.cell (i := 0 + i * 4 + 3) (by omega); rw [this]; unfold zr; rw [if_neg (by omega)]
theorem lq_cl {w : World} {g n N : Nat} (h : w.rowIs g 28 (N * 4) (fun k => if k = 22 then .int .i64 (-1) else zr k)) (hn : n ≤ N) : Lq w (some ⟨g, 0, none⟩) (cl n) := fun i hi => by
  have hi' : i < n := by rw [cl_len] at hi; exact hi
  have e : (cl n)[i] = if i = 5 then zb else z0 := by simp [cl]
  rw [e]
  have c0 := h.cell (i := 0 + i * 4) (by omega)
  have c1 := h.cell (i := 0 + i * 4 + 1) (by omega)
  have c2 := h.cell (i := 0 + i * 4 + 2) (by omega)
  have c3 := h.cell (i := 0 + i * 4 + 3) (by omega)
  unfold zr at c0 c1 c2 c3
  rw [if_neg (by omega), if_pos (by omega)] at c0
  rw [if_neg (by omega), if_neg (by omega)] at c1
  rw [if_neg (by omega), if_neg (by omega)] at c3
  by_cases h5 : i = 5
  · rw [if_pos (by omega)] at c2
    rw [if_pos h5]
    exact ⟨⟨g, 0, rfl, c0, c1, c2, c3⟩, rw_nil _ _, rw_nil _ _⟩
  · rw [if_neg (by omega), if_pos (by omega)] at c2
    rw [if_neg h5]
    exact ⟨⟨g, 0, rfl, c0, c1, c2, c3⟩, rw_nil _ _, rw_nil _ _⟩
theorem dck_z0 : dck z0.1 z0.2 = 0 := by decide +kernel
theorem dck_zb : dck zb.1 zb.2 = 20 := by decide +kernel
theorem od_rl (n : Nat) : od 0 (rl n) = 0 := od_all fun x hx => by
  simp [rl] at hx
  obtain ⟨_, rfl⟩ := hx
  exact ⟨dck_z0, rfl⟩
theorem od_few {n : Nat} (h : n ≤ 5) : od 0 (cl n) = 0 := od_all fun x hx => by
  simp [cl] at hx
  obtain ⟨a, ha, rfl⟩ := hx
  rw [if_neg (by omega)]
  exact ⟨dck_z0, rfl⟩
theorem od_skip {n : Int} {l : List (Bt × Bt)} : ∀ k, (h : k < l.length) → (∀ i (hi : i < k), dck (l[i]'(by omega)).1 (l[i]'(by omega)).2 = 0 ∧ (l[i]'(by omega)).2.n = n) → od n l = od n (l.drop k)
  | 0, _, _ => by simp
  | k + 1, h, hh => by
    rw [od_skip k (by omega) (fun i hi => hh i (by omega)), od_step (by omega), if_pos (hh k (by omega)).1, if_pos (hh k (by omega)).2]
theorem od_cl {n : Nat} (h : 5 < n) : od 0 (cl n) = 20 := by
  have hl : 5 < (cl n).length := by rw [cl_len]; exact h
  rw [od_skip 5 hl (fun i hi => by
    have e : (cl n)[i]'(by omega) = z0 := by simp [cl]; omega
    rw [e]; exact ⟨dck_z0, rfl⟩), od_step hl]
  have e : (cl n)[5] = zb := by simp [cl]
  rw [e, dck_zb]
  rfl
theorem fi_rl (n : Nat) (m : List (Bt × Bt)) (h : 0 < n) : fiL (rl n) m = 0 := by
  cases e : rl n with
  | nil => have := rl_len n; rw [e] at this; simp at this; omega
  | cons x r =>
    have hx : x ∈ rl n := by rw [e]; simp
    simp [rl] at hx
    obtain ⟨_, rfl⟩ := hx
    rfl
theorem gE_big : gE (rl 4096) (cl 4097) = 31 := by
  unfold gE; rw [rl_len, cl_len, if_pos (by omega)]
theorem gE_few : gE (rl 4096) (cl 5) = 0 := by
  unfold gE; rw [rl_len, cl_len, if_neg (by omega), fi_rl _ _ (by omega), if_pos (od_rl _), od_few (by omega)]
theorem gE_odd : gE (rl 4096) (cl 4096) = 20 := by
  unfold gE; rw [rl_len, cl_len, if_neg (by omega), fi_rl _ _ (by omega), if_pos (od_rl _), od_cl (by omega)]
set_option maxHeartbeats 1600000 in
set_option maxRecDepth 100000 in
theorem gemmBig_any (x : Int) (w : World) : Calls Try.prog 3 #[.int .i64 x] w fun e w' => e = .returned (.bool true) ∧ Below w.heap.size w w' := by
  by_cases h50 : x.tmod 50 = 0
  · have hx1 : (x.tmod 50 == 0) = true := by simpa using h50
    go_enter Try.func3, Try.ntmps3
    go_wp2_with fail
    refine (gbegun_any w).mono ?_
    rintro e w1 ⟨rfl, B1⟩
    obtain ⟨w2, mk2, b2, r2⟩ := make_rows 4096 (by omega) w1
    obtain ⟨w3, mk3, b3, r3⟩ := make_rows 4097 (by omega) w2
    have mk2' : (Instr.makeSlice 23 (.int .i64 4096) (.int .i64 4096)).run Try.prog w1 = .ok (.slice (some ⟨w1.heap.size, 0, none⟩) 4096 4096) w2 := mk2
    have mk3' : (Instr.makeSlice 23 (.int .i64 4097) (.int .i64 4097)).run Try.prog w2 = .ok (.slice (some ⟨w2.heap.size, 0, none⟩) 4097 4097) w3 := mk3
    clear mk2 mk3
    have hne : w1.heap.size ≠ w2.heap.size := by have := r2.lt; omega
    have r23 := keepr b3 r2
    have c22 := r3.cell (i := 22) (by omega)
    have f22 := r3.frozen 22
    have R2 := hid1 (r23.setOther (a := ⟨w2.heap.size, 22, none⟩) hne (.int .i64 (-1)))
    have R3 := hid1 (r3.set 22 (.int .i64 (-1)))
    have B3 := hid1 (bl_set (b := w2.heap.size) (o := 22) (bl_step (bl_step B1 b2) b3) (Nat.le_trans B1.size b2.size) (.int .i64 (-1)))
    clear r2 r23 r3 b2 b3 hne
    go_wp2_with fail
    refine gen_calls (fun X => Below w.heap.size w X ∧ Lq X (some ⟨w1.heap.size, 0, none⟩) (rl 4096) ∧ ∀ n, n ≤ 4097 → Lq X (some ⟨w2.heap.size, 0, none⟩) (cl n)) ⟨B3.out, lq_rl R2.out, fun n hn => lq_cl R3.out hn⟩ ?_
    rintro W ⟨B0, hL, hM⟩
    clear R2 R3 B3 c22 f22 mk2' mk3' B1
    generalize w1.heap.size = p at *
    generalize w2.heap.size = q at *
    have HLL := hid1 hL
    have HMM := hid1 hM
    clear hL hM
    have C1 : Hid (∀ X, Below W.heap.size W X → Calls Try.prog 9 #[.slice (some ⟨p, 0, none⟩) 4096 4096, .slice (some ⟨q, 0, none⟩) 4097 4097] X fun e w' => e = .returned (.tuple #[.slice none 0 0, .int .i64 31]) ∧ Below X.heap.size X w') := fun X hX => by
      have h := plain_bad (rl 4096) (cl 4097) (some ⟨p, 0, none⟩) (some ⟨q, 0, none⟩) 4096 4097 X (HLL.out.below hX) ((HMM.out 4097 (by omega)).below hX) (by rw [rl_len]; omega) (by rw [cl_len]; omega) (by rw [gE_big]; omega)
      rw [rl_len, cl_len, gE_big] at h
      exact h
    have C2 : Hid (∀ X, Below W.heap.size W X → Calls Try.prog 10 #[.slice (some ⟨p, 0, none⟩) 4096 4096, .slice (some ⟨q, 0, none⟩) 4097 4097, .int .i64 1, .int .i64 1] X fun e w' => e = .returned (.tuple #[.slice none 0 0, .int .i64 31]) ∧ Below X.heap.size X w') := fun X hX => by
      have h := block_bad (rl 4096) (cl 4097) (some ⟨p, 0, none⟩) (some ⟨q, 0, none⟩) 4096 4097 1 1 X (HLL.out.below hX) ((HMM.out 4097 (by omega)).below hX) (by rw [rl_len]; omega) (by rw [cl_len]; omega) (by rw [gE_big]; omega) (by omega) (by omega)
      rw [rl_len, cl_len, gE_big] at h
      exact h
    have C3 : Hid (∀ X, Below W.heap.size W X → Calls Try.prog 11 #[.slice (some ⟨p, 0, none⟩) 4096 4096, .slice (some ⟨q, 0, none⟩) 4097 4097, .int .i64 1] X fun e w' => e = .returned (.tuple #[.slice none 0 0, .int .i64 31]) ∧ Below X.heap.size X w') := fun X hX => by
      have h := strip_bad (rl 4096) (cl 4097) (some ⟨p, 0, none⟩) (some ⟨q, 0, none⟩) 4096 4097 1 X (HLL.out.below hX) ((HMM.out 4097 (by omega)).below hX) (by rw [rl_len]; omega) (by rw [cl_len]; omega) (by rw [gE_big]; omega) (by omega)
      rw [rl_len, cl_len, gE_big] at h
      exact h
    have C4 : Hid (∀ X, Below W.heap.size W X → Calls Try.prog 10 #[.slice (some ⟨p, 0, none⟩) 4096 4096, .slice (some ⟨q, 0, none⟩) 5 4097, .int .i64 64, .int .i64 64] X fun e w' => (∃ G, e = .returned (.tuple #[.slice (some ⟨G, 0, none⟩) 4096 4096, .int .i64 0])) ∧ Below X.heap.size X w') := fun X hX => by
      have h := block_ok (rl 4096) (cl 5) (some ⟨p, 0, none⟩) (some ⟨q, 0, none⟩) 4096 4097 64 64 X (HLL.out.below hX) ((HMM.out 5 (by omega)).below hX) (by rw [rl_len]; omega) (by rw [cl_len]; omega) (by rw [cl_len]; omega) gE_few (by omega) (by omega) (by omega) (by omega)
      rw [rl_len, cl_len] at h
      refine h.mono ?_
      rintro e w' ⟨G, bb, rfl, _, hb⟩
      exact ⟨⟨G, rfl⟩, hb⟩
    have C5 : Hid (∀ X, Below W.heap.size W X → Calls Try.prog 9 #[.slice (some ⟨p, 0, none⟩) 4096 4096, .slice (some ⟨q, 0, none⟩) 4096 4097] X fun e w' => e = .returned (.tuple #[.slice none 0 0, .int .i64 20]) ∧ Below X.heap.size X w') := fun X hX => by
      have h := plain_bad (rl 4096) (cl 4096) (some ⟨p, 0, none⟩) (some ⟨q, 0, none⟩) 4096 4097 X (HLL.out.below hX) ((HMM.out 4096 (by omega)).below hX) (by rw [rl_len]; omega) (by rw [cl_len]; omega) (by rw [gE_odd]; omega)
      rw [rl_len, cl_len, gE_odd] at h
      exact h
    clear HLL HMM
    refine (C1.out W (Below.refl _ _)).mono ?_
    rintro e w4 ⟨rfl, b4⟩
    go_wp2_with fail
    refine (C2.out w4 b4).mono ?_
    rintro e w5 ⟨rfl, b5⟩
    replace b5 := bl_step b4 b5
    go_wp2_with fail
    refine (C3.out w5 b5).mono ?_
    rintro e w6 ⟨rfl, b6⟩
    replace b6 := bl_step b5 b6
    go_wp2_with fail
    refine (C4.out w6 b6).mono ?_
    rintro e w7 ⟨⟨G, rfl⟩, b7⟩
    replace b7 := bl_step b6 b7
    go_wp2_with fail
    refine (C5.out w7 b7).mono ?_
    rintro e w8 ⟨rfl, b8⟩
    replace b8 := bl_step b7 b8
    go_wp2_with fail
    go_ret
    exact ⟨rfl, bl_step B0 b8⟩
  · have hx1 : (x.tmod 50 != 0) = true := by simpa using h50
    go_enter Try.func3, Try.ntmps3
    go_wp2_with fail
    refine (gbegun_any w).mono ?_
    rintro e w1 ⟨rfl, B1⟩
    go_wp2_with fail
    go_ret
    exact ⟨rfl, B1⟩
end Go.Proofs.Ytakoicolffkbmaa
