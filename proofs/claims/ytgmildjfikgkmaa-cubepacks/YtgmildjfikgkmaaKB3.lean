/- THE DOCUMENT'S OWN Pack. -/
import Derived.Test.YtgmildjfikgkmaaKB2
import Derived.Deep.RegionHeld3
namespace Go.Proofs.Ytgmildjfikgkmaa
open Go.RowKit Go.Shelf

/-- The words behind so many elements. -/
def qn (l : List Int) (C : Nat) : Nat → Nat
  | 0 => 0
  | i + 1 => qn l C i ||| (if 0 < ia l i then 2 ^ (64 * (i / C * nw C) + i % C) else 0)
theorem qn_bit (l : List Int) {C : Nat} (hC : 0 < C) (b : Nat) : ∀ i, (qn l C i).testBit b = (decide (b % (64 * nw C) < C) && (decide (b / (64 * nw C) * C + b % (64 * nw C) < i) && decide (0 < ia l (b / (64 * nw C) * C + b % (64 * nw C)))))
  | 0 => by simp [qn]
  | i + 1 => by
    have hd : 0 < 64 * nw C := by have : 0 < nw C := (by unfold nw; omega); omega
    have hCd := nw_le C
    have hmod := Nat.mod_lt i hC
    have hpos : 64 * (i / C * nw C) + i % C = b ↔ (b / (64 * nw C) = i / C ∧ b % (64 * nw C) = i % C) := by
      have e1 : 64 * (i / C * nw C) = 64 * nw C * (i / C) := by rw [Nat.mul_assoc, Nat.mul_comm (nw C)]
      constructor
      · rintro rfl
        have hlt : i % C < 64 * nw C := Nat.lt_of_lt_of_le hmod hCd
        rw [e1]
        constructor
        · rw [Nat.mul_add_div hd, Nat.div_eq_of_lt hlt, Nat.add_zero]
        · rw [Nat.mul_add_mod, Nat.mod_eq_of_lt hlt]
      · rintro ⟨h1, h2⟩
        have := Nat.div_add_mod b (64 * nw C)
        rw [h1, h2] at this
        omega
    have hidx : (b / (64 * nw C) = i / C ∧ b % (64 * nw C) = i % C) ↔ (b % (64 * nw C) < C ∧ b / (64 * nw C) * C + b % (64 * nw C) = i) := by
      generalize b / (64 * nw C) = q
      generalize b % (64 * nw C) = r
      constructor
      · rintro ⟨rfl, rfl⟩
        refine ⟨hmod, ?_⟩
        rw [Nat.mul_comm]; exact Nat.div_add_mod i C
      · rintro ⟨h1, rfl⟩
        rw [Nat.mul_comm q C]
        refine ⟨?_, ?_⟩
        · rw [Nat.mul_add_div hC, Nat.div_eq_of_lt h1, Nat.add_zero]
        · rw [Nat.mul_add_mod, Nat.mod_eq_of_lt h1]
    simp only [qn]
    rw [Nat.testBit_or, qn_bit l hC b i]
    generalize hq : b / (64 * nw C) * C + b % (64 * nw C) = e at *
    by_cases h0 : 0 < ia l i
    · rw [if_pos h0, Nat.testBit_two_pow]
      by_cases hb : 64 * (i / C * nw C) + i % C = b
      · obtain ⟨h1, h2⟩ := hidx.1 (hpos.1 hb)
        subst h2
        simp [hb, h1, h0]
      · have hne : ¬ (b % (64 * nw C) < C ∧ e = i) := fun k => hb (hpos.2 (hidx.2 k))
        by_cases h1 : b % (64 * nw C) < C
        · have h2 : ¬ e = i := fun k => hne ⟨h1, k⟩
          have : (e < i + 1) ↔ e < i := by omega
          simp [hb, h1, this]
        · simp [hb, h1]
    · rw [if_neg h0]
      by_cases h2 : e = i
      · subst h2; simp [h0]
      · have : (e < i + 1) ↔ e < i := by omega
        simp [this]
theorem qn_all (l : List Int) {C n : Nat} (hC : 0 < C) : qn l C (n * C) = js (64 * nw C) (sp l C) n := by
  have hd : 0 < 64 * nw C := by have : 0 < nw C := (by unfold nw; omega); omega
  refine Nat.eq_of_testBit_eq fun b => ?_
  rw [qn_bit l hC, js_bit hd n (fun i _ => Nat.lt_of_lt_of_le (sp_lt l C i) (pow_mono (nw_le C))), sp_bit]
  have hlt : b < n * (64 * nw C) ↔ b / (64 * nw C) < n := by rw [Nat.div_lt_iff_lt_mul hd]
  by_cases h1 : b % (64 * nw C) < C
  · have : (b / (64 * nw C) * C + b % (64 * nw C) < n * C) ↔ b < n * (64 * nw C) := by
      rw [hlt]
      generalize b / (64 * nw C) = q
      generalize b % (64 * nw C) = r at *
      constructor
      · intro h
        rcases Nat.lt_or_ge q n with k | k
        · exact k
        · have := Nat.mul_le_mul_right C k; omega
      · intro h
        have := Nat.mul_le_mul_right C h
        rw [Nat.succ_mul] at this
        omega
    simp [h1, this]
  · simp [h1]
set_option maxHeartbeats 1600000 in
set_option maxRecDepth 100000 in
theorem rempty_any (H V C : Nat) (w : World) (k : Sg.chk H V C = 0) (M : Nat) (hM : H * V * nw C = M) (hM2 : M ≤ 1073741824) :
    Calls Try.prog 46 #[Sg.shp H V C] w fun e w' => ∃ G, e = .returned (cuv H V C (some ⟨G, 0, none⟩) M M) ∧ w.heap.size ≤ G ∧ w'.rowIs G 75 M (wf 0) ∧ Below w.heap.size w w' := by
  obtain ⟨i0, hi, hz0, hz1, hz2⟩ := info_parts info_u64
  have HW := hid1 (Sg.rwords_any H V C)
  rw [k, woN_nat k, hM] at HW
  clear hM k
  have hmk : ∀ w, (Instr.makeSlice 24 (.int .i64 (M : Int)) (.int .i64 (M : Int))).run Try.prog w = .ok (.slice (some ⟨w.heap.size, 0, none⟩) M M) (w.alloc (.cells (madeCells #[.int .u64 0] M) 75)) := fun w => run_make_row 24 75 i0 (.int .u64 0) und_u64s hi hz0 hz1 rfl .i64 .i64 M (by rw [hz2]; omega) (by omega) w
  go_enter Try.func46, Try.ntmps46
  go_wp2_with fail
  refine gen_calls (fun W => W.heap.size = w.heap.size + 2 ∧ W.rowIs w.heap.size 31 3 (hf H V C) ∧ W.rowIs (w.heap.size + 1) 33 4 (cf 0 0 0 none 0 0) ∧ Below w.heap.size w W) ⟨by simp, (hf_new w _ _ _ _).alloc _, by have := cu_new (w.alloc (.cells #[.int .i64 H, .int .i64 V, .int .i64 C] 31)) 0 0 0 none 0 0 33; rwa [World.size_alloc] at this, bl_alloc (bl_alloc (Below.refl _ _) _) _⟩ ?_
  rintro W ⟨z0, q0, q1, B0⟩
  refine (HW.out W).mono ?_
  rintro e w1 ⟨rfl, hb⟩
  replace q0 := keepr hb q0
  replace q1 := keepr hb q1
  have B1 := bl_step B0 hb
  have z1 := hb.size
  clear hb B0 HW
  have e0 := hf0 q0
  have e1 := hf1 q0
  have e2 := hf2 q0
  have d0 := cf0 q1
  have d1 := cf1 q1
  have d2 := cf2 q1
  have d3 := cf3 q1
  have f0 := q1.frozen 0
  have f1 := q1.frozen 1
  have f2 := q1.frozen 2
  have f3 := q1.frozen 3
  have n0 : w.heap.size ≠ w1.heap.size := by omega
  have n1 : w.heap.size + 1 ≠ w1.heap.size := by omega
  have l0 := q0.lt
  have l1 := q1.lt
  have hfo := follows
  have HQ := hid1 q1
  have HB := hid1 B1
  clear q0 q1 B1
  go_wp2_with fail
  go_region_with (fail)
  all_goals go_wp2_with fail
  all_goals (
    have hc := ((cf_set HQ.out H V C (some ⟨w1.heap.size, 0, none⟩) M M).alloc (.cells (madeCells #[.int .u64 0] M) 75)).drew
    have m0 := cf0 hc
    have m1 := cf1 hc
    have m2 := cf2 hc
    have m3 := cf3 hc
    have hr := World.rowIs_made ((((w1.setCell ⟨w.heap.size + 1, 0, none⟩ (.int .i64 H)).setCell ⟨w.heap.size + 1, 1, none⟩ (.int .i64 V)).setCell ⟨w.heap.size + 1, 2, none⟩ (.int .i64 C)).setCell ⟨w.heap.size + 1, 3, none⟩ (.slice (some ⟨w1.heap.size, 0, none⟩) M M)) (.int .u64 0) M 75
    rw [World.size_setCell, World.size_setCell, World.size_setCell, World.size_setCell] at hr
    refine bodyPost_ret (v := cuv H V C (some ⟨w1.heap.size, 0, none⟩) M M) (by simp [results, Try.results46, go_sem, m0, m1, m2, m3]) rfl ⟨w1.heap.size, rfl, by omega, hr.drew.congr fun j _ => by simp [wf, wd_zero], (bl_alloc (bl_set (bl_set (bl_set (bl_set HB.out (by omega) _) (by omega) _) (by omega) _) (by omega) _) _).drew⟩)
end Go.Proofs.Ytgmildjfikgkmaa
