/- blank, set, bit of package dot. -/
import Derived.Test.YtlocmnaojebogaaDW2
namespace Go.Proofs.Ytlocmnaojebogaa
open Go.RowKit

theorem wd_set (M i k : Nat) : wd (M ||| 2 ^ i) k = if k = i / 64 then wd M k ||| 2 ^ (i % 64) else wd M k := by
  rw [wd_or, wd_bit1]
  by_cases e : k = i / 64
  · rw [if_pos e, if_pos e]
  · rw [if_neg e, if_neg e]; simp

set_option maxRecDepth 100000 in
theorem dblank_any (n : Nat) (h1 : n ≤ 16777216) (w : World) :
    Calls Try.prog 26 #[.int .i64 n] w fun e w' => ∃ g, e = .returned (rv n (some ⟨g, 0, none⟩) (nw n) (nw n)) ∧ w.heap.size ≤ g ∧ w'.rowIs g 98 (nw n) (wf 0) ∧ Below w.heap.size w w' := by
  obtain ⟨i0, hi, hz0, hz1, hz2⟩ := info_parts info_u64
  have hb := nw_bd h1
  have en : ((n : Int) + 63) / 64 = (nw n : Nat) := by unfold nw; omega
  go_enter Try.func26, Try.ntmps26
  go_wp2_with (refine wpList_make_row _ rfl _ _ 30 rfl 98 i0 (.int .u64 0) und_u64s hi hz0 hz1 rfl .i64 .i64 (nw n) (by rw [← en]; rfl) (by rw [← en]; rfl) (by rw [hz2]; omega) (by omega) ?_)
  refine bodyPost_ret (v := rv n (some ⟨w.heap.size + 1, 0, none⟩) (nw n) (nw n)) (by simp [results, Try.results26, go_sem]) rfl ⟨w.heap.size + 1, rfl, by omega, ?_, ?_⟩
  · have h := World.rowIs_made (w.alloc (.cells #[.int .i64 n, .slice (some ⟨w.heap.size + 1, 0, none⟩) (nw n) (nw n)] 32)) (.int .u64 0) (nw n) 98
    have e : (w.alloc (.cells #[.int .i64 n, .slice (some ⟨w.heap.size + 1, 0, none⟩) (nw n) (nw n)] 32)).heap.size = w.heap.size + 1 := by simp
    rw [e] at h
    exact h.congr fun k _ => by simp [wf, wd_zero]
  · exact bl_alloc (bl_alloc (Below.refl _ _) _) _

set_option maxHeartbeats 800000 in
set_option maxRecDepth 100000 in
theorem set_any (n M g cap i : Nat) (w : World) (h1 : n ≤ 16777216) (hi : i < n) (h : w.rowIs g 98 (nw n) (wf M)) :
    Calls Try.prog 27 #[rv n (some ⟨g, 0, none⟩) (nw n) cap, .int .i64 i] w fun e w' => e = .returned (.tuple #[]) ∧ w'.rowIs g 98 (nw n) (wf (M ||| 2 ^ i)) ∧ But g w w' := by
  have hb := nw_bd h1
  obtain ⟨q, hq⟩ : ∃ q : Nat, i / 64 = q := ⟨_, rfl⟩
  obtain ⟨r, hr⟩ : ∃ r : Nat, i % 64 = r := ⟨_, rfl⟩
  have eq : (i : Int) / 64 = (q : Int) := by omega
  have er : (i : Int) % 64 = (r : Int) := by omega
  have er' : (i : Int).tmod 64 = (r : Int) := by rw [Int.tmod_eq_emod_of_nonneg (by omega)]; exact er
  have q1 : q < nw n := by unfold nw; omega
  have iq0 : (0 : Int) ≤ (q : Int) := by omega
  have iq1 : (q : Int) < (nw n : Nat) := by omega
  have ir0 : (0 : Int) ≤ (r : Int) := by omega
  have ir1 : (r : Int) ≤ 63 := by omega
  have wq : IntKind.i64.wrap (q : Int) = q := by rw [IntKind.wrap_i64]; omega
  have cw := h.cell q1
  have fw := h.frozen q
  have hg := h.lt
  unfold wf at cw
  have hx := wd_lt M q
  have H64 : (2 : Nat) ^ r < 18446744073709551616 := by rw [two64]; exact Nat.pow_lt_pow_right (by decide) (by omega)
  have HO : Hid (bits .or .u64 (wd M q : Nat) (IntKind.u64.wrap (2 ^ r)) = ((wd M q ||| 2 ^ r : Nat) : Int)) := by
    have e : IntKind.u64.wrap (2 ^ r) = ((2 ^ r : Nat) : Int) := by
      rw [show ((2 : Int) ^ r) = ((2 ^ r : Nat) : Int) by simp, IntKind.wrap_u64]
      generalize 2 ^ r = y at *; omega
    rw [e]; exact or_u64 _ _ hx H64
  have HP := hid1 (wd_set M i)
  rw [hq, hr] at HP
  have HR := hid1 h
  have i0 : (0 : Int) ≤ (i : Int) := by omega
  have i1 : (i : Int) < 16777216 := by omega
  clear h hx H64 hq hr
  go_enter Try.func27, Try.ntmps27
  go_wp2_with fail
  refine gen_world (fun W' => Below w.heap.size w W' ∧ W'.cell? ⟨w.heap.size, 1, none⟩ = some (.slice (some ⟨g, 0, none⟩) (nw n) cap)) ⟨bl_alloc (Below.refl _ _) _, new1 _ _ _ _⟩ ?_
  rintro W ⟨B, c1⟩
  replace fw := keepf B hg fw
  replace cw := keepc B cw
  refine still_tail 11 (by decide +kernel) ?_
  simp only [List.take_succ_cons, List.take_zero, List.drop_succ_cons, List.drop_zero]
  repeat still_step
  refine wpStill_nil ?_
  go_wp2
  refine bodyPost_end (v := .tuple #[]) (by simp [results, go_sem]) rfl ?_
  refine ⟨rfl, ((keepr B HR.out).set q _).congr fun k hk => ?_, ((But.of_below B).set _).drewN 1⟩
  simp only [wf]
  rw [HP.out k]
  by_cases e : k = q
  · subst e
    rw [if_pos rfl, if_pos rfl, HO.out]
  · rw [if_neg e, if_neg e]

theorem ret_i8 {a b : Int} (h : a = b) : Ending.returned (.int .i8 a) = .returned (.int .i8 b) := by rw [h]
end Go.Proofs.Ytlocmnaojebogaa
