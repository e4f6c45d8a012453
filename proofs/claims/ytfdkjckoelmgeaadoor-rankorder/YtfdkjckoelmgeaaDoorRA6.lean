/- PACKAGE rank: Add. -/
import Derived.Test.YtfdkjckoelmgeaaDoorRA5
namespace Go.Proofs.YtfdkjckoelmgeaaDoor
open Go.RowKit

/-- Add's error. -/
def aE (T : List (List Int)) (r t : Int) : Int := if (cnt T).isSome = true ∧ (0 ≤ r ∧ r < (T.length : Int)) ∧ (0 ≤ t ∧ t < (T.length : Int)) then (if cV T = 4611686018427387904 then 4 else 0) else 1
theorem cV_bd (T : List (List Int)) : 0 ≤ cV T ∧ cV T ≤ 4611686018427387904 := by
  unfold cV
  cases h : cnt T with
  | none => simp
  | some b => obtain ⟨_, _, _, _, h5, h6⟩ := cnt_some h; exact ⟨h6, h5⟩
theorem cE_one {T : List (List Int)} (h : ¬ (cnt T).isSome = true) : cE T = 1 := by unfold cE; rw [if_neg h]
theorem cE_zero {T : List (List Int)} (h : (cnt T).isSome = true) : cE T = 0 := by unfold cE; rw [if_pos h]
set_option maxHeartbeats 1600000 in
set_option maxRecDepth 100000 in
theorem add_bad (ao : Option Addr) (T : List (List Int)) (cap : Nat) (r t : Int) (w : World) (h2 : T.length ≤ 9223372036854775807) (hr : ∀ r ∈ T, r.length ≤ 9223372036854775807) (h : Tn w ao T) (hb : aE T r t ≠ 0) :
    Calls Tryd.prog 13 #[tbv ao T.length cap, .int .i64 r, .int .i64 t] w fun e w' => e = .returned (.tuple #[tbv none 0 0, .int .i64 (aE T r t)]) ∧ Below w.heap.size w w' := by
  have CC : Hid (∀ X, Below w.heap.size w X → Calls Tryd.prog 27 #[tbv ao T.length cap] X fun e w' => e = .returned (.tuple #[.int .i64 (cV T), .int .i64 (cE T)]) ∧ Below X.heap.size X w') := fun X hX => count_any ao T cap X h2 hr (h.below hX)
  have IO := fun x X => isOut_any ao T.length cap x X
  clear h hr
  have hEE : aE T r t = aE T r t := rfl
  conv at hEE => rhs; unfold aE
  by_cases hs : (cnt T).isSome = true
  · rw [cE_zero hs] at CC
    by_cases h3 : 0 ≤ r ∧ r < (T.length : Int)
    · by_cases h4 : 0 ≤ t ∧ t < (T.length : Int)
      · rw [if_pos ⟨hs, h3, h4⟩] at hEE
        by_cases h5 : cV T = 4611686018427387904
        · rw [if_pos h5] at hEE
          rw [h5] at CC
          rw [hEE]
          have e3 := decide_eq_true h3
          have e4 := decide_eq_true h4
          clear hEE hb hs h5
          generalize T.length = n at *
          go_enter Tryd.func13, Tryd.ntmps13
          go_wp2_with (first
            | (go_at_call 27; refine (CC.out _ (bl_alloc (bl_alloc (Below.refl _ _) _) _)).mono ?_; rintro e w1 ⟨rfl, hb1⟩; have b0 := keepc hb1 (b := w.heap.size) (o := 0) (v := .slice ao n cap) (by simp [go_sem]); have b1 := keepc hb1 (b := w.heap.size + 1) (o := 0) (v := .slice none 0 0) (by simp [go_sem]); have f1 : w1.frozen? ⟨w.heap.size + 1, 0, none⟩ = false := (hb1.frozen (p := ⟨w.heap.size + 1, 0, none⟩) (by simp)).trans (by simp [go_sem]); have z1 : w.heap.size + 1 < w1.heap.size := (by have := hb1.size; simp at this; omega); have z0 : w.heap.size < w1.heap.size := (by omega); have z2 : w.heap.size + 1 < w1.heap.size + 1 := (by omega); have B1 : Below w.heap.size w w1 := bl_step (bl_alloc (bl_alloc (Below.refl _ _) _) _) hb1; clear hb1)
            | (go_at_call 28; refine (IO _ _).mono ?_; rintro e w' ⟨rfl, rfl⟩))
          refine bodyPost_ret (v := .tuple #[tbv none 0 0, .int .i64 4]) (by simp [results, Tryd.results13, go_sem, b1, z1, z2]) rfl ⟨rfl, ?_⟩
          repeat (first | exact B1 | (with_reducible refine bl_alloc ?_ _) | (with_reducible refine bl_set ?_ (by omega) _))
        · rw [if_neg h5] at hEE
          exact absurd hEE hb
      · rw [if_neg (fun h => h4 h.2.2)] at hEE
        rw [hEE]
        have e3 := decide_eq_true h3
        have e4 := decide_eq_false h4
        generalize cV T = V at *
        clear hEE hb hs h4
        generalize T.length = n at *
        go_enter Tryd.func13, Tryd.ntmps13
        go_wp2_with (first
          | (go_at_call 27; refine (CC.out _ (bl_alloc (bl_alloc (Below.refl _ _) _) _)).mono ?_; rintro e w1 ⟨rfl, hb1⟩; have b0 := keepc hb1 (b := w.heap.size) (o := 0) (v := .slice ao n cap) (by simp [go_sem]); have b1 := keepc hb1 (b := w.heap.size + 1) (o := 0) (v := .slice none 0 0) (by simp [go_sem]); have f1 : w1.frozen? ⟨w.heap.size + 1, 0, none⟩ = false := (hb1.frozen (p := ⟨w.heap.size + 1, 0, none⟩) (by simp)).trans (by simp [go_sem]); have z1 : w.heap.size + 1 < w1.heap.size := (by have := hb1.size; simp at this; omega); have z0 : w.heap.size < w1.heap.size := (by omega); have z2 : w.heap.size + 1 < w1.heap.size + 1 := (by omega); have B1 : Below w.heap.size w w1 := bl_step (bl_alloc (bl_alloc (Below.refl _ _) _) _) hb1; clear hb1)
          | (go_at_call 28; refine (IO _ _).mono ?_; rintro e w' ⟨rfl, rfl⟩))
        refine bodyPost_ret (v := .tuple #[tbv none 0 0, .int .i64 1]) (by simp [results, Tryd.results13, go_sem, b1, z1, z2]) rfl ⟨rfl, ?_⟩
        repeat (first | exact B1 | (with_reducible refine bl_alloc ?_ _) | (with_reducible refine bl_set ?_ (by omega) _))
    · rw [if_neg (fun h => h3 h.2.1)] at hEE
      rw [hEE]
      have e3 := decide_eq_false h3
      generalize cV T = V at *
      clear hEE hb hs h3
      generalize T.length = n at *
      go_enter Tryd.func13, Tryd.ntmps13
      go_wp2_with (first
        | (go_at_call 27; refine (CC.out _ (bl_alloc (bl_alloc (Below.refl _ _) _) _)).mono ?_; rintro e w1 ⟨rfl, hb1⟩; have b0 := keepc hb1 (b := w.heap.size) (o := 0) (v := .slice ao n cap) (by simp [go_sem]); have b1 := keepc hb1 (b := w.heap.size + 1) (o := 0) (v := .slice none 0 0) (by simp [go_sem]); have f1 : w1.frozen? ⟨w.heap.size + 1, 0, none⟩ = false := (hb1.frozen (p := ⟨w.heap.size + 1, 0, none⟩) (by simp)).trans (by simp [go_sem]); have z1 : w.heap.size + 1 < w1.heap.size := (by have := hb1.size; simp at this; omega); have z0 : w.heap.size < w1.heap.size := (by omega); have z2 : w.heap.size + 1 < w1.heap.size + 1 := (by omega); have B1 : Below w.heap.size w w1 := bl_step (bl_alloc (bl_alloc (Below.refl _ _) _) _) hb1; clear hb1)
        | (go_at_call 28; refine (IO _ _).mono ?_; rintro e w' ⟨rfl, rfl⟩))
      refine bodyPost_ret (v := .tuple #[tbv none 0 0, .int .i64 1]) (by simp [results, Tryd.results13, go_sem, b1, z1]) rfl ⟨rfl, ?_⟩
      repeat (first | exact B1 | (with_reducible refine bl_alloc ?_ _) | (with_reducible refine bl_set ?_ (by omega) _))
  · rw [if_neg (fun h => hs h.1)] at hEE
    rw [cE_one hs] at CC
    rw [hEE]
    generalize cV T = V at *
    clear hEE hb hs
    generalize T.length = n at *
    go_enter Tryd.func13, Tryd.ntmps13
    go_wp2_with (first
      | (go_at_call 27; refine (CC.out _ (bl_alloc (bl_alloc (Below.refl _ _) _) _)).mono ?_; rintro e w1 ⟨rfl, hb1⟩; have b0 := keepc hb1 (b := w.heap.size) (o := 0) (v := .slice ao n cap) (by simp [go_sem]); have b1 := keepc hb1 (b := w.heap.size + 1) (o := 0) (v := .slice none 0 0) (by simp [go_sem]); have f1 : w1.frozen? ⟨w.heap.size + 1, 0, none⟩ = false := (hb1.frozen (p := ⟨w.heap.size + 1, 0, none⟩) (by simp)).trans (by simp [go_sem]); have z1 : w.heap.size + 1 < w1.heap.size := (by have := hb1.size; simp at this; omega); have z0 : w.heap.size < w1.heap.size := (by omega); have z2 : w.heap.size + 1 < w1.heap.size + 1 := (by omega); have B1 : Below w.heap.size w w1 := bl_step (bl_alloc (bl_alloc (Below.refl _ _) _) _) hb1; clear hb1)
      | (go_at_call 28; refine (IO _ _).mono ?_; rintro e w' ⟨rfl, rfl⟩))
    refine bodyPost_ret (v := .tuple #[tbv none 0 0, .int .i64 1]) (by simp [results, Tryd.results13, go_sem, b1]) rfl ⟨rfl, ?_⟩
    repeat (first | exact B1 | (with_reducible refine bl_alloc ?_ _) | (with_reducible refine bl_set ?_ (by omega) _))
end Go.Proofs.YtfdkjckoelmgeaaDoor
