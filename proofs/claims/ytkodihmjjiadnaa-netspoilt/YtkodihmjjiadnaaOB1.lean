/- bound: rows counted by bits; reaches. -/
import Derived.Test.YtkodihmjjiadnaaDW7
import Derived.Deep.RegionHeld3
import Derived.Deep.DeepCutAuto
namespace Go.Proofs.Ytkodihmjjiadnaa
open Go.RowKit

theorem pcO_bd {N k n : Nat} (h : k ≤ n) : pc N (64 * k) ≤ 64 * n := Nat.le_trans (pc_le _ _) (by omega)
set_option maxHeartbeats 1600000 in
set_option maxRecDepth 100000 in
theorem bones_any (ao : Option Addr) (m cap N : Nat) (w : World) (hm : m ≤ 262144) (h : ∀ k, k < m → ∃ g o, ao = some ⟨g, o, none⟩ ∧ w.cell? ⟨g, o + k, none⟩ = some (wf N k)) :
    Calls Try.prog 78 #[.slice ao m cap] w fun e w' => e = .returned (.int .i64 (pc N (64 * m) : Nat)) ∧ w' = w := by
  have HR := hid1 h
  clear h
  go_enter Try.func78, Try.ntmps78
  go_wp2_with fail
  go_loop [3, 8] (fun s i => ∃ k : Nat, k ≤ m ∧ i = .int .i64 k ∧ s = .int .i64 (pc N (64 * k) : Nat)) (fun _ i => m - (intOf i).toNat)
  case atStart => exact ⟨0, Nat.zero_le _, rfl, rfl⟩
  case round =>
    obtain ⟨k, hk, rfl, rfl⟩ := hrel
    by_cases hlt : k < m
    · obtain ⟨g, o, rfl, c8⟩ := HR.out k hlt
      unfold wf at c8
      have ik : (k : Int) < (m : Nat) := by omega
      have ik0 : (0 : Int) ≤ (k : Int) := by omega
      have p1 := pcO_bd (N := N) hk
      have p2 := pc_le (wd N k) 64
      have HW := hid1 (pc_words N k)
      have HO := hid1 (ones_any (wd N k) (wd_lt N k))
      generalize pc N (64 * k) = P at *
      generalize pc (wd N k) 64 = q at *
      have ip0 : (0 : Int) ≤ (P : Int) := by omega
      have ip1 : (P : Int) ≤ 16777216 := by omega
      have iq0 : (0 : Int) ≤ (q : Int) := by omega
      have iq1 : (q : Int) ≤ 64 := by omega
      go_wp2_with fail
      refine (HO.out _).mono ?_
      rintro e w2 ⟨rfl, rfl⟩
      go_wp2_with fail
      exact ⟨⟨k + 1, by omega, by go_num, by rw [HW.out]; go_num⟩, by simp [intOf]; omega⟩
    · have hkN : k = m := by omega
      subst hkN
      go_wp2_with fail
      go_ret
      exact ⟨rfl, rfl⟩

abbrev duo (a b : Int) : Value := .agg #[.int .i64 a, .int .i64 b]
/-- Two numbers' cells. -/
def duf (a b : Int) : Nat → Value := fun k => if k = 0 then .int .i64 a else .int .i64 b
theorem du_new (w : World) (a b : Int) (t : TypeId) : (w.alloc (.cells #[.int .i64 a, .int .i64 b] t)).rowIs w.heap.size t 2 (duf a b) :=
  World.rowIs_alloc w _ t _ (fun i hi => by
    rcases i with _ | _ | i
    · rfl
    · rfl
    · simp at hi; omega)
theorem du0 {w : World} {b t : Nat} {x y : Int} (h : w.rowIs b t 2 (duf x y)) : w.cell? ⟨b, 0, none⟩ = some (.int .i64 x) := h.cell (by omega)
theorem du1 {w : World} {b t : Nat} {x y : Int} (h : w.rowIs b t 2 (duf x y)) : w.cell? ⟨b, 1, none⟩ = some (.int .i64 y) := h.cell (by omega)

set_option maxHeartbeats 800000 in
set_option maxRecDepth 100000 in
theorem times_any (p q lo hi : Int) (w : World) (h1 : -36028797018963968 ≤ p * lo ∧ p * lo ≤ 36028797018963968) (h2 : -36028797018963968 ≤ q * hi ∧ q * hi ≤ 36028797018963968) (h3 : -36028797018963968 ≤ p * hi ∧ p * hi ≤ 36028797018963968) (h4 : -36028797018963968 ≤ q * lo ∧ q * lo ≤ 36028797018963968) :
    Calls Try.prog 51 #[duo p q, duo lo hi] w fun e w' => e = .returned (duo (p * lo - q * hi) (p * hi - q * lo)) ∧ Below w.heap.size w w' := by
  go_enter Try.func51, Try.ntmps51
  go_wp2_with fail
  refine bodyPost_ret (v := duo (p * lo - q * hi) (p * hi - q * lo)) (by simp [results, Try.results51, go_sem]) rfl ⟨rfl, ?_⟩
  repeat (first | exact Below.refl _ _ | refine bl_alloc ?_ _ | refine Below.drew ?_ | refine bl_drewN ?_ _ | refine bl_set ?_ (by omega) _ | refine bl_step ?_ (by assumption))

def maR (lo hi : Int) : Prop := -2147483647 ≤ lo ∧ lo ≤ hi ∧ hi ≤ 2147483647
instance (lo hi : Int) : Decidable (maR lo hi) := by unfold maR; infer_instance
set_option maxHeartbeats 800000 in
set_option maxRecDepth 100000 in
theorem mayBe_any (lo hi : Int) (w : World) : Calls Try.prog 49 #[duo lo hi] w fun e w' => e = .returned (.bool (decide (maR lo hi))) ∧ Below w.heap.size w w' := by
  by_cases h1 : -2147483647 ≤ lo
  · by_cases h2 : lo ≤ hi
    · by_cases h3 : hi ≤ 2147483647
      · have e : decide (maR lo hi) = true := decide_eq_true ⟨h1, h2, h3⟩
        rw [e]
        go_enter Try.func49, Try.ntmps49
        go_wp2_with fail
        go_ret
        exact ⟨rfl, by repeat (first | exact Below.refl _ _ | refine bl_alloc ?_ _ | refine Below.drew ?_ | refine bl_drewN ?_ _ | refine bl_set ?_ (by omega) _ | refine bl_step ?_ (by assumption))⟩
      · have e : decide (maR lo hi) = false := decide_eq_false fun x => h3 x.2.2
        rw [e]
        go_enter Try.func49, Try.ntmps49
        go_wp2_with fail
        go_ret
        exact ⟨rfl, by repeat (first | exact Below.refl _ _ | refine bl_alloc ?_ _ | refine Below.drew ?_ | refine bl_drewN ?_ _ | refine bl_set ?_ (by omega) _ | refine bl_step ?_ (by assumption))⟩
    · have e : decide (maR lo hi) = false := decide_eq_false fun x => h2 x.2.1
      rw [e]
      go_enter Try.func49, Try.ntmps49
      go_wp2_with fail
      go_ret
      exact ⟨rfl, by repeat (first | exact Below.refl _ _ | refine bl_alloc ?_ _ | refine Below.drew ?_ | refine bl_drewN ?_ _ | refine bl_set ?_ (by omega) _ | refine bl_step ?_ (by assumption))⟩
  · have e : decide (maR lo hi) = false := decide_eq_false fun x => h1 x.1
    rw [e]
    go_enter Try.func49, Try.ntmps49
    go_wp2_with fail
    go_ret
    exact ⟨rfl, by repeat (first | exact Below.refl _ _ | refine bl_alloc ?_ _ | refine Below.drew ?_ | refine bl_drewN ?_ _ | refine bl_set ?_ (by omega) _ | refine bl_step ?_ (by assumption))⟩
theorem signsO_any (w : World) : Calls Try.prog 35 #[] w fun e w' => e = .returned (duo (-1) 1) ∧ Below w.heap.size w w' := by
  go_enter Try.func35, Try.ntmps35
  go_wp2_with fail
  refine bodyPost_ret (v := duo (-1) 1) (by simp [results, Try.results35, go_sem]) rfl ⟨rfl, ?_⟩
  repeat (first | exact Below.refl _ _ | refine bl_alloc ?_ _ | refine Below.drew ?_ | refine bl_drewN ?_ _ | refine bl_set ?_ (by omega) _ | refine bl_step ?_ (by assumption))
end Go.Proofs.Ytkodihmjjiadnaa
