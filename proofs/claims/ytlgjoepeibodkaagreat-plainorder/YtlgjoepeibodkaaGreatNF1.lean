/- NETWORKS: NORMS, OVER SW4. -/
import Derived.Test.YtlgjoepeibodkaaGreatSW4
import Derived.Deep.RegionHeld3
namespace Go.Proofs.YtlgjoepeibodkaaGreat.Nn
open Go.RowKit

theorem lt_of_cell {W : World} {b o : Nat} {v : Value} (h : W.cell? ⟨b, o, none⟩ = some v) : b < W.heap.size := World.block_lt_of_cell? W ⟨b, o, none⟩ h
def Fr (n d : Int) : Prop := 1 ≤ d ∧ d ≤ 1048576 ∧ -2147483647 ≤ n ∧ n ≤ 2147483647
def Sm (x : Int) : Prop := -2147483647 ≤ x ∧ x ≤ 2147483647
abbrev fr (n d : Int) : Value := .agg #[.int .i64 n, .int .i64 d]
instance (n d : Int) : Decidable (Fr n d) := by unfold Fr; infer_instance
instance (x : Int) : Decidable (Sm x) := by unfold Sm; infer_instance
def chF (n d : Int) : Int := if Fr n d then 0 else 40
theorem chF_ok {n d : Int} (h : Fr n d) : chF n d = 0 := if_pos h
theorem chF_no {n d : Int} (h : ¬ Fr n d) : chF n d = 40 := if_neg h

theorem inReach_any (x : Int) (w : World) :
    Calls Tryz.prog 94 #[.int .i64 x] w fun e w' => e = .returned (.bool (decide (Sm x))) ∧ w' = w := by
  by_cases h1 : -2147483647 ≤ x
  · by_cases h2 : x ≤ 2147483647
    · rw [decide_eq_true (show Sm x from ⟨h1, h2⟩)]
      go_enter Tryz.func94, Tryz.ntmps94
      go_wp2
      go_ret
      exact ⟨rfl, rfl⟩
    · rw [decide_eq_false (show ¬ Sm x from fun h => h2 h.2)]
      go_enter Tryz.func94, Tryz.ntmps94
      go_wp2
      go_ret
      exact ⟨rfl, rfl⟩
  · rw [decide_eq_false (show ¬ Sm x from fun h => h1 h.1)]
    go_enter Tryz.func94, Tryz.ntmps94
    go_wp2
    go_ret
    exact ⟨rfl, rfl⟩
set_option maxRecDepth 100000 in
theorem fcheck_any (n d : Int) (w : World) :
    Calls Tryz.prog 93 #[fr n d] w fun e w' => e = .returned (.int .i64 (chF n d)) ∧ Below w.heap.size w w' := by
  by_cases h1 : d < 1
  · rw [chF_no (fun h => by have := h.1; omega)]
    go_enter Tryz.func93, Tryz.ntmps93
    go_wp2
    go_ret
    exact ⟨rfl, bl_alloc (Below.refl _ _) _⟩
  · by_cases h2 : 1048576 < d
    · rw [chF_no (fun h => by have := h.2.1; omega)]
      go_enter Tryz.func93, Tryz.ntmps93
      go_wp2
      go_ret
      exact ⟨rfl, bl_alloc (Below.refl _ _) _⟩
    · by_cases h3 : Sm n
      · rw [chF_ok ⟨by omega, by omega, h3.1, h3.2⟩]
        have H := decide_eq_true h3
        go_enter Tryz.func93, Tryz.ntmps93
        go_wp2_with (go_at_call 94; refine (inReach_any n _).mono ?_; rintro e w1 ⟨rfl, rfl⟩; rw [H])
        go_ret
        exact ⟨rfl, bl_alloc (Below.refl _ _) _⟩
      · rw [chF_no (fun h => h3 h.2.2)]
        have H := decide_eq_false h3
        go_enter Tryz.func93, Tryz.ntmps93
        go_wp2_with (go_at_call 94; refine (inReach_any n _).mono ?_; rintro e w1 ⟨rfl, rfl⟩; rw [H])
        go_ret
        exact ⟨rfl, bl_alloc (Below.refl _ _) _⟩
abbrev nm (gn gd bn bd mn md sn sd : Int) : Value := .agg #[.int .i64 gn, .int .i64 gd, .int .i64 bn, .int .i64 bd, .int .i64 mn, .int .i64 md, .int .i64 sn, .int .i64 sd]
/-- The eight cells of a norm. -/
def Nm (w : World) (b : Nat) (gn gd bn bd mn md sn sd : Int) : Prop :=
  w.cell? ⟨b, 0, none⟩ = some (.int .i64 gn) ∧ w.cell? ⟨b, 1, none⟩ = some (.int .i64 gd) ∧ w.cell? ⟨b, 2, none⟩ = some (.int .i64 bn) ∧ w.cell? ⟨b, 3, none⟩ = some (.int .i64 bd) ∧
  w.cell? ⟨b, 4, none⟩ = some (.int .i64 mn) ∧ w.cell? ⟨b, 5, none⟩ = some (.int .i64 md) ∧ w.cell? ⟨b, 6, none⟩ = some (.int .i64 sn) ∧ w.cell? ⟨b, 7, none⟩ = some (.int .i64 sd)
theorem Nm.keep {w w' : World} {b : Nat} {gn gd bn bd mn md sn sd : Int} (h : Nm w b gn gd bn bd mn md sn sd) (hb : Below w.heap.size w w') : Nm w' b gn gd bn bd mn md sn sd := by
  obtain ⟨a, c, d, e, f, g, i, j⟩ := h
  exact ⟨keepc hb a, keepc hb c, keepc hb d, keepc hb e, keepc hb f, keepc hb g, keepc hb i, keepc hb j⟩
/-- The fractions of a norm, by number. -/
def qn (gn bn mn sn : Int) (i : Nat) : Int := match i with | 0 => gn | 1 => bn | 2 => mn | _ => sn
/-- What Norm answers. -/
def noE (gn gd bn bd mn md sn sd : Int) : Int := if Fr gn gd ∧ Fr bn bd ∧ Fr mn md ∧ Fr sn sd then (if sn < 1 then 53 else 0) else 40
theorem four {p : Nat → Prop} {i : Nat} (h : i < 4) (h0 : p 0) (h1 : p 1) (h2 : p 2) (h3 : p 3) : p i := by
  match i, h with
  | 0, _ => exact h0
  | 1, _ => exact h1
  | 2, _ => exact h2
  | 3, _ => exact h3
theorem noE_no {gn gd bn bd mn md sn sd : Int} {k : Nat} (hk : k < 4) (h : ¬ Fr (qn gn bn mn sn k) (qn gd bd md sd k)) : noE gn gd bn bd mn md sn sd = 40 := by
  unfold noE
  refine if_neg ?_
  rintro ⟨a, b, c, d⟩
  revert h
  exact four (p := fun k => ¬ Fr (qn gn bn mn sn k) (qn gd bd md sd k) → False) hk (fun h => h a) (fun h => h b) (fun h => h c) (fun h => h d)
theorem noE_end {gn gd bn bd mn md sn sd : Int} (h : ∀ j, j < 4 → Fr (qn gn bn mn sn j) (qn gd bd md sd j)) : noE gn gd bn bd mn md sn sd = (if sn < 1 then 53 else 0) := by
  unfold noE
  exact if_pos ⟨h 0 (by decide), h 1 (by decide), h 2 (by decide), h 3 (by decide)⟩
set_option maxRecDepth 100000 in
theorem norm_any (gn gd bn bd mn md sn sd : Int) (w : World) :
    Calls Tryz.prog 86 #[nm gn gd bn bd mn md sn sd] w fun e w' => e = .returned (.int .i64 (noE gn gd bn bd mn md sn sd)) ∧ Below w.heap.size w w' := by
  have i0 : ∀ w, (Instr.index 129 (.agg #[.int .i64 gn, .int .i64 gd, .int .i64 bn, .int .i64 bd, .int .i64 mn, .int .i64 md, .int .i64 sn, .int .i64 sd]) (.int .i64 0)).run Tryz.prog w = .ok (fr gn gd) w := fun _ => by kernel_rfl
  have i1 : ∀ w, (Instr.index 129 (.agg #[.int .i64 gn, .int .i64 gd, .int .i64 bn, .int .i64 bd, .int .i64 mn, .int .i64 md, .int .i64 sn, .int .i64 sd]) (.int .i64 1)).run Tryz.prog w = .ok (fr bn bd) w := fun _ => by kernel_rfl
  have i2 : ∀ w, (Instr.index 129 (.agg #[.int .i64 gn, .int .i64 gd, .int .i64 bn, .int .i64 bd, .int .i64 mn, .int .i64 md, .int .i64 sn, .int .i64 sd]) (.int .i64 2)).run Tryz.prog w = .ok (fr mn md) w := fun _ => by kernel_rfl
  have i3 : ∀ w, (Instr.index 129 (.agg #[.int .i64 gn, .int .i64 gd, .int .i64 bn, .int .i64 bd, .int .i64 mn, .int .i64 md, .int .i64 sn, .int .i64 sd]) (.int .i64 3)).run Tryz.prog w = .ok (fr sn sd) w := fun _ => by kernel_rfl
  go_enter Tryz.func86, Tryz.ntmps86
  go_wp2_with fail
  go_loopw [15] (fun i wr => ∃ k : Nat, k ≤ 4 ∧ i = .int .i64 k ∧ (∀ j, j < k → Fr (qn gn bn mn sn j) (qn gd bd md sd j)) ∧ wr.cell? ⟨w.heap.size, 6, none⟩ = some (.int .i64 sn) ∧ Below w.heap.size w wr) (fun i _ => 4 - (intOf i).toNat)
  case atStart => exact ⟨0, by omega, rfl, fun j hj => by omega, by simp [go_sem], by repeat (first | exact Below.refl _ _ | refine bl_alloc ?_ _ | refine Below.drew ?_ | refine bl_drewN ?_ _ | refine bl_set ?_ (by omega) _ | refine bl_step ?_ (by assumption))⟩
  case round =>
    obtain ⟨k, hk, rfl, hall, c6, hB⟩ := hrel
    have HA := hid1 hall
    clear hall
    by_cases hlt : k < 4
    · have hk4 : k = 0 ∨ k = 1 ∨ k = 2 ∨ k = 3 := by omega
      clear hk hlt
      rcases hk4 with rfl | rfl | rfl | rfl
      · by_cases hf : Fr gn gd
        · have h0 := chF_ok hf
          have HF := hid1 hf
          clear hf
          go_wp2_with fail
          refine (fcheck_any gn gd _).mono ?_
          rintro e w1 ⟨rfl, hb1⟩
          rw [h0]
          have hB1 : Below w.heap.size w w1 := by repeat (first | exact Below.refl _ _ | refine bl_alloc ?_ _ | refine Below.drew ?_ | refine bl_drewN ?_ _ | refine bl_set ?_ (by omega) _ | refine bl_step ?_ (by assumption))
          have d6 := keepc hb1 (b := w.heap.size) (o := 6) (v := .int .i64 sn) (by simp [go_sem, c6, lt_of_cell c6])
          clear hb1 c6 hB
          go_wp2
          exact ⟨⟨1, by omega, rfl, fun j hj => by
            by_cases e : j = 0
            · subst e; exact HF.out
            · exact HA.out j (by omega), d6, hB1⟩, by simp [intOf]⟩
        · have h0 := chF_no hf
          have h1 := noE_no (gn := gn) (gd := gd) (bn := bn) (bd := bd) (mn := mn) (md := md) (sn := sn) (sd := sd) (k := 0) (by decide) hf
          clear hf
          go_wp2_with fail
          refine (fcheck_any gn gd _).mono ?_
          rintro e w1 ⟨rfl, hb1⟩
          rw [h0]
          have hB1 : Below w.heap.size w w1 := by repeat (first | exact Below.refl _ _ | refine bl_alloc ?_ _ | refine Below.drew ?_ | refine bl_drewN ?_ _ | refine bl_set ?_ (by omega) _ | refine bl_step ?_ (by assumption))
          clear hb1 c6 hB
          go_wp2
          go_ret
          exact ⟨by rw [h1]; rfl, hB1⟩
      · by_cases hf : Fr bn bd
        · have h0 := chF_ok hf
          have HF := hid1 hf
          clear hf
          go_wp2_with fail
          refine (fcheck_any bn bd _).mono ?_
          rintro e w1 ⟨rfl, hb1⟩
          rw [h0]
          have hB1 : Below w.heap.size w w1 := by repeat (first | exact Below.refl _ _ | refine bl_alloc ?_ _ | refine Below.drew ?_ | refine bl_drewN ?_ _ | refine bl_set ?_ (by omega) _ | refine bl_step ?_ (by assumption))
          have d6 := keepc hb1 (b := w.heap.size) (o := 6) (v := .int .i64 sn) (by simp [go_sem, c6, lt_of_cell c6])
          clear hb1 c6 hB
          go_wp2
          exact ⟨⟨2, by omega, rfl, fun j hj => by
            by_cases e : j = 1
            · subst e; exact HF.out
            · exact HA.out j (by omega), d6, hB1⟩, by simp [intOf]⟩
        · have h0 := chF_no hf
          have h1 := noE_no (gn := gn) (gd := gd) (bn := bn) (bd := bd) (mn := mn) (md := md) (sn := sn) (sd := sd) (k := 1) (by decide) hf
          clear hf
          go_wp2_with fail
          refine (fcheck_any bn bd _).mono ?_
          rintro e w1 ⟨rfl, hb1⟩
          rw [h0]
          have hB1 : Below w.heap.size w w1 := by repeat (first | exact Below.refl _ _ | refine bl_alloc ?_ _ | refine Below.drew ?_ | refine bl_drewN ?_ _ | refine bl_set ?_ (by omega) _ | refine bl_step ?_ (by assumption))
          clear hb1 c6 hB
          go_wp2
          go_ret
          exact ⟨by rw [h1]; rfl, hB1⟩
      · by_cases hf : Fr mn md
        · have h0 := chF_ok hf
          have HF := hid1 hf
          clear hf
          go_wp2_with fail
          refine (fcheck_any mn md _).mono ?_
          rintro e w1 ⟨rfl, hb1⟩
          rw [h0]
          have hB1 : Below w.heap.size w w1 := by repeat (first | exact Below.refl _ _ | refine bl_alloc ?_ _ | refine Below.drew ?_ | refine bl_drewN ?_ _ | refine bl_set ?_ (by omega) _ | refine bl_step ?_ (by assumption))
          have d6 := keepc hb1 (b := w.heap.size) (o := 6) (v := .int .i64 sn) (by simp [go_sem, c6, lt_of_cell c6])
          clear hb1 c6 hB
          go_wp2
          exact ⟨⟨3, by omega, rfl, fun j hj => by
            by_cases e : j = 2
            · subst e; exact HF.out
            · exact HA.out j (by omega), d6, hB1⟩, by simp [intOf]⟩
        · have h0 := chF_no hf
          have h1 := noE_no (gn := gn) (gd := gd) (bn := bn) (bd := bd) (mn := mn) (md := md) (sn := sn) (sd := sd) (k := 2) (by decide) hf
          clear hf
          go_wp2_with fail
          refine (fcheck_any mn md _).mono ?_
          rintro e w1 ⟨rfl, hb1⟩
          rw [h0]
          have hB1 : Below w.heap.size w w1 := by repeat (first | exact Below.refl _ _ | refine bl_alloc ?_ _ | refine Below.drew ?_ | refine bl_drewN ?_ _ | refine bl_set ?_ (by omega) _ | refine bl_step ?_ (by assumption))
          clear hb1 c6 hB
          go_wp2
          go_ret
          exact ⟨by rw [h1]; rfl, hB1⟩
      · by_cases hf : Fr sn sd
        · have h0 := chF_ok hf
          have HF := hid1 hf
          clear hf
          go_wp2_with fail
          refine (fcheck_any sn sd _).mono ?_
          rintro e w1 ⟨rfl, hb1⟩
          rw [h0]
          have hB1 : Below w.heap.size w w1 := by repeat (first | exact Below.refl _ _ | refine bl_alloc ?_ _ | refine Below.drew ?_ | refine bl_drewN ?_ _ | refine bl_set ?_ (by omega) _ | refine bl_step ?_ (by assumption))
          have d6 := keepc hb1 (b := w.heap.size) (o := 6) (v := .int .i64 sn) (by simp [go_sem, c6, lt_of_cell c6])
          clear hb1 c6 hB
          go_wp2
          exact ⟨⟨4, by omega, rfl, fun j hj => by
            by_cases e : j = 3
            · subst e; exact HF.out
            · exact HA.out j (by omega), d6, hB1⟩, by simp [intOf]⟩
        · have h0 := chF_no hf
          have h1 := noE_no (gn := gn) (gd := gd) (bn := bn) (bd := bd) (mn := mn) (md := md) (sn := sn) (sd := sd) (k := 3) (by decide) hf
          clear hf
          go_wp2_with fail
          refine (fcheck_any sn sd _).mono ?_
          rintro e w1 ⟨rfl, hb1⟩
          rw [h0]
          have hB1 : Below w.heap.size w w1 := by repeat (first | exact Below.refl _ _ | refine bl_alloc ?_ _ | refine Below.drew ?_ | refine bl_drewN ?_ _ | refine bl_set ?_ (by omega) _ | refine bl_step ?_ (by assumption))
          clear hb1 c6 hB
          go_wp2
          go_ret
          exact ⟨by rw [h1]; rfl, hB1⟩
    · have : k = 4 := by omega
      subst this
      have h2 := noE_end HA.out
      by_cases hs : sn < 1
      · rw [if_pos hs] at h2
        go_wp2
        go_ret
        exact ⟨by first | rfl | (rw [h2]; rfl), hB⟩
      · rw [if_neg hs] at h2
        go_wp2
        go_ret
        exact ⟨by first | rfl | (rw [h2]; rfl), hB⟩
end Go.Proofs.YtlgjoepeibodkaaGreat.Nn
