/- NETWORKS: WHAT COMES OUT OF A LAYER; WHETHER ITS WINDOW FITS. -/
import Derived.Test.YtlgjoepeibodkaaGreatNQ4
namespace Go.Proofs.YtlgjoepeibodkaaGreat.Nn
open Go.RowKit

def oE (L : Ly) (h v c : Int) : Int := if L.kd = 2 then 0 else slE h v c L.r L.s L.sy L.sx L.t L.l L.b L.q (if L.kd = 3 then c else L.k)
def oH (L : Ly) (h v c : Int) : Int := if L.kd = 2 then 1 else if oE L h v c = 0 then stN h L.t L.b L.r L.sy else 0
def oV (L : Ly) (h v c : Int) : Int := if L.kd = 2 then 1 else if oE L h v c = 0 then stN v L.l L.q L.s L.sx else 0
def oC (L : Ly) (h v c : Int) : Int := if L.kd = 2 then L.k else if oE L h v c = 0 then (if L.kd = 3 then c else L.k) else 0
theorem slV_o {L : Ly} {h v c : Int} (k2 : ¬ L.kd = 2) : slV h v c L.r L.s L.sy L.sx L.t L.l L.b L.q (if L.kd = 3 then c else L.k) = sle (oH L h v c) (oV L h v c) (oC L h v c) (oE L h v c) := by
  unfold slV oH oV oC
  have e : oE L h v c = slE h v c L.r L.s L.sy L.sx L.t L.l L.b L.q (if L.kd = 3 then c else L.k) := by unfold oE; rw [if_neg k2]
  rw [← e, if_neg k2, if_neg k2, if_neg k2]
  by_cases h0 : oE L h v c = 0
  · rw [if_pos h0, if_pos h0, if_pos h0, if_pos h0, h0]
  · rw [if_neg h0, if_neg h0, if_neg h0, if_neg h0]
set_option maxRecDepth 100000 in
theorem output_any (L : Ly) (h v c : Int) (w : World) :
    Calls Tryz.prog 47 #[lyv L, shp h v c] w fun e w' => e = .returned (sle (oH L h v c) (oV L h v c) (oC L h v c) (oE L h v c)) ∧ Below w.heap.size w w' := by
  by_cases k2 : L.kd = 2
  · have a1 : oH L h v c = 1 := if_pos k2
    have a2 : oV L h v c = 1 := if_pos k2
    have a3 : oC L h v c = L.k := if_pos k2
    have a4 : oE L h v c = 0 := if_pos k2
    rw [a1, a2, a3, a4]
    clear a1 a2 a3 a4
    go_enter Tryz.func47, Tryz.ntmps47
    go_wp2
    all_goals simp [bodyPost, results, Tryz.results47, go_sem]
    all_goals repeat (first | (with_reducible exact Below.refl _ _) | (with_reducible refine bl_alloc ?_ _) | (with_reducible refine Below.drew ?_) | (with_reducible refine bl_drewN ?_ _) | (with_reducible refine bl_set ?_ (by omega) _) | (with_reducible refine bl_step ?_ (by assumption)))
  · by_cases k3 : L.kd = 3
    · have e := slV_o (h := h) (v := v) (c := c) k2
      rw [if_pos k3] at e
      have H := fun w => slide_any h v c L.r L.s L.sy L.sx L.t L.l L.b L.q c w
      rw [e] at H
      clear e
      generalize oH L h v c = h1 at *
      generalize oV L h v c = v1 at *
      generalize oC L h v c = c1 at *
      generalize oE L h v c = e1 at *
      go_enter Tryz.func47, Tryz.ntmps47
      go_wp2_with fail
      refine gen_calls (fun X => Below w.heap.size w X ∧ Rz X (w.heap.size + 1 + 1)) ⟨by repeat (first | (with_reducible exact Below.refl _ _) | (with_reducible refine bl_alloc ?_ _) | (with_reducible refine Below.drew ?_) | (with_reducible refine bl_drewN ?_ _) | (with_reducible refine bl_set ?_ (by omega) _) | (with_reducible refine bl_step ?_ (by assumption))), rz_new (by simp)⟩ ?_
      rintro X ⟨BX, RX⟩
      refine (H X).mono ?_
      rintro e w1 ⟨rfl, hb⟩
      replace RX := RX.keep hb
      replace BX := bl_step BX hb
      clear hb
      obtain ⟨⟨z0, z1, z2⟩, f0, f1, f2⟩ := RX
      go_wp2_with fail
      simp [bodyPost, results, Tryz.results47, go_sem, z0, z1, z2]
      repeat (first | (with_reducible exact Below.refl _ _) | (with_reducible refine bl_alloc ?_ _) | (with_reducible refine Below.drew ?_) | (with_reducible refine bl_drewN ?_ _) | (with_reducible refine bl_set ?_ (by omega) _) | (with_reducible refine bl_step ?_ (by assumption)))
    · have e := slV_o (h := h) (v := v) (c := c) k2
      rw [if_neg k3] at e
      have H := fun w => slide_any h v c L.r L.s L.sy L.sx L.t L.l L.b L.q L.k w
      rw [e] at H
      clear e
      generalize oH L h v c = h1 at *
      generalize oV L h v c = v1 at *
      generalize oC L h v c = c1 at *
      generalize oE L h v c = e1 at *
      go_enter Tryz.func47, Tryz.ntmps47
      go_wp2_with fail
      refine gen_calls (fun X => Below w.heap.size w X ∧ Rz X (w.heap.size + 1 + 1)) ⟨by repeat (first | (with_reducible exact Below.refl _ _) | (with_reducible refine bl_alloc ?_ _) | (with_reducible refine Below.drew ?_) | (with_reducible refine bl_drewN ?_ _) | (with_reducible refine bl_set ?_ (by omega) _) | (with_reducible refine bl_step ?_ (by assumption))), rz_new (by simp)⟩ ?_
      rintro X ⟨BX, RX⟩
      refine (H X).mono ?_
      rintro e w1 ⟨rfl, hb⟩
      replace RX := RX.keep hb
      replace BX := bl_step BX hb
      clear hb
      obtain ⟨⟨z0, z1, z2⟩, f0, f1, f2⟩ := RX
      go_wp2_with fail
      simp [bodyPost, results, Tryz.results47, go_sem, z0, z1, z2]
      repeat (first | (with_reducible exact Below.refl _ _) | (with_reducible refine bl_alloc ?_ _) | (with_reducible refine Below.drew ?_) | (with_reducible refine bl_drewN ?_ _) | (with_reducible refine bl_set ?_ (by omega) _) | (with_reducible refine bl_step ?_ (by assumption)))
theorem fits_any (L : Ly) (S : Sp) (w : World) : Asks 64 L S (oE L S.h S.v S.c) w := by
  unfold Asks
  have H := fun w => output_any L S.h S.v S.c w
  generalize oH L S.h S.v S.c = h1 at *
  generalize oV L S.h S.v S.c = v1 at *
  generalize oC L S.h S.v S.c = c1 at *
  generalize oE L S.h S.v S.c = e1 at *
  go_enter Tryz.func64, Tryz.ntmps64
  go_wp2_with (go_at_call 47; refine (H _).mono ?_; rintro e w1 ⟨rfl, hb⟩)
  all_goals go_ret
  all_goals refine ⟨rfl, ?_⟩
  all_goals repeat (first | (with_reducible exact Below.refl _ _) | (with_reducible refine bl_alloc ?_ _) | (with_reducible refine Below.drew ?_) | (with_reducible refine bl_drewN ?_ _) | (with_reducible refine bl_set ?_ (by omega) _) | (with_reducible refine bl_step ?_ (by assumption)))
end Go.Proofs.YtlgjoepeibodkaaGreat.Nn
