/- PACKAGE rank: falling. -/
import Derived.Test.YtfdkjckoelmgeaaDoorRM2
import Derived.Test.YtfdkjckoelmgeaaDoorRK0
namespace Go.Proofs.YtfdkjckoelmgeaaDoor
open Go.RowKit Go.Sort

/-- Draws and new blocks. -/
def Gw (w w' : World) : Prop := ∃ q os, w' = grow (w.drewN q) os
theorem Gw.refl (w : World) : Gw w w := ⟨0, #[], by rw [grow_empty]; rfl⟩
theorem Gw.alloc {w w' : World} (h : Gw w w') (o : Obj) : Gw w (w'.alloc o) := by
  obtain ⟨q, os, rfl⟩ := h
  exact ⟨q, os ++ #[o], by rw [alloc_eq_grow, grow_grow]⟩
theorem Gw.drew {w w' : World} (h : Gw w w') : Gw w w'.drew := by
  obtain ⟨q, os, rfl⟩ := h
  exact ⟨q + 1, os, rfl⟩
/-- A place with its number. -/
abbrev rk (p : Int × Int) : List Value := [.int .i64 p.1, .int .i64 p.2]
set_option maxHeartbeats 1600000 in
set_option maxRecDepth 100000 in
theorem fall_any (x y : Int × Int) (w : World) :
    Calls Tryd.prog 26 #[.agg #[.int .i64 x.1, .int .i64 x.2], .agg #[.int .i64 y.1, .int .i64 y.2]] w fun e w' => e = .returned (.int .i64 (fal x y)) ∧ Gw w w' := by
  obtain ⟨a, b⟩ := x
  obtain ⟨c, d⟩ := y
  have C1 := hid1 (fun W => cmp64_any d b W)
  have C2 := hid1 (fun W => cmp_any a c W)
  unfold fal
  dsimp only
  generalize cp d b = P at *
  generalize cp a c = Q at *
  have C3 := fun g cap W => or_any P Q g cap W
  go_enter Tryd.func26, Tryd.ntmps26
  go_wp2_with fail
  refine still_tail 10 (by kernel_rfl) ?_
  simp only [List.take_succ_cons, List.take_zero, List.drop_succ_cons, List.drop_zero]
  repeat still_step
  still_call (C1.out _)
  repeat still_step
  still_call (C2.out _)
  repeat still_step
  refine wpStill_nil ?_
  go_wp2_with (go_at_call 47; refine (C3 _ _ _ (by simp [go_sem]) (by simp [go_sem])).mono ?_; rintro e w' ⟨rfl, rfl⟩)
  refine bodyPost_ret (v := .int .i64 (or2 P Q)) (by simp [results, Tryd.results26, go_sem]) rfl ⟨rfl, ?_⟩
  repeat (first | exact Gw.refl _ | refine Gw.alloc ?_ _ | refine Gw.drew ?_)
end Go.Proofs.YtfdkjckoelmgeaaDoor
