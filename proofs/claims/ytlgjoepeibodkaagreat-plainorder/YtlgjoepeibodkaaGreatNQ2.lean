/- NETWORKS: BORDER, WINDOWS THAT ARE NONE, WHAT COMES OUT, HOW MANY WEIGHTS. -/
import Derived.Test.YtlgjoepeibodkaaGreatNQ1
namespace Go.Proofs.YtlgjoepeibodkaaGreat.Nn
open Go.RowKit

theorem border_walk (L : Ly) (S : Sp) (w : World) (d : Bool) (E : Int) (hd : decide (Wz L) = d)
    (hE : (d = true ∧ L.bd = 0 ∧ E = 0) ∨ (d = true ∧ L.bd ≠ 0 ∧ E = 56) ∨ (d = false ∧ L.bd = 1 ∧ E = 0) ∨ (d = false ∧ L.bd = -1 ∧ E = 0) ∨ (d = false ∧ L.bd = 0 ∧ E = 0) ∨ (d = false ∧ L.bd ≠ 0 ∧ L.bd ≠ 1 ∧ L.bd ≠ -1 ∧ E = 56)) : Asks 63 L S E w := by
  unfold Asks
  rcases hE with ⟨rfl, h0, rfl⟩ | ⟨rfl, h0, rfl⟩ | ⟨rfl, h0, rfl⟩ | ⟨rfl, h0, rfl⟩ | ⟨rfl, h0, rfl⟩ | ⟨rfl, h0, h1, h2, rfl⟩ <;>
  (go_enter Tryz.func63, Tryz.ntmps63
   go_wp2_with (first | (go_at_call 83; refine (unless_any _ _ _).mono ?_; rintro e w2 ⟨rfl, rfl⟩) | (go_at_call 85; refine (bordered_any L _).mono ?_; rintro e w1 ⟨rfl, rfl⟩; rw [hd]))
   go_ret
   refine ⟨by first | rfl | simp [*], ?_⟩
   repeat (first | (with_reducible exact Below.refl _ _) | (with_reducible refine bl_alloc ?_ _) | (with_reducible refine Below.drew ?_) | (with_reducible refine bl_drewN ?_ _) | (with_reducible refine bl_set ?_ (by omega) _) | (with_reducible refine bl_step ?_ (by assumption))))
theorem border_any (L : Ly) (S : Sp) (w : World) : Asks 63 L S (boE L) w := by
  refine border_walk L S w _ _ rfl ?_
  unfold boE
  by_cases hz : Wz L <;> by_cases h0 : L.bd = 0 <;> by_cases h1 : L.bd = 1 <;> by_cases h2 : L.bd = -1 <;> first | omega | simp [hz, h0, h1, h2]

end Go.Proofs.YtlgjoepeibodkaaGreat.Nn
