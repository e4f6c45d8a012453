/-
  WHAT EVERY ROW OF THIS SEAT WANTS: the listed variable, the start that fits.
-/
import Derived.Test.YtpinmfhabbcflabDoorDW10
import Derived.ProofKit
import Derived.LaidMore
import Derived.LaidSub
import Derived.MakeChecks
import Derived.OpenShut
import Derived.ShutString
import Derived.ChangeOld
import Derived.Stop.Joined
import Derived.Lib.SmallJoins
import Derived.SizedLaws
import Derived.Deep.Slices
import Derived.ChangeSame
namespace Go.Proofs.YtpinmfhabbcflabDoor
open Go.ChangeShapes Go.WideShapes Go.ChangeAt Go.RowKit

theorem own : ownKnob Tryd.prog.godebug = none := by kernel_rfl
theorem laidOut : laidOutB Tryd.prog = true := by kernel_rfl
def laidL : List (String × DataW Unit) := [("heddle/dot.planeWeighs", Rows.laid_heddle_dot_planeWeighs)]
theorem door_met (os : Os) (args : Array Value) : laidMetH Tryd.prog laidL ((World.doorLaid Tryd.prog 400 os).forCall (fun _ _ => 0) ⟨#[], args, []⟩).memory :=
  laidMetH_of_parts3 (fuel := 8) (laidMet_of_run' 8 (by kernel_rfl) (by kernel_rfl)) (by kernel_rfl) (by kernel_rfl)
def weighTab : List Int := [1, 2, 4, 8, 16, 32, 64, -128]
theorem weigh_tab : ∀ i, i < 8 → weighTab[i]? = some (pw i) := by decide +kernel
theorem hgWeigh : Tryd.prog.globalNamed "heddle/dot.planeWeighs" = some 0 := by kernel_rfl
theorem only_weigh : laidL.filter (fun x => x.1 == "heddle/dot.planeWeighs") = [("heddle/dot.planeWeighs", Lib.tabData .i64 weighTab)] := by kernel_rfl
theorem tyWeigh : (Tryd.prog.globals[0]?).map (·.type) = some 84 := by kernel_rfl
theorem cells_i64 : Tryd.prog.cellsOf 2 = 1 := by kernel_rfl
theorem cells_tab : Tryd.prog.cellsOf 84 = 8 := by kernel_rfl
theorem of_laid {W : World} (h : laidMetH Tryd.prog laidL W) : LaidP W := by
  rw [MakeChecks.laidMetH_plain _ _ _ (by kernel_rfl)] at h
  have h1 := h.filter (fun x => x.1 == "heddle/dot.planeWeighs")
  rw [only_weigh] at h1
  have h2 := Lib.tabIs_of_head hgWeigh tyWeigh Tryd.underlying84 Tryd.underlying2 cells_i64 cells_tab h1
  intro i hi
  rw [h2.cell hgWeigh i hi]
  have h3 := weigh_tab i hi
  rw [List.getD_eq_getElem?_getD, h3]
  rfl
theorem i64_of_wf {x : Int} (h : (Lit.int .i64 x).wf = true) : -9223372036854775808 ≤ x ∧ x ≤ 9223372036854775807 := by
  simp [Lit.wf, IntKind.min, IntKind.max, IntKind.signed, IntKind.bits] at h
  exact ⟨by omega, by omega⟩
end Go.Proofs.YtpinmfhabbcflabDoor
