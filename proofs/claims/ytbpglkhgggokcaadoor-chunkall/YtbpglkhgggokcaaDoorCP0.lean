/-
  WHAT EVERY ROW OF THIS SEAT WANTS: the listed variable, the start that fits.
-/
import Derived.Test.YtbpglkhgggokcaaDoorCW0
import Derived.ProofKit
import Derived.LaidMore
import Derived.LaidSub
import Derived.MakeChecks
import Derived.OpenShut
import Derived.ShutString
import Derived.ChangeOld
import Derived.Stop.Joined
import Derived.Lib.SmallJoins
import Derived.SizedLaws
import Derived.Deep.Slices
import Derived.ChangeSame
namespace Go.Proofs.YtbpglkhgggokcaaDoor
open Go.ChangeShapes Go.WideShapes Go.ChangeAt Go.RowKit

theorem own : ownKnob Tryd.prog.godebug = none := by kernel_rfl
theorem laidOut : laidOutB Tryd.prog = true := by kernel_rfl
def laidL : List (String × DataW Unit) := [("heddle/chunk.halves", Rows.laid_heddle_chunk_halves)]
theorem door_met (os : Os) (args : Array Value) : laidMetH Tryd.prog laidL ((World.doorLaid Tryd.prog 400 os).forCall (fun _ _ => 0) ⟨#[], args, []⟩).memory :=
  laidMetH_of_parts3 (fuel := 8) (laidMet_of_run' 8 (by kernel_rfl) (by kernel_rfl)) (by kernel_rfl) (by kernel_rfl)
def halfTab : List Int := [0, 498536548, 997073096, 651767980, 1994146192, 1802195444, 1303535960, 1342533948, 3988292384, 4027552580, 3604390888, 3412177804, 2607071920, 2262029012, 2685067896, 3183342108]
theorem half_tab : ∀ i, i < 16 → halfTab[i]? = some ((csn 4 i : Nat) : Int) := by decide +kernel
theorem hgHalf : Tryd.prog.globalNamed "heddle/chunk.halves" = some 0 := by kernel_rfl
theorem only_half : laidL.filter (fun x => x.1 == "heddle/chunk.halves") = [("heddle/chunk.halves", Lib.tabData .u32 halfTab)] := by kernel_rfl
theorem tyHalf : (Tryd.prog.globals[0]?).map (·.type) = some 63 := by kernel_rfl
theorem cells_u32 : Tryd.prog.cellsOf 30 = 1 := by kernel_rfl
theorem cells_tab : Tryd.prog.cellsOf 63 = 16 := by kernel_rfl
theorem of_laid {W : World} (h : laidMetH Tryd.prog laidL W) : Laid W := by
  rw [MakeChecks.laidMetH_plain _ _ _ (by kernel_rfl)] at h
  have h1 := h.filter (fun x => x.1 == "heddle/chunk.halves")
  rw [only_half] at h1
  have h2 := Lib.tabIs_of_head hgHalf tyHalf Tryd.underlying63 Tryd.underlying30 cells_u32 cells_tab h1
  intro i hi
  rw [h2.cell hgHalf i hi]
  have h3 := half_tab i hi
  rw [List.getD_eq_getElem?_getD, h3]
  rfl
theorem u32_of_wf {x : Int} (h : (Lit.int .u32 x).wf = true) : ∃ n : Nat, x = (n : Int) ∧ n < 4294967296 := by
  simp [Lit.wf, IntKind.min, IntKind.max, IntKind.signed, IntKind.bits] at h
  exact ⟨x.toNat, by omega, by omega⟩
theorem u8_of_wf {x : Int} (h : (Lit.int .u8 x).wf = true) : ∃ n : Nat, x = (n : Int) ∧ n < 256 := by
  simp [Lit.wf, IntKind.min, IntKind.max, IntKind.signed, IntKind.bits] at h
  exact ⟨x.toNat, by omega, by omega⟩
theorem i64_of_wf {x : Int} (h : (Lit.int .i64 x).wf = true) : -9223372036854775808 ≤ x ∧ x ≤ 9223372036854775807 := by
  simp [Lit.wf, IntKind.min, IntKind.max, IntKind.signed, IntKind.bits] at h
  exact ⟨by omega, by omega⟩
end Go.Proofs.YtbpglkhgggokcaaDoor
