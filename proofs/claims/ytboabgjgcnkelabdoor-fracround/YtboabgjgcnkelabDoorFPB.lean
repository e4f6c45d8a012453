/- THE TWO ERRORS THAT A NUMBER'S TEXT CAN HAVE, AS THEY LIE. -/
import Derived.Test.YtboabgjgcnkelabDoorFP0
import Derived.Test.YtboabgjgcnkelabDoorFR1
import Derived.Stop.LaidErr
namespace Go.Proofs.YtboabgjgcnkelabDoor
open Go.ChangeShapes Go.WideShapes Go.ChangeAt Go.RowKit

theorem starErr : "*" ++ "errors.errorString" = "*errors.errorString" := by decide
theorem rowErr (u : TypeId) (h : Tryd.prog.typeName? 3 u = some "*errors.errorString") : u = 135 :=
  typeName_ptr_named (nm := "errors.errorString") (by rw [starErr]; kernel_rfl) (by kernel_rfl) (by decide) u (by rw [starErr]; exact h)
theorem only_syn : laidL.filter (fun x => x.1 == "strconv.ErrSyntax") = [("strconv.ErrSyntax", Rows.laid_strconv_ErrSyntax)] := by kernel_rfl
theorem only_rng : laidL.filter (fun x => x.1 == "strconv.ErrRange") = [("strconv.ErrRange", Rows.laid_strconv_ErrRange)] := by kernel_rfl
theorem gSyn : Tryd.prog.globalNamed "strconv.ErrSyntax" = some 2 := by kernel_rfl
theorem gRng : Tryd.prog.globalNamed "strconv.ErrRange" = some 3 := by kernel_rfl
theorem tySyn : (Tryd.prog.globals[2]?).map (·.type) = some 55 := by kernel_rfl
theorem tyRng : (Tryd.prog.globals[3]?).map (·.type) = some 55 := by kernel_rfl
theorem cells_es : Tryd.prog.cellsOf 137 = 1 := by kernel_rfl
theorem cells_str : Tryd.prog.cellsOf 9 = 1 := by kernel_rfl
theorem laidB_of {W : World} (h : laidMetH Tryd.prog laidL W) : LaidB W := by
  have hp := pow_laid h
  rw [MakeChecks.laidMetH_plain _ _ _ (by kernel_rfl)] at h
  have h1 := h.filter (fun x => x.1 == "strconv.ErrSyntax")
  have h2 := h.filter (fun x => x.1 == "strconv.ErrRange")
  rw [only_syn] at h1
  rw [only_rng] at h2
  obtain ⟨a1, s1, v1, _⟩ := laid_sentinel h1 gSyn tySyn Tryd.underlying55 rowErr Tryd.underlying135 Tryd.underlying137 rfl rfl Tryd.underlying9 cells_es cells_str
  obtain ⟨a2, s2, v2, _⟩ := laid_sentinel h2 gRng tyRng Tryd.underlying55 rowErr Tryd.underlying135 Tryd.underlying137 rfl rfl Tryd.underlying9 cells_es cells_str
  have c1 := World.var?_cell gSyn v1 0
  have c2 := World.var?_cell gRng v2 0
  exact ⟨hp, ⟨_, _, by simpa using c1⟩, ⟨_, _, by simpa using c2⟩⟩
end Go.Proofs.YtboabgjgcnkelabDoor
