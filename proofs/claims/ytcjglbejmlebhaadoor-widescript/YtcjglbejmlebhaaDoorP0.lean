/-
  WHAT EVERY ROW OF THIS SEAT WANTS: the listed variables, the start that fits, numbers out of words.
-/
import Derived.Test.YtcjglbejmlebhaaDoorW14
import Derived.ProofKit
import Derived.LaidMore
import Derived.LaidSub
import Derived.MakeChecks
import Derived.OpenShut
import Derived.ShutString
import Derived.ChangeOld
import Derived.Stop.Joined
import Derived.Lib.SmallJoins
namespace Go.Proofs.YtcjglbejmlebhaaDoor
open Go.ChangeShapes Go.WideShapes Go.ChangeAt Go.RowKit

theorem own : ownKnob Tryd.prog.godebug = none := by kernel_rfl
theorem laidOut : laidOutB Tryd.prog = true := by kernel_rfl
def laidL : List (String × DataW Unit) := [("math/bits.deBruijn32tab", Rows.laid_math_bits_deBruijn32tab), ("math/bits.deBruijn64tab", Rows.laid_math_bits_deBruijn64tab), ("internal/strconv.uint64pow10", Rows.laid_internal_strconv_uint64pow10), ("heddle/wide.tens", Rows.laid_heddle_wide_tens)]
theorem door_met (os : Os) (args : Array Value) : laidMetH Tryd.prog laidL ((World.doorLaid Tryd.prog 400 os).forCall (fun _ _ => 0) ⟨#[], args, []⟩).memory :=
  laidMetH_of_parts3 (fuel := 8) (laidMet_of_run' 8 (by kernel_rfl) (by kernel_rfl)) (by kernel_rfl) (by kernel_rfl)
theorem only_pow : laidL.filter (fun x => x.1 == "internal/strconv.uint64pow10") = [("internal/strconv.uint64pow10", Lib.tabData .u64 Lib.pow10Tab)] := by kernel_rfl
theorem only_tens : laidL.filter (fun x => x.1 == "heddle/wide.tens") = [("heddle/wide.tens", Lib.tabData .u64 Lib.pow10Tab)] := by kernel_rfl
theorem tyPow : (Tryd.prog.globals[3]?).map (·.type) = some 64 := by kernel_rfl
theorem tyTens : (Tryd.prog.globals[0]?).map (·.type) = some 64 := by kernel_rfl
theorem cells_u64 : Tryd.prog.cellsOf 25 = 1 := by kernel_rfl
theorem cells_tab : Tryd.prog.cellsOf 64 = 20 := by kernel_rfl
theorem cells_wide : Tryd.prog.cellsOf 27 = 2 := by kernel_rfl
theorem of_laid {W : World} (h : laidMetH Tryd.prog laidL W) : Laid W := by
  rw [MakeChecks.laidMetH_plain _ _ _ (by kernel_rfl)] at h
  have h1 := h.filter (fun x => x.1 == "internal/strconv.uint64pow10")
  have h2 := h.filter (fun x => x.1 == "heddle/wide.tens")
  rw [only_pow] at h1
  rw [only_tens] at h2
  exact ⟨Lib.tabIs_of_head hgPow tyPow Tryd.underlying64 Tryd.underlying25 cells_u64 cells_tab h1, Lib.tabIs_of_head hgTens tyTens Tryd.underlying64 Tryd.underlying25 cells_u64 cells_tab h2⟩
theorem i64_of_wf {x : Int} (h : (Lit.int .i64 x).wf = true) : I64 x := by
  simp [Lit.wf, IntKind.min, IntKind.max, IntKind.signed, IntKind.bits] at h
  exact ⟨by omega, by omega⟩
theorem u64_of_wf {x : Int} (h : (Lit.int .u64 x).wf = true) : U64 x := by
  simp [Lit.wf, IntKind.min, IntKind.max, IntKind.signed, IntKind.bits] at h
  exact ⟨by omega, by omega⟩
set_option maxRecDepth 100000 in
/-- A struct of two words, as the walks have it. -/
theorem open_wide {H : Type} {enc : TypeId × Value → H} {W : World} {base : Nat} {v : Value} {d : DataW H} {p : List MemPlace}
    (hv : Value.okWide Tryd.prog W .any base 27 v) (h : DataW.Trod enc Tryd.prog W 0 (fun _ => true) true 27 v d p) : ∃ n : Int, Rng n ∧ v = wv n := by
  obtain ⟨c0, c1, y0, y1, m, rfl, rfl, rfl, hy0, hy1⟩ := Joins.open_agg2 Tryd.underlying27 (by kernel_rfl) cells_wide hv h
  obtain ⟨a, e0, _, wa⟩ := DataW.trod_int Tryd.underlying2 hy0
  obtain ⟨b, e1, _, wb⟩ := DataW.trod_int Tryd.underlying25 hy1
  simp at e0 e1
  subst e0 e1
  refine ⟨a * 18446744073709551616 + b, rng_mk (i64_of_wf wa) (u64_of_wf wb), ?_⟩
  rw [wv, hi_mk _ _ (u64_of_wf wb), lo_mk _ _ (u64_of_wf wb)]
end Go.Proofs.YtcjglbejmlebhaaDoor
