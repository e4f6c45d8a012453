/- WHAT EVERY ROW OF THIS SEAT WANTS. -/
import Derived.Test.YtdpdfopmmhpfmaaSW9
import Derived.ProofKit
import Derived.OpenShut
import Derived.ChangeOld
import Derived.SizedLaws
import Derived.Deep.Slices
import Derived.ChangeSame
namespace Go.Proofs.Ytdpdfopmmhpfmaa
open Go.ChangeShapes Go.WideShapes Go.ChangeAt Go.RowKit

theorem own : ownKnob Try.prog.godebug = none := by kernel_rfl
theorem laidOut : laidOutB Try.prog = true := by kernel_rfl
theorem fld {H : Type} {enc : TypeId × Value → H} {P : Program} {w : World} {base : Nat} {sp : Nat → Bool} {held : Bool} {t : TypeId} {fs : Array Field} {fuel : Nat} {cs : List Value} {x : DataW H × List MemPlace}
    (ht : P.underlying t = some (.struct fs)) (h : DataW.trod enc P w base sp held fuel t cs = some x) (i : Nat) (f : Field) (hi : fs[i]? = some f) :
    ∃ n y, DataW.trod enc P w base sp held n f.type ((cs.drop f.offset).take (P.cellsOf f.type)) = some y := by
  obtain ⟨xs, n, _, _, _, hxl, hf⟩ := DataW.trod_struct ht h
  have g := hf i f hi
  have hlt : i < xs.length := by
    rw [hxl]
    exact (Array.getElem?_eq_some_iff.1 hi).1
  rw [List.getElem?_eq_getElem hlt] at g
  exact ⟨n, _, g⟩
theorem fldI {H : Type} {enc : TypeId × Value → H} {P : Program} {w : World} {base : Nat} {sp : Nat → Bool} {held : Bool} {t : TypeId} {fs : Array Field} {fuel : Nat} {cs : List Value} {x : DataW H × List MemPlace}
    (ht : P.underlying t = some (.struct fs)) (h : DataW.trod enc P w base sp held fuel t cs = some x) (i : Nat) (f : Field) (hi : fs[i]? = some f) (hu : P.underlying f.type = some (.int .i64)) (hc : P.cellsOf f.type = 1) :
    ∃ z : Int, (cs.drop f.offset).take 1 = [.int .i64 z] := by
  obtain ⟨n, y, g⟩ := fld ht h i f hi
  rw [hc] at g
  obtain ⟨z, e, _⟩ := DataW.trod_int hu g
  exact ⟨z, e⟩
theorem cells_int : Try.prog.cellsOf 3 = 1 := by kernel_rfl
theorem cells_shp : Try.prog.cellsOf 23 = 3 := by kernel_rfl
theorem cells_win : Try.prog.cellsOf 33 = 8 := by kernel_rfl
theorem len3 {l : List Value} (h : l.length = 3) : ∃ a b c, l = [a, b, c] := by
  match l, h with
  | [a, b, c], _ => exact ⟨a, b, c, rfl⟩
theorem len8 {l : List Value} (h : l.length = 8) : ∃ a b c d e f g i, l = [a, b, c, d, e, f, g, i] := by
  match l, h with
  | [a, b, c, d, e, f, g, i], _ => exact ⟨a, b, c, d, e, f, g, i, rfl⟩
set_option maxRecDepth 100000 in
theorem shape_cells {H : Type} {enc : TypeId × Value → H} {w : World} {base : Nat} {sp : Nat → Bool} {held : Bool} {fuel : Nat} {cs : List Value} {x : DataW H × List MemPlace}
    (h : DataW.trod enc Try.prog w base sp held fuel 23 cs = some x) : ∃ a b c : Int, cs = [.int .i64 a, .int .i64 b, .int .i64 c] := by
  have hl : cs.length = 3 := by
    obtain ⟨_, _, _, _, hlen, _, _⟩ := DataW.trod_struct Try.underlying23 h
    exact hlen.trans cells_shp
  obtain ⟨z0, e0⟩ := fldI Try.underlying23 h 0 _ rfl Try.underlying3 cells_int
  obtain ⟨z1, e1⟩ := fldI Try.underlying23 h 1 _ rfl Try.underlying3 cells_int
  obtain ⟨z2, e2⟩ := fldI Try.underlying23 h 2 _ rfl Try.underlying3 cells_int
  obtain ⟨a, b, c, rfl⟩ := len3 hl
  simp at e0 e1 e2
  subst e0 e1 e2
  exact ⟨z0, z1, z2, rfl⟩
set_option maxRecDepth 100000 in
theorem win_cells {H : Type} {enc : TypeId × Value → H} {w : World} {base : Nat} {sp : Nat → Bool} {held : Bool} {fuel : Nat} {cs : List Value} {x : DataW H × List MemPlace}
    (h : DataW.trod enc Try.prog w base sp held fuel 33 cs = some x) :
    ∃ r s sy sx t l b q : Int, cs = [.int .i64 r, .int .i64 s, .int .i64 sy, .int .i64 sx, .int .i64 t, .int .i64 l, .int .i64 b, .int .i64 q] := by
  have hl : cs.length = 8 := by
    obtain ⟨_, _, _, _, hlen, _, _⟩ := DataW.trod_struct Try.underlying33 h
    exact hlen.trans cells_win
  obtain ⟨z0, e0⟩ := fldI Try.underlying33 h 0 _ rfl Try.underlying3 cells_int
  obtain ⟨z1, e1⟩ := fldI Try.underlying33 h 1 _ rfl Try.underlying3 cells_int
  obtain ⟨z2, e2⟩ := fldI Try.underlying33 h 2 _ rfl Try.underlying3 cells_int
  obtain ⟨z3, e3⟩ := fldI Try.underlying33 h 3 _ rfl Try.underlying3 cells_int
  obtain ⟨z4, e4⟩ := fldI Try.underlying33 h 4 _ rfl Try.underlying3 cells_int
  obtain ⟨z5, e5⟩ := fldI Try.underlying33 h 5 _ rfl Try.underlying3 cells_int
  obtain ⟨z6, e6⟩ := fldI Try.underlying33 h 6 _ rfl Try.underlying3 cells_int
  obtain ⟨z7, e7⟩ := fldI Try.underlying33 h 7 _ rfl Try.underlying3 cells_int
  obtain ⟨a, b, c, d, e, f, g, i, rfl⟩ := len8 hl
  simp at e0 e1 e2 e3 e4 e5 e6 e7
  subst e0 e1 e2 e3 e4 e5 e6 e7
  exact ⟨z0, z1, z2, z3, z4, z5, z6, z7, rfl⟩
theorem open_shape {H : Type} {enc : TypeId × Value → H} {W : World} {base : Nat} {v : Value} {d : DataW H} {p : List MemPlace}
    (hv : Value.okWide Try.prog W .any base 23 v) (h : DataW.Trod enc Try.prog W 0 (fun _ => true) true 23 v d p) : ∃ a b c : Int, v = shp a b c := by
  obtain ⟨cs, rfl, _⟩ := okWide_struct Try.underlying23 hv
  obtain ⟨fuel, hf⟩ := h
  obtain ⟨a, b, c, e⟩ := shape_cells hf
  refine ⟨a, b, c, ?_⟩
  simp [Value.cells] at e
  obtain ⟨l⟩ := cs
  simp at e
  subst e
  rfl
theorem open_win {H : Type} {enc : TypeId × Value → H} {W : World} {base : Nat} {v : Value} {d : DataW H} {p : List MemPlace}
    (hv : Value.okWide Try.prog W .any base 33 v) (h : DataW.Trod enc Try.prog W 0 (fun _ => true) true 33 v d p) : ∃ r s sy sx t l b q : Int, v = win r s sy sx t l b q := by
  obtain ⟨cs, rfl, _⟩ := okWide_struct Try.underlying33 hv
  obtain ⟨fuel, hf⟩ := h
  obtain ⟨r, s, sy, sx, t, l, b, q, e⟩ := win_cells hf
  refine ⟨r, s, sy, sx, t, l, b, q, ?_⟩
  simp [Value.cells] at e
  obtain ⟨l⟩ := cs
  simp at e
  subst e
  rfl
end Go.Proofs.Ytdpdfopmmhpfmaa
