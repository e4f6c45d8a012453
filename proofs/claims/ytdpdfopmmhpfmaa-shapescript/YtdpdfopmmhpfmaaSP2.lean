/- A PARAMETER THAT IS A SCRIPT. -/
import Derived.Test.YtdpdfopmmhpfmaaSP1
import Derived.Test.YtdpdfopmmhpfmaaSW16
namespace Go.Proofs.Ytdpdfopmmhpfmaa
open Go.ChangeShapes Go.WideShapes Go.ChangeAt Go.RowKit

theorem cells_op : Try.prog.cellsOf 48 = 16 := by kernel_rfl
theorem und_ops : Try.prog.underlying 46 = some (.slice 48) := by kernel_rfl
theorem len16 {l : List Value} (h : l.length = 16) : ∃ a0 a1 a2 a3 a4 a5 a6 a7 a8 a9 a10 a11 a12 a13 a14 a15, l = [a0, a1, a2, a3, a4, a5, a6, a7, a8, a9, a10, a11, a12, a13, a14, a15] := by
  match l, h with
  | [a0, a1, a2, a3, a4, a5, a6, a7, a8, a9, a10, a11, a12, a13, a14, a15], _ => exact ⟨a0, a1, a2, a3, a4, a5, a6, a7, a8, a9, a10, a11, a12, a13, a14, a15, rfl⟩
set_option maxRecDepth 100000 in
theorem op_cells {H : Type} {enc : TypeId × Value → H} {w : World} {base : Nat} {sp : Nat → Bool} {held : Bool} {fuel : Nat} {cs : List Value} {x : DataW H × List MemPlace}
    (h : DataW.trod enc Try.prog w base sp held fuel 48 cs = some x) : ∃ z0 z1 z2 z3 z4 z5 z6 z7 z8 z9 z10 z11 z12 z13 z14 z15 : Int, cs = [.int .i64 z0, .int .i64 z1, .int .i64 z2, .int .i64 z3, .int .i64 z4, .int .i64 z5, .int .i64 z6, .int .i64 z7, .int .i64 z8, .int .i64 z9, .int .i64 z10, .int .i64 z11, .int .i64 z12, .int .i64 z13, .int .i64 z14, .int .i64 z15] := by
  have hl : cs.length = 16 := by
    obtain ⟨_, _, _, _, hlen, _, _⟩ := DataW.trod_struct Try.underlying48 h
    exact hlen.trans cells_op
  obtain ⟨z0, e0⟩ := fldI Try.underlying48 h 0 _ rfl Try.underlying3 cells_int
  obtain ⟨n1, y1, g1⟩ := fld Try.underlying48 h 1 _ rfl
  obtain ⟨n2, y2, g2⟩ := fld Try.underlying48 h 2 _ rfl
  obtain ⟨z1, z2, z3, e1⟩ := shape_cells g1
  obtain ⟨z4, z5, z6, z7, z8, z9, z10, z11, e2⟩ := win_cells g2
  obtain ⟨z12, e12⟩ := fldI Try.underlying48 h 3 _ rfl Try.underlying3 cells_int
  obtain ⟨z13, e13⟩ := fldI Try.underlying48 h 4 _ rfl Try.underlying3 cells_int
  obtain ⟨z14, e14⟩ := fldI Try.underlying48 h 5 _ rfl Try.underlying3 cells_int
  obtain ⟨z15, e15⟩ := fldI Try.underlying48 h 6 _ rfl Try.underlying3 cells_int
  obtain ⟨a0, a1, a2, a3, a4, a5, a6, a7, a8, a9, a10, a11, a12, a13, a14, a15, rfl⟩ := len16 hl
  simp [cells_shp, cells_win] at e0 e1 e2 e12 e13 e14 e15
  obtain ⟨rfl, rfl, rfl⟩ := e1
  obtain ⟨rfl, rfl, rfl, rfl, rfl, rfl, rfl, rfl⟩ := e2
  subst e0 e12 e13 e14 e15
  exact ⟨z0, z1, z2, z3, z4, z5, z6, z7, z8, z9, z10, z11, z12, z13, z14, z15, rfl⟩
theorem open_ops {H : Type} {enc : TypeId × Value → H} {W : World} {base : Nat} {v : Value} {d : DataW H} {p : List MemPlace}
    (hv : Value.okWide Try.prog W .any base 46 v) (h : DataW.Trod enc Try.prog W 0 (fun _ => true) true 46 v d p) :
    ∃ (ao : Option Addr) (m cap : Nat), v = .slice ao m cap ∧ m ≤ 9223372036854775807 ∧ Lop W ao m := by
  obtain ⟨ao, m, cap, rfl, hm, hf⟩ := open_list und_ops cells_op (by decide) hv h
  refine ⟨ao, m, cap, rfl, hm, fun k hk => ?_⟩
  obtain ⟨g, o, n, cs, y, rfl, ht, _, hc⟩ := hf k hk
  obtain ⟨z0, z1, z2, z3, z4, z5, z6, z7, z8, z9, z10, z11, z12, z13, z14, z15, rfl⟩ := op_cells ht
  exact ⟨g, o, z0, z1, z2, z3, z4, z5, z6, z7, z8, z9, z10, z11, z12, z13, z14, z15, rfl, by simpa using hc 0 (by decide), by simpa using hc 1 (by decide), by simpa using hc 2 (by decide), by simpa using hc 3 (by decide), by simpa using hc 4 (by decide), by simpa using hc 5 (by decide), by simpa using hc 6 (by decide), by simpa using hc 7 (by decide), by simpa using hc 8 (by decide), by simpa using hc 9 (by decide), by simpa using hc 10 (by decide), by simpa using hc 11 (by decide), by simpa using hc 12 (by decide), by simpa using hc 13 (by decide), by simpa using hc 14 (by decide), by simpa using hc 15 (by decide)⟩
end Go.Proofs.Ytdpdfopmmhpfmaa
