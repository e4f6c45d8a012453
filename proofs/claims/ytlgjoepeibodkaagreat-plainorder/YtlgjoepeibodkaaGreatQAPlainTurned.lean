import Derived.Test.YtlgjoepeibodkaaGreatRows
import Derived.Test.YtlgjoepeibodkaaGreatOB1
import Derived.ProofKit
import Derived.OpenShut
import Derived.ChangeOld
import Derived.SizedLaws
import Derived.ChangeSlices
import Derived.Deep.Slices
import Derived.ChangeSame
import Derived.Test.YtlgjoepeibodkaaGreatNP4
import Derived.WalkKit
import Derived.Laws.BitsAllLaws
import Derived.RowKit
import Derived.WalkSpells
import Derived.StillTactics
import Derived.Laws.Pointers
import Derived.Deep.RegionHeld3
import Derived.RowKit3
import Derived.Below
import Derived.Shelf.Spec.BitsCarry
import Derived.BigQuiet
import Derived.Deep.DrawnRows
import Derived.Test.YtlgjoepeibodkaaGreatShelf
import Derived.Lib.ItoaNum
import Derived.Lib.ItoaMem
import Derived.Lib.Walk
import Derived.Lib.SmallJoins
import Derived.Lib.QuietBelow
import Derived.Lib.Repeat
import Derived.Deep.DeepCutAuto
import Derived.WalkLawsBesides
import Derived.Lib.AppendIntMem
import Derived.Lib.ItoaLen
import Derived.Test.YtlgjoepeibodkaaGreatPL1
import Derived.Deep.OwnRows
import Derived.Laws.MakeOwn
import Derived.Test.YtlgjoepeibodkaaGreatNQ6
import Derived.Test.YtlgjoepeibodkaaGreatNP5
import Derived.Deep.RegionLaw
import Derived.StillTailTactics
import Derived.Maps.AppendAt
import Derived.Deep.Onto
import Derived.Test.YtlgjoepeibodkaaGreatNP6
/- WHAT EVERY ROW OF THE SEATS OF bound WANTS: bytes, numbers, a reach as parameters. -/
namespace Go.Proofs.YtlgjoepeibodkaaGreat
open Go.ChangeShapes Go.WideShapes Go.ChangeAt Go.RowKit
set_option maxRecDepth 100000

theorem own : ownKnob Tryz.prog.godebug = none := by kernel_rfl
theorem laidOut : laidOutB Tryz.prog = true := by kernel_rfl
theorem fldO {H : Type} {enc : TypeId × Value → H} {P : Program} {w : World} {base : Nat} {sp : Nat → Bool} {held : Bool} {t : TypeId} {fs : Array Field} {fuel : Nat} {cs : List Value} {x : DataW H × List MemPlace}
    (ht : P.underlying t = some (.struct fs)) (h : DataW.trod enc P w base sp held fuel t cs = some x) (i : Nat) (f : Field) (hi : fs[i]? = some f) (hu : P.underlying f.type = some (.int .i64)) (hc : P.cellsOf f.type = 1) :
    ∃ z : Int, (cs.drop f.offset).take 1 = [.int .i64 z] := by
  obtain ⟨xs, n, _, _, _, hxl, hf⟩ := DataW.trod_struct ht h
  have g := hf i f hi
  have hlt : i < xs.length := by
    rw [hxl]
    exact (Array.getElem?_eq_some_iff.1 hi).1
  rw [List.getElem?_eq_getElem hlt] at g
  have g' : DataW.trod enc P w base sp held n f.type ((cs.drop f.offset).take (P.cellsOf f.type)) = some _ := g
  rw [hc] at g'
  obtain ⟨z, e, _⟩ := DataW.trod_int hu g'
  exact ⟨z, e⟩
theorem cells_i64O : Tryz.prog.cellsOf 2 = 1 := by kernel_rfl
theorem len2O {l : List Value} (h : l.length = 2) : ∃ a b, l = [a, b] := by
  match l, h with
  | [a, b], _ => exact ⟨a, b, rfl⟩
theorem add_atO (b o n : Nat) : Addr.add ⟨b, o, none⟩ n = ⟨b, o + n, none⟩ := by
  unfold Addr.add
  by_cases h : n = 0
  · subst h; rfl
  · rw [if_neg h]
theorem max_isO : maxLen = 9223372036854775807 := by decide
theorem u8_of_wfO {x : Int} (h : (Lit.int .u8 x).wf = true) : 0 ≤ x ∧ x < 256 := by
  simp [Lit.wf, IntKind.min, IntKind.max, IntKind.signed, IntKind.bits] at h
  exact ⟨by omega, by omega⟩
theorem cells_u8O : Tryz.prog.cellsOf 5 = 1 := by kernel_rfl
theorem und_u8sO : Tryz.prog.underlying 27 = some (.slice 5) := by kernel_rfl
theorem und_i64sO : Tryz.prog.underlying 36 = some (.slice 2) := by kernel_rfl
/-- A list of numbers of one kind. -/
theorem open_nums {H : Type} {enc : TypeId × Value → H} {W : World} {base : Nat} {t e : TypeId} {K : IntKind} {v : Value} {d : DataW H} {p : List MemPlace} (ht : Tryz.prog.underlying t = some (.slice e)) (he : Tryz.prog.underlying e = some (.int K)) (hN : Tryz.prog.cellsOf e = 1)
    (hv : Value.okWide Tryz.prog W .any base t v) (h : DataW.Trod enc Tryz.prog W 0 (fun _ => true) true t v d p) :
    ∃ (ao : Option Addr) (m cap : Nat) (f : Nat → Int), v = .slice ao m cap ∧ m ≤ cap ∧ cap ≤ 9223372036854775807 ∧ ∀ k, k < m → (Lit.int K (f k)).wf = true ∧ ∃ g o, ao = some ⟨g, o, none⟩ ∧ W.cell? ⟨g, o + k, none⟩ = some (.int K (f k)) := by
  obtain ⟨a0, len, cap, rfl⟩ := okWide_slice ht hv
  obtain ⟨fuel, hf⟩ := h
  rcases open_ints ht he hN hf with ⟨hc, hx⟩ | ⟨a, len', cap', zs, hc, _, hl, hm, hzl, hx, hcell, hwf⟩
  · simp [Value.cells] at hc
    obtain ⟨rfl, rfl, rfl⟩ := hc
    exact ⟨none, 0, 0, fun _ => 0, rfl, by omega, by omega, fun k hk => absurd hk (by omega)⟩
  · simp [Value.cells] at hc
    obtain ⟨rfl, rfl, rfl⟩ := hc
    simp only [if_true] at hzl
    have hmx := max_isO
    refine ⟨some a, len, cap, fun k => zs.getD k 0, rfl, by omega, by omega, fun k hk => ?_⟩
    obtain ⟨b, o, s⟩ := a
    have c := hcell k (by omega)
    have c0 := hcell 0 (by omega)
    have hs := World.cell?_spot c0
    simp [Addr.add] at hs
    subst hs
    rw [add_atO] at c
    have hk' : k < zs.length := by omega
    have e1 : zs.getD k 0 = zs[k] := by simp [List.getD, hk']
    refine ⟨?_, b, o, rfl, ?_⟩
    · dsimp only
      rw [e1]
      exact hwf zs[k] (List.getElem_mem hk')
    · exact c
theorem open_u8s {H : Type} {enc : TypeId × Value → H} {W : World} {base : Nat} {v : Value} {d : DataW H} {p : List MemPlace}
    (hv : Value.okWide Tryz.prog W .any base 27 v) (h : DataW.Trod enc Tryz.prog W 0 (fun _ => true) true 27 v d p) :
    ∃ (ao : Option Addr) (m cap : Nat) (f : Nat → Int), v = .slice ao m cap ∧ m ≤ cap ∧ cap ≤ 9223372036854775807 ∧ ∀ k, k < m → (0 ≤ f k ∧ f k < 256) ∧ ∃ g o, ao = some ⟨g, o, none⟩ ∧ W.cell? ⟨g, o + k, none⟩ = some (.int .u8 (f k)) := by
  obtain ⟨ao, m, cap, f, e, h1, h2, h3⟩ := open_nums und_u8sO Tryz.underlying5 cells_u8O hv h
  exact ⟨ao, m, cap, f, e, h1, h2, fun k hk => ⟨u8_of_wfO (h3 k hk).1, (h3 k hk).2⟩⟩
theorem open_i64x {H : Type} {enc : TypeId × Value → H} {W : World} {base : Nat} {v : Value} {d : DataW H} {p : List MemPlace}
    (hv : Value.okWide Tryz.prog W .any base 36 v) (h : DataW.Trod enc Tryz.prog W 0 (fun _ => true) true 36 v d p) :
    ∃ (ao : Option Addr) (m cap : Nat) (f : Nat → Int), v = .slice ao m cap ∧ m ≤ cap ∧ cap ≤ 9223372036854775807 ∧ ∀ k, k < m → ∃ g o, ao = some ⟨g, o, none⟩ ∧ W.cell? ⟨g, o + k, none⟩ = some (.int .i64 (f k)) := by
  obtain ⟨ao, m, cap, f, e, h1, h2, h3⟩ := open_nums und_i64sO Tryz.underlying2 cells_i64O hv h
  exact ⟨ao, m, cap, f, e, h1, h2, fun k hk => (h3 k hk).2⟩
end Go.Proofs.YtlgjoepeibodkaaGreat
/- Numbers of 64 bits as parameters. -/
namespace Go.Proofs.YtlgjoepeibodkaaGreat
open Go.ChangeShapes Go.WideShapes Go.ChangeAt Go.RowKit

theorem i64_of_wfO {x : Int} (h : (Lit.int .i64 x).wf = true) : -9223372036854775808 ≤ x ∧ x ≤ 9223372036854775807 := by
  simp [Lit.wf, IntKind.min, IntKind.max, IntKind.signed, IntKind.bits] at h
  exact ⟨by omega, by omega⟩
end Go.Proofs.YtlgjoepeibodkaaGreat
/- A NETWORK AS A PARAMETER. -/
namespace Go.Proofs.YtlgjoepeibodkaaGreat
open Go.ChangeShapes Go.WideShapes Go.ChangeAt Go.RowKit
set_option maxRecDepth 100000

section
variable {H : Type} {enc : TypeId × Value → H} {W : World} {fuel : Nat} {cs : List Value} {x : DataW H × List MemPlace}
theorem fldN {t : TypeId} {fs : Array Field} (ht : Tryz.prog.underlying t = some (.struct fs)) (h : DataW.trod enc Tryz.prog W 0 (fun _ => true) true fuel t cs = some x) (i : Nat) (f : Field) (hi : fs[i]? = some f) :
    ∃ n y, DataW.trod enc Tryz.prog W 0 (fun _ => true) true n f.type ((cs.drop f.offset).take (Tryz.prog.cellsOf f.type)) = some y := by
  obtain ⟨xs, n, _, _, _, hxl, hf⟩ := DataW.trod_struct ht h
  have g := hf i f hi
  have hlt : i < xs.length := by
    rw [hxl]
    exact (Array.getElem?_eq_some_iff.1 hi).1
  rw [List.getElem?_eq_getElem hlt] at g
  exact ⟨n, _, g⟩
theorem open_lstN {t e : TypeId} {K : IntKind} (ht : Tryz.prog.underlying t = some (.slice e)) (he : Tryz.prog.underlying e = some (.int K)) (hN : Tryz.prog.cellsOf e = 1) (h : DataW.trod enc Tryz.prog W 0 (fun _ => true) true fuel t cs = some x) :
    ∃ (ao : Option Addr) (m cap : Nat) (f : Nat → Int), cs = [.slice ao m cap] ∧ m ≤ cap ∧ cap ≤ 9223372036854775807 ∧ ∀ k, k < m → ∃ g o, ao = some ⟨g, o, none⟩ ∧ W.cell? ⟨g, o + k, none⟩ = some (.int K (f k)) := by
  rcases open_ints ht he hN h with ⟨hc, hx⟩ | ⟨a, len, cap, zs, hc, _, hl, hm, hzl, hx, hcell, hwf⟩
  · exact ⟨none, 0, 0, fun _ => 0, hc, by omega, by omega, fun k hk => absurd hk (by omega)⟩
  · simp only [if_true] at hzl
    have hmx := max_isO
    refine ⟨some a, len, cap, fun k => zs.getD k 0, hc, by omega, by omega, fun k hk => ?_⟩
    obtain ⟨b, o, s⟩ := a
    have c := hcell k (by omega)
    have c0 := hcell 0 (by omega)
    have hs := World.cell?_spot c0
    simp [Addr.add] at hs
    subst hs
    rw [add_atO] at c
    exact ⟨b, o, rfl, c⟩
theorem open_lstS {t e : TypeId} {N : Nat} (ht : Tryz.prog.underlying t = some (.slice e)) (hN : Tryz.prog.cellsOf e = N) (hpos : 0 < N) (h : DataW.trod enc Tryz.prog W 0 (fun _ => true) true fuel t cs = some x) :
    ∃ (ao : Option Addr) (m cap : Nat), cs = [.slice ao m cap] ∧ m ≤ cap ∧ cap ≤ 9223372036854775807 ∧ ∀ k, k < m → ∃ (g o n : Nat) (cs : List Value) (y : DataW H × List MemPlace), ao = some ⟨g, o, none⟩ ∧ DataW.trod enc Tryz.prog W 0 (fun _ => true) true n e cs = some y ∧ cs.length = N ∧
      ∀ j, j < N → W.cell? ⟨g, o + k * N + j, none⟩ = cs[j]? := by
  rcases Deep.open_slice ht h with ⟨hc, hx⟩ | ⟨a, len, cap, mm, n, D, Pl, hc, _, hl, hm, hmm, hx, hcell⟩
  · exact ⟨none, 0, 0, hc, by omega, by omega, fun k hk => absurd hk (by omega)⟩
  · simp only [if_true] at hmm
    refine ⟨some a, len, cap, hc, by omega, by have := max_isO; omega, fun k hk => ?_⟩
    obtain ⟨b, o, s⟩ := a
    obtain rfl : s = none := by
      obtain ⟨cs0, h0, _⟩ := hcell 0 (by omega)
      rw [hN] at h0
      obtain ⟨_, hlen, hc0⟩ := World.cells?_some h0
      have e0 := hc0 0 hpos
      rw [Deep.add_add, List.getElem?_eq_getElem (by omega)] at e0
      have := World.cell?_spot e0
      simpa [Addr.add] using this
    obtain ⟨cs, h1, h2⟩ := hcell k (by omega)
    rw [hN] at h1
    obtain ⟨_, hlen, hc1⟩ := World.cells?_some h1
    refine ⟨b, o, n, cs, _, rfl, h2, hlen, fun j hj => ?_⟩
    have := hc1 j hj
    rw [Deep.add_add, add_atO, ← Nat.add_assoc] at this
    exact this
theorem cells_intN : Tryz.prog.cellsOf 3 = 1 := by kernel_rfl
theorem cells_i8N : Tryz.prog.cellsOf 39 = 1 := by kernel_rfl
theorem cells_strN : Tryz.prog.cellsOf 9 = 1 := by kernel_rfl
theorem cells_fracN : Tryz.prog.cellsOf 41 = 2 := by kernel_rfl
theorem cells_normN : Tryz.prog.cellsOf 43 = 8 := by kernel_rfl
theorem cells_winN : Tryz.prog.cellsOf 33 = 8 := by kernel_rfl
theorem cells_shpN : Tryz.prog.cellsOf 23 = 3 := by kernel_rfl
theorem cells_lyN : Tryz.prog.cellsOf 38 = 15 := by kernel_rfl
theorem cells_netN : Tryz.prog.cellsOf 26 = 5 := by kernel_rfl
theorem cells_i8sN : Tryz.prog.cellsOf 34 = 1 := by kernel_rfl
theorem cells_nmsN : Tryz.prog.cellsOf 35 = 1 := by kernel_rfl
theorem cells_i64sN : Tryz.prog.cellsOf 36 = 1 := by kernel_rfl
theorem cells_lysN : Tryz.prog.cellsOf 24 = 1 := by kernel_rfl
theorem und_i8sN : Tryz.prog.underlying 34 = some (.slice 39) := by kernel_rfl
theorem und_nmsN : Tryz.prog.underlying 35 = some (.slice 43) := by kernel_rfl
theorem und_lysN : Tryz.prog.underlying 24 = some (.slice 38) := by kernel_rfl
theorem frac_cellsN (h : DataW.trod enc Tryz.prog W 0 (fun _ => true) true fuel 41 cs = some x) : ∃ a b : Int, cs = [.int .i64 a, .int .i64 b] := by
  have hl : cs.length = 2 := by
    obtain ⟨_, _, _, _, hlen, _, _⟩ := DataW.trod_struct Tryz.underlying41 h
    exact hlen.trans cells_fracN
  obtain ⟨z0, e0⟩ := fldO Tryz.underlying41 h 0 _ rfl Tryz.underlying2 cells_i64O
  obtain ⟨z1, e1⟩ := fldO Tryz.underlying41 h 1 _ rfl Tryz.underlying2 cells_i64O
  obtain ⟨a, b, rfl⟩ := len2O hl
  simp at e0 e1
  subst e0 e1
  exact ⟨z0, z1, rfl⟩
theorem fldFN {t : TypeId} {fs : Array Field} (ht : Tryz.prog.underlying t = some (.struct fs)) (h : DataW.trod enc Tryz.prog W 0 (fun _ => true) true fuel t cs = some x) (i : Nat) (f : Field) (hi : fs[i]? = some f) (hu : f.type = 41) :
    ∃ a b : Int, (cs.drop f.offset).take 2 = [.int .i64 a, .int .i64 b] := by
  obtain ⟨n, y, g⟩ := fldN ht h i f hi
  rw [hu, cells_fracN] at g
  exact frac_cellsN g
theorem norm_cellsN (h : DataW.trod enc Tryz.prog W 0 (fun _ => true) true fuel 43 cs = some x) : ∃ ns : Nat → Int, cs = [.int .i64 (ns 0), .int .i64 (ns 1), .int .i64 (ns 2), .int .i64 (ns 3), .int .i64 (ns 4), .int .i64 (ns 5), .int .i64 (ns 6), .int .i64 (ns 7)] := by
  have hl : cs.length = 8 := by
    obtain ⟨_, _, _, _, hlen, _, _⟩ := DataW.trod_struct Tryz.underlying43 h
    exact hlen.trans cells_normN
  obtain ⟨a0, b0, e0⟩ := fldFN Tryz.underlying43 h 0 _ rfl rfl
  obtain ⟨a1, b1, e1⟩ := fldFN Tryz.underlying43 h 1 _ rfl rfl
  obtain ⟨a2, b2, e2⟩ := fldFN Tryz.underlying43 h 2 _ rfl rfl
  obtain ⟨a3, b3, e3⟩ := fldFN Tryz.underlying43 h 3 _ rfl rfl
  match cs, hl with
  | [a, b, c, d, e, f, g, i], _ =>
    simp at e0 e1 e2 e3
    obtain ⟨rfl, rfl⟩ := e0
    obtain ⟨rfl, rfl⟩ := e1
    obtain ⟨rfl, rfl⟩ := e2
    obtain ⟨rfl, rfl⟩ := e3
    exact ⟨fun k => [a0, b0, a1, b1, a2, b2, a3, b3].getD k 0, rfl⟩
theorem win_cellsN (h : DataW.trod enc Tryz.prog W 0 (fun _ => true) true fuel 33 cs = some x) : ∃ r s sy sx t l b q : Int, cs = [.int .i64 r, .int .i64 s, .int .i64 sy, .int .i64 sx, .int .i64 t, .int .i64 l, .int .i64 b, .int .i64 q] := by
  have hl : cs.length = 8 := by
    obtain ⟨_, _, _, _, hlen, _, _⟩ := DataW.trod_struct Tryz.underlying33 h
    exact hlen.trans cells_winN
  obtain ⟨z0, e0⟩ := fldO Tryz.underlying33 h 0 _ rfl Tryz.underlying3 cells_intN
  obtain ⟨z1, e1⟩ := fldO Tryz.underlying33 h 1 _ rfl Tryz.underlying3 cells_intN
  obtain ⟨z2, e2⟩ := fldO Tryz.underlying33 h 2 _ rfl Tryz.underlying3 cells_intN
  obtain ⟨z3, e3⟩ := fldO Tryz.underlying33 h 3 _ rfl Tryz.underlying3 cells_intN
  obtain ⟨z4, e4⟩ := fldO Tryz.underlying33 h 4 _ rfl Tryz.underlying3 cells_intN
  obtain ⟨z5, e5⟩ := fldO Tryz.underlying33 h 5 _ rfl Tryz.underlying3 cells_intN
  obtain ⟨z6, e6⟩ := fldO Tryz.underlying33 h 6 _ rfl Tryz.underlying3 cells_intN
  obtain ⟨z7, e7⟩ := fldO Tryz.underlying33 h 7 _ rfl Tryz.underlying3 cells_intN
  match cs, hl with
  | [a, b, c, d, e, f, g, i], _ =>
    simp at e0 e1 e2 e3 e4 e5 e6 e7
    subst e0 e1 e2 e3 e4 e5 e6 e7
    exact ⟨_, _, _, _, _, _, _, _, rfl⟩
theorem shape_cellsN (h : DataW.trod enc Tryz.prog W 0 (fun _ => true) true fuel 23 cs = some x) : ∃ a b c : Int, cs = [.int .i64 a, .int .i64 b, .int .i64 c] := by
  have hl : cs.length = 3 := by
    obtain ⟨_, _, _, _, hlen, _, _⟩ := DataW.trod_struct Tryz.underlying23 h
    exact hlen.trans cells_shpN
  obtain ⟨z0, e0⟩ := fldO Tryz.underlying23 h 0 _ rfl Tryz.underlying3 cells_intN
  obtain ⟨z1, e1⟩ := fldO Tryz.underlying23 h 1 _ rfl Tryz.underlying3 cells_intN
  obtain ⟨z2, e2⟩ := fldO Tryz.underlying23 h 2 _ rfl Tryz.underlying3 cells_intN
  match cs, hl with
  | [a, b, c], _ =>
    simp at e0 e1 e2
    subst e0 e1 e2
    exact ⟨_, _, _, rfl⟩
theorem open_nmsN (h : DataW.trod enc Tryz.prog W 0 (fun _ => true) true fuel 35 cs = some x) : ∃ (ao : Option Addr) (m cap : Nat) (ns : Nat → Nat → Int), cs = [.slice ao m cap] ∧ m ≤ cap ∧ cap ≤ 9223372036854775807 ∧ ∀ j, j < m → ∃ g o, ao = some ⟨g, o, none⟩ ∧ Nn.Nmo W g (o + j * 8) (ns j 0) (ns j 1) (ns j 2) (ns j 3) (ns j 4) (ns j 5) (ns j 6) (ns j 7) := by
  obtain ⟨ao, m, cap, e, h1, h2, hf⟩ := open_lstS und_nmsN cells_normN (by decide) h
  have key : ∀ j, ∃ ns : Nat → Int, j < m → ∃ g o, ao = some ⟨g, o, none⟩ ∧ Nn.Nmo W g (o + j * 8) (ns 0) (ns 1) (ns 2) (ns 3) (ns 4) (ns 5) (ns 6) (ns 7) := fun j => by
    by_cases hj : j < m
    · obtain ⟨g, o, n, cs', y, e', ht, _, hc⟩ := hf j hj
      obtain ⟨ns, rfl⟩ := norm_cellsN ht
      exact ⟨ns, fun _ => ⟨g, o, e', hc 0 (by decide), hc 1 (by decide), hc 2 (by decide), hc 3 (by decide), hc 4 (by decide), hc 5 (by decide), hc 6 (by decide), hc 7 (by decide)⟩⟩
    · exact ⟨fun _ => 0, fun h => absurd h hj⟩
  exact ⟨ao, m, cap, fun j => (key j).choose, e, h1, h2, fun j hj => (key j).choose_spec hj⟩
/-- A layer that came in. -/
theorem ly_cellsN (h : DataW.trod enc Tryz.prog W 0 (fun _ => true) true fuel 38 cs = some x) : ∃ L : Nn.Ly, cs = [.int .i64 L.kd, .int .i64 L.wt, .int .i64 L.k, .int .i64 L.r, .int .i64 L.s, .int .i64 L.sy, .int .i64 L.sx, .int .i64 L.t, .int .i64 L.l, .int .i64 L.b, .int .i64 L.q, .int .i64 L.bd, .slice L.aw L.mw L.cw, .slice L.an L.mn L.cn, .slice L.ab L.mb L.cb] ∧ Nn.Lst W L ∧ L.mw ≤ L.cw ∧ L.mn ≤ L.cn ∧ L.mb ≤ L.cb := by
  have hl : cs.length = 15 := by
    obtain ⟨_, _, _, _, hlen, _, _⟩ := DataW.trod_struct Tryz.underlying38 h
    exact hlen.trans cells_lyN
  obtain ⟨z0, e0⟩ := fldO Tryz.underlying38 h 0 _ rfl Tryz.underlying3 cells_intN
  obtain ⟨z1, e1⟩ := fldO Tryz.underlying38 h 1 _ rfl Tryz.underlying3 cells_intN
  obtain ⟨z2, e2⟩ := fldO Tryz.underlying38 h 2 _ rfl Tryz.underlying3 cells_intN
  obtain ⟨_, y3, t3⟩ := fldN Tryz.underlying38 h 3 _ rfl
  obtain ⟨z4, e4⟩ := fldO Tryz.underlying38 h 4 _ rfl Tryz.underlying3 cells_intN
  obtain ⟨_, y5, t5⟩ := fldN Tryz.underlying38 h 5 _ rfl
  obtain ⟨_, y6, t6⟩ := fldN Tryz.underlying38 h 6 _ rfl
  obtain ⟨_, y7, t7⟩ := fldN Tryz.underlying38 h 7 _ rfl
  replace t3 : DataW.trod enc Tryz.prog W 0 (fun _ => true) true _ 33 ((cs.drop 3).take (Tryz.prog.cellsOf 33)) = some y3 := t3
  replace t5 : DataW.trod enc Tryz.prog W 0 (fun _ => true) true _ 34 ((cs.drop 12).take (Tryz.prog.cellsOf 34)) = some y5 := t5
  replace t6 : DataW.trod enc Tryz.prog W 0 (fun _ => true) true _ 35 ((cs.drop 13).take (Tryz.prog.cellsOf 35)) = some y6 := t6
  replace t7 : DataW.trod enc Tryz.prog W 0 (fun _ => true) true _ 36 ((cs.drop 14).take (Tryz.prog.cellsOf 36)) = some y7 := t7
  rw [cells_winN] at t3
  rw [cells_i8sN] at t5
  rw [cells_nmsN] at t6
  rw [cells_i64sN] at t7
  obtain ⟨r, s, sy, sx, t, l, b, q, e3⟩ := win_cellsN t3
  obtain ⟨aw, mw, cw, ws, e5, w1, w2, w3⟩ := open_lstN und_i8sN Tryz.underlying39 cells_i8N t5
  obtain ⟨an, mn, cn, ns, e6, n1, n2, n3⟩ := open_nmsN t6
  obtain ⟨ab, mb, cb, bs, e7, b1, b2, b3⟩ := open_lstN und_i64sO Tryz.underlying2 cells_i64O t7
  refine ⟨⟨z0, z1, z2, r, s, sy, sx, t, l, b, q, z4, aw, mw, cw, an, mn, cn, ab, mb, cb, ws, ns, bs⟩, ?_, ⟨w3, n3, b3, by show mw ≤ _; omega, by show mn ≤ _; omega, by show mb ≤ _; omega⟩, w1, n1, b1⟩
  match cs, hl with
  | [x0, x1, x2, x3, x4, x5, x6, x7, x8, x9, x10, x11, x12, x13, x14], _ =>
    simp at e0 e1 e2 e3 e4 e5 e6 e7
    obtain ⟨rfl, rfl, rfl, rfl, rfl, rfl, rfl, rfl⟩ := e3
    subst e0 e1 e2 e4 e5 e6 e7
    rfl
end
/-- A network that came in. -/
theorem open_net {H : Type} {enc : TypeId × Value → H} {W : World} {base : Nat} {v : Value} {d : DataW H} {p : List MemPlace}
    (hv : Value.okWide Tryz.prog W .any base 26 v) (h : DataW.Trod enc Tryz.prog W 0 (fun _ => true) true 26 v d p) :
    ∃ N : Nn.Nt, v = Nn.ntv N ∧ Nn.NtW W N ∧ N.ml ≤ N.cl ∧ ∀ j, j < N.ml → (N.lf j).mw ≤ (N.lf j).cw ∧ (N.lf j).mn ≤ (N.lf j).cn ∧ (N.lf j).mb ≤ (N.lf j).cb := by
  obtain ⟨cs, rfl, _⟩ := okWide_struct Tryz.underlying26 hv
  obtain ⟨fuel, hf⟩ := h
  have hl : (Value.agg cs).cells.toList.length = 5 := by
    obtain ⟨_, _, _, _, hlen, _, _⟩ := DataW.trod_struct Tryz.underlying26 hf
    exact hlen.trans cells_netN
  obtain ⟨_, y0, t0⟩ := fldN Tryz.underlying26 hf 0 _ rfl
  obtain ⟨_, y1, t1⟩ := fldN Tryz.underlying26 hf 1 _ rfl
  obtain ⟨_, y2, t2⟩ := fldN Tryz.underlying26 hf 2 _ rfl
  replace t0 : DataW.trod enc Tryz.prog W 0 (fun _ => true) true _ 9 (((Value.agg cs).cells.toList.drop 0).take (Tryz.prog.cellsOf 9)) = some y0 := t0
  replace t1 : DataW.trod enc Tryz.prog W 0 (fun _ => true) true _ 23 (((Value.agg cs).cells.toList.drop 1).take (Tryz.prog.cellsOf 23)) = some y1 := t1
  replace t2 : DataW.trod enc Tryz.prog W 0 (fun _ => true) true _ 24 (((Value.agg cs).cells.toList.drop 4).take (Tryz.prog.cellsOf 24)) = some y2 := t2
  rw [cells_strN] at t0
  rw [cells_shpN] at t1
  rw [cells_lysN] at t2
  obtain ⟨s, e0, -, hs⟩ := DataW.trod_string Tryz.underlying9 t0
  obtain ⟨a, b, c, e1⟩ := shape_cellsN t1
  obtain ⟨al, ml, cl, e2, l1, l2, l3⟩ := open_lstS und_lysN cells_lyN (by decide) t2
  have key : ∀ j, ∃ L : Nn.Ly, j < ml → (∃ g o, al = some ⟨g, o, none⟩ ∧ Nn.Lc W g (o + j * 15) L ∧ Nn.Lst W L) ∧ L.mw ≤ L.cw ∧ L.mn ≤ L.cn ∧ L.mb ≤ L.cb := fun j => by
    by_cases hj : j < ml
    · obtain ⟨g, o, n, cs', y, e', ht, _, hc⟩ := l3 j hj
      obtain ⟨L, rfl, h1, h2⟩ := ly_cellsN ht
      exact ⟨L, fun _ => ⟨⟨g, o, e', ⟨hc 0 (by decide), hc 1 (by decide), hc 2 (by decide), hc 3 (by decide), hc 4 (by decide), hc 5 (by decide), hc 6 (by decide), hc 7 (by decide), hc 8 (by decide), hc 9 (by decide), hc 10 (by decide), hc 11 (by decide), hc 12 (by decide), hc 13 (by decide), hc 14 (by decide)⟩, h1⟩, h2⟩⟩
    · exact ⟨⟨0, 0, 0, 0, 0, 0, 0, 0, 0, 0, 0, 0, none, 0, 0, none, 0, 0, none, 0, 0, fun _ => 0, fun _ _ => 0, fun _ => 0⟩, fun h => absurd h hj⟩
  refine ⟨⟨s, a, b, c, al, ml, cl, fun j => (key j).choose⟩, ?_, ⟨fun j hj => ((key j).choose_spec hj).1, by show ml ≤ _; omega, by have := max_isO; show s.size ≤ _; omega⟩, l1, fun j hj => ((key j).choose_spec hj).2⟩
  obtain ⟨l⟩ := cs
  simp [Value.cells] at hl e0 e1 e2
  match l, hl with
  | [x0, x1, x2, x3, x4], _ =>
    simp at e0 e1 e2
    obtain ⟨rfl, rfl, rfl⟩ := e1
    subst e0 e2
    rfl
end Go.Proofs.YtlgjoepeibodkaaGreat
/- LISTS OF TRUTH VALUES, OF INTS AS PARAMETERS. -/
namespace Go.Proofs.YtlgjoepeibodkaaGreat
open Go.ChangeShapes Go.WideShapes Go.ChangeAt Go.RowKit
set_option maxRecDepth 100000

theorem cells_boolN : Tryz.prog.cellsOf 4 = 1 := by kernel_rfl
theorem und_boolsN : Tryz.prog.underlying 28 = some (.slice 4) := by kernel_rfl
theorem open_bools {H : Type} {enc : TypeId × Value → H} {W : World} {base : Nat} {v : Value} {d : DataW H} {p : List MemPlace}
    (hv : Value.okWide Tryz.prog W .any base 28 v) (h : DataW.Trod enc Tryz.prog W 0 (fun _ => true) true 28 v d p) :
    ∃ (ao : Option Addr) (m cap : Nat) (f : Nat → Bool), v = .slice ao m cap ∧ m ≤ cap ∧ cap ≤ 9223372036854775807 ∧ ∀ k, k < m → ∃ g o, ao = some ⟨g, o, none⟩ ∧ W.cell? ⟨g, o + k, none⟩ = some (.bool (f k)) := by
  obtain ⟨a0, len, cap, rfl⟩ := okWide_slice und_boolsN hv
  obtain ⟨fuel, hf⟩ := h
  obtain ⟨ao, m, c, e, h1, h2, h3⟩ := open_lstS und_boolsN cells_boolN (by decide) hf
  simp [Value.cells] at e
  obtain ⟨rfl, rfl, rfl⟩ := e
  have key : ∀ k, ∃ b : Bool, k < len → ∃ g o, a0 = some ⟨g, o, none⟩ ∧ W.cell? ⟨g, o + k, none⟩ = some (.bool b) := fun k => by
    by_cases hk : k < len
    · obtain ⟨g, o, n, cs, y, e, ht, hl, hc⟩ := h3 k hk
      obtain ⟨b, e2, -⟩ := DataW.trod_bool Tryz.underlying4 ht
      refine ⟨b, fun _ => ⟨g, o, e, ?_⟩⟩
      have := hc 0 (by decide)
      rw [e2, Nat.mul_one, Nat.add_zero] at this
      exact this
    · exact ⟨false, fun h => absurd h hk⟩
  exact ⟨a0, len, cap, fun k => (key k).choose, rfl, h1, h2, fun k hk => (key k).choose_spec hk⟩
theorem und_intsN : Tryz.prog.underlying 51 = some (.slice 3) := by kernel_rfl
theorem open_intsN {H : Type} {enc : TypeId × Value → H} {W : World} {base : Nat} {v : Value} {d : DataW H} {p : List MemPlace}
    (hv : Value.okWide Tryz.prog W .any base 51 v) (h : DataW.Trod enc Tryz.prog W 0 (fun _ => true) true 51 v d p) :
    ∃ (ao : Option Addr) (m cap : Nat) (f : Nat → Int), v = .slice ao m cap ∧ m ≤ cap ∧ cap ≤ 9223372036854775807 ∧ ∀ k, k < m → ∃ g o, ao = some ⟨g, o, none⟩ ∧ W.cell? ⟨g, o + k, none⟩ = some (.int .i64 (f k)) := by
  obtain ⟨ao, m, cap, f, e, h1, h2, h3⟩ := open_nums und_intsN Tryz.underlying3 cells_intN hv h
  exact ⟨ao, m, cap, f, e, h1, h2, fun k hk => (h3 k hk).2⟩
end Go.Proofs.YtlgjoepeibodkaaGreat
/-
  PLAIN MATHEMATICS OF TWO-WORD NUMBERS. No Go in sight.
-/
namespace Go.Proofs.YtlgjoepeibodkaaGreat.Wd
open Go.RowKit

/-- The upper word of a number, and the lower one. -/
def hiOf (n : Int) : Int := n / 18446744073709551616
def loOf (n : Int) : Int := n % 18446744073709551616
/-- A number that two words with a sign hold; a word with a sign; a word without. -/
def Rng (n : Int) : Prop := -170141183460469231731687303715884105728 ≤ n ∧ n < 170141183460469231731687303715884105728
def I64 (n : Int) : Prop := -9223372036854775808 ≤ n ∧ n < 9223372036854775808
def U64 (n : Int) : Prop := 0 ≤ n ∧ n < 18446744073709551616
/-- A size: two words without a sign. -/
def Siz (n : Int) : Prop := 0 ≤ n ∧ n < 340282366920938463463374607431768211456

theorem hi_i64 {n : Int} (h : Rng n) : I64 (hiOf n) := by unfold Rng at h; unfold I64 hiOf; omega
theorem hi_u64 {n : Int} (h : Siz n) : U64 (hiOf n) := by unfold Siz at h; unfold U64 hiOf; omega
theorem lo_u64 (n : Int) : U64 (loOf n) := by unfold U64 loOf; omega
theorem hilo (n : Int) : hiOf n * 18446744073709551616 + loOf n = n := by unfold hiOf loOf; omega
theorem hi_mk (h l : Int) (hl : U64 l) : hiOf (h * 18446744073709551616 + l) = h := by unfold U64 at hl; unfold hiOf; omega
theorem lo_mk (h l : Int) (hl : U64 l) : loOf (h * 18446744073709551616 + l) = l := by unfold U64 at hl; unfold loOf; omega
theorem rng_mk {h l : Int} (hh : I64 h) (hl : U64 l) : Rng (h * 18446744073709551616 + l) := by unfold I64 at hh; unfold U64 at hl; unfold Rng; omega
theorem siz_mk {h l : Int} (hh : U64 h) (hl : U64 l) : Siz (h * 18446744073709551616 + l) := by unfold U64 at hh hl; unfold Siz; omega
theorem hi_neg (n : Int) : hiOf n < 0 ↔ n < 0 := by unfold hiOf; omega
theorem hilo_inj {a b : Int} (h : hiOf a = hiOf b) (l : loOf a = loOf b) : a = b := by rw [← hilo a, ← hilo b, h, l]
/-- The word turned over, bit by bit. -/
def notW (x : Int) : Int := 18446744073709551615 - x
theorem notW_u64 {x : Int} (h : U64 x) : 0 ≤ notW x ∧ notW x < 18446744073709551616 := by unfold U64 at h; unfold notW; omega
theorem xor_ones (k : Nat) (hk : k < 18446744073709551616) : 18446744073709551615 ^^^ k = 18446744073709551615 - k := by
  have h : (18446744073709551615#64 ^^^ BitVec.ofNat 64 k) = ~~~ (BitVec.ofNat 64 k) := BitVec.allOnes_xor
  have h2 := congrArg BitVec.toNat h
  rw [BitVec.toNat_xor, BitVec.toNat_not, BitVec.toNat_ofNat, BitVec.toNat_ofNat] at h2
  simpa [Nat.mod_eq_of_lt hk] using h2
theorem bits_not {x : Int} (h : U64 x) : bits .xor .u64 IntKind.u64.max x = notW x := by
  obtain ⟨h0, h1⟩ := h
  obtain ⟨k, rfl⟩ := Int.eq_ofNat_of_zero_le h0
  have e : IntKind.u64.max = ((18446744073709551615 : Nat) : Int) := by rfl
  rw [e, u64_xor_nat _ _ (by omega) (by omega), xor_ones k (by omega)]
  unfold notW; omega
theorem flip_words (n : Int) : (notW (hiOf n) + (notW (loOf n) + 1) / 18446744073709551616) % 18446744073709551616 = hiOf ((340282366920938463463374607431768211456 - n) % 340282366920938463463374607431768211456) ∧ (notW (loOf n) + 1) % 18446744073709551616 = loOf ((340282366920938463463374607431768211456 - n) % 340282366920938463463374607431768211456) := by
  unfold notW hiOf loOf; omega
def flipN (n : Int) : Int := (340282366920938463463374607431768211456 - n) % 340282366920938463463374607431768211456
theorem flipN_siz (n : Int) : Siz (flipN n) := by unfold Siz flipN; omega
def absN (n : Int) : Int := if n < 0 then -n else n
theorem absN_siz {n : Int} (h : Rng n) : Siz (absN n) := by unfold Rng at h; unfold Siz absN; split <;> omega
theorem absN_u64 {n : Int} (h : I64 n) : U64 (absN n) := by unfold I64 at h; unfold U64 absN; split <;> omega
theorem wrap_hi {n : Int} (h : Rng n) (h0 : n < 0) : IntKind.u64.wrap (hiOf n) = hiOf (n + 340282366920938463463374607431768211456) := by
  rw [IntKind.wrap_u64]; unfold Rng at h; unfold hiOf; omega
theorem wrap_hi_pos {n : Int} (h : Rng n) (h0 : 0 ≤ n) : IntKind.u64.wrap (hiOf n) = hiOf n := by
  rw [IntKind.wrap_u64]; unfold Rng at h; unfold hiOf; omega
theorem lo_up (n : Int) : loOf n = loOf (n + 340282366920938463463374607431768211456) := by unfold loOf; omega
theorem siz_up {n : Int} (h : Rng n) (h0 : n < 0) : Siz (n + 340282366920938463463374607431768211456) := by unfold Rng at h; unfold Siz; omega
theorem flip_up {n : Int} (h : Rng n) (h0 : n < 0) : flipN (n + 340282366920938463463374607431768211456) = -n := by unfold Rng at h; unfold flipN; omega
theorem amount_neg {n : Int} (hn : I64 n) (h : n < 0) : IntKind.u64.wrap (-IntKind.u64.wrap n) = -n := by
  rw [IntKind.wrap_u64, IntKind.wrap_u64]; unfold I64 at hn; omega
theorem amount_pos {n : Int} (hn : I64 n) (h : ¬ n < 0) : IntKind.u64.wrap n = n := by
  rw [IntKind.wrap_u64]; unfold I64 at hn; omega
theorem sg_pos {n : Int} (hn : Siz n) (h : n < 170141183460469231731687303715884105728) : wrap64 (hiOf n) = hiOf n ∧ 0 ≤ hiOf n := by
  unfold Siz at hn; unfold hiOf wrap64; omega
theorem sg_big {n : Int} (hn : Siz n) (h : 170141183460469231731687303715884105728 ≤ n) : wrap64 (hiOf n) < 0 ∧ (hiOf n == 0) = false := by
  rw [beq_eq_false_iff_ne]; unfold Siz at hn; unfold hiOf wrap64; omega
theorem sg_neg {n : Int} (hn : Siz n) (h : n ≤ 170141183460469231731687303715884105728) (h0 : 0 < n) : wrap64 (hiOf (flipN n)) = hiOf (-n) ∧ loOf (flipN n) = loOf (-n) ∧ hiOf (-n) < 0 ∧ (hiOf (flipN n) == 0) = false := by
  rw [beq_eq_false_iff_ne]; unfold Siz at hn; unfold hiOf loOf flipN wrap64; omega
theorem wrap64_0 : wrap64 0 = 0 := by unfold wrap64; omega
theorem flip0 : flipN 0 = 0 := rfl
theorem siz0 : Siz 0 := by unfold Siz; omega
theorem sg_far_lo {n : Int} (hn : Siz n) (h : 170141183460469231731687303715884105728 < n) (hz : hiOf (flipN n) = 0) : (loOf (flipN n) == 0) = false := by
  rw [beq_eq_false_iff_ne]; unfold Siz at hn; unfold hiOf at hz; unfold loOf; unfold flipN at *; omega
theorem sg_far_hi {n : Int} (hn : Siz n) (h : 170141183460469231731687303715884105728 < n) : wrap64 (hiOf (flipN n)) = hiOf (flipN n) ∧ 0 ≤ hiOf (flipN n) := by
  unfold Siz at hn; unfold hiOf flipN wrap64; omega
theorem hi0 : hiOf 0 = 0 := rfl
theorem lo0 : loOf 0 = 0 := rfl
theorem u64_signed : IntKind.u64.signed = false := rfl
end Go.Proofs.YtlgjoepeibodkaaGreat.Wd
namespace Go.Proofs.YtlgjoepeibodkaaGreat.Wd
open Go.RowKit Go.Shelf

theorem add64 (x y c : Int) (hx : 0 ≤ x) (hy : 0 ≤ y) (hc0 : 0 ≤ c) (hc : c ≤ 1) (w : World) : (callFunc 100 #[.int .u64 x, .int .u64 y, .int .u64 c]).run Tryz.prog w =
    .ok (.value (.tuple #[.int .u64 ((x + y + c) % 18446744073709551616), .int .u64 ((x + y + c) / 18446744073709551616)])) w := by
  obtain ⟨x, rfl⟩ := Int.eq_ofNat_of_zero_le hx
  obtain ⟨y, rfl⟩ := Int.eq_ofNat_of_zero_le hy
  obtain ⟨c, rfl⟩ := Int.eq_ofNat_of_zero_le hc0
  rw [run_callFunc_extern Tryz.func100 (by kernel_rfl) (by kernel_rfl) (by kernel_rfl) (e := add64Entry) (by kernel_rfl), run_add64 x y c (by omega) (by omega) (by omega) (by omega)]
  rfl
theorem add64_0 (x y : Int) (hx : 0 ≤ x) (hy : 0 ≤ y) (w : World) : (callFunc 100 #[.int .u64 x, .int .u64 y, .int .u64 0]).run Tryz.prog w =
    .ok (.value (.tuple #[.int .u64 ((x + y) % 18446744073709551616), .int .u64 ((x + y) / 18446744073709551616)])) w := by
  simpa using add64 x y 0 hx hy (Int.le_refl 0) (by decide) w


set_option maxRecDepth 100000 in
theorem flipped_w (h l : Int) (hh : U64 h) (hl : U64 l) (w : World) :
    Calls Tryz.prog 105 #[.agg #[.int .u64 h, .int .u64 l]] w fun e w' => e = .returned (.agg #[.int .u64 ((notW h + (notW l + 1) / 18446744073709551616) % 18446744073709551616), .int .u64 ((notW l + 1) % 18446744073709551616)]) ∧ Below w.heap.size w w' := by
  have x1 := bits_not hh; have x2 := bits_not hl
  have n1 := (notW_u64 hh).1; have n2 := (notW_u64 hl).1; have n3 := (notW_u64 hl).2
  have sg := u64_signed
  have k0 : 0 ≤ (notW l + 1) / 18446744073709551616 := by omega
  have k1 : (notW l + 1) / 18446744073709551616 ≤ 1 := by omega
  go_enter Tryz.func105, Tryz.ntmps105
  go_wp2_with (first | simp only [add64_0 (notW l) 1 n2 (by decide)] | simp only [add64 (notW h) 0 _ n1 (by decide) k0 k1])
  simp [bodyPost, results, Tryz.results105, go_sem]
  exact ((Below.refl _ _).alloc (Nat.le_refl _) _).alloc (by simp) _
abbrev sv (n : Int) : Value := .agg #[.int .u64 (hiOf n), .int .u64 (loOf n)]
abbrev wv (n : Int) : Value := .agg #[.int .i64 (hiOf n), .int .u64 (loOf n)]
theorem flipped_any (h l n : Int) (eh : h = hiOf n) (el : l = loOf n) (hn : Siz n) (w : World) :
    Calls Tryz.prog 105 #[.agg #[.int .u64 h, .int .u64 l]] w fun e w' => e = .returned (sv (flipN n)) ∧ Below w.heap.size w w' := by
  subst eh el
  refine (flipped_w _ _ (hi_u64 hn) (lo_u64 n) w).mono ?_
  rintro e w' ⟨rfl, hb⟩
  exact ⟨by rw [(flip_words n).1, (flip_words n).2]; rfl, hb⟩
theorem bcell {W w1 : World} (hb : Below W.heap.size W w1) : (∀ b o, b < W.heap.size → w1.cell? ⟨b, o, none⟩ = W.cell? ⟨b, o, none⟩) ∧ (∀ b o, b < W.heap.size → w1.frozen? ⟨b, o, none⟩ = W.frozen? ⟨b, o, none⟩) :=
  ⟨fun b o h => hb.cell (p := ⟨b, o, none⟩) h, fun b o h => hb.frozen (p := ⟨b, o, none⟩) h⟩

theorem bl_alloc {a w : World} (h : Below a.heap.size a w) (o : Obj) : Below a.heap.size a (w.alloc o) := h.alloc h.size o
theorem bl_step {a W w' : World} (h : Below a.heap.size a W) (hb : Below W.heap.size W w') : Below a.heap.size a w' := h.trans (hb.mono h.size)
theorem bl_set {a w : World} (h : Below a.heap.size a w) {b o : Nat} (hp : a.heap.size ≤ b) (u : Value) : Below a.heap.size a (w.setCell ⟨b, o, none⟩ u) := h.setCell hp u

set_option maxRecDepth 100000 in
theorem sizeOf_neg (n : Int) (hn : Rng n) (h0 : n < 0) (w : World) :
    Calls Tryz.prog 101 #[wv n] w fun e w' => e = .returned (sv (-n)) ∧ Below w.heap.size w w' := by
  have h1 := (hi_neg n).2 h0
  go_enter Tryz.func101, Tryz.ntmps101
  go_wp2_with fail
  refine (flipped_any _ _ _ (wrap_hi hn h0) (lo_up n) (siz_up hn h0) _).mono ?_
  rintro e w' ⟨rfl, hb⟩
  rw [flip_up hn h0]
  obtain ⟨hc, hf⟩ := bcell hb
  go_wp2
  simp [bodyPost, results, Tryz.results101, go_sem, hc]
  repeat (first | exact Below.refl _ _ | refine bl_alloc ?_ _ | refine Below.drew ?_ | refine bl_set ?_ (by omega) _ | refine bl_step ?_ (by assumption))
set_option maxRecDepth 100000 in
theorem sizeOf_pos (n : Int) (hn : Rng n) (h0 : 0 ≤ n) (w : World) :
    Calls Tryz.prog 101 #[wv n] w fun e w' => e = .returned (sv n) ∧ Below w.heap.size w w' := by
  have h1 : ¬ hiOf n < 0 := by rw [hi_neg]; omega
  have h2 := wrap_hi_pos hn h0
  go_enter Tryz.func101, Tryz.ntmps101
  go_wp2
  simp [bodyPost, results, Tryz.results101, go_sem]
  repeat (first | exact Below.refl _ _ | refine bl_alloc ?_ _ | refine Below.drew ?_ | refine bl_set ?_ (by omega) _ | refine bl_step ?_ (by assumption))
theorem sizeOf_any (n : Int) (hn : Rng n) (w : World) :
    Calls Tryz.prog 101 #[wv n] w fun e w' => e = .returned (sv (absN n)) ∧ Below w.heap.size w w' := by
  unfold absN
  by_cases h : n < 0
  · rw [if_pos h]; exact sizeOf_neg n hn h w
  · rw [if_neg h]; exact sizeOf_pos n hn (by omega) w
theorem amount_any (n : Int) (hn : I64 n) (w : World) :
    Calls Tryz.prog 103 #[.int .i64 n] w fun e w' => e = .returned (.int .u64 (absN n)) ∧ w' = w := by
  unfold absN
  by_cases h : n < 0
  · rw [if_pos h]
    have e1 := amount_neg hn h
    go_enter Tryz.func103, Tryz.ntmps103
    go_wp2
    go_ret
    exact ⟨rfl, rfl⟩
  · rw [if_neg h]
    have e1 := amount_pos hn h
    go_enter Tryz.func103, Tryz.ntmps103
    go_wp2
    go_ret
    exact ⟨rfl, rfl⟩

set_option maxRecDepth 100000 in
theorem signed_plus_ok (n : Int) (hn : Siz n) (w : World) (h : n < 170141183460469231731687303715884105728) :
    Calls Tryz.prog 104 #[sv n, .bool false] w fun e w' => e = .returned (.tuple #[wv n, .int .i64 0]) ∧ Below w.heap.size w w' := by
  have e1 := (sg_pos hn h).1
  have e2 := (sg_pos hn h).2
  have e3 := wrap64_0
  go_enter Tryz.func104, Tryz.ntmps104
  go_wp2
  all_goals (simp [bodyPost, results, Tryz.results104, go_sem, *]; repeat (first | exact Below.refl _ _ | refine bl_alloc ?_ _ | refine Below.drew ?_ | refine bl_set ?_ (by omega) _ | refine bl_step ?_ (by assumption)))

set_option maxRecDepth 100000 in
theorem signed_plus_no (n : Int) (hn : Siz n) (w : World) (h : 170141183460469231731687303715884105728 ≤ n) :
    Calls Tryz.prog 104 #[sv n, .bool false] w fun e w' => e = .returned (.tuple #[wv 0, .int .i64 10]) ∧ Below w.heap.size w w' := by
  have e1 := (sg_big hn h).1
  have e2 := (sg_big hn h).2
  go_enter Tryz.func104, Tryz.ntmps104
  go_wp2
  all_goals (simp [bodyPost, results, Tryz.results104, go_sem, hi0, lo0]; repeat (first | exact Below.refl _ _ | refine bl_alloc ?_ _ | refine Below.drew ?_ | refine bl_set ?_ (by omega) _ | refine bl_step ?_ (by assumption)))

set_option maxRecDepth 100000 in
theorem signed_minus_ok (n : Int) (hn : Siz n) (w : World) (h : n ≤ 170141183460469231731687303715884105728) (h0 : 0 < n) :
    Calls Tryz.prog 104 #[sv n, .bool true] w fun e w' => e = .returned (.tuple #[wv (-n), .int .i64 0]) ∧ Below w.heap.size w w' := by
  obtain ⟨e1, e2, e3, e4⟩ := sg_neg hn h h0
  go_enter Tryz.func104, Tryz.ntmps104
  go_wp2_with fail
  refine (flipped_any _ _ _ rfl rfl hn _).mono ?_
  rintro e w' ⟨rfl, hb⟩
  obtain ⟨hc, hf⟩ := bcell hb
  have c0 := hc w.heap.size 0 (by simp <;> omega); have c1 := hc w.heap.size 1 (by simp <;> omega)
  have c2 := hc (w.heap.size + 1) 0 (by simp); have c3 := hc (w.heap.size + 1) 1 (by simp)
  have f0 := hf w.heap.size 0 (by simp <;> omega); have f1 := hf w.heap.size 1 (by simp <;> omega)
  have f2 := hf (w.heap.size + 1) 0 (by simp); have f3 := hf (w.heap.size + 1) 1 (by simp)
  have hz := hb.size
  simp [go_sem] at c0 c1 c2 c3 f0 f1 f2 f3 hz
  have z0 : w.heap.size < w'.heap.size := by omega
  have z1 : w.heap.size + 1 < w'.heap.size := by omega
  clear hc hf hz
  go_wp2
  all_goals (simp [bodyPost, results, Tryz.results104, go_sem, *]; repeat (first | exact Below.refl _ _ | refine bl_alloc ?_ _ | refine Below.drew ?_ | refine bl_set ?_ (by omega) _ | refine bl_step ?_ (by assumption)))
set_option maxRecDepth 100000 in
theorem signed_minus_zero (w : World) :
    Calls Tryz.prog 104 #[sv 0, .bool true] w fun e w' => e = .returned (.tuple #[wv 0, .int .i64 0]) ∧ Below w.heap.size w w' := by
  have e1 := flip0
  have e2 := hi0; have e3 := lo0; have e4 := wrap64_0
  go_enter Tryz.func104, Tryz.ntmps104
  go_wp2_with fail
  refine (flipped_any _ _ _ hi0.symm lo0.symm siz0 _).mono ?_
  rintro e w' ⟨rfl, hb⟩
  obtain ⟨hc, hf⟩ := bcell hb
  have c0 := hc w.heap.size 0 (by simp <;> omega); have c1 := hc w.heap.size 1 (by simp <;> omega)
  have c2 := hc (w.heap.size + 1) 0 (by simp); have c3 := hc (w.heap.size + 1) 1 (by simp)
  have f0 := hf w.heap.size 0 (by simp <;> omega); have f1 := hf w.heap.size 1 (by simp <;> omega)
  have f2 := hf (w.heap.size + 1) 0 (by simp); have f3 := hf (w.heap.size + 1) 1 (by simp)
  have hz := hb.size
  simp [go_sem] at c0 c1 c2 c3 f0 f1 f2 f3 hz
  have z0 : w.heap.size < w'.heap.size := by omega
  have z1 : w.heap.size + 1 < w'.heap.size := by omega
  clear hc hf hz
  go_wp2
  all_goals (simp [bodyPost, results, Tryz.results104, go_sem, *]; repeat (first | exact Below.refl _ _ | refine bl_alloc ?_ _ | refine Below.drew ?_ | refine bl_set ?_ (by omega) _ | refine bl_step ?_ (by assumption)))
set_option maxRecDepth 100000 in
theorem signed_minus_no1 (n : Int) (hn : Siz n) (w : World) (h : 170141183460469231731687303715884105728 < n) (hz : hiOf (flipN n) = 0) :
    Calls Tryz.prog 104 #[sv n, .bool true] w fun e w' => e = .returned (.tuple #[wv 0, .int .i64 10]) ∧ Below w.heap.size w w' := by
  have e2 := sg_far_lo hn h hz
  have e4 := wrap64_0
  go_enter Tryz.func104, Tryz.ntmps104
  go_wp2_with fail
  refine (flipped_any _ _ _ rfl rfl hn _).mono ?_
  rintro e w' ⟨rfl, hb⟩
  obtain ⟨hc, hf⟩ := bcell hb
  have c0 := hc w.heap.size 0 (by simp <;> omega); have c1 := hc w.heap.size 1 (by simp <;> omega)
  have c2 := hc (w.heap.size + 1) 0 (by simp); have c3 := hc (w.heap.size + 1) 1 (by simp)
  have f0 := hf w.heap.size 0 (by simp <;> omega); have f1 := hf w.heap.size 1 (by simp <;> omega)
  have f2 := hf (w.heap.size + 1) 0 (by simp); have f3 := hf (w.heap.size + 1) 1 (by simp)
  have hz := hb.size
  simp [go_sem] at c0 c1 c2 c3 f0 f1 f2 f3 hz
  have z0 : w.heap.size < w'.heap.size := by omega
  have z1 : w.heap.size + 1 < w'.heap.size := by omega
  clear hc hf hz
  go_wp2
  all_goals (simp [bodyPost, results, Tryz.results104, go_sem, hi0, lo0, *]; repeat (first | exact Below.refl _ _ | refine bl_alloc ?_ _ | refine Below.drew ?_ | refine bl_set ?_ (by omega) _ | refine bl_step ?_ (by assumption)))
set_option maxRecDepth 100000 in
theorem signed_minus_no2 (n : Int) (hn : Siz n) (w : World) (h : 170141183460469231731687303715884105728 < n) (hz : ¬ hiOf (flipN n) = 0) :
    Calls Tryz.prog 104 #[sv n, .bool true] w fun e w' => e = .returned (.tuple #[wv 0, .int .i64 10]) ∧ Below w.heap.size w w' := by
  have e4 := beq_eq_false_iff_ne.2 hz
  obtain ⟨e1, e2⟩ := sg_far_hi hn h
  have e5 : decide (hiOf (flipN n) < 0) = false := decide_eq_false (by omega)
  go_enter Tryz.func104, Tryz.ntmps104
  go_wp2_with fail
  refine (flipped_any _ _ _ rfl rfl hn _).mono ?_
  rintro e w' ⟨rfl, hb⟩
  obtain ⟨hc, hf⟩ := bcell hb
  have c0 := hc w.heap.size 0 (by simp <;> omega); have c1 := hc w.heap.size 1 (by simp <;> omega)
  have c2 := hc (w.heap.size + 1) 0 (by simp); have c3 := hc (w.heap.size + 1) 1 (by simp)
  have f0 := hf w.heap.size 0 (by simp <;> omega); have f1 := hf w.heap.size 1 (by simp <;> omega)
  have f2 := hf (w.heap.size + 1) 0 (by simp); have f3 := hf (w.heap.size + 1) 1 (by simp)
  have hz := hb.size
  simp [go_sem] at c0 c1 c2 c3 f0 f1 f2 f3 hz
  have z0 : w.heap.size < w'.heap.size := by omega
  have z1 : w.heap.size + 1 < w'.heap.size := by omega
  clear hc hf hz
  go_wp2
  all_goals (simp [bodyPost, results, Tryz.results104, go_sem, hi0, lo0, *]; repeat (first | exact Below.refl _ _ | refine bl_alloc ?_ _ | refine Below.drew ?_ | refine bl_set ?_ (by omega) _ | refine bl_step ?_ (by assumption)))

def sgN (n : Int) (minus : Bool) : Int := if minus then -n else n
theorem signed_ok (n : Int) (minus : Bool) (hn : Siz n) (h : Rng (sgN n minus)) (w : World) :
    Calls Tryz.prog 104 #[sv n, .bool minus] w fun e w' => e = .returned (.tuple #[wv (sgN n minus), .int .i64 0]) ∧ Below w.heap.size w w' := by
  cases minus
  · exact signed_plus_ok n hn w h.2
  · by_cases h0 : n = 0
    · subst h0; exact signed_minus_zero w
    · have h1 := hn.1; have h2 : -170141183460469231731687303715884105728 ≤ -n := h.1
      exact signed_minus_ok n hn w (by omega) (by omega)
theorem signed_no (n : Int) (minus : Bool) (hn : Siz n) (h : ¬ Rng (sgN n minus)) (w : World) :
    Calls Tryz.prog 104 #[sv n, .bool minus] w fun e w' => e = .returned (.tuple #[wv 0, .int .i64 10]) ∧ Below w.heap.size w w' := by
  have h1 := hn.1
  cases minus
  · have h2 : 170141183460469231731687303715884105728 ≤ n := by simp only [Rng, sgN] at h; simp at h; omega
    exact signed_plus_no n hn w h2
  · have h2 : 170141183460469231731687303715884105728 < n := by simp only [Rng, sgN] at h; simp at h; omega
    by_cases hz : hiOf (flipN n) = 0
    · exact signed_minus_no1 n hn w h2 hz
    · exact signed_minus_no2 n hn w h2 hz
end Go.Proofs.YtlgjoepeibodkaaGreat.Wd
/-
  PLAIN MATHEMATICS OF TWO-WORD NUMBERS, SECOND PART: sums, order, parts.
-/
namespace Go.Proofs.YtlgjoepeibodkaaGreat.Wd
open Go.RowKit

def sumW (x y c : Int) : Int := (x + y + c) % 18446744073709551616
def carW (x y c : Int) : Int := (x + y + c) / 18446744073709551616
theorem sumW_u64 (x y c : Int) : U64 (sumW x y c) := by unfold U64 sumW; omega
theorem carW_01 {x y c : Int} (hx : U64 x) (hy : U64 y) (h0 : 0 ≤ c) (h1 : c ≤ 1) : 0 ≤ carW x y c ∧ carW x y c ≤ 1 := by unfold U64 at hx hy; unfold carW; omega
theorem wrap_u64 (x : Int) : U64 (IntKind.u64.wrap x) := by rw [IntKind.wrap_u64]; unfold U64; omega

theorem of_words {n : Int} (h : I64 n) : n / 9223372036854775808 = hiOf n ∧ IntKind.u64.wrap n = loOf n := by
  rw [IntKind.wrap_u64]; unfold I64 at h; unfold hiOf loOf; omega

/-- The words of a sum. -/
theorem add_lo (a b : Int) : sumW (loOf a) (loOf b) 0 = loOf (a + b) := by unfold sumW loOf; omega
theorem add_hi {a b : Int} (h : Rng (a + b)) : wrap64 (sumW (IntKind.u64.wrap (hiOf a)) (IntKind.u64.wrap (hiOf b)) (carW (loOf a) (loOf b) 0)) = hiOf (a + b) := by
  rw [IntKind.wrap_u64, IntKind.wrap_u64]; unfold Rng at h; unfold sumW carW loOf hiOf wrap64; omega
theorem add_over {a b : Int} (ha : Rng a) (hb : Rng b) (h : ¬ Rng (a + b)) : (a < 0 ∧ b < 0 ∧ 0 ≤ wrap64 (sumW (IntKind.u64.wrap (hiOf a)) (IntKind.u64.wrap (hiOf b)) (carW (loOf a) (loOf b) 0))) ∨ (0 ≤ a ∧ 0 ≤ b ∧ wrap64 (sumW (IntKind.u64.wrap (hiOf a)) (IntKind.u64.wrap (hiOf b)) (carW (loOf a) (loOf b) 0)) < 0) := by
  rw [IntKind.wrap_u64, IntKind.wrap_u64]; unfold Rng at *; unfold sumW carW loOf hiOf wrap64; omega
theorem hi_pos {n : Int} (h : 0 ≤ n) : 0 ≤ hiOf n := by unfold hiOf; omega
theorem hi_nn {n : Int} (h : 0 ≤ n) : decide (hiOf n < 0) = false := decide_eq_false (by have := hi_pos h; omega)
theorem hi_ngt {n : Int} (h : n < 0) : hiOf n < 0 := by unfold hiOf; omega

def cmpN (a b : Int) : Int := if a < b then -1 else if a = b then 0 else 1
theorem cmp_lt {a b : Int} (h : a < b) : cmpN a b = -1 := by unfold cmpN; rw [if_pos h]
theorem cmp_eq (a : Int) : cmpN a a = 0 := by unfold cmpN; rw [if_neg (by omega), if_pos rfl]
theorem cmp_gt {a b : Int} (h : b < a) : cmpN a b = 1 := by unfold cmpN; rw [if_neg (by omega), if_neg (by omega)]
theorem words_lt {a b : Int} (h : a < b) : hiOf a < hiOf b ∨ (hiOf a = hiOf b ∧ loOf a < loOf b) := by unfold hiOf loOf; omega

/-- 'lower': the upper word divided by 8, towards nought. -/
def lowN (n : Int) : Int := (hiOf n).tdiv 8 * 18446744073709551616 + loOf n
theorem low_hi (n : Int) : hiOf (lowN n) = (hiOf n).tdiv 8 := hi_mk _ _ (lo_u64 n)
theorem low_lo (n : Int) : loOf (lowN n) = loOf n := lo_mk _ _ (lo_u64 n)
theorem low_wrap {n : Int} (h : Rng n) : wrap64 ((hiOf n).tdiv 8) = (hiOf n).tdiv 8 := by
  have h1 := hi_i64 h; unfold I64 at h1
  have e := Int.mul_tdiv_add_tmod (hiOf n) 8
  have b1 := Int.tmod_lt_of_pos (hiOf n) (show (0 : Int) < 8 by decide)
  have b2 : -8 < (hiOf n).tmod 8 := Int.lt_tmod_of_pos (hiOf n) (by decide)
  unfold wrap64; omega
theorem low_rng {n : Int} (h : Rng n) : -42535295865117307932921825928971026432 ≤ lowN n ∧ lowN n < 42535295865117307932921825928971026432 := by
  have h1 := hi_i64 h; have h2 := lo_u64 n; unfold I64 at h1; unfold U64 at h2; unfold lowN
  have e := Int.mul_tdiv_add_tmod (hiOf n) 8
  have b1 := Int.tmod_lt_of_pos (hiOf n) (show (0 : Int) < 8 by decide)
  have b2 : -8 < (hiOf n).tmod 8 := Int.lt_tmod_of_pos (hiOf n) (by decide)
  omega
end Go.Proofs.YtlgjoepeibodkaaGreat.Wd
namespace Go.Proofs.YtlgjoepeibodkaaGreat.Wd
open Go.RowKit Go.Shelf

theorem add64n (x y c : Int) (hx : U64 x) (hy : U64 y) (hc0 : 0 ≤ c) (hc : c ≤ 1) (w : World) : (callFunc 100 #[.int .u64 x, .int .u64 y, .int .u64 c]).run Tryz.prog w =
    .ok (.value (.tuple #[.int .u64 (sumW x y c), .int .u64 (carW x y c)])) w := add64 x y c hx.1 hy.1 hc0 hc w

theorem of_any (n : Int) (hn : I64 n) (w : World) :
    Calls Tryz.prog 98 #[.int .i64 n] w fun e w' => e = .returned (wv n) ∧ Below w.heap.size w w' := by
  obtain ⟨e1, e2⟩ := of_words hn
  go_enter Tryz.func98, Tryz.ntmps98
  clear e1 e2
  go_wp2
  simp [bodyPost, results, Tryz.results98, go_sem]
  obtain ⟨e1, e2⟩ := of_words hn
  exact ⟨⟨e1, e2⟩, (Below.refl _ _).alloc (Nat.le_refl _) _⟩

theorem cmp_w_lt (ah al bh bl : Int) (h : ah < bh) (w : World) :
    Calls Tryz.prog 97 #[.agg #[.int .i64 ah, .int .u64 al], .agg #[.int .i64 bh, .int .u64 bl]] w fun e w' => e = .returned (.int .i64 (-1)) ∧ Below w.heap.size w w' := by
  go_enter Tryz.func97, Tryz.ntmps97
  go_wp2
  go_ret
  exact ⟨rfl, bl_alloc (bl_alloc (Below.refl _ _) _) _⟩
theorem cmp_w_gt (ah al bh bl : Int) (h : bh < ah) (w : World) :
    Calls Tryz.prog 97 #[.agg #[.int .i64 ah, .int .u64 al], .agg #[.int .i64 bh, .int .u64 bl]] w fun e w' => e = .returned (.int .i64 1) ∧ Below w.heap.size w w' := by
  go_enter Tryz.func97, Tryz.ntmps97
  go_wp2
  go_ret
  exact ⟨rfl, bl_alloc (bl_alloc (Below.refl _ _) _) _⟩
theorem cmp_w_eq (ah al bl : Int) (w : World) (h : al < bl) :
    Calls Tryz.prog 97 #[.agg #[.int .i64 ah, .int .u64 al], .agg #[.int .i64 ah, .int .u64 bl]] w fun e w' => e = .returned (.int .i64 (-1)) ∧ Below w.heap.size w w' := by
  go_enter Tryz.func97, Tryz.ntmps97
  go_wp2
  go_ret
  exact ⟨rfl, bl_alloc (bl_alloc (Below.refl _ _) _) _⟩
theorem cmp_w_eq2 (ah al bl : Int) (w : World) (h : bl < al) :
    Calls Tryz.prog 97 #[.agg #[.int .i64 ah, .int .u64 al], .agg #[.int .i64 ah, .int .u64 bl]] w fun e w' => e = .returned (.int .i64 1) ∧ Below w.heap.size w w' := by
  go_enter Tryz.func97, Tryz.ntmps97
  go_wp2
  go_ret
  exact ⟨rfl, bl_alloc (bl_alloc (Below.refl _ _) _) _⟩
theorem cmp_w_same (ah al : Int) (w : World) :
    Calls Tryz.prog 97 #[.agg #[.int .i64 ah, .int .u64 al], .agg #[.int .i64 ah, .int .u64 al]] w fun e w' => e = .returned (.int .i64 0) ∧ Below w.heap.size w w' := by
  go_enter Tryz.func97, Tryz.ntmps97
  go_wp2
  go_ret
  exact ⟨rfl, bl_alloc (bl_alloc (Below.refl _ _) _) _⟩
theorem cmp_any (a b : Int) (w : World) :
    Calls Tryz.prog 97 #[wv a, wv b] w fun e w' => e = .returned (.int .i64 (cmpN a b)) ∧ Below w.heap.size w w' := by
  by_cases h : a < b
  · rw [cmp_lt h]
    rcases words_lt h with g | ⟨g, g'⟩
    · exact cmp_w_lt _ _ _ _ g w
    · rw [wv, wv, ← g]; exact cmp_w_eq _ _ _ w g'
  · by_cases h2 : a = b
    · subst h2; rw [cmp_eq]; exact cmp_w_same _ _ w
    · have h3 : b < a := by omega
      rw [cmp_gt h3]
      rcases words_lt h3 with g | ⟨g, g'⟩
      · exact cmp_w_gt _ _ _ _ g w
      · rw [wv, wv, g]; exact cmp_w_eq2 _ _ _ w g'

set_option maxRecDepth 100000 in
theorem wadd_ok (a b : Int) (h : Rng (a + b)) (w : World) :
    Calls Tryz.prog 96 #[wv a, wv b] w fun e w' => e = .returned (.tuple #[wv (a + b), .int .i64 0]) ∧ Below w.heap.size w w' := by
  have e1 := add_lo a b
  have e2 := add_hi h
  have u1 := wrap_u64 (hiOf a); have u2 := wrap_u64 (hiOf b)
  obtain ⟨k0, k1⟩ := carW_01 (lo_u64 a) (lo_u64 b) (Int.le_refl 0) (by decide : (0:Int) ≤ 1)
  by_cases ga : a < 0 <;> by_cases gb : b < 0
  · have s1 := hi_ngt ga; have s2 := hi_ngt gb; have s3 := hi_ngt (show a + b < 0 by omega)
    go_enter Tryz.func96, Tryz.ntmps96
    go_wp2_with (first | simp only [add64n (loOf a) (loOf b) 0 (lo_u64 a) (lo_u64 b) (Int.le_refl 0) (by decide)] | simp only [add64n _ _ _ u1 u2 k0 k1])
    simp [bodyPost, results, Tryz.results96, go_sem]
    repeat (first | exact Below.refl _ _ | refine bl_alloc ?_ _ | refine Below.drew ?_ | refine bl_set ?_ (by omega) _ | refine bl_step ?_ (by assumption))
  · have s1 := hi_ngt ga; have s2 := hi_nn (show 0 ≤ b by omega)
    go_enter Tryz.func96, Tryz.ntmps96
    go_wp2_with (first | simp only [add64n (loOf a) (loOf b) 0 (lo_u64 a) (lo_u64 b) (Int.le_refl 0) (by decide)] | simp only [add64n _ _ _ u1 u2 k0 k1])
    simp [bodyPost, results, Tryz.results96, go_sem]
    repeat (first | exact Below.refl _ _ | refine bl_alloc ?_ _ | refine Below.drew ?_ | refine bl_set ?_ (by omega) _ | refine bl_step ?_ (by assumption))
  · have s1 := hi_nn (show 0 ≤ a by omega); have s2 := hi_ngt gb
    go_enter Tryz.func96, Tryz.ntmps96
    go_wp2_with (first | simp only [add64n (loOf a) (loOf b) 0 (lo_u64 a) (lo_u64 b) (Int.le_refl 0) (by decide)] | simp only [add64n _ _ _ u1 u2 k0 k1])
    simp [bodyPost, results, Tryz.results96, go_sem]
    repeat (first | exact Below.refl _ _ | refine bl_alloc ?_ _ | refine Below.drew ?_ | refine bl_set ?_ (by omega) _ | refine bl_step ?_ (by assumption))
  · have s1 := hi_nn (show 0 ≤ a by omega); have s2 := hi_nn (show 0 ≤ b by omega); have s3 := hi_nn (show 0 ≤ a + b by omega)
    go_enter Tryz.func96, Tryz.ntmps96
    go_wp2_with (first | simp only [add64n (loOf a) (loOf b) 0 (lo_u64 a) (lo_u64 b) (Int.le_refl 0) (by decide)] | simp only [add64n _ _ _ u1 u2 k0 k1])
    simp [bodyPost, results, Tryz.results96, go_sem]
    repeat (first | exact Below.refl _ _ | refine bl_alloc ?_ _ | refine Below.drew ?_ | refine bl_set ?_ (by omega) _ | refine bl_step ?_ (by assumption))

set_option maxRecDepth 100000 in
theorem wadd_no (a b : Int) (ha : Rng a) (hb : Rng b) (h : ¬ Rng (a + b)) (w : World) :
    Calls Tryz.prog 96 #[wv a, wv b] w fun e w' => e = .returned (.tuple #[wv 0, .int .i64 10]) ∧ Below w.heap.size w w' := by
  have u1 := wrap_u64 (hiOf a); have u2 := wrap_u64 (hiOf b)
  obtain ⟨k0, k1⟩ := carW_01 (lo_u64 a) (lo_u64 b) (Int.le_refl 0) (by decide : (0:Int) ≤ 1)
  rcases add_over ha hb h with ⟨ga, gb, s3⟩ | ⟨ga, gb, s3⟩
  · have s1 := hi_ngt ga; have s2 := hi_ngt gb
    have s4 : decide (wrap64 (sumW (IntKind.u64.wrap (hiOf a)) (IntKind.u64.wrap (hiOf b)) (carW (loOf a) (loOf b) 0)) < 0) = false := decide_eq_false (by omega)
    clear h s3
    go_enter Tryz.func96, Tryz.ntmps96
    go_wp2_with (first | simp only [add64n (loOf a) (loOf b) 0 (lo_u64 a) (lo_u64 b) (Int.le_refl 0) (by decide)] | simp only [add64n _ _ _ u1 u2 k0 k1])
    simp [bodyPost, results, Tryz.results96, go_sem, hi0, lo0]
    repeat (first | exact Below.refl _ _ | refine bl_alloc ?_ _ | refine Below.drew ?_ | refine bl_set ?_ (by omega) _ | refine bl_step ?_ (by assumption))
  · have s1 := hi_nn ga; have s2 := hi_nn gb
    clear h
    go_enter Tryz.func96, Tryz.ntmps96
    go_wp2_with (first | simp only [add64n (loOf a) (loOf b) 0 (lo_u64 a) (lo_u64 b) (Int.le_refl 0) (by decide)] | simp only [add64n _ _ _ u1 u2 k0 k1])
    simp [bodyPost, results, Tryz.results96, go_sem, hi0, lo0]
    repeat (first | exact Below.refl _ _ | refine bl_alloc ?_ _ | refine Below.drew ?_ | refine bl_set ?_ (by omega) _ | refine bl_step ?_ (by assumption))
end Go.Proofs.YtlgjoepeibodkaaGreat.Wd
/-
  PLAIN MATHEMATICS OF TWO-WORD NUMBERS, THIRD PART: products.
-/
namespace Go.Proofs.YtlgjoepeibodkaaGreat.Wd
open Go.RowKit

theorem siz_mul {x y : Int} (hx : U64 x) (hy : U64 y) : Siz (x * y) := by
  obtain ⟨a, b⟩ := hx; obtain ⟨c, d⟩ := hy
  refine ⟨Int.mul_nonneg a c, ?_⟩
  have h1 : x * y ≤ 18446744073709551615 * 18446744073709551615 := Int.mul_le_mul (by omega) (by omega) c (by decide)
  omega
theorem fit_lo {n : Int} (h : I64 n) : wrap64 (loOf n) = n := by unfold I64 at h; unfold wrap64 loOf; omega
def sgn2 (a b : Int) : Bool := (decide (a < 0)) != (decide (b < 0))
theorem abs_mul (a b : Int) : (if sgn2 a b then -(absN a * absN b) else absN a * absN b) = a * b := by
  unfold sgn2 absN
  by_cases ha : a < 0 <;> by_cases hb : b < 0 <;> simp [ha, hb, Int.neg_mul, Int.mul_neg]
theorem rng_mul {a b : Int} (ha : I64 a) (hb : I64 b) : Rng (a * b) := by
  have h := abs_mul a b
  have h1 : Siz (absN a * absN b) := siz_mul (absN_u64 ha) (absN_u64 hb)
  have h2 : absN a * absN b ≤ 9223372036854775808 * 9223372036854775808 := by
    have a1 := (absN_u64 ha).1; have b1 := (absN_u64 hb).1
    refine Int.mul_le_mul ?_ ?_ b1 (by decide)
    · unfold absN; unfold I64 at ha; split <;> omega
    · unfold absN; unfold I64 at hb; split <;> omega
  unfold Siz at h1; unfold Rng
  split at h <;> omega
end Go.Proofs.YtlgjoepeibodkaaGreat.Wd
namespace Go.Proofs.YtlgjoepeibodkaaGreat.Wd
open Go.RowKit Go.Shelf
attribute [local go_sem ↓] Go.wp_at_zero Go.wp_at_succ

theorem keepc {W w' : World} (hb : Below W.heap.size W w') {b o : Nat} {v : Value} (h : W.cell? ⟨b, o, none⟩ = some v) : w'.cell? ⟨b, o, none⟩ = some v := by
  by_cases hlt : b < W.heap.size
  · exact (hb.cell (p := ⟨b, o, none⟩) hlt).trans h
  · exfalso
    have e : W.heap[b]? = none := Array.getElem?_eq_none (by omega)
    simp [World.cell?, e] at h

theorem mul64_any (x y : Int) (hx : U64 x) (hy : U64 y) (w : World) :
    Calls Tryz.prog 106 #[.int .u64 x, .int .u64 y] w fun e w' => e = .returned (.tuple #[.int .u64 (hiOf (x * y)), .int .u64 (loOf (x * y))]) ∧ w' = w := by
  obtain ⟨a, b⟩ := hx; obtain ⟨c, d⟩ := hy
  obtain ⟨x, rfl⟩ := Int.eq_ofNat_of_zero_le a
  obtain ⟨y, rfl⟩ := Int.eq_ofNat_of_zero_le c
  refine (Tryz.bits_Mul64 x y (by omega) (by omega) w).mono ?_
  rintro e w' ⟨rfl, rfl⟩
  exact ⟨by unfold hiOf loOf; simp, rfl⟩

theorem sgN_mul (a b : Int) : sgN (absN a * absN b) (!decide (a < 0) == decide (b < 0)) = a * b := abs_mul a b
end Go.Proofs.YtlgjoepeibodkaaGreat.Wd
/-
  PLAIN MATHEMATICS OF TWO-WORD NUMBERS, FOURTH PART: quotients.
-/
namespace Go.Proofs.YtlgjoepeibodkaaGreat.Wd
open Go.RowKit

theorem plus_lo (n k : Int) : sumW (loOf n) k 0 = loOf (n + k) := by unfold sumW loOf; omega
theorem plus_hi {n k : Int} (h : Siz (n + k)) : sumW (hiOf n) 0 (carW (loOf n) k 0) = hiOf (n + k) ∧ carW (hiOf n) 0 (carW (loOf n) k 0) = 0 := by
  unfold Siz at h; unfold sumW carW loOf hiOf; omega
theorem small_words {n : Int} (h : U64 n) : hiOf n = 0 ∧ loOf n = n := by unfold U64 at h; unfold hiOf loOf; omega
theorem quo_small {n y : Int} (h : U64 n) (h0 : 0 < y) : U64 (n / y) := by
  obtain ⟨a, b⟩ := h
  exact ⟨Int.ediv_nonneg a (by omega), Int.lt_of_le_of_lt (Int.ediv_le_self _ a) b⟩
def fitV (n : Int) : Int := if -170141183460469231731687303715884105728 ≤ n ∧ n < 170141183460469231731687303715884105728 then n else 0
def errV (n : Int) : Int := if -170141183460469231731687303715884105728 ≤ n ∧ n < 170141183460469231731687303715884105728 then 0 else 10
theorem fitV_ok {n : Int} (h : Rng n) : fitV n = n := if_pos h
theorem fitV_no {n : Int} (h : ¬ Rng n) : fitV n = 0 := if_neg h
theorem errV_ok {n : Int} (h : Rng n) : errV n = 0 := if_pos h
theorem errV_no {n : Int} (h : ¬ Rng n) : errV n = 10 := if_neg h
def restN (a b : Int) : Int := absN a % absN b
def quoN (a b : Int) : Int := absN a / absN b
/-- How the quotient of the sizes is rounded. -/
def awayN (a b : Int) (away : Bool) : Int := if away && decide (restN a b ≠ 0) then quoN a b + 1 else quoN a b
theorem absN_pos {b : Int} (h : b ≠ 0) : 0 < absN b := by unfold absN; split <;> omega
theorem quoN_bd {a b : Int} (ha : Rng a) (h : b ≠ 0) : 0 ≤ quoN a b ∧ quoN a b ≤ 170141183460469231731687303715884105728 := by
  have h0 := absN_pos h
  have h1 : 0 ≤ absN a ∧ absN a ≤ 170141183460469231731687303715884105728 := by unfold Rng at ha; unfold absN; split <;> omega
  refine ⟨Int.ediv_nonneg h1.1 (by omega), ?_⟩
  exact Int.le_trans (Int.ediv_le_self _ h1.1) h1.2
theorem quoN_siz {a b : Int} (ha : Rng a) (h : b ≠ 0) : Siz (quoN a b) := by have := quoN_bd ha h; unfold Siz; omega
theorem quoN_siz1 {a b : Int} (ha : Rng a) (h : b ≠ 0) : Siz (quoN a b + 1) := by have := quoN_bd ha h; unfold Siz; omega
theorem awayN_siz {a b : Int} (ha : Rng a) (h : b ≠ 0) (away : Bool) : Siz (awayN a b away) := by
  unfold awayN; split
  · exact quoN_siz1 ha h
  · exact quoN_siz ha h
theorem away_yes {a b : Int} {away : Bool} (h : away = true) (g : restN a b ≠ 0) : awayN a b away = quoN a b + 1 := by unfold awayN; simp [h, g]
theorem away_no {a b : Int} {away : Bool} (h : away = false ∨ restN a b = 0) : awayN a b away = quoN a b := by unfold awayN; rcases h with h | h <;> simp [h]
end Go.Proofs.YtlgjoepeibodkaaGreat.Wd
namespace Go.Proofs.YtlgjoepeibodkaaGreat.Wd
open Go.RowKit Go.Shelf

theorem bl_drewN {a w : World} (h : Below a.heap.size a w) (n : Nat) : Below a.heap.size a (w.drewN n) := by
  induction n with
  | zero => exact h
  | succ n ih => exact ih.drew
theorem keepf {W w' : World} (hb : Below W.heap.size W w') {b o : Nat} (hlt : b < W.heap.size) (h : W.frozen? ⟨b, o, none⟩ = false) : w'.frozen? ⟨b, o, none⟩ = false :=
  (hb.frozen (p := ⟨b, o, none⟩) hlt).trans h
theorem signed_any (n : Int) (minus : Bool) (hn : Siz n) (w : World) :
    Calls Tryz.prog 104 #[sv n, .bool minus] w fun e w' => e = .returned (.tuple #[wv (fitV (sgN n minus)), .int .i64 (errV (sgN n minus))]) ∧ Below w.heap.size w w' := by
  by_cases h : Rng (sgN n minus)
  · rw [fitV_ok h, errV_ok h]; exact signed_ok n minus hn h w
  · rw [fitV_no h, errV_no h]; exact signed_no n minus hn h w

def floorN (a b : Int) : Int := sgN (awayN a b (!decide (hiOf a < 0) == decide (b < 0))) (!decide (hiOf a < 0) == decide (b < 0))
def ceilN (a b : Int) : Int := sgN (awayN a b (decide (hiOf a < 0) == decide (b < 0))) (!decide (hiOf a < 0) == decide (b < 0))

end Go.Proofs.YtlgjoepeibodkaaGreat.Wd
/-
  PLAIN MATHEMATICS: the long division of two words by one, by halves of words.
-/
namespace Go.Proofs.YtlgjoepeibodkaaGreat.Wd
open Go.RowKit

/-- What holds at the head of either loop: y = y1 * B + y0 divides U * B + d, U below y; the trial digit Q, its rest R. -/
structure Trial (U y y1 y0 d Q R : Int) : Prop where
  split : y = y1 * 4294967296 + y0
  y1pos : 0 < y1
  y0lo : 0 ≤ y0
  y0hi : y0 < 4294967296
  dlo : 0 ≤ d
  dhi : d < 4294967296
  ulo : 0 ≤ U
  uhi : U < y
  sum : Q * y1 + R = U
  rlo : 0 ≤ R
  top : (U * 4294967296 + d) / y ≤ Q

theorem Trial.ypos {U y y1 y0 d Q R : Int} (t : Trial U y y1 y0 d Q R) : 0 < y := by
  have := t.ulo; have := t.uhi; omega
/-- The trial digit times the divisor. -/
theorem Trial.prod {U y y1 y0 d Q R : Int} (t : Trial U y y1 y0 d Q R) : Q * y = U * 4294967296 - R * 4294967296 + Q * y0 := by
  have h := t.sum
  rw [t.split, Int.mul_add, ← h, Int.add_mul, Int.mul_assoc]; omega
theorem Trial.more {U y y1 y0 d Q R : Int} (t : Trial U y y1 y0 d Q R) (h : 4294967296 ≤ Q ∨ 4294967296 * R + d < Q * y0) : (U * 4294967296 + d) / y ≤ Q - 1 := by
  have hy := t.ypos
  have hd := t.dhi; have hu := t.uhi
  have k : U * 4294967296 + d < Q * y := by
    rcases h with h | h
    · have h1 : 4294967296 * y ≤ Q * y := Int.mul_le_mul_of_nonneg_right h (by omega)
      omega
    · rw [t.prod]; omega
  have := (Int.ediv_lt_iff_lt_mul hy).2 k
  omega
theorem Trial.done {U y y1 y0 d Q R : Int} (t : Trial U y y1 y0 d Q R) (h : Q * y0 ≤ 4294967296 * R + d) : Q = (U * 4294967296 + d) / y := by
  have hy := t.ypos
  have k : Q * y ≤ U * 4294967296 + d := by rw [t.prod]; omega
  have h1 := (Int.le_ediv_iff_mul_le hy).2 k
  have h2 := t.top
  omega
theorem Trial.qlo {U y y1 y0 d Q R : Int} (t : Trial U y y1 y0 d Q R) : 0 ≤ Q := by
  have hy := t.ypos
  have h1 := t.top
  have h2 : 0 ≤ (U * 4294967296 + d) / y := Int.ediv_nonneg (by have := t.ulo; have := t.dlo; omega) (by omega)
  omega
/-- Behind a step that ends by the break. -/
theorem Trial.far {U y y1 y0 d Q R : Int} (t : Trial U y y1 y0 d Q R) (h : 4294967296 ≤ R) : Q = (U * 4294967296 + d) / y := by
  refine t.done ?_
  have hq : Q < 4294967296 := by
    refine Int.not_le.1 fun hq => ?_
    have h1 : 4294967296 * y1 ≤ Q * y1 := Int.mul_le_mul_of_nonneg_right hq (by have := t.y1pos; omega)
    have h2 := t.sum; have h3 := t.uhi; have h4 := t.split; have h5 := t.y0hi
    omega
  have h0 := t.qlo
  have h1 : Q * y0 ≤ 4294967296 * 4294967296 := Int.mul_le_mul (by omega) (by have := t.y0hi; omega) t.y0lo (by decide)
  have := t.dlo
  omega
theorem Trial.step {U y y1 y0 d Q R : Int} (t : Trial U y y1 y0 d Q R) (h : 4294967296 ≤ Q ∨ 4294967296 * R + d < Q * y0) : Trial U y y1 y0 d (Q - 1) (R + y1) :=
  { t with sum := by have := t.sum; rw [Int.sub_mul]; omega, rlo := by have := t.rlo; have := t.y1pos; omega, top := t.more h }
/-- The first trial: the quotient by the upper half alone is never too small. -/
theorem Trial.start {U y y1 y0 d : Int} (s : y = y1 * 4294967296 + y0) (a : 0 < y1) (b : 0 ≤ y0) (c : y0 < 4294967296) (e : 0 ≤ d) (f : d < 4294967296) (g : 0 ≤ U) (i : U < y) : Trial U y y1 y0 d (U / y1) (U - U / y1 * y1) := by
  have hy : 0 < y := by omega
  have h1 : 0 ≤ U - U / y1 * y1 := by have := Int.ediv_mul_le U (show y1 ≠ 0 by omega); omega
  have h2 : U < (U / y1 + 1) * y1 := Int.lt_ediv_add_one_mul_self U a
  have h3 : 0 ≤ U / y1 := Int.ediv_nonneg g (by omega)
  refine ⟨s, a, b, c, e, f, g, i, by omega, h1, ?_⟩
  have k : U * 4294967296 + d < (U / y1 + 1) * y := by
    have h4 : (U / y1 + 1) * y = (U / y1 + 1) * y1 * 4294967296 + (U / y1 + 1) * y0 := by rw [s, Int.mul_add, Int.mul_assoc]
    have h5 : 0 ≤ (U / y1 + 1) * y0 := Int.mul_nonneg (by omega) b
    omega
  have := (Int.ediv_lt_iff_lt_mul hy).2 k
  omega
theorem Trial.quot_lt {U y y1 y0 d : Int} (t : Trial U y y1 y0 d (U / y1) (U - U / y1 * y1)) (h : y < 18446744073709551616) : U / y1 < 18446744073709551616 := by
  have h1 := Int.ediv_le_self y1 t.ulo
  have := t.uhi
  omega
theorem Trial.rest0 {U y y1 y0 d : Int} (t : Trial U y y1 y0 d (U / y1) (U - U / y1 * y1)) (h : y < 18446744073709551616) : IntKind.u64.wrap (U - IntKind.u64.wrap (U / y1 * y1)) = U - U / y1 * y1 := by
  have h1 := t.rlo; have h2 := t.uhi; have h3 := t.ulo
  have h4 : 0 ≤ U / y1 * y1 := Int.mul_nonneg t.qlo (by have := t.y1pos; omega)
  simp only [IntKind.wrap_u64]; omega
theorem Trial.rest_lt {U y y1 y0 d : Int} (t : Trial U y y1 y0 d (U / y1) (U - U / y1 * y1)) (h : y1 ≤ 4294967296) : U - U / y1 * y1 < 4294967296 := by
  have h2 : U < (U / y1 + 1) * y1 := Int.lt_ediv_add_one_mul_self U t.y1pos
  rw [Int.add_mul] at h2
  omega
theorem Trial.small1 {U y y1 y0 d Q R : Int} (t : Trial U y y1 y0 d Q R) (h : Q < 4294967296) : IntKind.u64.wrap (Q * y0) = Q * y0 := by
  have h1 : 0 ≤ Q * y0 := Int.mul_nonneg t.qlo t.y0lo
  have h2 : Q * y0 ≤ 4294967295 * 4294967295 := Int.mul_le_mul (by omega) (by have := t.y0hi; omega) t.y0lo (by decide)
  rw [IntKind.wrap_u64]; omega
theorem Trial.small2 {U y y1 y0 d Q R : Int} (t : Trial U y y1 y0 d Q R) (h : R < 4294967296) : IntKind.u64.wrap (IntKind.u64.wrap (4294967296 * R) + d) = 4294967296 * R + d := by
  have h1 := t.rlo; have h2 := t.dlo; have h3 := t.dhi
  simp only [IntKind.wrap_u64]; omega
theorem Trial.small3 {U y y1 y0 d Q R : Int} (t : Trial U y y1 y0 d Q R) (h : R < 4294967296) : IntKind.u64.wrap (4294967296 * R + d) = 4294967296 * R + d := by
  have h1 := t.rlo; have h2 := t.dlo; have h3 := t.dhi
  simp only [IntKind.wrap_u64]; omega
theorem fin_wrap {h l y q1 q0 : Int} (hh : U64 h) (hl : U64 l) (hlt : h < y) (hy : 0 < y) (e : q1 * 4294967296 + q0 = (h * 18446744073709551616 + l) / y) :
    IntKind.u64.wrap (IntKind.u64.wrap (q1 * 4294967296) + q0) = (h * 18446744073709551616 + l) / y := by
  obtain ⟨a, b⟩ := hh; obtain ⟨c, d⟩ := hl
  have h1 : 0 ≤ (h * 18446744073709551616 + l) / y := Int.ediv_nonneg (by omega) (by omega)
  have h2 : (h * 18446744073709551616 + l) / y < 18446744073709551616 := (Int.ediv_lt_iff_lt_mul hy).2 (by omega)
  simp only [IntKind.wrap_u64]; omega
theorem fin_wrap2 {h l y q1 q0 : Int} (hh : U64 h) (hl : U64 l) (hlt : h < y) (hy : 0 < y) (e : q1 * 4294967296 + q0 = (h * 18446744073709551616 + l) / y) :
    IntKind.u64.wrap (q1 * 4294967296 + q0) = (h * 18446744073709551616 + l) / y := by
  obtain ⟨a, b⟩ := hh; obtain ⟨c, d⟩ := hl
  have h1 : 0 ≤ (h * 18446744073709551616 + l) / y := Int.ediv_nonneg (by omega) (by omega)
  have h2 : (h * 18446744073709551616 + l) / y < 18446744073709551616 := (Int.ediv_lt_iff_lt_mul hy).2 (by omega)
  simp only [IntKind.wrap_u64]; omega
theorem rest_wrap {U y d Q : Int} (hy : 0 < y) (hy2 : y < 18446744073709551616) (h : Q = (U * 4294967296 + d) / y) :
    IntKind.u64.wrap (IntKind.u64.wrap (IntKind.u64.wrap (U * 4294967296) + d) - IntKind.u64.wrap (Q * y)) = (U * 4294967296 + d) % y := by
  have h1 := Int.emod_nonneg (U * 4294967296 + d) (show y ≠ 0 by omega)
  have h2 := Int.emod_lt_of_pos (U * 4294967296 + d) hy
  have h3 := Int.mul_ediv_add_emod (U * 4294967296 + d) y
  rw [← h, Int.mul_comm] at h3
  simp only [IntKind.wrap_u64]
  omega
theorem div_final {N y P U D d1 d0 q1 q0 U1 U2 : Int} (hP : 0 < P) (hy : 0 < y) (hN : N * P = U * 18446744073709551616 + D) (hD : D = d1 * 4294967296 + d0)
    (h1 : q1 = (U * 4294967296 + d1) / (y * P)) (h2 : U1 = (U * 4294967296 + d1) % (y * P)) (h3 : q0 = (U1 * 4294967296 + d0) / (y * P)) (h4 : U2 = (U1 * 4294967296 + d0) % (y * P)) :
    q1 * 4294967296 + q0 = N / y ∧ U2 / P = N % y := by
  have hY : 0 < y * P := Int.mul_pos hy hP
  have e1 := Int.mul_ediv_add_emod (U * 4294967296 + d1) (y * P)
  have e2 := Int.mul_ediv_add_emod (U1 * 4294967296 + d0) (y * P)
  rw [← h1, ← h2] at e1
  rw [← h3, ← h4] at e2
  have b1 : 0 ≤ U2 := by rw [h4]; exact Int.emod_nonneg _ (by omega)
  have b2 : U2 < y * P := by rw [h4]; exact Int.emod_lt_of_pos _ hY
  have e3 : P * N = P * (y * (q1 * 4294967296 + q0)) + U2 := by
    have k1 : P * (y * (q1 * 4294967296 + q0)) = y * P * q1 * 4294967296 + y * P * q0 := by
      rw [Int.mul_add, Int.mul_add, ← Int.mul_assoc, ← Int.mul_assoc, ← Int.mul_assoc, Int.mul_comm P y]
    rw [k1, Int.mul_comm P N]
    omega
  have e4 : U2 = P * (N - y * (q1 * 4294967296 + q0)) := by rw [Int.mul_sub]; omega
  have r1 : 0 ≤ N - y * (q1 * 4294967296 + q0) := by
    refine Int.not_lt.1 fun h => ?_
    have : P * (N - y * (q1 * 4294967296 + q0)) < 0 := Int.mul_neg_of_pos_of_neg hP h
    omega
  have r2 : N - y * (q1 * 4294967296 + q0) < y := by
    refine Int.lt_of_mul_lt_mul_left (a := P) ?_ (by omega)
    rw [← e4, Int.mul_comm P y]; exact b2
  have u := (Int.ediv_emod_unique (a := N) (r := N - y * (q1 * 4294967296 + q0)) (q := q1 * 4294967296 + q0) hy).2 ⟨by omega, r1, r2⟩
  refine ⟨u.1.symm, ?_⟩
  rw [u.2, e4, Int.mul_ediv_cancel_left _ (by omega)]
theorem and_half {D : Int} (h : U64 D) : bits .and .u64 D 4294967295 = D % 4294967296 := by
  obtain ⟨a, b⟩ := h
  obtain ⟨k, rfl⟩ := Int.eq_ofNat_of_zero_le a
  have h := u64_and_nat k 4294967295 (by omega) (by omega)
  have e : k &&& 4294967295 = k % 4294967296 := Nat.and_two_pow_sub_one_eq_mod k 32
  rw [e] at h
  exact h
theorem or_high (A b : Int) (s : Nat) (hA : 0 ≤ A) (hb : 0 ≤ b) (hb2 : b < 2 ^ s) (hs : A * 2 ^ s + b < 18446744073709551616) : bits .or .u64 (A * 2 ^ s) b = A * 2 ^ s + b := by
  obtain ⟨k, rfl⟩ := Int.eq_ofNat_of_zero_le hA
  obtain ⟨m, rfl⟩ := Int.eq_ofNat_of_zero_le hb
  have c1 : ((k * 2 ^ s : Nat) : Int) = (k : Int) * 2 ^ s := by simp
  rw [← c1] at hs ⊢
  have hm : m < 2 ^ s := by exact_mod_cast hb2
  have h := u64_or_nat (k * 2 ^ s) m (by omega) (by omega)
  rw [h, ← Nat.shiftLeft_eq, ← Nat.shiftLeft_add_eq_or_of_lt hm, Nat.shiftLeft_eq]
  simp
theorem two_split {s : Nat} (hs : s ≤ 63) : (2 : Int) ^ s * 2 ^ (64 - s) = 18446744073709551616 := by
  rw [← Int.pow_add]
  have : s + (64 - s) = 64 := by omega
  rw [this]; rfl
theorem two_pos (s : Nat) : (0 : Int) < 2 ^ s := Int.pow_pos (by decide)
theorem shift_in {l : Int} {s : Nat} (hs : s ≤ 63) (hl : U64 l) : l / 2 ^ (64 - s) = l * 2 ^ s / 18446744073709551616 ∧ 0 ≤ l / 2 ^ (64 - s) ∧ l / 2 ^ (64 - s) < 2 ^ s := by
  have e : l / 2 ^ (64 - s) = l * 2 ^ s / 18446744073709551616 := by
    rw [← two_split hs, Int.mul_comm l, Int.mul_ediv_mul_of_pos _ _ (two_pos s)]
  refine ⟨e, Int.ediv_nonneg hl.1 (Int.le_of_lt (two_pos _)), ?_⟩
  refine (Int.ediv_lt_iff_lt_mul (two_pos _)).2 ?_
  rw [two_split hs]; exact hl.2
theorem div_end {N y Y U D d1 d0 q1 q0 V V2 : Int} {s : Nat} (e : Y = y * 2 ^ s) (h2 : N * 2 ^ s = U * 18446744073709551616 + D) (h3 : D = d1 * 4294967296 + d0)
    (g1 : q1 = (U * 4294967296 + d1) / Y) (g2 : V = (U * 4294967296 + d1) % Y) (g3 : q0 = (V * 4294967296 + d0) / Y) (g4 : V2 = (V * 4294967296 + d0) % Y) (hy : 0 < y) :
    q1 * 4294967296 + q0 = N / y ∧ V2 / 2 ^ s = N % y := by
  subst e; exact div_final (two_pos s) hy h2 h3 g1 g2 g3 g4
theorem parted_math {n y : Int} (h0 : 0 < y) :
    hiOf n / y = hiOf (n / y) ∧ (hiOf n % y * 18446744073709551616 + loOf n) / y = loOf (n / y) ∧ (hiOf n % y * 18446744073709551616 + loOf n) % y = n % y := by
  have hl := lo_u64 n
  have r1 := Int.emod_nonneg (hiOf n) (show y ≠ 0 by omega)
  have r2 := Int.emod_lt_of_pos (hiOf n) h0
  have e := Int.mul_ediv_add_emod (hiOf n) y
  have e2 := hilo n
  obtain ⟨l1, l2⟩ := hl
  have q1 : 0 ≤ (hiOf n % y * 18446744073709551616 + loOf n) / y := Int.ediv_nonneg (by omega) (by omega)
  have q2 : (hiOf n % y * 18446744073709551616 + loOf n) / y < 18446744073709551616 := (Int.ediv_lt_iff_lt_mul h0).2 (by omega)
  have m1 := Int.mul_ediv_add_emod (hiOf n % y * 18446744073709551616 + loOf n) y
  have m2 := Int.emod_nonneg (hiOf n % y * 18446744073709551616 + loOf n) (show y ≠ 0 by omega)
  have m3 := Int.emod_lt_of_pos (hiOf n % y * 18446744073709551616 + loOf n) h0
  have u := (Int.ediv_emod_unique (a := n) (r := (hiOf n % y * 18446744073709551616 + loOf n) % y) (q := hiOf n / y * 18446744073709551616 + (hiOf n % y * 18446744073709551616 + loOf n) / y) h0).2 ⟨by
    rw [Int.mul_add, ← Int.mul_assoc]; omega, m2, m3⟩
  refine ⟨?_, ?_, u.2.symm⟩
  · rw [u.1]; exact (hi_mk _ _ ⟨q1, q2⟩).symm
  · rw [u.1]; exact (lo_mk _ _ ⟨q1, q2⟩).symm
theorem rest_u64 {x y : Int} (hy : U64 y) (h0 : 0 < y) : U64 (x % y) := ⟨Int.emod_nonneg _ (by omega), Int.lt_trans (Int.emod_lt_of_pos _ h0) hy.2⟩
end Go.Proofs.YtlgjoepeibodkaaGreat.Wd
namespace Go.Proofs.YtlgjoepeibodkaaGreat.Wd
open Go.RowKit Go.Shelf
theorem lz_math (y : Int) (hy : U64 y) (h0 : 0 < y) : ∃ s : Nat, s ≤ 63 ∧ (64 - (Lib.bitLen y.toNat : Int)) = s ∧ 9223372036854775808 ≤ y * 2 ^ s ∧ y * 2 ^ s < 18446744073709551616 := by
  obtain ⟨a, b⟩ := hy
  obtain ⟨k, rfl⟩ := Int.eq_ofNat_of_zero_le a
  obtain ⟨p1, p2, p3⟩ := Lib.bitLenAux_bounds 64 k (by omega) (by omega)
  have e : Lib.bitLen k = Lib.bitLenAux 64 k := rfl
  rw [← e] at p1 p2 p3
  rw [Int.toNat_natCast]
  generalize Lib.bitLen k = n at *
  have hn : n ≤ 64 := by
    refine Nat.not_lt.1 fun hn => ?_
    have : 2 ^ 64 ≤ 2 ^ (n - 1) := Nat.pow_le_pow_right (by decide) (by omega)
    omega
  refine ⟨64 - n, by omega, by omega, ?_, ?_⟩
  · have h0 : n - 1 + (64 - n) = 63 := by omega
    have h1 : 2 ^ (n - 1) * 2 ^ (64 - n) = 9223372036854775808 := by rw [← Nat.pow_add, h0]
    have h2 : 2 ^ (n - 1) * 2 ^ (64 - n) ≤ k * 2 ^ (64 - n) := Nat.mul_le_mul_right _ p2
    have h3 : ((k * 2 ^ (64 - n) : Nat) : Int) = (k : Int) * 2 ^ (64 - n) := by simp
    omega
  · have h0 : n + (64 - n) = 64 := by omega
    have h1 : 2 ^ n * 2 ^ (64 - n) = 18446744073709551616 := by rw [← Nat.pow_add, h0]
    have h2 : k * 2 ^ (64 - n) < 2 ^ n * 2 ^ (64 - n) := Nat.mul_lt_mul_of_pos_right p3 (Nat.pow_pos (by decide))
    have h3 : ((k * 2 ^ (64 - n) : Nat) : Int) = (k : Int) * 2 ^ (64 - n) := by simp
    omega
theorem ret_pair {a b c d : Int} (h1 : a = c) (h2 : b = d) : Ending.returned (.tuple #[.int .u64 a, .int .u64 b]) = .returned (.tuple #[.int .u64 c, .int .u64 d]) := by rw [h1, h2]
theorem hid1 {p : Prop} (h : p) : Hid p := h
theorem letters {h l y : Int} {s : Nat} (hs : s ≤ 63) (hh : U64 h) (hl : U64 l) (hlt : h < y) (n1 : 9223372036854775808 ≤ y * 2 ^ s) (n2 : y * 2 ^ s < 18446744073709551616) :
    IntKind.u64.wrap (y * 2 ^ s) = y * 2 ^ s ∧ bits .or .u64 (IntKind.u64.wrap (h * 2 ^ s)) (l / 2 ^ (64 - s)) = h * 2 ^ s + l / 2 ^ (64 - s) ∧ U64 (IntKind.u64.wrap (l * 2 ^ s)) ∧
    (h * 18446744073709551616 + l) * 2 ^ s = (h * 2 ^ s + l / 2 ^ (64 - s)) * 18446744073709551616 + IntKind.u64.wrap (l * 2 ^ s) ∧ 0 ≤ h * 2 ^ s + l / 2 ^ (64 - s) ∧ h * 2 ^ s + l / 2 ^ (64 - s) < y * 2 ^ s := by
  obtain ⟨e1, e2, e3⟩ := shift_in hs hl
  have hp := two_pos s
  have g1 : (h + 1) * 2 ^ s ≤ y * 2 ^ s := Int.mul_le_mul_of_nonneg_right (by omega) (by omega)
  have g2 : 0 ≤ h * 2 ^ s := Int.mul_nonneg hh.1 (by omega)
  rw [Int.add_mul, Int.one_mul] at g1
  have w1 : IntKind.u64.wrap (h * 2 ^ s) = h * 2 ^ s := by rw [IntKind.wrap_u64]; omega
  refine ⟨by rw [IntKind.wrap_u64]; omega, ?_, wrap_u64 _, ?_, by omega, by omega⟩
  · rw [w1]; exact or_high h _ s hh.1 e2 e3 (by omega)
  · rw [IntKind.wrap_u64, e1, Int.add_mul, Int.add_mul]
    have a1 : h * 18446744073709551616 * 2 ^ s = h * 2 ^ s * 18446744073709551616 := by rw [Int.mul_assoc, Int.mul_assoc, Int.mul_comm 18446744073709551616]
    have := Int.mul_ediv_add_emod (l * 2 ^ s) 18446744073709551616
    omega

end Go.Proofs.YtlgjoepeibodkaaGreat.Wd
namespace Go.Proofs.YtlgjoepeibodkaaGreat.Wd
open Go.RowKit Go.Shelf

end Go.Proofs.YtlgjoepeibodkaaGreat.Wd
namespace Go.Proofs.YtlgjoepeibodkaaGreat.Wd
open Go.RowKit Go.Shelf Go.Sort

theorem holds_zero0 (w : World) (T : TypeId) (nd : Nat) (hs : nd ≤ 24) : Holds (fun (b : UInt8) => Value.int .u8 (b.toNat : Int)) (w.alloc (.cells Lib.zeros24 T)) w.heap.size 0 (Array.replicate nd (0 : UInt8)) := fun j hj => by
  have hj' : j < nd := by simpa using hj
  refine ⟨?_, World.frozen?_alloc_new _ _ _ _⟩
  rw [World.cell?_alloc_new, Lib.zeros24_at _ (by omega), getElem!_pos _ j hj]
  simp
theorem below_fin (w : World) (o : Obj) (off : Nat) (dk : Array UInt8) (k : Nat) : Below w.heap.size w ((putRow (fun (b : UInt8) => Value.int .u8 (b.toNat : Int)) (w.alloc o) w.heap.size off dk).drewN k) := by
  have h : Below w.heap.size w (putRow (fun (b : UInt8) => Value.int .u8 (b.toNat : Int)) (w.alloc o) w.heap.size off dk) := by
    rw [alloc_eq_grow]
    obtain ⟨os', _, e⟩ := putRow_grow_new (fun (b : UInt8) => Value.int .u8 (b.toNat : Int)) w #[o] w.heap.size off dk (Nat.le_refl _)
    rw [e]
    refine ⟨rfl, rfl, rfl, ?_, fun k hk => ?_⟩
    · simp [grow]
    · simp only [grow]; exact Array.getElem?_append_left hk
  exact bl_drewN h k

end Go.Proofs.YtlgjoepeibodkaaGreat.Wd
/-
  PLAIN MATHEMATICS: numbers written in decimal digits.
-/
namespace Go.Proofs.YtlgjoepeibodkaaGreat.Wd
open Go.RowKit

theorem rep_eq (c : Nat) : Lib.repeatL [48] c = List.replicate c (48 : UInt8) := by
  induction c with
  | zero => rfl
  | succ c ih => rw [Lib.repeatL, ih]; rfl
theorem show_math {n T : Int} (hn : Rng n) (hT : ((10 ^ 19 : Nat) : Int) = T) : U64 T ∧ hiOf (absN n) < T ∧ U64 (absN n / T) ∧ U64 (absN n % T) ∧ absN n % T < T := by
  have hT' : T = 10000000000000000000 := by rw [← hT]; rfl
  have h1 : 0 ≤ absN n ∧ absN n ≤ 170141183460469231731687303715884105728 := by unfold Rng at hn; unfold absN; split <;> omega
  subst hT'
  unfold U64 hiOf
  omega
theorem front_pos {N T : Int} (h : T ≤ N) (hT : 0 < T) : (N / T != 0) = true := by
  have h1 : 1 ≤ N / T := (Int.le_ediv_iff_mul_le hT).2 (by omega)
  simp; omega
theorem front_nil {N T : Int} (h0 : 0 ≤ N) (h : N < T) : (N / T != 0) = false := by
  rw [Int.ediv_eq_zero_of_lt h0 h]; rfl
/-- k digits of K, noughts ahead of it. -/
def padD : Nat → Nat → List UInt8
  | 0, _ => []
  | k + 1, K => padD k (K / 10) ++ [UInt8.ofNat (48 + K % 10)]
theorem dec_step {u : Nat} (h : ¬ u < 10) : Lib.decDigits u = Lib.decDigits (u / 10) ++ [UInt8.ofNat (48 + u % 10)] := by
  rw [Lib.decDigits, dif_neg h]
theorem dec_pad (F : Nat) (hF : 0 < F) : ∀ k K, K < 10 ^ k → Lib.decDigits (F * 10 ^ k + K) = Lib.decDigits F ++ padD k K
  | 0, K, h => by
    have : K = 0 := by simpa using h
    subst this; simp [padD]
  | k + 1, K, h => by
    have p : 0 < 10 ^ k := Nat.pow_pos (by decide)
    have e : 10 ^ (k + 1) = 10 * 10 ^ k := by rw [Nat.pow_succ, Nat.mul_comm]
    have g : 1 * 10 ^ k ≤ F * 10 ^ k := Nat.mul_le_mul_right _ hF
    rw [e] at h ⊢
    have e2 : F * (10 * 10 ^ k) = 10 * (F * 10 ^ k) := by rw [Nat.mul_left_comm]
    rw [e2]
    have e3 : (10 * (F * 10 ^ k) + K) / 10 = F * 10 ^ k + K / 10 := by omega
    have e4 : (10 * (F * 10 ^ k) + K) % 10 = K % 10 := by omega
    rw [dec_step (by omega), e3, e4, dec_pad F hF k (K / 10) (by omega), padD, List.append_assoc]
theorem pad_rep : ∀ k K, K < 10 ^ (k + 1) → padD (k + 1) K = List.replicate (k + 1 - (Lib.decDigits K).length) (48 : UInt8) ++ Lib.decDigits K
  | 0, K, h => by
    have h' : K < 10 := by simpa using h
    rw [Lib.decDigits_one h', padD, padD, Nat.mod_eq_of_lt h']; simp
  | k + 1, K, h => by
    have h' : K / 10 < 10 ^ (k + 1) := by rw [Nat.pow_succ] at h; omega
    rw [padD, pad_rep k (K / 10) h']
    by_cases g : K < 10
    · have e0 : K / 10 = 0 := by omega
      rw [e0, Lib.decDigits_one g, Lib.decDigits_one (show 0 < 10 by decide), Nat.mod_eq_of_lt g]
      have e1 : List.replicate (k + 1 - [UInt8.ofNat (48 + 0)].length) (48 : UInt8) ++ [UInt8.ofNat (48 + 0)] = List.replicate (k + 1) 48 := by
        rw [List.replicate_succ']; rfl
      rw [e1]; rfl
    · rw [dec_step g]
      have e1 : k + 1 + 1 - (Lib.decDigits (K / 10) ++ [UInt8.ofNat (48 + K % 10)]).length = k + 1 - (Lib.decDigits (K / 10)).length := by simp
      rw [e1, List.append_assoc]
theorem dec_len {k K : Nat} (h : K < 10 ^ (k + 1)) : (Lib.decDigits K).length ≤ k + 1 := by
  have e := congrArg List.length (pad_rep k K h)
  have e2 : ∀ k K, (padD k K).length = k := by
    intro k
    induction k with
    | zero => intro K; rfl
    | succ k ih => intro K; simp [padD, ih]
  rw [e2] at e
  simp at e
  omega
theorem dec_len_pos (K : Nat) : 1 ≤ (Lib.decDigits K).length := by
  rw [Lib.decDigits]; split <;> simp
/-- How Show puts a great number together. -/
theorem dec_glue {F K : Nat} (hF : 0 < F) (hK : K < 10 ^ 19) : Lib.decDigits F ++ List.replicate (19 - (Lib.decDigits K).length) (48 : UInt8) ++ Lib.decDigits K = Lib.decDigits (F * 10 ^ 19 + K) := by
  rw [dec_pad F hF 19 K hK, pad_rep 18 K hK, List.append_assoc]
/-- The text of a number. -/
def showL (n : Int) : List UInt8 := if n < 0 then 45 :: Lib.decDigits (absN n).toNat else Lib.decDigits (absN n).toNat
theorem show_neg {n : Int} (h : n < 0) : showL n = 45 :: Lib.decDigits (absN n).toNat := if_pos h
theorem show_pos {n : Int} (h : ¬ n < 0) : showL n = Lib.decDigits (absN n).toNat := if_neg h
theorem abs_parts {n T F K : Int} (hT : ((10 ^ 19 : Nat) : Int) = T) (hF : absN n / T = F) (hK : absN n % T = K) (h0 : 0 ≤ F) (h1 : 0 ≤ K) : (absN n).toNat = F.toNat * 10 ^ 19 + K.toNat := by
  have e := Int.mul_ediv_add_emod (absN n) T
  rw [hF, hK] at e
  subst hT
  obtain ⟨F, rfl⟩ := Int.eq_ofNat_of_zero_le h0
  obtain ⟨K, rfl⟩ := Int.eq_ofNat_of_zero_le h1
  rw [← e]
  simp only [Int.toNat_natCast]
  omega
end Go.Proofs.YtlgjoepeibodkaaGreat.Wd
namespace Go.Proofs.YtlgjoepeibodkaaGreat.Wd
open Go.RowKit Go.Shelf

/-- What the listed variables hold. -/
structure Laid (w : World) : Prop where
  pow : Lib.TabIs Tryz.prog w "internal/strconv.uint64pow10" .u64 Lib.pow10Tab
  tens : Lib.TabIs Tryz.prog w "heddle/wide.tens" .u64 Lib.pow10Tab
theorem ret_str {a b : ByteArray} (h : a = b) : Ending.returned (.string a) = .returned (.string b) := by rw [h]
theorem bytes2 (a b : List UInt8) : (⟨a.toArray⟩ : ByteArray) ++ ⟨b.toArray⟩ = ⟨(a ++ b).toArray⟩ := by
  apply ByteArray.ext; simp
theorem bytes3 (a b c : List UInt8) : (⟨a.toArray⟩ : ByteArray) ++ ⟨b.toArray⟩ ++ ⟨c.toArray⟩ = ⟨(a ++ b ++ c).toArray⟩ := by rw [bytes2, bytes2]
theorem bytes4 (x a b c : List UInt8) : (⟨x.toArray⟩ : ByteArray) ++ (⟨a.toArray⟩ ++ ⟨b.toArray⟩ ++ ⟨c.toArray⟩) = ⟨(x ++ (a ++ b ++ c)).toArray⟩ := by rw [bytes2, bytes2, bytes2]
end Go.Proofs.YtlgjoepeibodkaaGreat.Wd
/-
  PLAIN MATHEMATICS: numbers read off decimal digits.
-/
namespace Go.Proofs.YtlgjoepeibodkaaGreat.Wd
open Go.RowKit

/-- The number that digits tell, a number in front of them. -/
def valD (n : Int) : List UInt8 → Int
  | [] => n
  | c :: l => valD (n * 10 + ((c.toNat : Int) - 48)) l
def isDig (c : UInt8) : Bool := decide (48 ≤ c.toNat ∧ c.toNat ≤ 57)
theorem valD_append (n : Int) (a b : List UInt8) : valD n (a ++ b) = valD (valD n a) b := by
  induction a generalizing n with
  | nil => rfl
  | cons c a ih => exact ih _
theorem dig_bd {c : UInt8} (h : isDig c = true) : 48 ≤ c.toNat ∧ c.toNat ≤ 57 := by simpa [isDig] using h
theorem valD_split (n : Int) : ∀ l : List UInt8, valD n l = n * ((10 ^ l.length : Nat) : Int) + valD 0 l
  | [] => by simp [valD]
  | c :: l => by
    rw [valD, valD, valD_split _ l, valD_split (0 * 10 + _) l, List.length_cons, Nat.pow_succ]
    have e : (((10 ^ l.length * 10 : Nat)) : Int) = ((10 ^ l.length : Nat) : Int) * 10 := by simp
    rw [e]
    generalize ((10 ^ l.length : Nat) : Int) = p
    generalize valD 0 l = v
    rw [Int.add_mul, Int.mul_assoc, Int.mul_comm 10 p]
    simp; omega
theorem valD_bd : ∀ l : List UInt8, (∀ c ∈ l, isDig c = true) → 0 ≤ valD 0 l ∧ valD 0 l < ((10 ^ l.length : Nat) : Int)
  | [], _ => by simp [valD]
  | c :: l, h => by
    obtain ⟨h1, h2⟩ := valD_bd l (fun x hx => h x (List.mem_cons_of_mem _ hx))
    obtain ⟨b1, b2⟩ := dig_bd (h c (List.mem_cons_self ..))
    rw [valD, valD_split, List.length_cons, Nat.pow_succ]
    have e : (((10 ^ l.length * 10 : Nat)) : Int) = ((10 ^ l.length : Nat) : Int) * 10 := by simp
    rw [e]
    generalize ((10 ^ l.length : Nat) : Int) = p at *
    have k1 : 0 ≤ (0 * 10 + ((c.toNat : Int) - 48)) * p := Int.mul_nonneg (by omega) (by omega)
    have k2 : (0 * 10 + ((c.toNat : Int) - 48)) * p ≤ 9 * p := Int.mul_le_mul_of_nonneg_right (by omega) (by omega)
    omega
theorem valD_mono {n : Int} (l : List UInt8) (h : ∀ c ∈ l, isDig c = true) : n * ((10 ^ l.length : Nat) : Int) ≤ valD n l := by
  rw [valD_split]; have := (valD_bd l h).1; omega
/-- The words of a product of a size with a word. -/
theorem times_math {n k : Int} (hn : Siz n) (hk : U64 k) :
    (Siz (n * k) → (hiOf (hiOf n * k) == 0) = true ∧ sumW (loOf (hiOf n * k)) (hiOf (loOf n * k)) 0 = hiOf (n * k) ∧ (carW (loOf (hiOf n * k)) (hiOf (loOf n * k)) 0 == 0) = true) ∧
    (¬ Siz (n * k) → (hiOf (hiOf n * k) == 0) = false ∨ ((hiOf (hiOf n * k) == 0) = true ∧ (carW (loOf (hiOf n * k)) (hiOf (loOf n * k)) 0 == 0) = false)) ∧ loOf (loOf n * k) = loOf (n * k) := by
  have e := hilo n
  have e1 : n * k = hiOf n * k * 18446744073709551616 + loOf n * k := by
    have h := congrArg (· * k) e
    simp only [Int.add_mul] at h
    rw [← h, Int.mul_assoc, Int.mul_comm 18446744073709551616 k, ← Int.mul_assoc]
  have p1 : 0 ≤ hiOf n * k := Int.mul_nonneg (hi_u64 hn).1 hk.1
  have p2 : 0 ≤ loOf n * k := Int.mul_nonneg (lo_u64 n).1 hk.1
  generalize hiOf n * k = a at *
  generalize loOf n * k = b at *
  generalize n * k = m at *
  simp only [beq_iff_eq, beq_eq_false_iff_ne]
  unfold Siz carW sumW hiOf loOf
  refine ⟨fun h => ?_, fun h => ?_, ?_⟩ <;> omega
theorem plus_no_math {n k : Int} (h : ¬ Siz (n + k)) : (carW (hiOf n) 0 (carW (loOf n) k 0) == 0) = false := by
  rw [beq_eq_false_iff_ne]
  unfold Siz at h; unfold carW hiOf loOf; omega
end Go.Proofs.YtlgjoepeibodkaaGreat.Wd
namespace Go.Proofs.YtlgjoepeibodkaaGreat.Wd
open Go.RowKit Go.Shelf

set_option maxRecDepth 100000 in
theorem times_ok (n k : Int) (hn : Siz n) (hk : U64 k) (h : Siz (n * k)) (w : World) :
    Calls Tryz.prog 102 #[sv n, .int .u64 k] w fun e w' => e = .returned (.tuple #[sv (n * k), .bool true]) ∧ Below w.heap.size w w' := by
  obtain ⟨m1, -, m3⟩ := times_math hn hk
  obtain ⟨e1, e2, e3⟩ := m1 h
  have u1 : U64 (loOf (hiOf n * k)) := lo_u64 _
  have u2 : U64 (hiOf (loOf n * k)) := hi_u64 (siz_mul (lo_u64 n) hk)
  clear m1
  go_enter Tryz.func102, Tryz.ntmps102
  go_wp2_with fail
  refine (mul64_any _ _ (lo_u64 n) hk _).mono ?_
  rintro e w' ⟨rfl, rfl⟩
  go_wp2_with fail
  refine (mul64_any _ _ (hi_u64 hn) hk _).mono ?_
  rintro e w' ⟨rfl, rfl⟩
  go_wp2_with (simp only [add64n _ _ 0 u1 u2 (Int.le_refl 0) (by decide)])
  simp [bodyPost, results, Tryz.results102, go_sem]
  repeat (first | exact Below.refl _ _ | refine bl_alloc ?_ _ | refine Below.drew ?_ | refine bl_drewN ?_ _ | refine bl_set ?_ (by omega) _ | refine bl_step ?_ (by assumption))
set_option maxRecDepth 100000 in
theorem times_no (n k : Int) (hn : Siz n) (hk : U64 k) (h : ¬ Siz (n * k)) (w : World) :
    Calls Tryz.prog 102 #[sv n, .int .u64 k] w fun e w' => (∃ v, e = .returned (.tuple #[sv v, .bool false])) ∧ Below w.heap.size w w' := by
  obtain ⟨-, m2, m3⟩ := times_math hn hk
  have u1 : U64 (loOf (hiOf n * k)) := lo_u64 _
  have u2 : U64 (hiOf (loOf n * k)) := hi_u64 (siz_mul (lo_u64 n) hk)
  obtain ⟨v, v1, v2⟩ : ∃ v, sumW (loOf (hiOf n * k)) (hiOf (loOf n * k)) 0 = hiOf v ∧ loOf (n * k) = loOf v := ⟨sumW (loOf (hiOf n * k)) (hiOf (loOf n * k)) 0 * 18446744073709551616 + loOf (n * k), (hi_mk _ _ (lo_u64 _)).symm, (lo_mk _ _ (lo_u64 _)).symm⟩
  rcases m2 h with e1 | ⟨e1, e2⟩
  all_goals
    clear m2 h
    go_enter Tryz.func102, Tryz.ntmps102
    go_wp2_with fail
    refine (mul64_any _ _ (lo_u64 n) hk _).mono ?_
    rintro e w' ⟨rfl, rfl⟩
    go_wp2_with fail
    refine (mul64_any _ _ (hi_u64 hn) hk _).mono ?_
    rintro e w' ⟨rfl, rfl⟩
    go_wp2_with (simp only [add64n _ _ 0 u1 u2 (Int.le_refl 0) (by decide)])
    simp [bodyPost, results, Tryz.results102, go_sem]
    refine ⟨⟨v, rfl, rfl⟩, ?_⟩
    repeat (first | exact Below.refl _ _ | refine bl_alloc ?_ _ | refine Below.drew ?_ | refine bl_drewN ?_ _ | refine bl_set ?_ (by omega) _ | refine bl_step ?_ (by assumption))
end Go.Proofs.YtlgjoepeibodkaaGreat.Wd
namespace Go.Proofs.YtlgjoepeibodkaaGreat.Wd
open Go.RowKit Go.Shelf

theorem take_snoc (s : ByteArray) (k : Nat) (h : k < s.size) : s.data.toList.take (k + 1) = s.data.toList.take k ++ [s[k]] := by
  rw [List.take_succ_eq_append_getElem (by simpa using h)]; rfl
theorem dig_at {s : ByteArray} (hd : ∀ c ∈ s.data.toList, isDig c = true) (k : Nat) (h : k < s.size) : 48 ≤ (s[k].toNat : Int) ∧ (s[k].toNat : Int) ≤ 57 := by
  have hm : s[k] ∈ s.data.toList := by
    have e : s[k] = s.data.toList[k]'(by simpa using h) := rfl
    rw [e]; exact List.getElem_mem _
  have := dig_bd (hd _ hm)
  omega
theorem word_bd {s : ByteArray} (hs : s.size ≤ 19) (hd : ∀ c ∈ s.data.toList, isDig c = true) (k : Nat) (h : k < s.size) : 0 ≤ valD 0 (s.data.toList.take k) ∧ valD 0 (s.data.toList.take k) < 1000000000000000000 := by
  obtain ⟨h1, h2⟩ := valD_bd (s.data.toList.take k) (fun c hc => hd c (List.mem_of_mem_take hc))
  have h3 : (s.data.toList.take k).length ≤ 18 := by simp; omega
  have h4 : 10 ^ (s.data.toList.take k).length ≤ 10 ^ 18 := Nat.pow_le_pow_right (by decide) h3
  omega
theorem blist (s : ByteArray) : s.toList = s.data.toList := Go.ByteArray.toList_eq s
theorem size_len (s : ByteArray) : s.size = s.data.toList.length := by simp
def allD (s : ByteArray) : Bool := s.data.toList.all isDig
theorem all_snoc (s : ByteArray) (k : Nat) (h : k < s.size) : (s.data.toList.take (k + 1)).all isDig = ((s.data.toList.take k).all isDig && isDig s[k]) := by
  rw [take_snoc s k h]; simp
theorem all_bad {s : ByteArray} {k : Nat} (h : k < s.size) (hb : isDig s[k] = false) : allD s = false := by
  unfold allD; rw [List.all_eq_false]
  refine ⟨s[k], ?_, by simp [hb]⟩
  have e : s[k] = s.data.toList[k]'(by simpa using h) := rfl
  rw [e]; exact List.getElem_mem _
end Go.Proofs.YtlgjoepeibodkaaGreat.Wd
namespace Go.Proofs.YtlgjoepeibodkaaGreat.Wd
open Go.RowKit Go.Shelf
attribute [local go_sem ↓] Go.wp_at_zero Go.wp_at_succ

def strSize (v : Value) : Nat := match v with
  | .string b => b.size
  | _ => 0
/-- What holds of the world at the head of sizeOfDigits' loop, v being read so far. -/
structure SzAt (w W : World) (v : Int) : Prop where
  c0 : W.cell? ⟨w.heap.size, 0, none⟩ = some (.int .u64 0)
  c1 : W.cell? ⟨w.heap.size, 1, none⟩ = some (.int .u64 0)
  n0 : W.cell? ⟨w.heap.size + 1, 0, none⟩ = some (.int .u64 (hiOf v))
  n1 : W.cell? ⟨w.heap.size + 1, 1, none⟩ = some (.int .u64 (loOf v))
  f0 : W.frozen? ⟨w.heap.size, 0, none⟩ = false
  f1 : W.frozen? ⟨w.heap.size, 1, none⟩ = false
  g0 : W.frozen? ⟨w.heap.size + 1, 0, none⟩ = false
  g1 : W.frozen? ⟨w.heap.size + 1, 1, none⟩ = false
  bel : Below w.heap.size w W
  siz : w.heap.size + 1 < W.heap.size

theorem SzAt.on {w W W' : World} {v : Int} (h : SzAt w W v) (hb : Below W.heap.size W W') : SzAt w W' v :=
  ⟨keepc hb h.c0, keepc hb h.c1, keepc hb h.n0, keepc hb h.n1, keepf hb (by have := h.siz; omega) h.f0, keepf hb (by have := h.siz; omega) h.f1, keepf hb h.siz h.g0, keepf hb h.siz h.g1, bl_step h.bel hb, Nat.lt_of_lt_of_le h.siz hb.size⟩
theorem SzAt.put {w W : World} {v : Int} (h : SzAt w W v) (u : Int) : SzAt w ((W.setCell ⟨w.heap.size + 1, 0, none⟩ (.int .u64 (hiOf u))).setCell ⟨w.heap.size + 1, 1, none⟩ (.int .u64 (loOf u))) u := by
  obtain ⟨c0, c1, n0, n1, f0, f1, g0, g1, bel, siz⟩ := h
  refine ⟨?_, ?_, ?_, ?_, ?_, ?_, ?_, ?_, bl_set (bl_set bel (by omega) _) (by omega) _, by simpa using siz⟩ <;> simp [go_sem, *]
theorem extract_take (R : List UInt8) (p : Nat) : (⟨R.toArray⟩ : ByteArray).extract 0 p = ⟨(R.take p).toArray⟩ := by
  apply ByteArray.ext; simp [List.extract]
theorem extract_drop (R : List UInt8) (p : Nat) : (⟨R.toArray⟩ : ByteArray).extract p R.length = ⟨(R.drop p).toArray⟩ := by
  apply ByteArray.ext; simp
  exact List.take_of_length_le (by simp)
theorem piece_of (R : List UInt8) (h : ¬ R = []) : ∃ (p : Nat) (P R2 : List UInt8), min (R.length : Int) 19 = (p : Int) ∧ min p R.length = p ∧ (⟨R.toArray⟩ : ByteArray).extract 0 p = ⟨P.toArray⟩ ∧ (⟨R.toArray⟩ : ByteArray).extract p R.length = ⟨R2.toArray⟩ ∧ P.length = p ∧ 1 ≤ p ∧ p ≤ 19 ∧ (P = R.take p ∧ R2 = R.drop p) := by
  have hl : R.length ≠ 0 := by simpa using h
  refine ⟨min R.length 19, R.take (min R.length 19), R.drop (min R.length 19), by omega, by omega, extract_take _ _, extract_drop _ _, by simp, by omega, by omega, rfl, rfl⟩
theorem ten_u64 {p : Nat} (h : p ≤ 19) : U64 ((10 ^ p : Nat) : Int) := by
  have h1 : 10 ^ p ≤ 10 ^ 19 := Nat.pow_le_pow_right (by decide) h
  have h2 : (10 : Nat) ^ 19 < 18446744073709551616 := by decide
  generalize 10 ^ p = a at *
  generalize (10 : Nat) ^ 19 = b at *
  exact ⟨by omega, by omega⟩

theorem word_u64 (P : List UInt8) (h : P.length ≤ 19) (hd : ∀ c ∈ P, isDig c = true) : U64 (valD 0 P) := by
  obtain ⟨a, b⟩ := valD_bd P hd
  exact ⟨a, Int.lt_trans b (ten_u64 h).2⟩
theorem drop_more {l R R2 : List UInt8} {k p : Nat} (h : l.drop k = R) (h2 : R2 = R.drop p) : R2 = l.drop (k + p) := by rw [h2, ← h, List.drop_drop]
theorem take_more {l R P : List UInt8} {k p : Nat} (h : l.drop k = R) (h2 : P = R.take p) : l.take (k + p) = l.take k ++ P := by
  rw [h2, ← h, List.take_add]
theorem no_more {l R P R2 : List UInt8} {k p : Nat} {v T x : Int} (hd : ∀ c ∈ l, isDig c = true) (hv : valD 0 (l.take k) = v) (hR : l.drop k = R) (hC : P = R.take p ∧ R2 = R.drop p) (hT : ((10 ^ p : Nat) : Int) = T) (hx : valD 0 P = x) (hpl : P.length = p) (hS : Siz (valD 0 l)) : Siz (v * T) ∧ Siz (v * T + x) := by
  have e : l = l.take (k + p) ++ R2 := by rw [drop_more hR hC.2, List.take_append_drop]
  have hd2 : ∀ c ∈ R2, isDig c = true := fun c hc => hd c (by rw [e]; exact List.mem_append_right _ hc)
  have hdt : ∀ c ∈ l.take k, isDig c = true := fun c hc => hd c (List.mem_of_mem_take hc)
  have hdp : ∀ c ∈ P, isDig c = true := fun c hc => hd c (by rw [hC.1, ← hR] at hc; exact List.mem_of_mem_drop (List.mem_of_mem_take hc))
  have e1 : valD 0 (l.take (k + p)) = v * T + x := by rw [take_more hR hC.1, valD_append, hv, valD_split, hpl, hT, hx]
  have e2 : valD 0 l = valD (v * T + x) R2 := by rw [← e1, ← valD_append, ← e]
  have h1 := valD_mono (n := v * T + x) R2 hd2
  have b1 := (valD_bd _ hdt).1
  have b2 := (valD_bd P hdp).1
  rw [hv] at b1
  rw [hx] at b2
  have p1 : 1 ≤ ((10 ^ R2.length : Nat) : Int) := by have : 0 < 10 ^ R2.length := Nat.pow_pos (by decide); omega
  have p2 : 0 ≤ v * T := Int.mul_nonneg b1 (by rw [← hT]; exact Int.natCast_nonneg _)
  have h2 : (v * T + x) * 1 ≤ (v * T + x) * ((10 ^ R2.length : Nat) : Int) := Int.mul_le_mul_of_nonneg_left p1 (by omega)
  rw [e2] at hS
  unfold Siz at *
  omega
theorem all_read {l : List UInt8} {k : Nat} (h : l.drop k = []) : l.take k = l := by
  have e := List.take_append_drop k l
  rw [h, List.append_nil] at e
  exact e
theorem gen_world {P : Program} {c : Code} {Q : Exit → Act → World → Prop} {a : Act} {W : World} (p : World → Prop) (hp : p W) (h : ∀ W', p W' → c.wp P Q a W') : c.wp P Q a W := h W hp

end Go.Proofs.YtlgjoepeibodkaaGreat.Wd
/-
  PLAIN MATHEMATICS: which texts are read, and as what.
-/
namespace Go.Proofs.YtlgjoepeibodkaaGreat.Wd
open Go.RowKit

/-- A text without its sign, and whether it had one. -/
def cutNeg (l : List UInt8) : Bool := match l with
  | c :: _ => c == 45
  | [] => false
def cutRest (l : List UInt8) : List UInt8 := if cutNeg l then l.tail else l
/-- Is this how a number that is not negative is written? -/
def isWr (d : List UInt8) : Bool := match d with
  | [] => false
  | c :: r => (c != 48 || r == []) && (c :: r).all isDig
def sgB (n : Int) (minus : Bool) : Int := if minus then -n else n
def readOk (l : List UInt8) : Bool := isWr (cutRest l) && !(cutNeg l && (cutRest l == [48]))
def readV (l : List UInt8) : Int := if readOk l then fitV (sgB (valD 0 (cutRest l)) (cutNeg l)) else 0
def readE (l : List UInt8) : Int := if readOk l then errV (sgB (valD 0 (cutRest l)) (cutNeg l)) else 1
theorem isWr_all {d : List UInt8} (h : isWr d = true) : ∀ c ∈ d, isDig c = true := by
  cases d with
  | nil => simp [isWr] at h
  | cons c r => simp only [isWr, Bool.and_eq_true, List.all_eq_true] at h; exact h.2
theorem read_bad {l : List UInt8} (h : readOk l = false) : readV l = 0 ∧ readE l = 1 := by simp [readV, readE, h]
theorem read_good {l : List UInt8} (h : readOk l = true) : readV l = fitV (sgB (valD 0 (cutRest l)) (cutNeg l)) ∧ readE l = errV (sgB (valD 0 (cutRest l)) (cutNeg l)) := by simp [readV, readE, h]
theorem far_off {n : Int} (minus : Bool) (h0 : 0 ≤ n) (h : ¬ Siz n) : ¬ Rng (sgB n minus) := by
  unfold Siz at h; unfold Rng sgB; split <;> omega
end Go.Proofs.YtlgjoepeibodkaaGreat.Wd
namespace Go.Proofs.YtlgjoepeibodkaaGreat.Wd
open Go.RowKit Go.Shelf

theorem far_offN {n : Int} (minus : Bool) (h0 : 0 ≤ n) (h : ¬ Siz n) : ¬ Rng (sgN n minus) := far_off minus h0 h
theorem cut_len (l : List UInt8) : (cutRest l).length ≤ l.length := by
  unfold cutRest; split
  · simp
  · exact Nat.le_refl _
end Go.Proofs.YtlgjoepeibodkaaGreat.Wd
namespace Go.Proofs.YtlgjoepeibodkaaGreat.Wd
open Go.RowKit Go.Shelf
attribute [local go_sem ↓] Go.wp_at_zero Go.wp_at_succ

theorem wv_mk (n h l : Int) (e : n = h * 18446744073709551616 + l) (hl : U64 l) : wv n = .agg #[.int .i64 h, .int .u64 l] := by
  rw [wv, e, hi_mk _ _ hl, lo_mk _ _ hl]
theorem u64_lit (n : Int) (a : 0 ≤ n) (b : n < 18446744073709551616) : U64 n := ⟨a, b⟩
theorem i64_lit (n : Int) (a : -9223372036854775808 ≤ n) (b : n < 9223372036854775808) : I64 n := ⟨a, b⟩
theorem rng_lit (n : Int) (a : -170141183460469231731687303715884105728 ≤ n) (b : n < 170141183460469231731687303715884105728) : Rng n := ⟨a, b⟩
theorem k_mul : wv (9223372036854775807 * -2) = .agg #[.int .i64 (-1), .int .u64 2] := wv_mk _ _ _ (by omega) (u64_lit _ (by omega) (by omega))
theorem k_a : wv (-18446744073709551614) = .agg #[.int .i64 (-1), .int .u64 2] := wv_mk _ _ _ (by omega) (u64_lit _ (by omega) (by omega))
theorem k_5 : wv 5 = .agg #[.int .i64 0, .int .u64 5] := wv_mk _ _ _ (by omega) (u64_lit _ (by omega) (by omega))
theorem k_b : wv (-18446744073709551609) = .agg #[.int .i64 (-1), .int .u64 7] := wv_mk _ _ _ (by omega) (u64_lit _ (by omega) (by omega))
theorem k_7 : wv (-7) = .agg #[.int .i64 (-1), .int .u64 18446744073709551609] := wv_mk _ _ _ (by omega) (u64_lit _ (by omega) (by omega))
theorem k_4 : wv (-4) = .agg #[.int .i64 (-1), .int .u64 18446744073709551612] := wv_mk _ _ _ (by omega) (u64_lit _ (by omega) (by omega))
theorem k_3 : wv (-3) = .agg #[.int .i64 (-1), .int .u64 18446744073709551613] := wv_mk _ _ _ (by omega) (u64_lit _ (by omega) (by omega))
theorem k_m : wv (-18446744073709551616) = .agg #[.int .i64 (-1), .int .u64 0] := wv_mk _ _ _ (by omega) (u64_lit _ (by omega) (by omega))
theorem k_64 : wv 18446744073709551616 = .agg #[.int .i64 1, .int .u64 0] := wv_mk _ _ _ (by omega) (u64_lit _ (by omega) (by omega))

theorem b_of5 (w : World) : Calls Tryz.prog 98 #[.int .i64 5] w fun e w' => e = .returned (.agg #[.int .i64 0, .int .u64 5]) ∧ Below w.heap.size w w' := by
  have h := of_any 5 (i64_lit _ (by omega) (by omega)) w
  rw [k_5] at h; exact h
theorem b_add (w : World) : Calls Tryz.prog 96 #[.agg #[.int .i64 (-1), .int .u64 2], .agg #[.int .i64 0, .int .u64 5]] w fun e w' => e = .returned (.tuple #[.agg #[.int .i64 (-1), .int .u64 7], .int .i64 0]) ∧ Below w.heap.size w w' := by
  have h := wadd_ok (-18446744073709551614) 5 (rng_lit _ (by omega) (by omega)) w
  have e : (-18446744073709551614 : Int) + 5 = -18446744073709551609 := by omega
  rw [e, k_a, k_5, k_b] at h; exact h
theorem b_of7 (w : World) : Calls Tryz.prog 98 #[.int .i64 (-7)] w fun e w' => e = .returned (.agg #[.int .i64 (-1), .int .u64 18446744073709551609]) ∧ Below w.heap.size w w' := by
  have h := of_any (-7) (i64_lit _ (by omega) (by omega)) w
  rw [k_7] at h; exact h
theorem k_floor : floorN (-7) 2 = -4 := by decide
theorem k_ceil : ceilN (-7) 2 = -3 := by decide
theorem k_show : showL (-18446744073709551616) = [45, 49, 56, 52, 52, 54, 55, 52, 52, 48, 55, 51, 55, 48, 57, 53, 53, 49, 54, 49, 54] := by decide +kernel
theorem k_readV : readV [49, 56, 52, 52, 54, 55, 52, 52, 48, 55, 51, 55, 48, 57, 53, 53, 49, 54, 49, 54] = 18446744073709551616 := by decide +kernel
theorem k_readE : readE [49, 56, 52, 52, 54, 55, 52, 52, 48, 55, 51, 55, 48, 57, 53, 53, 49, 54, 49, 54] = 0 := by decide +kernel
theorem b_cmp (w : World) : Calls Tryz.prog 97 #[.agg #[.int .i64 (-1), .int .u64 2], .agg #[.int .i64 (-1), .int .u64 7]] w fun e w' => e = .returned (.int .i64 (-1)) ∧ Below w.heap.size w w' :=
  cmp_w_eq (-1) 2 7 w (by decide)
end Go.Proofs.YtlgjoepeibodkaaGreat.Wd
namespace Go.Proofs.YtlgjoepeibodkaaGreat.Wd
open Go.RowKit Go.Shelf
attribute [local go_sem ↓] Go.wp_at_zero Go.wp_at_succ

theorem new0 (W : World) (a b : Value) (t : TypeId) : (W.alloc (.cells #[a, b] t)).drew.cell? ⟨W.heap.size, 0, none⟩ = some a := by simp [go_sem]
theorem new1 (W : World) (a b : Value) (t : TypeId) : (W.alloc (.cells #[a, b] t)).drew.cell? ⟨W.heap.size, 1, none⟩ = some b := by simp [go_sem]
theorem newf (W : World) (a b : Value) (t : TypeId) (o : Nat) : (W.alloc (.cells #[a, b] t)).drew.frozen? ⟨W.heap.size, o, none⟩ = false := by simp [go_sem]
theorem newlt (W : World) (o : Obj) : W.heap.size < (W.alloc o).drew.heap.size := by simp
theorem new0' (W : World) (a b : Value) (t : TypeId) : (W.alloc (.cells #[a, b] t)).cell? ⟨W.heap.size, 0, none⟩ = some a := by simp [go_sem]
theorem new1' (W : World) (a b : Value) (t : TypeId) : (W.alloc (.cells #[a, b] t)).cell? ⟨W.heap.size, 1, none⟩ = some b := by simp [go_sem]
theorem newf' (W : World) (a b : Value) (t : TypeId) (o : Nat) : (W.alloc (.cells #[a, b] t)).frozen? ⟨W.heap.size, o, none⟩ = false := by simp [go_sem]
theorem newlt' (W : World) (o : Obj) : W.heap.size < (W.alloc o).heap.size := by simp
theorem lt_of_cell {W : World} {b o : Nat} {v : Value} (h : W.cell? ⟨b, o, none⟩ = some v) : b < W.heap.size := World.block_lt_of_cell? W ⟨b, o, none⟩ h
theorem gen_calls {P : Program} {f : FuncId} {args : Array Value} {Q : Ending → World → Prop} {W : World} (p : World → Prop) (hp : p W) (h : ∀ W', p W' → Calls P f args W' Q) : Calls P f args W Q := h W hp
theorem with_fact {T G : Prop} (h : T) (k : T → G) : G := k h

end Go.Proofs.YtlgjoepeibodkaaGreat.Wd
/-
  PLAIN MATHEMATICS: the order of numbers.
-/
namespace Go.Proofs.YtlgjoepeibodkaaGreat.Wd
open Go.RowKit

theorem cmp_bd (a b : Int) : -1 ≤ cmpN a b ∧ cmpN a b ≤ 1 := by unfold cmpN; split <;> (try split) <;> omega
theorem cmp_turn (a b : Int) : cmpN b a = -cmpN a b := by unfold cmpN; split <;> split <;> (try split) <;> (try split) <;> omega
theorem cmp_same (a b : Int) : (cmpN a b == 0) = (a == b) := by
  unfold cmpN; by_cases h : a < b
  · rw [if_pos h]; have : a ≠ b := by omega
    simp [this]
  · rw [if_neg h]; by_cases h2 : a = b <;> simp [h2]
theorem cmp_le {a b : Int} : cmpN a b ≤ 0 ↔ a ≤ b := by unfold cmpN; split <;> (try split) <;> omega
theorem cmp_ge {a b : Int} : 0 ≤ cmpN a b ↔ b ≤ a := by unfold cmpN; split <;> (try split) <;> omega
theorem cmp_shift (a b c : Int) : cmpN (a + c) (b + c) = cmpN a b := by unfold cmpN; split <;> split <;> (try split) <;> (try split) <;> omega
theorem low_sum {a b : Int} (ha : Rng a) (hb : Rng b) : Rng (lowN a + lowN b) := by
  have h1 := low_rng ha; have h2 := low_rng hb; unfold Rng; omega
theorem low_rng' {a : Int} (ha : Rng a) : Rng (lowN a) := by have h1 := low_rng ha; unfold Rng; omega
theorem words_eq (a b : Int) : (hiOf a = hiOf b ∧ loOf a = loOf b) ↔ a = b := ⟨fun h => hilo_inj h.1 h.2, fun h => by rw [h]; exact ⟨rfl, rfl⟩⟩
theorem words_ne {a b : Int} (h : a ≠ b) : (hiOf a == hiOf b) = false ∨ ((hiOf a == hiOf b) = true ∧ (loOf a == loOf b) = false) := by
  by_cases h1 : hiOf a = hiOf b
  · right; refine ⟨by simpa using h1, ?_⟩
    rw [beq_eq_false_iff_ne]; exact fun h2 => h (hilo_inj h1 h2)
  · left; simpa using h1
end Go.Proofs.YtlgjoepeibodkaaGreat.Wd
/-
  PLAIN MATHEMATICS: what is written is read back, what is read is written so.
-/
namespace Go.Proofs.YtlgjoepeibodkaaGreat.Wd
open Go.RowKit

theorem digit_nat {x : Nat} (h : x < 10) : (UInt8.ofNat (48 + x)).toNat = 48 + x := by
  rw [UInt8.toNat_ofNat']; omega
theorem digit_is {x : Nat} (h : x < 10) : isDig (UInt8.ofNat (48 + x)) = true := by
  have := digit_nat h
  simp only [isDig, this, decide_eq_true_eq]; omega
theorem dec_all (m : Nat) : ∀ c ∈ Lib.decDigits m, isDig c = true := by
  induction m using Nat.strongRecOn with
  | _ m ih =>
    by_cases h : m < 10
    · rw [Lib.decDigits_one h]; intro c hc
      rw [List.mem_singleton.1 hc]; exact digit_is h
    · rw [dec_step h]; intro c hc
      rcases List.mem_append.1 hc with hc | hc
      · exact ih (m / 10) (by omega) c hc
      · rw [List.mem_singleton.1 hc]; exact digit_is (by omega)
theorem dec_val (m : Nat) : valD 0 (Lib.decDigits m) = m := by
  induction m using Nat.strongRecOn with
  | _ m ih =>
    by_cases h : m < 10
    · rw [Lib.decDigits_one h]
      simp only [valD, digit_nat h]; omega
    · rw [dec_step h, valD_append, ih (m / 10) (by omega)]
      simp only [valD, digit_nat (show m % 10 < 10 by omega)]; omega
theorem dec_ne (m : Nat) : Lib.decDigits m ≠ [] := by
  intro h; have := dec_len_pos m; rw [h] at this; simp at this
theorem dec_head {m : Nat} (h1 : 1 ≤ m) : ∃ c r, Lib.decDigits m = c :: r ∧ c ≠ 48 := by
  induction m using Nat.strongRecOn with
  | _ m ih =>
    by_cases h : m < 10
    · refine ⟨_, _, Lib.decDigits_one h, ?_⟩
      intro e
      have := digit_nat h
      rw [e] at this
      have e2 : (48 : UInt8).toNat = 48 := rfl
      omega
    · obtain ⟨c, r, e, hc⟩ := ih (m / 10) (by omega) (by omega)
      exact ⟨c, r ++ [UInt8.ofNat (48 + m % 10)], by rw [dec_step h, e]; rfl, hc⟩
theorem dec_wr (m : Nat) : isWr (Lib.decDigits m) = true := by
  have ha := dec_all m
  by_cases h : m = 0
  · subst h; rw [Lib.decDigits_one (by decide)]; decide
  · obtain ⟨c, r, e, hc⟩ := dec_head (show 1 ≤ m by omega)
    rw [e] at ha ⊢
    simp only [isWr, Bool.and_eq_true, List.all_eq_true]
    exact ⟨by simp [hc], ha⟩
theorem dec_bd' {l : List UInt8} {c : UInt8} {r : List UInt8} (h : ∀ x ∈ l, isDig x = true) (e : l = c :: r) : isDig c = true := h c (by rw [e]; exact List.mem_cons_self ..)
theorem dec_no_sign (m : Nat) : cutNeg (Lib.decDigits m) = false := by
  obtain ⟨c, r, e⟩ := List.exists_cons_of_ne_nil (dec_ne m)
  have h := dec_bd' (dec_all m) e
  rw [e]; simp only [cutNeg]
  rw [beq_eq_false_iff_ne]; intro e2
  rw [e2] at h
  exact absurd h (by decide)
theorem dec_not_nought {m : Nat} (h : 1 ≤ m) : (Lib.decDigits m == [48]) = false := by
  obtain ⟨c, r, e, hc⟩ := dec_head h
  rw [e, beq_eq_false_iff_ne]; intro e2
  exact hc (List.cons.inj e2).1
/-- What is written is read back. -/
theorem read_show {n : Int} (hn : Rng n) : readV (showL n) = n ∧ readE (showL n) = 0 := by
  have key : ∀ (l : List UInt8) (neg : Bool) (m : Nat), cutRest l = Lib.decDigits m → cutNeg l = neg → sgB (m : Int) neg = n → (neg = true → 1 ≤ m) → readV l = n ∧ readE l = 0 := by
    intro l neg m h1 h2 h3 h4
    have hok : readOk l = true := by
      unfold readOk
      rw [h1, h2, dec_wr]
      cases neg
      · rfl
      · rw [dec_not_nought (h4 rfl)]; rfl
    obtain ⟨e1, e2⟩ := read_good hok
    rw [e1, e2, h1, h2, dec_val, h3]
    exact ⟨fitV_ok hn, errV_ok hn⟩
  by_cases h : n < 0
  · rw [show_neg h]
    refine key _ true (absN n).toNat rfl rfl ?_ ?_
    · unfold absN; rw [if_pos h]; unfold sgB; simp; omega
    · intro _; unfold absN; rw [if_pos h]; omega
  · rw [show_pos h]
    refine key _ false (absN n).toNat ?_ (dec_no_sign _) ?_ (fun h => by cases h)
    · unfold cutRest; rw [dec_no_sign]; rfl
    · unfold absN; rw [if_neg h]; unfold sgB; simp; omega
/-- A written text is the text of its number. -/
theorem wr_dec : ∀ (k : Nat) (d : List UInt8), d.length = k + 1 → isWr d = true → Lib.decDigits (valD 0 d).toNat = d
  | 0, d, hl, hw => by
    match d, hl with
    | [c], _ =>
      have hc := dig_bd (isWr_all hw c (List.mem_singleton.2 rfl))
      have e : valD 0 [c] = ((c.toNat - 48 : Nat) : Int) := by simp only [valD]; omega
      rw [e, Int.toNat_natCast, Lib.decDigits_one (by omega)]
      have e2 : 48 + (c.toNat - 48) = c.toNat := by omega
      rw [e2, UInt8.ofNat_toNat]
  | k + 1, d, hl, hw => by
    obtain ⟨d', c, rfl⟩ : ∃ d' c, d = d' ++ [c] := ⟨d.dropLast, d.getLast (by intro e; rw [e] at hl; simp at hl), (List.dropLast_concat_getLast _).symm⟩
    have hl' : d'.length = k + 1 := by simpa using hl
    have ha := isWr_all hw
    have hc := dig_bd (ha c (by simp))
    have ha' : ∀ x ∈ d', isDig x = true := fun x hx => ha x (List.mem_append_left _ hx)
    match d', hl', ha', hw with
    | a :: r, hl', ha', hw =>
      have h48 : a ≠ 48 := by
        intro e; subst e
        simp [isWr] at hw
      have hw' : isWr (a :: r) = true := by
        simp only [isWr, Bool.and_eq_true, List.all_eq_true]
        exact ⟨by simp [h48], ha'⟩
      have ih := wr_dec k (a :: r) hl' hw'
      have hb := (valD_bd (a :: r) ha').1
      have h1 : 1 ≤ valD 0 (a :: r) := by
        have h2 := valD_mono (n := 0 * 10 + ((a.toNat : Int) - 48)) r (fun x hx => ha' x (List.mem_cons_of_mem _ hx))
        have h3 := dig_bd (ha' a (List.mem_cons_self ..))
        have h4 : a.toNat ≠ 48 := fun e => h48 (UInt8.toNat.inj e)
        have p1 : 1 ≤ ((10 ^ r.length : Nat) : Int) := by have : 0 < 10 ^ r.length := Nat.pow_pos (by decide); omega
        have h5 : (0 * 10 + ((a.toNat : Int) - 48)) * 1 ≤ (0 * 10 + ((a.toNat : Int) - 48)) * ((10 ^ r.length : Nat) : Int) := Int.mul_le_mul_of_nonneg_left p1 (by omega)
        show 1 ≤ valD (0 * 10 + ((a.toNat : Int) - 48)) r
        omega
      have e : valD 0 (a :: r ++ [c]) = valD 0 (a :: r) * 10 + ((c.toNat : Int) - 48) := by rw [valD_append]; rfl
      rw [e]
      generalize valD 0 (a :: r) = v at *
      obtain ⟨v, rfl⟩ := Int.eq_ofNat_of_zero_le hb
      rw [Int.toNat_natCast] at ih
      have e2 : ((v : Int) * 10 + ((c.toNat : Int) - 48)).toNat = v * 10 + (c.toNat - 48) := by omega
      rw [e2, dec_step (by omega)]
      have e3 : (v * 10 + (c.toNat - 48)) / 10 = v := by omega
      have e4 : 48 + (v * 10 + (c.toNat - 48)) % 10 = c.toNat := by omega
      rw [e3, e4, ih, UInt8.ofNat_toNat]
/-- What is read is written so. -/
theorem show_read {l : List UInt8} (h : readE l = 0) : Rng (readV l) ∧ showL (readV l) = l := by
  by_cases hok : readOk l = true
  · obtain ⟨e1, e2⟩ := read_good hok
    rw [e2] at h
    have hR : Rng (sgB (valD 0 (cutRest l)) (cutNeg l)) := by
      refine Classical.not_not.1 fun hR => ?_
      rw [errV_no hR] at h
      exact absurd h (by decide)
    rw [e1, fitV_ok hR]
    refine ⟨hR, ?_⟩
    have hw : isWr (cutRest l) = true := by unfold readOk at hok; rw [Bool.and_eq_true] at hok; exact hok.1
    have hn : (cutNeg l && (cutRest l == [48])) = false := by unfold readOk at hok; rw [Bool.and_eq_true, Bool.not_eq_true'] at hok; exact hok.2
    have hne : cutRest l ≠ [] := by intro e; rw [e] at hw; exact absurd hw (by decide)
    have hl0 : (cutRest l).length ≠ 0 := by simpa using hne
    obtain ⟨k, hk⟩ : ∃ k, (cutRest l).length = k + 1 := ⟨(cutRest l).length - 1, by omega⟩
    have hd := wr_dec k _ hk hw
    have hb := (valD_bd _ (isWr_all hw)).1
    cases hg : cutNeg l
    · have hcr : cutRest l = l := by unfold cutRest; rw [hg]; rfl
      show showL (valD 0 (cutRest l)) = l
      rw [show_pos (by omega)]
      unfold absN; rw [if_neg (by omega), hd, hcr]
    · rw [hg] at hn
      have hz : (cutRest l == [48]) = false := by simpa using hn
      have hpos : valD 0 (cutRest l) ≠ 0 := by
        intro e
        rw [e] at hd
        have : cutRest l = [48] := by rw [← hd]; exact Lib.decDigits_one (by decide)
        rw [this] at hz; exact absurd hz (by decide)
      have hlt : -(valD 0 (cutRest l)) < 0 := by omega
      have hl : l = 45 :: cutRest l := by
        match l, hg with
        | c :: r, hg =>
          have hc : c = 45 := by simpa [cutNeg] using hg
          subst hc
          have : cutRest (45 :: r) = r := rfl
          rw [this]
      show showL (-(valD 0 (cutRest l))) = l
      rw [show_neg hlt]
      unfold absN; rw [if_pos hlt, Int.neg_neg, hd]
      exact hl.symm
  · have hb := read_bad (show readOk l = false by simpa using hok)
    rw [hb.2] at h; exact absurd h (by decide)
theorem read_err {l : List UInt8} (h : readE l ≠ 0) : (readE l = 1 ∨ readE l = 10) ∧ readV l = 0 := by
  by_cases hok : readOk l = true
  · obtain ⟨e1, e2⟩ := read_good hok
    by_cases hR : Rng (sgB (valD 0 (cutRest l)) (cutNeg l))
    · rw [e2, errV_ok hR] at h; exact absurd rfl h
    · rw [e1, e2, errV_no hR, fitV_no hR]; exact ⟨.inr rfl, rfl⟩
  · have hb := read_bad (show readOk l = false by simpa using hok)
    rw [hb.1, hb.2]; exact ⟨.inl rfl, rfl⟩
end Go.Proofs.YtlgjoepeibodkaaGreat.Wd
namespace Go.Proofs.YtlgjoepeibodkaaGreat.Wd
open Go.RowKit Go.Shelf
attribute [local go_sem ↓] Go.wp_at_zero Go.wp_at_succ

theorem scale_math (a b : Int) : sgN (absN a * absN b) (!decide (hiOf a < 0) == decide (b < 0)) = a * b := by
  have e : decide (hiOf a < 0) = decide (a < 0) := by
    by_cases h : a < 0
    · rw [decide_eq_true h, decide_eq_true (hi_ngt h)]
    · rw [decide_eq_false h, hi_nn (by omega)]
  rw [e]; exact sgN_mul a b
theorem scale_far (a b : Int) (h : ¬ Siz (absN a * absN b)) : ¬ Rng (a * b) := by
  intro hR
  apply h
  have e := abs_mul a b
  have p : 0 ≤ absN a * absN b := Int.mul_nonneg (by unfold absN; split <;> omega) (by unfold absN; split <;> omega)
  unfold Rng at hR; unfold Siz
  split at e <;> omega
theorem neg_math (n : Int) : sgN (absN n) (decide (0 ≤ hiOf n)) = -n := by
  unfold sgN absN
  by_cases h : n < 0
  · have h1 := hi_ngt h
    rw [if_pos h, if_neg (by simp; omega)]
  · have h1 := hi_pos (show 0 ≤ n by omega)
    rw [if_neg h, if_pos (by simpa using h1)]
set_option maxRecDepth 100000 in
theorem scale_ok (a b : Int) (ha : Rng a) (hb : I64 b) (h : Siz (absN a * absN b)) (w : World) :
    Calls Tryz.prog 99 #[wv a, .int .i64 b] w fun e w' => e = .returned (.tuple #[wv (fitV (a * b)), .int .i64 (errV (a * b))]) ∧ Below w.heap.size w w' := by
  have hm : sgN (absN a * absN b) (!decide (hiOf a < 0) == decide (b < 0)) = a * b := scale_math a b
  have HM := hid1 hm
  clear hm
  go_enter Tryz.func99, Tryz.ntmps99
  go_wp2_with fail
  refine gen_calls (fun W' => Below w.heap.size w W' ∧ W'.cell? ⟨w.heap.size, 0, none⟩ = some (.int .i64 (hiOf a)) ∧ W'.cell? ⟨w.heap.size, 1, none⟩ = some (.int .u64 (loOf a)) ∧ W'.cell? ⟨w.heap.size + 1, 0, none⟩ = some (.int .i64 0) ∧ W'.cell? ⟨w.heap.size + 1, 1, none⟩ = some (.int .u64 0) ∧ W'.frozen? ⟨w.heap.size + 1, 0, none⟩ = false ∧ W'.frozen? ⟨w.heap.size + 1, 1, none⟩ = false) ⟨by repeat (first | exact Below.refl _ _ | refine bl_alloc ?_ _ | refine Below.drew ?_ | refine bl_drewN ?_ _ | refine bl_set ?_ (by omega) _ | refine bl_step ?_ (by assumption)), by simp [go_sem], by simp [go_sem], by simp [go_sem], by simp [go_sem], by simp [go_sem], by simp [go_sem]⟩ ?_
  rintro W ⟨B, n0, n1, r0, r1, f0, f1⟩
  have zr := lt_of_cell r0
  refine (sizeOf_any a ha _).mono ?_
  rintro e w1 ⟨rfl, hb1⟩
  go_wp2_with fail
  refine (amount_any b hb _).mono ?_
  rintro e w1' ⟨rfl, rfl⟩
  go_wp2_with fail
  refine (times_ok _ _ (absN_siz ha) (absN_u64 hb) h _).mono ?_
  rintro e w2 ⟨rfl, hb2⟩
  have H2 : Below W.heap.size W w2 := by repeat (first | exact Below.refl _ _ | refine bl_alloc ?_ _ | refine Below.drew ?_ | refine bl_drewN ?_ _ | refine bl_set ?_ (by omega) _ | refine bl_step ?_ (by assumption))
  replace n0 := keepc H2 n0; replace n1 := keepc H2 n1; replace r0 := keepc H2 r0; replace r1 := keepc H2 r1
  replace f0 := keepf H2 zr f0; replace f1 := keepf H2 zr f1
  have z0 := lt_of_cell n0
  replace zr := lt_of_cell r0
  go_wp2_with fail
  refine (signed_any (absN a * absN b) _ h _).mono ?_
  rintro e w3 ⟨rfl, hb3⟩
  rw [HM.out]
  have H3 : Below w2.heap.size w2 w3 := by repeat (first | exact Below.refl _ _ | refine bl_alloc ?_ _ | refine Below.drew ?_ | refine bl_drewN ?_ _ | refine bl_set ?_ (by omega) _ | refine bl_step ?_ (by assumption))
  replace r0 := keepc H3 r0; replace r1 := keepc H3 r1
  replace f0 := keepf H3 zr f0; replace f1 := keepf H3 zr f1
  clear n0 n1
  go_wp2_with fail
  simp [bodyPost, results, Tryz.results99, go_sem, r0, r1]
  repeat (first | exact Below.refl _ _ | refine bl_alloc ?_ _ | refine Below.drew ?_ | refine bl_drewN ?_ _ | refine bl_set ?_ (by omega) _ | refine bl_step ?_ (by assumption))
set_option maxRecDepth 100000 in
theorem scale_no (a b : Int) (ha : Rng a) (hb : I64 b) (h : ¬ Siz (absN a * absN b)) (w : World) :
    Calls Tryz.prog 99 #[wv a, .int .i64 b] w fun e w' => e = .returned (.tuple #[wv (fitV (a * b)), .int .i64 (errV (a * b))]) ∧ Below w.heap.size w w' := by
  have hR : ¬ Rng (a * b) := scale_far a b h
  rw [fitV_no hR, errV_no hR]
  clear hR
  go_enter Tryz.func99, Tryz.ntmps99
  go_wp2_with fail
  refine gen_calls (fun W' => Below w.heap.size w W' ∧ W'.cell? ⟨w.heap.size, 0, none⟩ = some (.int .i64 (hiOf a)) ∧ W'.cell? ⟨w.heap.size, 1, none⟩ = some (.int .u64 (loOf a)) ∧ W'.cell? ⟨w.heap.size + 1, 0, none⟩ = some (.int .i64 0) ∧ W'.cell? ⟨w.heap.size + 1, 1, none⟩ = some (.int .u64 0) ∧ W'.frozen? ⟨w.heap.size + 1, 0, none⟩ = false ∧ W'.frozen? ⟨w.heap.size + 1, 1, none⟩ = false) ⟨by repeat (first | exact Below.refl _ _ | refine bl_alloc ?_ _ | refine Below.drew ?_ | refine bl_drewN ?_ _ | refine bl_set ?_ (by omega) _ | refine bl_step ?_ (by assumption)), by simp [go_sem], by simp [go_sem], by simp [go_sem], by simp [go_sem], by simp [go_sem], by simp [go_sem]⟩ ?_
  rintro W ⟨B, n0, n1, r0, r1, f0, f1⟩
  have zr := lt_of_cell r0
  refine (sizeOf_any a ha _).mono ?_
  rintro e w1 ⟨rfl, hb1⟩
  go_wp2_with fail
  refine (amount_any b hb _).mono ?_
  rintro e w1' ⟨rfl, rfl⟩
  go_wp2_with fail
  refine (times_no _ _ (absN_siz ha) (absN_u64 hb) h _).mono ?_
  rintro e w2 ⟨⟨v, rfl⟩, hb2⟩
  have H2 : Below W.heap.size W w2 := by repeat (first | exact Below.refl _ _ | refine bl_alloc ?_ _ | refine Below.drew ?_ | refine bl_drewN ?_ _ | refine bl_set ?_ (by omega) _ | refine bl_step ?_ (by assumption))
  replace r0 := keepc H2 r0; replace r1 := keepc H2 r1
  replace f0 := keepf H2 zr f0; replace f1 := keepf H2 zr f1
  replace zr := lt_of_cell r0
  clear n0 n1
  go_wp2_with fail
  simp [bodyPost, results, Tryz.results99, go_sem, hi0, lo0, zr, r0, r1]
  repeat (first | exact Below.refl _ _ | refine bl_alloc ?_ _ | refine Below.drew ?_ | refine bl_drewN ?_ _ | refine bl_set ?_ (by omega) _ | refine bl_step ?_ (by assumption))
theorem scale_any (a b : Int) (ha : Rng a) (hb : I64 b) (w : World) :
    Calls Tryz.prog 99 #[wv a, .int .i64 b] w fun e w' => e = .returned (.tuple #[wv (fitV (a * b)), .int .i64 (errV (a * b))]) ∧ Below w.heap.size w w' := by
  by_cases h : Siz (absN a * absN b)
  · exact scale_ok a b ha hb h w
  · exact scale_no a b ha hb h w
end Go.Proofs.YtlgjoepeibodkaaGreat.Wd
/-
  LEAST NUMBERS: plain mathematics. No Go in sight.
-/
namespace Go.Proofs.YtlgjoepeibodkaaGreat.Wd

def gd (n d : Int) : Int := (Int.gcd n d : Int)
def rn (n d : Int) : Int := n / gd n d
def rd (n d : Int) : Int := d / gd n d
theorem gd_zero {b : Int} (h : 0 ≤ b) : gd 0 b = b := by unfold gd; rw [Int.gcd_zero_left]; omega
theorem gd_neg (a b : Int) : gd (-a) b = gd a b := by unfold gd; rw [Int.gcd_comm, Int.gcd_neg, Int.gcd_comm]
theorem gd_step (a b : Int) : gd (b.tmod a) a = gd a b := by
  unfold gd
  have e : b.tmod a + a * (b.tdiv a) = b := Int.tmod_add_mul_tdiv b a
  have h : Int.gcd a (b.tmod a + a * (b.tdiv a)) = Int.gcd a (b.tmod a) := Int.gcd_add_mul_left_right ..
  rw [e] at h
  rw [h, Int.gcd_comm]
theorem gd_pos {n d : Int} (h : 0 < d) : 0 < gd n d := by
  unfold gd
  have := Int.gcd_pos_of_ne_zero_right n (b := d) (by omega)
  omega
theorem gd_le {n d : Int} (h : 0 < d) : gd n d ≤ d := by unfold gd; exact Int.gcd_le_right n h
theorem gd_n (n d : Int) : gd n d * rn n d = n := by unfold rn gd; exact Int.mul_ediv_cancel' (Int.gcd_dvd_left n d)
theorem gd_d (n d : Int) : gd n d * rd n d = d := by unfold rd gd; exact Int.mul_ediv_cancel' (Int.gcd_dvd_right n d)
theorem rd_pos {n d : Int} (h : 0 < d) : 0 < rd n d := by
  have g := gd_pos (n := n) h
  have e := gd_d n d
  rcases Int.lt_trichotomy (rd n d) 0 with k | k | k
  · have := Int.mul_neg_of_pos_of_neg g k; omega
  · rw [k] at e; omega
  · exact k
theorem rd_le {n d : Int} (h : 0 < d) : rd n d ≤ d := by
  have g := gd_pos (n := n) h
  have e := gd_d n d
  have k := rd_pos (n := n) h
  have := Int.mul_le_mul_of_nonneg_right (a := 1) (b := gd n d) (c := rd n d) (by omega) (by omega)
  omega
theorem rn_bd {n d B : Int} (h : 0 < d) (h1 : -B ≤ n) (h2 : n ≤ B) : -B ≤ rn n d ∧ rn n d ≤ B := by
  have g := gd_pos (n := n) h
  have e := gd_n n d
  rcases Int.lt_trichotomy (rn n d) 0 with k | k | k
  · have := Int.mul_le_mul_of_nonneg_right (a := 1) (b := gd n d) (c := -rn n d) (by omega) (by omega)
    rw [Int.one_mul, Int.mul_neg, e] at this
    omega
  · omega
  · have := Int.mul_le_mul_of_nonneg_right (a := 1) (b := gd n d) (c := rn n d) (by omega) (by omega)
    omega
theorem red_cop {n d : Int} (h : 0 < d) : gd (rn n d) (rd n d) = 1 := by
  have g := gd_pos (n := n) h
  have e : gd n d = gd n d * gd (rn n d) (rd n d) := by
    have k := Int.gcd_mul_left (gd n d) (rn n d) (rd n d)
    rw [gd_n, gd_d] at k
    have : (gd n d).natAbs = Int.gcd n d := rfl
    rw [this] at k
    have k2 := congrArg Int.ofNat k
    exact k2.trans (Int.natCast_mul _ _)
  have e2 : gd n d * 1 = gd n d * gd (rn n d) (rd n d) := by rw [← e]; omega
  exact (Int.eq_of_mul_eq_mul_left (by omega) e2).symm
theorem cop_dvd {k m n : Int} (h : Int.gcd k m = 1) (h2 : k ∣ m * n) : k ∣ n := by
  have a : Nat.Coprime k.natAbs m.natAbs := h
  have b : k.natAbs ∣ m.natAbs * n.natAbs := by rw [← Int.natAbs_mul]; exact Int.natAbs_dvd_natAbs.mpr h2
  exact Int.natAbs_dvd_natAbs.mp (Nat.Coprime.dvd_of_dvd_mul_left a b)
/-- Two pairs without a divisor in common that are worth the same are the same. -/
theorem cop_uniq {p q r s : Int} (h : p * s = r * q) (c1 : gd p q = 1) (c2 : gd r s = 1) (hq : 0 < q) (hs : 0 < s) : p = r ∧ q = s := by
  have c1' : Int.gcd q p = 1 := by rw [Int.gcd_comm]; unfold gd at c1; omega
  have c2' : Int.gcd s r = 1 := by rw [Int.gcd_comm]; unfold gd at c2; omega
  have d1 : q ∣ s := by
    have : q ∣ p * s := ⟨r, by rw [h, Int.mul_comm]⟩
    exact cop_dvd c1' this
  have d2 : s ∣ q := by
    have : s ∣ r * q := ⟨p, by rw [← h, Int.mul_comm]⟩
    exact cop_dvd c2' this
  have e : q = s := by
    have l1 := Int.le_of_dvd hs d1
    have l2 := Int.le_of_dvd hq d2
    omega
  subst e
  exact ⟨Int.eq_of_mul_eq_mul_right (by omega) h, rfl⟩
/-- So least numbers are known by two things. -/
theorem red_uniq {n d p q : Int} (hd : 0 < d) (hq : 0 < q) (c : gd p q = 1) (h : p * d = n * q) : p = rn n d ∧ q = rd n d := by
  refine cop_uniq ?_ c (red_cop hd) hq (rd_pos hd)
  have e1 := gd_n n d
  have e2 := gd_d n d
  have g := gd_pos (n := n) hd
  have : gd n d * (p * rd n d) = gd n d * (rn n d * q) := by
    rw [← Int.mul_assoc, Int.mul_comm (gd n d) p, Int.mul_assoc, e2, h, ← Int.mul_assoc, e1]
  exact Int.eq_of_mul_eq_mul_left (by omega) this
theorem red_self {n d : Int} (hd : 0 < d) (c : gd n d = 1) : rn n d = n ∧ rd n d = d := by
  have := red_uniq (n := n) hd hd c rfl
  exact ⟨this.1.symm, this.2.symm⟩
theorem red_same {n d p q : Int} (hd : 0 < d) (hq : 0 < q) (h : p * d = n * q) : rn p q = rn n d ∧ rd p q = rd n d := by
  refine red_uniq hd (rd_pos hq) (red_cop hq) ?_
  have e1 := gd_n p q
  have e2 := gd_d p q
  have g := gd_pos (n := p) hq
  have : gd p q * (rn p q * d) = gd p q * (n * rd p q) := by
    rw [← Int.mul_assoc, e1, h, Int.mul_left_comm, e2]
  exact Int.eq_of_mul_eq_mul_left (by omega) this
theorem red_times {n d k : Int} (hd : 0 < d) (hk : 0 < k) : rn (n * k) (d * k) = rn n d ∧ rd (n * k) (d * k) = rd n d :=
  red_same hd (Int.mul_pos hd hk) (by rw [Int.mul_assoc, Int.mul_comm k d])
theorem cmp_scale {x y k : Int} (hk : 0 < k) : cmpN (k * x) (k * y) = cmpN x y := by
  unfold cmpN
  by_cases h : x < y
  · rw [if_pos h, if_pos (Int.mul_lt_mul_of_pos_left h hk)]
  · by_cases h2 : x = y
    · subst h2; simp
    · have : y < x := by omega
      have := Int.mul_lt_mul_of_pos_left this hk
      rw [if_neg h, if_neg h2, if_neg (by omega), if_neg (by omega)]
/-- The order crosswise is that of the least numbers. -/
theorem cmp_red {n d p q : Int} (hd : 0 < d) (hq : 0 < q) : cmpN (rn n d * rd p q) (rn p q * rd n d) = cmpN (n * q) (p * d) := by
  have a1 := gd_n n d; have a2 := gd_d n d; have b1 := gd_n p q; have b2 := gd_d p q
  have g := gd_pos (n := n) hd; have g' := gd_pos (n := p) hq
  rw [← cmp_scale (k := gd n d * gd p q) (Int.mul_pos g g')]
  have e1 : gd n d * gd p q * (rn n d * rd p q) = n * q := by
    calc gd n d * gd p q * (rn n d * rd p q) = (gd n d * rn n d) * (gd p q * rd p q) := by ac_rfl
      _ = n * q := by rw [a1, b2]
  have e2 : gd n d * gd p q * (rn p q * rd n d) = p * d := by
    calc gd n d * gd p q * (rn p q * rd n d) = (gd p q * rn p q) * (gd n d * rd n d) := by ac_rfl
      _ = p * d := by rw [b1, a2]
  rw [e1, e2]
theorem same_iff {n d p q : Int} (hd : 0 < d) (hq : 0 < q) : n * q = p * d ↔ rn n d = rn p q ∧ rd n d = rd p q := by
  constructor
  · intro h; exact red_same hq hd h
  · rintro ⟨h1, h2⟩
    have e1 := gd_n n d; have e2 := gd_d n d; have e3 := gd_n p q; have e4 := gd_d p q
    calc n * q = (gd n d * rn n d) * (gd p q * rd p q) := by rw [e1, e4]
      _ = (gd p q * rn p q) * (gd n d * rd n d) := by rw [h1, h2]; ac_rfl
      _ = p * d := by rw [e3, e2]
theorem tdiv_gd_n (n d : Int) : n.tdiv (gd n d) = rn n d := by unfold rn; exact Int.tdiv_eq_ediv_of_dvd (Int.gcd_dvd_left n d)
theorem tdiv_gd_d (n d : Int) : d.tdiv (gd n d) = rd n d := by unfold rd; exact Int.tdiv_eq_ediv_of_dvd (Int.gcd_dvd_right n d)
end Go.Proofs.YtlgjoepeibodkaaGreat.Wd
/-
  LEAST NUMBERS BY TRIAL: plain mathematics. No Go in sight.
-/
namespace Go.Proofs.YtlgjoepeibodkaaGreat.Wd

/-- No number from 2 up to below p divides both. -/
def NC (n d p : Int) : Prop := ∀ q, 2 ≤ q → q < p → ¬ (q ∣ n ∧ q ∣ d)
def ND (r p : Int) : Prop := ∀ q, 2 ≤ q → q < p → ¬ q ∣ r
theorem nc_two (n d : Int) : NC n d 2 := fun q h1 h2 => by omega
theorem nd_two (r : Int) : ND r 2 := fun q h1 h2 => by omega
theorem nc_next {n d p : Int} (h : NC n d p) (k : ¬ (p ∣ d ∧ p ∣ n)) : NC n d (p + 1) := by
  intro q h1 h2 h3
  by_cases e : q = p
  · subst e; exact k ⟨h3.2, h3.1⟩
  · exact h q h1 (by omega) h3
theorem nd_next {r p : Int} (h : ND r p) (k : ¬ p ∣ r) : ND r (p + 1) := by
  intro q h1 h2 h3
  by_cases e : q = p
  · subst e; exact k h3
  · exact h q h1 (by omega) h3
theorem nc_div {n d p x : Int} (h : NC n d p) (h1 : x ∣ n) (h2 : x ∣ d) : NC (n / x) (d / x) p := by
  intro q a b c
  exact h q a b ⟨Int.dvd_trans c.1 (Int.ediv_dvd_of_dvd h1), Int.dvd_trans c.2 (Int.ediv_dvd_of_dvd h2)⟩
theorem nd_div {r p x : Int} (h : ND r p) (h1 : x ∣ r) : ND (r / x) p := by
  intro q a b c
  exact h q a b (Int.dvd_trans c (Int.ediv_dvd_of_dvd h1))
theorem worth_div {n d n0 d0 x : Int} (hx : 0 < x) (h1 : x ∣ n) (h2 : x ∣ d) (h : n * d0 = n0 * d) : n / x * d0 = n0 * (d / x) := by
  obtain ⟨a, rfl⟩ := h1
  obtain ⟨b, rfl⟩ := h2
  rw [Int.mul_ediv_cancel_left _ (by omega), Int.mul_ediv_cancel_left _ (by omega)]
  have : x * (a * d0) = x * (n0 * b) := by rw [← Int.mul_assoc, h, Int.mul_left_comm]
  exact Int.eq_of_mul_eq_mul_left (by omega) this
theorem div_bd {d p : Int} (hd : 0 < d) (hp : 2 ≤ p) (h : p ∣ d) : 0 < d / p ∧ d / p < d := by
  obtain ⟨a, rfl⟩ := h
  rw [Int.mul_ediv_cancel_left _ (by omega)]
  have ha : 0 < a := by
    rcases Int.lt_trichotomy a 0 with k | k | k
    · have := Int.mul_neg_of_pos_of_neg (show 0 < p by omega) k; omega
    · subst k; omega
    · exact k
  refine ⟨ha, ?_⟩
  have := Int.mul_le_mul_of_nonneg_right (a := 2) (b := p) (c := a) hp (by omega)
  omega
theorem gd_dvd_n (n d : Int) : gd n d ∣ n := Int.gcd_dvd_left n d
theorem gd_dvd_d (n d : Int) : gd n d ∣ d := Int.gcd_dvd_right n d
theorem dvd_gd {q n d : Int} (h1 : q ∣ n) (h2 : q ∣ d) : q ∣ gd n d := Int.dvd_coe_gcd h1 h2
theorem sq_le {a b : Int} (h0 : 0 ≤ a) (h : a ≤ b) : a * a ≤ b * b := Int.mul_le_mul h h h0 (by omega)
/-- What divides both is as great as its square is above d. -/
theorem nc_sq {n d p q : Int} (h : NC n d p) (hp : d < p * p) (hp0 : 0 ≤ p) (hq : 2 ≤ q) (h1 : q ∣ n) (h2 : q ∣ d) : d < q * q := by
  have : p ≤ q := by
    rcases Int.lt_or_le q p with k | k
    · exact absurd ⟨h1, h2⟩ (h q hq k)
    · exact k
  have := sq_le hp0 this
  omega
/-- The greatest that divides both has no divisors of its own. -/
theorem gd_prime {n d p x : Int} (hd : 0 < d) (h : NC n d p) (hp : d < p * p) (hp0 : 0 ≤ p) (hx : x ∣ gd n d) (hx2 : 2 ≤ x) : x = gd n d := by
  obtain ⟨y, e⟩ := hx
  have g := gd_pos (n := n) hd
  have y0 : 0 < y := by
    rcases Int.lt_trichotomy y 0 with k | k | k
    · have := Int.mul_neg_of_pos_of_neg (show 0 < x by omega) k; omega
    · subst k; omega
    · exact k
  by_cases hy : y = 1
  · subst hy; omega
  · exfalso
    have x1 : x ∣ gd n d := ⟨y, e⟩
    have y1 : y ∣ gd n d := ⟨x, by rw [e, Int.mul_comm]⟩
    have a := nc_sq h hp hp0 hx2 (Int.dvd_trans x1 (gd_dvd_n n d)) (Int.dvd_trans x1 (gd_dvd_d n d))
    have b := nc_sq h hp hp0 (show 2 ≤ y by omega) (Int.dvd_trans y1 (gd_dvd_n n d)) (Int.dvd_trans y1 (gd_dvd_d n d))
    have c := gd_le (n := n) hd
    have k1 : d * d < (x * x) * (y * y) := Int.mul_lt_mul a (by omega) hd (by omega)
    have k2 : (x * x) * (y * y) = gd n d * gd n d := by rw [e]; ac_rfl
    have k3 := sq_le (by omega) c
    omega
/-- Dividing the rest keeps what divides both. -/
theorem rest_keep {n d p x r : Int} (hd : 0 < d) (h : NC n d p) (hp : d < p * p) (hp0 : 0 ≤ p) (hrd : r ≤ d) (hx : 2 ≤ x) (hxr : x ∣ r) (hxx : x * x ≤ r)
    (hg : 2 ≤ gd n d → gd n d ∣ r) : 2 ≤ gd n d → gd n d ∣ r / x := by
  intro g2
  obtain ⟨t, e⟩ := hg g2
  have gs := nc_sq h hp hp0 g2 (gd_dvd_n n d) (gd_dvd_d n d)
  have xl : x < gd n d := by
    rcases Int.lt_or_le x (gd n d) with k | k
    · exact k
    · have := sq_le (by omega) k; omega
  have cop : Int.gcd x (gd n d) = 1 := by
    have d1 : (Int.gcd x (gd n d) : Int) ∣ gd n d := Int.gcd_dvd_right _ _
    have d2 : (Int.gcd x (gd n d) : Int) ∣ x := Int.gcd_dvd_left _ _
    have pos := Int.gcd_pos_of_ne_zero_left (a := x) (gd n d) (by omega)
    rcases Nat.lt_or_ge (Int.gcd x (gd n d)) 2 with k | k
    · omega
    · have := gd_prime hd h hp hp0 d1 (by omega)
      have := Int.le_of_dvd (by omega) d2
      omega
  obtain ⟨s, es⟩ := cop_dvd cop (show x ∣ gd n d * t by rw [← e]; exact hxr)
  refine ⟨s, ?_⟩
  rw [e, es, Int.mul_left_comm, Int.mul_ediv_cancel_left _ (by omega)]
/-- Behind both loops: the rest is what divides both, or nothing does. -/
theorem rest_end {n d r k : Int} (hd : 0 < d) (hr : 0 < r) (hk : r < k * k) (hk0 : 2 ≤ k) (hn : ND r k)
    (hg : 2 ≤ gd n d → gd n d ∣ r) : (2 ≤ gd n d → r = gd n d) ∧ (1 < r → r ∣ n → r ∣ d → r = gd n d) := by
  have g := gd_pos (n := n) hd
  have first : 2 ≤ gd n d → r = gd n d := by
    intro g2
    obtain ⟨t, e⟩ := hg g2
    have t0 : 0 < t := by
      rcases Int.lt_trichotomy t 0 with q | q | q
      · have := Int.mul_neg_of_pos_of_neg g q; omega
      · subst q; omega
      · exact q
    by_cases t1 : t = 1
    · subst t1; omega
    · exfalso
      have a : k ≤ gd n d := by
        rcases Int.lt_or_le (gd n d) k with q | q
        · exact absurd ⟨t, e⟩ (hn _ g2 q)
        · exact q
      have b : k ≤ t := by
        rcases Int.lt_or_le t k with q | q
        · exact absurd ⟨gd n d, by rw [e, Int.mul_comm]⟩ (hn t (by omega) q)
        · exact q
      have := Int.mul_le_mul a b (by omega) (by omega)
      omega
  refine ⟨first, ?_⟩
  intro r1 rn' rd'
  have := Int.le_of_dvd g (dvd_gd rn' rd')
  exact first (by omega)
/-- The whole: least numbers. -/
theorem ref_red {n d r k n0 d0 : Int} (hd0 : 0 < d0) (hd : 0 < d) (hw : n * d0 = n0 * d) (hr : 0 < r) (hk : r < k * k) (hk0 : 2 ≤ k) (hn : ND r k)
    (hg : 2 ≤ gd n d → gd n d ∣ r) :
    (1 < r ∧ r ∣ n ∧ r ∣ d → n / r = rn n0 d0 ∧ d / r = rd n0 d0) ∧ (¬ (1 < r ∧ r ∣ n ∧ r ∣ d) → n = rn n0 d0 ∧ d = rd n0 d0) := by
  have g := gd_pos (n := n) hd
  obtain ⟨f1, f2⟩ := rest_end hd hr hk hk0 hn hg
  have same := red_same hd0 hd hw
  constructor
  · rintro ⟨a, b, c⟩
    have e := f2 a b c
    rw [e]; exact same
  · intro no
    have g1 : gd n d = 1 := by
      rcases Int.lt_or_le (gd n d) 2 with q | q
      · omega
      · exfalso; have e := f1 q; exact no ⟨by omega, by rw [e]; exact gd_dvd_n n d, by rw [e]; exact gd_dvd_d n d⟩
    have s := red_self hd g1
    exact ⟨s.1 ▸ same.1, s.2 ▸ same.2⟩
theorem tmod_dvd {n d : Int} : (n.tmod d == 0) = decide (d ∣ n) := by
  by_cases h : d ∣ n
  · rw [Int.tmod_eq_zero_of_dvd h, decide_eq_true h]; rfl
  · rw [decide_eq_false h]; exact beq_eq_false_iff_ne.mpr (fun e => h (Int.dvd_of_tmod_eq_zero e))
end Go.Proofs.YtlgjoepeibodkaaGreat.Wd
/-
  WHAT DECIDES A NORM: plain mathematics. No Go in sight.
-/
namespace Go.Proofs.YtlgjoepeibodkaaGreat.Wd

theorem bd_mul {A B a b : Int} (ha : -A ≤ a ∧ a ≤ A) (hb : -B ≤ b ∧ b ≤ B) : -(A * B) ≤ a * b ∧ a * b ≤ A * B := by
  have h1 : a.natAbs ≤ A.natAbs := by omega
  have h2 : b.natAbs ≤ B.natAbs := by omega
  have h3 := Nat.mul_le_mul h1 h2
  rw [← Int.natAbs_mul, ← Int.natAbs_mul] at h3
  have h4 : 0 ≤ A * B := Int.mul_nonneg (by omega) (by omega)
  omega
/-- What decides a norm. -/
def nv (gn gd bn bd mn md sn sd x : Int) : Int := gn * (x * md - mn) * sd * bd + bn * gd * md * sn
def Fr (n d : Int) : Prop := 1 ≤ d ∧ d ≤ 1048576 ∧ -2147483647 ≤ n ∧ n ≤ 2147483647
def Sm (x : Int) : Prop := -2147483647 ≤ x ∧ x ≤ 2147483647
theorem mid_bd {mn md x : Int} (hm : Fr mn md) (hx : Sm x) : -2251801961168895 ≤ x * md - mn ∧ x * md - mn ≤ 2251801961168895 := by
  obtain ⟨a, b, c, d⟩ := hm
  have h := bd_mul (A := 2147483647) (B := 1048576) hx ⟨by omega, b⟩
  omega
/-- nv's two halves: their bounds. -/
theorem left_bd {gn gd bn bd mn md sn sd x : Int} (hg : Fr gn gd) (hb : Fr bn bd) (hm : Fr mn md) (hs : Fr sn sd) (hx : Sm x) :
    (-4835707887892731017560065 ≤ gn * (x * md - mn) ∧ gn * (x * md - mn) ≤ 4835707887892731017560065) ∧
    (-5070607234255008319469062717440 ≤ gn * (x * md - mn) * sd ∧ gn * (x * md - mn) * sd ≤ 5070607234255008319469062717440) ∧
    (-5316917051266179603595591908002365440 ≤ gn * (x * md - mn) * sd * bd ∧ gn * (x * md - mn) * sd * bd ≤ 5316917051266179603595591908002365440) := by
  have m := mid_bd hm hx
  obtain ⟨_, _, g1, g2⟩ := hg
  obtain ⟨s1, s2, _, _⟩ := hs
  obtain ⟨b1, b2, _, _⟩ := hb
  have k1 := bd_mul (A := 2147483647) ⟨g1, g2⟩ m
  have k2 := bd_mul (B := 1048576) k1 (b := sd) ⟨by omega, s2⟩
  have k3 := bd_mul (B := 1048576) k2 (b := bd) ⟨by omega, b2⟩
  refine ⟨⟨by omega, by omega⟩, ⟨by omega, by omega⟩, by omega, by omega⟩
theorem right_bd {gn gd bn bd mn md sn sd : Int} (hg : Fr gn gd) (hb : Fr bn bd) (hm : Fr mn md) (hs : Fr sn sd) :
    (-2251799812636672 ≤ bn * gd ∧ bn * gd ≤ 2251799812636672) ∧
    (-2361183240135110983680 * 10 ≤ bn * gd * md ∧ bn * gd * md ≤ 2361183240135110983680 * 10) ∧
    (-5070602395136650000000000000000 * 10 ≤ bn * gd * md * sn ∧ bn * gd * md * sn ≤ 5070602395136650000000000000000 * 10) := by
  obtain ⟨g1, g2, _, _⟩ := hg
  obtain ⟨m1, m2, _, _⟩ := hm
  obtain ⟨_, _, s1, s2⟩ := hs
  obtain ⟨_, _, b1, b2⟩ := hb
  have k1 := bd_mul (A := 2147483647) (B := 1048576) ⟨b1, b2⟩ (b := gd) ⟨by omega, g2⟩
  have k2 := bd_mul (B := 1048576) k1 (b := md) ⟨by omega, m2⟩
  have k3 := bd_mul k2 (b := sn) ⟨s1, s2⟩
  refine ⟨⟨by omega, by omega⟩, ⟨by omega, by omega⟩, by omega, by omega⟩
theorem nv_up {gn gd bn bd mn md sn sd x y : Int} (hg : 0 ≤ gn) (hb : Fr bn bd) (hm : Fr mn md) (hs : Fr sn sd) (h : x ≤ y) : nv gn gd bn bd mn md sn sd x ≤ nv gn gd bn bd mn md sn sd y := by
  unfold nv
  have a : x * md ≤ y * md := Int.mul_le_mul_of_nonneg_right h (by have := hm.1; omega)
  have b : gn * (x * md - mn) ≤ gn * (y * md - mn) := Int.mul_le_mul_of_nonneg_left (by omega) hg
  have c := Int.mul_le_mul_of_nonneg_right b (c := sd) (by have := hs.1; omega)
  have d := Int.mul_le_mul_of_nonneg_right c (c := bd) (by have := hb.1; omega)
  omega
theorem nv_turn (gn gd bn bd mn md sn sd x : Int) : nv (-gn) gd bn bd (-mn) md sn sd (-x) = nv gn gd bn bd mn md sn sd x := by
  unfold nv
  have : -gn * (-x * md - -mn) = gn * (x * md - mn) := by
    have e : -x * md - -mn = -(x * md - mn) := by rw [Int.neg_mul]; omega
    rw [e, Int.neg_mul_neg]
  rw [this]
theorem nv_down {gn gd bn bd mn md sn sd x y : Int} (hg : gn ≤ 0) (hb : Fr bn bd) (hm : Fr mn md) (hs : Fr sn sd) (h : x ≤ y) : nv gn gd bn bd mn md sn sd y ≤ nv gn gd bn bd mn md sn sd x := by
  rw [← nv_turn gn gd bn bd mn md sn sd y, ← nv_turn gn gd bn bd mn md sn sd x]
  refine nv_up (by omega) hb ?_ hs (by omega)
  obtain ⟨a, b, c, d⟩ := hm
  exact ⟨a, b, by omega, by omega⟩
theorem nv_flat {gn gd bn bd mn md sn sd x : Int} (hg : 1 ≤ gd) (hm : 1 ≤ md) (hs : 1 ≤ sn) (h0 : gn * (x * md - mn) = 0) : (0 ≤ nv gn gd bn bd mn md sn sd x ↔ 0 ≤ bn) := by
  have e : nv gn gd bn bd mn md sn sd x = bn * (gd * md * sn) := by
    unfold nv; rw [h0, Int.zero_mul, Int.zero_mul, Int.zero_add, Int.mul_assoc, Int.mul_assoc, Int.mul_assoc]
  have p : 0 < gd * md * sn := Int.mul_pos (Int.mul_pos (by omega) (by omega)) (by omega)
  rw [e]
  constructor
  · intro h
    rcases Int.lt_or_le bn 0 with k | k
    · have := Int.mul_neg_of_neg_of_pos k p; omega
    · exact k
  · intro h; exact Int.mul_nonneg h (by omega)
end Go.Proofs.YtlgjoepeibodkaaGreat.Wd
/- FRACTIONS: CHECK, REDUCE, CMP OF THE PROGRAM, WALKED. -/
namespace Go.Proofs.YtlgjoepeibodkaaGreat.Wd
open Go.RowKit Go.Shelf
attribute [local go_sem ↓] Go.wp_at_zero Go.wp_at_succ

abbrev fr (n d : Int) : Value := .agg #[.int .i64 n, .int .i64 d]
instance (n d : Int) : Decidable (Fr n d) := by unfold Fr; infer_instance
instance (x : Int) : Decidable (Sm x) := by unfold Sm; infer_instance
def chF (n d : Int) : Int := if Fr n d then 0 else 40
theorem chF_ok {n d : Int} (h : Fr n d) : chF n d = 0 := if_pos h
theorem chF_no {n d : Int} (h : ¬ Fr n d) : chF n d = 40 := if_neg h

theorem inReach_any (x : Int) (w : World) :
    Calls Tryz.prog 94 #[.int .i64 x] w fun e w' => e = .returned (.bool (decide (Sm x))) ∧ w' = w := by
  by_cases h1 : -2147483647 ≤ x
  · by_cases h2 : x ≤ 2147483647
    · rw [decide_eq_true (show Sm x from ⟨h1, h2⟩)]
      go_enter Tryz.func94, Tryz.ntmps94
      go_wp2
      go_ret
      exact ⟨rfl, rfl⟩
    · rw [decide_eq_false (show ¬ Sm x from fun h => h2 h.2)]
      go_enter Tryz.func94, Tryz.ntmps94
      go_wp2
      go_ret
      exact ⟨rfl, rfl⟩
  · rw [decide_eq_false (show ¬ Sm x from fun h => h1 h.1)]
    go_enter Tryz.func94, Tryz.ntmps94
    go_wp2
    go_ret
    exact ⟨rfl, rfl⟩
set_option maxRecDepth 100000 in
theorem fcheck_any (n d : Int) (w : World) :
    Calls Tryz.prog 93 #[fr n d] w fun e w' => e = .returned (.int .i64 (chF n d)) ∧ Below w.heap.size w w' := by
  by_cases h1 : d < 1
  · rw [chF_no (fun h => by have := h.1; omega)]
    go_enter Tryz.func93, Tryz.ntmps93
    go_wp2
    go_ret
    exact ⟨rfl, bl_alloc (Below.refl _ _) _⟩
  · by_cases h2 : 1048576 < d
    · rw [chF_no (fun h => by have := h.2.1; omega)]
      go_enter Tryz.func93, Tryz.ntmps93
      go_wp2
      go_ret
      exact ⟨rfl, bl_alloc (Below.refl _ _) _⟩
    · by_cases h3 : Sm n
      · rw [chF_ok ⟨by omega, by omega, h3.1, h3.2⟩]
        have H := decide_eq_true h3
        go_enter Tryz.func93, Tryz.ntmps93
        go_wp2_with (go_at_call 94; refine (inReach_any n _).mono ?_; rintro e w1 ⟨rfl, rfl⟩; rw [H])
        go_ret
        exact ⟨rfl, bl_alloc (Below.refl _ _) _⟩
      · rw [chF_no (fun h => h3 h.2.2)]
        have H := decide_eq_false h3
        go_enter Tryz.func93, Tryz.ntmps93
        go_wp2_with (go_at_call 94; refine (inReach_any n _).mono ?_; rintro e w1 ⟨rfl, rfl⟩; rw [H])
        go_ret
        exact ⟨rfl, bl_alloc (Below.refl _ _) _⟩
theorem emod_bd {a : Int} (b : Int) (ha : 0 < a) : 0 ≤ b % a ∧ b % a < a := ⟨Int.emod_nonneg b (by omega), Int.emod_lt_of_pos b ha⟩
theorem gd_stepe (a b : Int) : gd (b % a) a = gd a b := by
  unfold gd
  have e : b % a + a * (b / a) = b := Int.emod_add_mul_ediv b a
  have h : Int.gcd a (b % a + a * (b / a)) = Int.gcd a (b % a) := Int.gcd_add_mul_left_right ..
  rw [e] at h
  rw [h, Int.gcd_comm]
end Go.Proofs.YtlgjoepeibodkaaGreat.Wd
/- FRACTIONS: REDUCE REFUSED, CMP. -/
namespace Go.Proofs.YtlgjoepeibodkaaGreat.Wd
open Go.RowKit Go.Shelf
attribute [local go_sem ↓] Go.wp_at_zero Go.wp_at_succ

/-- What Reduce answers. -/
def rnV (n d : Int) : Int := if Fr n d then rn n d else 0
def rdV (n d : Int) : Int := if Fr n d then rd n d else 0
/-- What Cmp answers. -/
def cmF (n d p q : Int) : Int := if Fr n d ∧ Fr p q then cmpN (n * q) (p * d) else 0
def ceF (n d p q : Int) : Int := if Fr n d ∧ Fr p q then 0 else 40
theorem fprod_bd {n d p q : Int} (h1 : Fr n d) (h2 : Fr p q) : -2251799812636672 ≤ rn n d * rd p q ∧ rn n d * rd p q ≤ 2251799812636672 := by
  have a := rn_bd (n := n) (d := d) (B := 2147483647) (by have := h1.1; omega) h1.2.2.1 h1.2.2.2
  have b := rd_pos (n := p) (d := q) (by have := h2.1; omega)
  have c := rd_le (n := p) (d := q) (by have := h2.1; omega)
  have e := h2.2.1
  exact bd_mul (A := 2147483647) (B := 1048576) a ⟨by omega, by omega⟩
end Go.Proofs.YtlgjoepeibodkaaGreat.Wd
/- NORMS: NORM, PRODUCT OF THE PROGRAM. -/
namespace Go.Proofs.YtlgjoepeibodkaaGreat.Wd
open Go.RowKit Go.Shelf
attribute [local go_sem ↓] Go.wp_at_zero Go.wp_at_succ

abbrev nm (gn gd bn bd mn md sn sd : Int) : Value := .agg #[.int .i64 gn, .int .i64 gd, .int .i64 bn, .int .i64 bd, .int .i64 mn, .int .i64 md, .int .i64 sn, .int .i64 sd]
/-- The eight cells of a norm. -/
def Nm (w : World) (b : Nat) (gn gd bn bd mn md sn sd : Int) : Prop :=
  w.cell? ⟨b, 0, none⟩ = some (.int .i64 gn) ∧ w.cell? ⟨b, 1, none⟩ = some (.int .i64 gd) ∧ w.cell? ⟨b, 2, none⟩ = some (.int .i64 bn) ∧ w.cell? ⟨b, 3, none⟩ = some (.int .i64 bd) ∧
  w.cell? ⟨b, 4, none⟩ = some (.int .i64 mn) ∧ w.cell? ⟨b, 5, none⟩ = some (.int .i64 md) ∧ w.cell? ⟨b, 6, none⟩ = some (.int .i64 sn) ∧ w.cell? ⟨b, 7, none⟩ = some (.int .i64 sd)
theorem Nm.keep {w w' : World} {b : Nat} {gn gd bn bd mn md sn sd : Int} (h : Nm w b gn gd bn bd mn md sn sd) (hb : Below w.heap.size w w') : Nm w' b gn gd bn bd mn md sn sd := by
  obtain ⟨a, c, d, e, f, g, i, j⟩ := h
  exact ⟨keepc hb a, keepc hb c, keepc hb d, keepc hb e, keepc hb f, keepc hb g, keepc hb i, keepc hb j⟩
/-- The fractions of a norm, by number. -/
def qn (gn bn mn sn : Int) (i : Nat) : Int := match i with | 0 => gn | 1 => bn | 2 => mn | _ => sn
/-- What Norm answers. -/
def noE (gn gd bn bd mn md sn sd : Int) : Int := if Fr gn gd ∧ Fr bn bd ∧ Fr mn md ∧ Fr sn sd then (if sn < 1 then 53 else 0) else 40
theorem four {p : Nat → Prop} {i : Nat} (h : i < 4) (h0 : p 0) (h1 : p 1) (h2 : p 2) (h3 : p 3) : p i := by
  match i, h with
  | 0, _ => exact h0
  | 1, _ => exact h1
  | 2, _ => exact h2
  | 3, _ => exact h3
theorem noE_no {gn gd bn bd mn md sn sd : Int} {k : Nat} (hk : k < 4) (h : ¬ Fr (qn gn bn mn sn k) (qn gd bd md sd k)) : noE gn gd bn bd mn md sn sd = 40 := by
  unfold noE
  refine if_neg ?_
  rintro ⟨a, b, c, d⟩
  revert h
  exact four (p := fun k => ¬ Fr (qn gn bn mn sn k) (qn gd bd md sd k) → False) hk (fun h => h a) (fun h => h b) (fun h => h c) (fun h => h d)
theorem noE_end {gn gd bn bd mn md sn sd : Int} (h : ∀ j, j < 4 → Fr (qn gn bn mn sn j) (qn gd bd md sd j)) : noE gn gd bn bd mn md sn sd = (if sn < 1 then 53 else 0) := by
  unfold noE
  exact if_pos ⟨h 0 (by decide), h 1 (by decide), h 2 (by decide), h 3 (by decide)⟩
set_option maxRecDepth 100000 in
theorem norm_any (gn gd bn bd mn md sn sd : Int) (w : World) :
    Calls Tryz.prog 86 #[nm gn gd bn bd mn md sn sd] w fun e w' => e = .returned (.int .i64 (noE gn gd bn bd mn md sn sd)) ∧ Below w.heap.size w w' := by
  have i0 : ∀ w, (Instr.index 129 (.agg #[.int .i64 gn, .int .i64 gd, .int .i64 bn, .int .i64 bd, .int .i64 mn, .int .i64 md, .int .i64 sn, .int .i64 sd]) (.int .i64 0)).run Tryz.prog w = .ok (fr gn gd) w := fun _ => by kernel_rfl
  have i1 : ∀ w, (Instr.index 129 (.agg #[.int .i64 gn, .int .i64 gd, .int .i64 bn, .int .i64 bd, .int .i64 mn, .int .i64 md, .int .i64 sn, .int .i64 sd]) (.int .i64 1)).run Tryz.prog w = .ok (fr bn bd) w := fun _ => by kernel_rfl
  have i2 : ∀ w, (Instr.index 129 (.agg #[.int .i64 gn, .int .i64 gd, .int .i64 bn, .int .i64 bd, .int .i64 mn, .int .i64 md, .int .i64 sn, .int .i64 sd]) (.int .i64 2)).run Tryz.prog w = .ok (fr mn md) w := fun _ => by kernel_rfl
  have i3 : ∀ w, (Instr.index 129 (.agg #[.int .i64 gn, .int .i64 gd, .int .i64 bn, .int .i64 bd, .int .i64 mn, .int .i64 md, .int .i64 sn, .int .i64 sd]) (.int .i64 3)).run Tryz.prog w = .ok (fr sn sd) w := fun _ => by kernel_rfl
  go_enter Tryz.func86, Tryz.ntmps86
  go_wp2_with fail
  go_loopw [15] (fun i wr => ∃ k : Nat, k ≤ 4 ∧ i = .int .i64 k ∧ (∀ j, j < k → Fr (qn gn bn mn sn j) (qn gd bd md sd j)) ∧ wr.cell? ⟨w.heap.size, 6, none⟩ = some (.int .i64 sn) ∧ Below w.heap.size w wr) (fun i _ => 4 - (intOf i).toNat)
  case atStart => exact ⟨0, by omega, rfl, fun j hj => by omega, by simp [go_sem], by repeat (first | exact Below.refl _ _ | refine bl_alloc ?_ _ | refine Below.drew ?_ | refine bl_drewN ?_ _ | refine bl_set ?_ (by omega) _ | refine bl_step ?_ (by assumption))⟩
  case round =>
    obtain ⟨k, hk, rfl, hall, c6, hB⟩ := hrel
    have HA := hid1 hall
    clear hall
    by_cases hlt : k < 4
    · have hk4 : k = 0 ∨ k = 1 ∨ k = 2 ∨ k = 3 := by omega
      clear hk hlt
      rcases hk4 with rfl | rfl | rfl | rfl
      · by_cases hf : Fr gn gd
        · have h0 := chF_ok hf
          have HF := hid1 hf
          clear hf
          go_wp2_with fail
          refine (fcheck_any gn gd _).mono ?_
          rintro e w1 ⟨rfl, hb1⟩
          rw [h0]
          have hB1 : Below w.heap.size w w1 := by repeat (first | exact Below.refl _ _ | refine bl_alloc ?_ _ | refine Below.drew ?_ | refine bl_drewN ?_ _ | refine bl_set ?_ (by omega) _ | refine bl_step ?_ (by assumption))
          have d6 := keepc hb1 (b := w.heap.size) (o := 6) (v := .int .i64 sn) (by simp [go_sem, c6, lt_of_cell c6])
          clear hb1 c6 hB
          go_wp2
          exact ⟨⟨1, by omega, rfl, fun j hj => by
            by_cases e : j = 0
            · subst e; exact HF.out
            · exact HA.out j (by omega), d6, hB1⟩, by simp [intOf]⟩
        · have h0 := chF_no hf
          have h1 := noE_no (gn := gn) (gd := gd) (bn := bn) (bd := bd) (mn := mn) (md := md) (sn := sn) (sd := sd) (k := 0) (by decide) hf
          clear hf
          go_wp2_with fail
          refine (fcheck_any gn gd _).mono ?_
          rintro e w1 ⟨rfl, hb1⟩
          rw [h0]
          have hB1 : Below w.heap.size w w1 := by repeat (first | exact Below.refl _ _ | refine bl_alloc ?_ _ | refine Below.drew ?_ | refine bl_drewN ?_ _ | refine bl_set ?_ (by omega) _ | refine bl_step ?_ (by assumption))
          clear hb1 c6 hB
          go_wp2
          go_ret
          exact ⟨by rw [h1]; rfl, hB1⟩
      · by_cases hf : Fr bn bd
        · have h0 := chF_ok hf
          have HF := hid1 hf
          clear hf
          go_wp2_with fail
          refine (fcheck_any bn bd _).mono ?_
          rintro e w1 ⟨rfl, hb1⟩
          rw [h0]
          have hB1 : Below w.heap.size w w1 := by repeat (first | exact Below.refl _ _ | refine bl_alloc ?_ _ | refine Below.drew ?_ | refine bl_drewN ?_ _ | refine bl_set ?_ (by omega) _ | refine bl_step ?_ (by assumption))
          have d6 := keepc hb1 (b := w.heap.size) (o := 6) (v := .int .i64 sn) (by simp [go_sem, c6, lt_of_cell c6])
          clear hb1 c6 hB
          go_wp2
          exact ⟨⟨2, by omega, rfl, fun j hj => by
            by_cases e : j = 1
            · subst e; exact HF.out
            · exact HA.out j (by omega), d6, hB1⟩, by simp [intOf]⟩
        · have h0 := chF_no hf
          have h1 := noE_no (gn := gn) (gd := gd) (bn := bn) (bd := bd) (mn := mn) (md := md) (sn := sn) (sd := sd) (k := 1) (by decide) hf
          clear hf
          go_wp2_with fail
          refine (fcheck_any bn bd _).mono ?_
          rintro e w1 ⟨rfl, hb1⟩
          rw [h0]
          have hB1 : Below w.heap.size w w1 := by repeat (first | exact Below.refl _ _ | refine bl_alloc ?_ _ | refine Below.drew ?_ | refine bl_drewN ?_ _ | refine bl_set ?_ (by omega) _ | refine bl_step ?_ (by assumption))
          clear hb1 c6 hB
          go_wp2
          go_ret
          exact ⟨by rw [h1]; rfl, hB1⟩
      · by_cases hf : Fr mn md
        · have h0 := chF_ok hf
          have HF := hid1 hf
          clear hf
          go_wp2_with fail
          refine (fcheck_any mn md _).mono ?_
          rintro e w1 ⟨rfl, hb1⟩
          rw [h0]
          have hB1 : Below w.heap.size w w1 := by repeat (first | exact Below.refl _ _ | refine bl_alloc ?_ _ | refine Below.drew ?_ | refine bl_drewN ?_ _ | refine bl_set ?_ (by omega) _ | refine bl_step ?_ (by assumption))
          have d6 := keepc hb1 (b := w.heap.size) (o := 6) (v := .int .i64 sn) (by simp [go_sem, c6, lt_of_cell c6])
          clear hb1 c6 hB
          go_wp2
          exact ⟨⟨3, by omega, rfl, fun j hj => by
            by_cases e : j = 2
            · subst e; exact HF.out
            · exact HA.out j (by omega), d6, hB1⟩, by simp [intOf]⟩
        · have h0 := chF_no hf
          have h1 := noE_no (gn := gn) (gd := gd) (bn := bn) (bd := bd) (mn := mn) (md := md) (sn := sn) (sd := sd) (k := 2) (by decide) hf
          clear hf
          go_wp2_with fail
          refine (fcheck_any mn md _).mono ?_
          rintro e w1 ⟨rfl, hb1⟩
          rw [h0]
          have hB1 : Below w.heap.size w w1 := by repeat (first | exact Below.refl _ _ | refine bl_alloc ?_ _ | refine Below.drew ?_ | refine bl_drewN ?_ _ | refine bl_set ?_ (by omega) _ | refine bl_step ?_ (by assumption))
          clear hb1 c6 hB
          go_wp2
          go_ret
          exact ⟨by rw [h1]; rfl, hB1⟩
      · by_cases hf : Fr sn sd
        · have h0 := chF_ok hf
          have HF := hid1 hf
          clear hf
          go_wp2_with fail
          refine (fcheck_any sn sd _).mono ?_
          rintro e w1 ⟨rfl, hb1⟩
          rw [h0]
          have hB1 : Below w.heap.size w w1 := by repeat (first | exact Below.refl _ _ | refine bl_alloc ?_ _ | refine Below.drew ?_ | refine bl_drewN ?_ _ | refine bl_set ?_ (by omega) _ | refine bl_step ?_ (by assumption))
          have d6 := keepc hb1 (b := w.heap.size) (o := 6) (v := .int .i64 sn) (by simp [go_sem, c6, lt_of_cell c6])
          clear hb1 c6 hB
          go_wp2
          exact ⟨⟨4, by omega, rfl, fun j hj => by
            by_cases e : j = 3
            · subst e; exact HF.out
            · exact HA.out j (by omega), d6, hB1⟩, by simp [intOf]⟩
        · have h0 := chF_no hf
          have h1 := noE_no (gn := gn) (gd := gd) (bn := bn) (bd := bd) (mn := mn) (md := md) (sn := sn) (sd := sd) (k := 3) (by decide) hf
          clear hf
          go_wp2_with fail
          refine (fcheck_any sn sd _).mono ?_
          rintro e w1 ⟨rfl, hb1⟩
          rw [h0]
          have hB1 : Below w.heap.size w w1 := by repeat (first | exact Below.refl _ _ | refine bl_alloc ?_ _ | refine Below.drew ?_ | refine bl_drewN ?_ _ | refine bl_set ?_ (by omega) _ | refine bl_step ?_ (by assumption))
          clear hb1 c6 hB
          go_wp2
          go_ret
          exact ⟨by rw [h1]; rfl, hB1⟩
    · have : k = 4 := by omega
      subst this
      have h2 := noE_end HA.out
      by_cases hs : sn < 1
      · rw [if_pos hs] at h2
        go_wp2
        go_ret
        exact ⟨by first | rfl | (rw [h2]; rfl), hB⟩
      · rw [if_neg hs] at h2
        go_wp2
        go_ret
        exact ⟨by first | rfl | (rw [h2]; rfl), hB⟩
end Go.Proofs.YtlgjoepeibodkaaGreat.Wd
/- PRODUCT OF FOUR NUMBERS. -/
namespace Go.Proofs.YtlgjoepeibodkaaGreat.Wd
open Go.RowKit Go.Shelf
attribute [local go_sem ↓] Go.wp_at_zero Go.wp_at_succ

/-- The four factors in memory. -/
def F4 (w : World) (g : Nat) (a b c d : Int) : Prop :=
  w.cell? ⟨g, 0, none⟩ = some (.int .i64 a) ∧ w.cell? ⟨g, 1, none⟩ = some (.int .i64 b) ∧ w.cell? ⟨g, 2, none⟩ = some (.int .i64 c) ∧ w.cell? ⟨g, 3, none⟩ = some (.int .i64 d)
theorem F4.keep {w w' : World} {g : Nat} {a b c d : Int} (h : F4 w g a b c d) (hb : Below w.heap.size w w') : F4 w' g a b c d := by
  obtain ⟨p, q, r, s⟩ := h
  exact ⟨keepc hb p, keepc hb q, keepc hb r, keepc hb s⟩
/-- The two cells of a number, and that they may be written. -/
def Wc (w : World) (b : Nat) (n : Int) : Prop := w.cell? ⟨b, 0, none⟩ = some (.int .i64 (hiOf n)) ∧ w.cell? ⟨b, 1, none⟩ = some (.int .u64 (loOf n)) ∧ w.frozen? ⟨b, 0, none⟩ = false ∧ w.frozen? ⟨b, 1, none⟩ = false
theorem Wc.keep {w w' : World} {b : Nat} {n : Int} (h : Wc w b n) (hb : Below w.heap.size w w') : Wc w' b n := by
  have z := lt_of_cell h.1
  exact ⟨keepc hb h.1, keepc hb h.2.1, keepf hb z h.2.2.1, keepf hb z h.2.2.2⟩
theorem hi_zero : hiOf 0 = 0 := by unfold hiOf; omega
theorem lo_zero : loOf 0 = 0 := by unfold loOf; omega
theorem fitV_rng {n : Int} (h : Rng n) : fitV n = n := by unfold fitV; exact if_pos h
set_option maxHeartbeats 800000 in
set_option maxRecDepth 100000 in
theorem product_core (a b c d ab abc n e1 e2 e3 e4 : Int) (HA : Hid (∀ w : World, Calls Tryz.prog 99 #[wv 1, .int .i64 a] w fun e w' => e = .returned (.tuple #[wv a, .int .i64 e1]) ∧ Below w.heap.size w w')) (HB : Hid (∀ w : World, Calls Tryz.prog 99 #[wv a, .int .i64 b] w fun e w' => e = .returned (.tuple #[wv ab, .int .i64 e2]) ∧ Below w.heap.size w w')) (HC : Hid (∀ w : World, Calls Tryz.prog 99 #[wv ab, .int .i64 c] w fun e w' => e = .returned (.tuple #[wv abc, .int .i64 e3]) ∧ Below w.heap.size w w')) (HD : Hid (∀ w : World, Calls Tryz.prog 99 #[wv abc, .int .i64 d] w fun e w' => e = .returned (.tuple #[wv n, .int .i64 e4]) ∧ Below w.heap.size w w')) (w : World) (g : Nat) (hF : F4 w g a b c d) :
    Calls Tryz.prog 95 #[.slice (some ⟨g, 0, none⟩) 4 4] w fun e w' => e = .returned (wv n) ∧ Below w.heap.size w w' := by
  have hz : g < w.heap.size := lt_of_cell hF.1
  have HF := hid1 hF
  clear hF
  have i1 : I64 1 := by unfold I64; omega
  have HO := hid1 (of_any 1 i1)
  clear i1
  go_enter Tryz.func95, Tryz.ntmps95
  go_wp2_with fail
  refine (HO.out _).mono ?_
  rintro e w1 ⟨rfl, hb1⟩
  have q0 := keepc hb1 (b := w.heap.size) (o := 0) (v := .int .i64 0) (by simp [go_sem])
  have q1 := keepc hb1 (b := w.heap.size) (o := 1) (v := .int .u64 0) (by simp [go_sem])
  have f0 := keepf hb1 (b := w.heap.size) (o := 0) (by simp) (by simp [go_sem])
  have f1 := keepf hb1 (b := w.heap.size) (o := 1) (by simp) (by simp [go_sem])
  have B1 : Below w.heap.size w w1 := by repeat (first | exact Below.refl _ _ | refine bl_alloc ?_ _ | refine Below.drew ?_ | refine bl_drewN ?_ _ | refine bl_set ?_ (by omega) _ | refine bl_step ?_ (by assumption))
  clear hb1
  have HR : Hid (Wc w1 w.heap.size 0) := hid1 ⟨by rw [hi_zero]; exact q0, by rw [lo_zero]; exact q1, f0, f1⟩
  have z1 := lt_of_cell q0
  clear q0 q1 f0 f1
  go_wp2_with fail
  go_loopw [9] (fun i wr => ∃ k : Nat, k ≤ 4 ∧ i = .int .i64 k ∧ Hid (Wc wr w1.heap.size (match k with | 0 => 1 | 1 => a | 2 => ab | 3 => abc | _ => n)) ∧ Hid (Wc wr w.heap.size 0) ∧ Below w.heap.size w wr) (fun i _ => 4 - (intOf i).toNat)
  case atStart =>
    refine ⟨0, by omega, rfl, ?_, ?_, ?_⟩
    · exact hid1 ⟨by simp [go_sem], by simp [go_sem], by simp [go_sem], by simp [go_sem]⟩
    · have := HR.out
      obtain ⟨x, y, u, v⟩ := this
      exact hid1 ⟨by simp [go_sem, *], by simp [go_sem, *], by simp [go_sem, *], by simp [go_sem, *]⟩
    · repeat (first | exact Below.refl _ _ | refine bl_alloc ?_ _ | refine Below.drew ?_ | refine bl_drewN ?_ _ | refine bl_set ?_ (by omega) _ | refine bl_step ?_ (by assumption))
  case round =>
    obtain ⟨k, hk, rfl, HW, HQ, hB⟩ := hrel
    have HG := hid1 (HF.out.keep hB)
    by_cases hlt : k < 4
    · have hk4 : k = 0 ∨ k = 1 ∨ k = 2 ∨ k = 3 := by omega
      clear hk hlt
      rcases hk4 with rfl | rfl | rfl | rfl
      · obtain ⟨x0, x1, x2, x3⟩ := HW.out
        obtain ⟨a0, a1, a2, a3⟩ := HG.out
        have zx := lt_of_cell x0
        (try dsimp only at x0 x1)
        go_wp2_with fail
        refine (HA.out _).mono ?_
        rintro e w2 ⟨rfl, hb2⟩
        replace x2 := keepf hb2 zx x2; replace x3 := keepf hb2 zx x3
        replace x0 := keepc hb2 x0; replace x1 := keepc hb2 x1
        replace HQ := hid1 (HQ.out.keep hb2)
        replace zx := lt_of_cell x0
        have hB2 : Below w.heap.size w w2 := by repeat (first | exact Below.refl _ _ | refine bl_alloc ?_ _ | refine Below.drew ?_ | refine bl_drewN ?_ _ | refine bl_set ?_ (by omega) _ | refine bl_step ?_ (by assumption))
        clear hb2 hB a0 a1 a2 a3
        go_wp2
        refine ⟨⟨1, by omega, rfl, ?_, ?_, ?_⟩, by simp [intOf]⟩
        · exact hid1 ⟨by simp [go_sem, *], by simp [go_sem, *], by simp [go_sem, *], by simp [go_sem, *]⟩
        · obtain ⟨y0, y1, y2, y3⟩ := HQ.out
          exact hid1 ⟨by simp [go_sem, *], by simp [go_sem, *], by simp [go_sem, *], by simp [go_sem, *]⟩
        · repeat (first | exact Below.refl _ _ | refine bl_alloc ?_ _ | refine Below.drew ?_ | refine bl_drewN ?_ _ | refine bl_set ?_ (by omega) _ | refine bl_step ?_ (by assumption))
      · obtain ⟨x0, x1, x2, x3⟩ := HW.out
        obtain ⟨a0, a1, a2, a3⟩ := HG.out
        have zx := lt_of_cell x0
        (try dsimp only at x0 x1)
        go_wp2_with fail
        refine (HB.out _).mono ?_
        rintro e w2 ⟨rfl, hb2⟩
        replace x2 := keepf hb2 zx x2; replace x3 := keepf hb2 zx x3
        replace x0 := keepc hb2 x0; replace x1 := keepc hb2 x1
        replace HQ := hid1 (HQ.out.keep hb2)
        replace zx := lt_of_cell x0
        have hB2 : Below w.heap.size w w2 := by repeat (first | exact Below.refl _ _ | refine bl_alloc ?_ _ | refine Below.drew ?_ | refine bl_drewN ?_ _ | refine bl_set ?_ (by omega) _ | refine bl_step ?_ (by assumption))
        clear hb2 hB a0 a1 a2 a3
        go_wp2
        refine ⟨⟨2, by omega, rfl, ?_, ?_, ?_⟩, by simp [intOf]⟩
        · exact hid1 ⟨by simp [go_sem, *], by simp [go_sem, *], by simp [go_sem, *], by simp [go_sem, *]⟩
        · obtain ⟨y0, y1, y2, y3⟩ := HQ.out
          exact hid1 ⟨by simp [go_sem, *], by simp [go_sem, *], by simp [go_sem, *], by simp [go_sem, *]⟩
        · repeat (first | exact Below.refl _ _ | refine bl_alloc ?_ _ | refine Below.drew ?_ | refine bl_drewN ?_ _ | refine bl_set ?_ (by omega) _ | refine bl_step ?_ (by assumption))
      · obtain ⟨x0, x1, x2, x3⟩ := HW.out
        obtain ⟨a0, a1, a2, a3⟩ := HG.out
        have zx := lt_of_cell x0
        (try dsimp only at x0 x1)
        go_wp2_with fail
        refine (HC.out _).mono ?_
        rintro e w2 ⟨rfl, hb2⟩
        replace x2 := keepf hb2 zx x2; replace x3 := keepf hb2 zx x3
        replace x0 := keepc hb2 x0; replace x1 := keepc hb2 x1
        replace HQ := hid1 (HQ.out.keep hb2)
        replace zx := lt_of_cell x0
        have hB2 : Below w.heap.size w w2 := by repeat (first | exact Below.refl _ _ | refine bl_alloc ?_ _ | refine Below.drew ?_ | refine bl_drewN ?_ _ | refine bl_set ?_ (by omega) _ | refine bl_step ?_ (by assumption))
        clear hb2 hB a0 a1 a2 a3
        go_wp2
        refine ⟨⟨3, by omega, rfl, ?_, ?_, ?_⟩, by simp [intOf]⟩
        · exact hid1 ⟨by simp [go_sem, *], by simp [go_sem, *], by simp [go_sem, *], by simp [go_sem, *]⟩
        · obtain ⟨y0, y1, y2, y3⟩ := HQ.out
          exact hid1 ⟨by simp [go_sem, *], by simp [go_sem, *], by simp [go_sem, *], by simp [go_sem, *]⟩
        · repeat (first | exact Below.refl _ _ | refine bl_alloc ?_ _ | refine Below.drew ?_ | refine bl_drewN ?_ _ | refine bl_set ?_ (by omega) _ | refine bl_step ?_ (by assumption))
      · obtain ⟨x0, x1, x2, x3⟩ := HW.out
        obtain ⟨a0, a1, a2, a3⟩ := HG.out
        have zx := lt_of_cell x0
        (try dsimp only at x0 x1)
        go_wp2_with fail
        refine (HD.out _).mono ?_
        rintro e w2 ⟨rfl, hb2⟩
        replace x2 := keepf hb2 zx x2; replace x3 := keepf hb2 zx x3
        replace x0 := keepc hb2 x0; replace x1 := keepc hb2 x1
        replace HQ := hid1 (HQ.out.keep hb2)
        replace zx := lt_of_cell x0
        have hB2 : Below w.heap.size w w2 := by repeat (first | exact Below.refl _ _ | refine bl_alloc ?_ _ | refine Below.drew ?_ | refine bl_drewN ?_ _ | refine bl_set ?_ (by omega) _ | refine bl_step ?_ (by assumption))
        clear hb2 hB a0 a1 a2 a3
        go_wp2
        refine ⟨⟨4, by omega, rfl, ?_, ?_, ?_⟩, by simp [intOf]⟩
        · exact hid1 ⟨by simp [go_sem, *], by simp [go_sem, *], by simp [go_sem, *], by simp [go_sem, *]⟩
        · obtain ⟨y0, y1, y2, y3⟩ := HQ.out
          exact hid1 ⟨by simp [go_sem, *], by simp [go_sem, *], by simp [go_sem, *], by simp [go_sem, *]⟩
        · repeat (first | exact Below.refl _ _ | refine bl_alloc ?_ _ | refine Below.drew ?_ | refine bl_drewN ?_ _ | refine bl_set ?_ (by omega) _ | refine bl_step ?_ (by assumption))
    · have : k = 4 := by omega
      subst this
      obtain ⟨x0, x1, x2, x3⟩ := HW.out
      obtain ⟨y0, y1, y2, y3⟩ := HQ.out
      have zx := lt_of_cell x0
      have zy := lt_of_cell y0
      (try dsimp only at x0 x1)
      go_wp2
      simp [bodyPost, results, Tryz.results95, go_sem, *]
      repeat (first | exact Below.refl _ _ | refine bl_alloc ?_ _ | refine Below.drew ?_ | refine bl_drewN ?_ _ | refine bl_set ?_ (by omega) _ | refine bl_step ?_ (by assumption))
theorem product_any (a b c d : Int) (ha : I64 a) (hb : I64 b) (hc : I64 c) (hd : I64 d) (r2 : Rng (a * b)) (r3 : Rng (a * b * c)) (r4 : Rng (a * b * c * d)) (w : World) (g : Nat) (hF : F4 w g a b c d) :
    Calls Tryz.prog 95 #[.slice (some ⟨g, 0, none⟩) 4 4] w fun e w' => e = .returned (wv (a * b * c * d)) ∧ Below w.heap.size w w' := by
  have r0 : Rng 1 := by unfold Rng; omega
  have r1 : Rng a := by unfold I64 at ha; unfold Rng; omega
  have s0 : fitV (1 * a) = a := by rw [Int.one_mul]; exact fitV_rng r1
  have HA := scale_any 1 a r0 ha
  have HB := scale_any a b r1 hb
  have HC := scale_any (a * b) c r2 hc
  have HD := scale_any (a * b * c) d r3 hd
  rw [s0] at HA
  rw [fitV_rng r2] at HB
  rw [fitV_rng r3] at HC
  rw [fitV_rng r4] at HD
  exact product_core a b c d _ _ _ _ _ _ _ (hid1 HA) (hid1 HB) (hid1 HC) (hid1 HD) w g hF
end Go.Proofs.YtlgjoepeibodkaaGreat.Wd
/- PLUS OF THE PROGRAM. -/
namespace Go.Proofs.YtlgjoepeibodkaaGreat.Wd
open Go.RowKit Go.Shelf
attribute [local go_sem ↓] Go.wp_at_zero Go.wp_at_succ

/-- What Plus answers. -/
def plV (gn gd bn bd mn md sn sd x : Int) : Bool := decide (noE gn gd bn bd mn md sn sd = 0) && decide (Sm x) && decide (0 ≤ nv gn gd bn bd mn md sn sd x)
def plE (gn gd bn bd mn md sn sd x : Int) : Int := if noE gn gd bn bd mn md sn sd = 0 then (if Sm x then 0 else 1) else noE gn gd bn bd mn md sn sd
theorem noE_ok {gn gd bn bd mn md sn sd : Int} (h : noE gn gd bn bd mn md sn sd = 0) : Fr gn gd ∧ Fr bn bd ∧ Fr mn md ∧ Fr sn sd ∧ 1 ≤ sn := by
  unfold noE at h
  split at h
  · rename_i k
    split at h
    · omega
    · exact ⟨k.1, k.2.1, k.2.2.1, k.2.2.2, by omega⟩
  · omega
theorem rng_of {n A : Int} (h : -A ≤ n ∧ n ≤ A) (hA : A ≤ 10000000000000000000000000000000000000) : Rng n := by unfold Rng; omega
theorem i64_of {n A : Int} (h : -A ≤ n ∧ n ≤ A) (hA : A ≤ 9000000000000000000) : I64 n := by unfold I64; omega
theorem cmp_zero (n : Int) : decide (0 ≤ cmpN n 0) = decide (0 ≤ n) := by
  by_cases h : 0 ≤ n
  · rw [decide_eq_true h]; refine decide_eq_true ?_; unfold cmpN; split <;> (try split) <;> omega
  · rw [decide_eq_false h]; refine decide_eq_false ?_; unfold cmpN; split <;> (try split) <;> omega
set_option maxRecDepth 100000 in
theorem plus_no1 (gn gd bn bd mn md sn sd x : Int) (h : ¬ noE gn gd bn bd mn md sn sd = 0) (w : World) :
    Calls Tryz.prog 91 #[nm gn gd bn bd mn md sn sd, .int .i64 x] w fun e w' => e = .returned (.tuple #[.bool false, .int .i64 (noE gn gd bn bd mn md sn sd)]) ∧ Below w.heap.size w w' := by
  have HN := hid1 (norm_any gn gd bn bd mn md sn sd)
  obtain ⟨v, ev⟩ : ∃ v, noE gn gd bn bd mn md sn sd = v := ⟨_, rfl⟩
  rw [ev] at HN h ⊢
  clear ev
  go_enter Tryz.func91, Tryz.ntmps91
  go_wp2_with fail
  refine (HN.out _).mono ?_
  rintro e w1 ⟨rfl, hb1⟩
  go_wp2
  go_ret2
  refine ⟨rfl, ?_⟩
  repeat (first | exact Below.refl _ _ | refine bl_alloc ?_ _ | refine Below.drew ?_ | refine bl_drewN ?_ _ | refine bl_set ?_ (by omega) _ | refine bl_step ?_ (by assumption))
set_option maxRecDepth 100000 in
theorem plus_no2 (gn gd bn bd mn md sn sd x : Int) (h : noE gn gd bn bd mn md sn sd = 0) (h2 : ¬ Sm x) (w : World) :
    Calls Tryz.prog 91 #[nm gn gd bn bd mn md sn sd, .int .i64 x] w fun e w' => e = .returned (.tuple #[.bool false, .int .i64 1]) ∧ Below w.heap.size w w' := by
  have HN := hid1 (norm_any gn gd bn bd mn md sn sd)
  have HI := hid1 (inReach_any x)
  rw [h] at HN
  rw [decide_eq_false h2] at HI
  clear h h2
  go_enter Tryz.func91, Tryz.ntmps91
  go_wp2_with fail
  refine (HN.out _).mono ?_
  rintro e w1 ⟨rfl, hb1⟩
  go_wp2_with fail
  refine (HI.out _).mono ?_
  rintro e w2 ⟨rfl, rfl⟩
  go_wp2
  go_ret2
  refine ⟨rfl, ?_⟩
  repeat (first | exact Below.refl _ _ | refine bl_alloc ?_ _ | refine Below.drew ?_ | refine bl_drewN ?_ _ | refine bl_set ?_ (by omega) _ | refine bl_step ?_ (by assumption))
set_option maxHeartbeats 800000 in
set_option maxRecDepth 100000 in
theorem plus_core (gn gd bn bd mn md sn sd x k L R : Int) (ek : x * md - mn = k) (hN : ∀ w : World, Calls Tryz.prog 86 #[nm gn gd bn bd mn md sn sd] w fun e w' => e = .returned (.int .i64 0) ∧ Below w.heap.size w w')
    (hI : ∀ w : World, Calls Tryz.prog 94 #[.int .i64 x] w fun e w' => e = .returned (.bool true) ∧ w' = w)
    (k1 : -2251801961168895 ≤ x * md - mn) (k2 : x * md - mn ≤ 2251801961168895) (m1 : -2251799812636672 ≤ x * md) (m2 : x * md ≤ 2251799812636672)
    (hL : ∀ (w : World) (g : Nat), F4 w g gn k sd bd → Calls Tryz.prog 95 #[.slice (some ⟨g, 0, none⟩) 4 4] w fun e w' => e = .returned (wv L) ∧ Below w.heap.size w w')
    (hR : ∀ (w : World) (g : Nat), F4 w g bn gd md sn → Calls Tryz.prog 95 #[.slice (some ⟨g, 0, none⟩) 4 4] w fun e w' => e = .returned (wv R) ∧ Below w.heap.size w w')
    (hS : Rng (L + R)) (w : World) :
    Calls Tryz.prog 91 #[nm gn gd bn bd mn md sn sd, .int .i64 x] w fun e w' => e = .returned (.tuple #[.bool (decide (0 ≤ L + R)), .int .i64 0]) ∧ Below w.heap.size w w' := by
  have HN := hid1 hN
  have HI := hid1 hI
  have HL := hid1 hL
  have HR := hid1 hR
  have HA := hid1 (wadd_ok L R hS)
  have HO := hid1 (of_any 0 (by unfold I64; omega))
  have HC := hid1 (cmp_any (L + R) 0)
  have HZ := hid1 (cmp_zero (L + R))
  clear hN hI hL hR hS
  obtain ⟨s, es⟩ : ∃ s, L + R = s := ⟨_, rfl⟩
  rw [es] at HA HC HZ ⊢
  clear es
  have e1 : wrap64 (x * md) = x * md := by unfold wrap64; omega
  have e2 : wrap64 (x * md - mn) = k := by unfold wrap64; omega
  clear k1 k2 m1 m2 ek
  obtain ⟨m, em⟩ : ∃ m, x * md = m := ⟨_, rfl⟩
  rw [em] at e1 e2
  go_enter Tryz.func91, Tryz.ntmps91
  go_wp2_with fail
  refine (HN.out _).mono ?_
  rintro e w1 ⟨rfl, hb1⟩
  have HM : Hid (Nm w1 w.heap.size gn gd bn bd mn md sn sd) := hid1 (Nm.keep (w := w.alloc _) ⟨by simp [go_sem], by simp [go_sem], by simp [go_sem], by simp [go_sem], by simp [go_sem], by simp [go_sem], by simp [go_sem], by simp [go_sem]⟩ hb1)
  have B1 : Below w.heap.size w w1 := by repeat (first | exact Below.refl _ _ | refine bl_alloc ?_ _ | refine Below.drew ?_ | refine bl_drewN ?_ _ | refine bl_set ?_ (by omega) _ | refine bl_step ?_ (by assumption))
  clear hb1
  go_wp2_with fail
  refine (HI.out _).mono ?_
  rintro e w2 ⟨rfl, rfl⟩
  obtain ⟨c0, c1, c2, c3, c4, c5, c6, c7⟩ := HM.out
  have z := lt_of_cell c0
  go_wp2_with fail
  refine (HL.out _ _ ⟨by simp [go_sem], by simp [go_sem], by simp [go_sem], by simp [go_sem]⟩).mono ?_
  rintro e w3 ⟨rfl, hb3⟩
  have H3 : Below w2.heap.size w2 w3 := by repeat (first | exact Below.refl _ _ | refine bl_alloc ?_ _ | refine Below.drew ?_ | refine bl_drewN ?_ _ | refine bl_set ?_ (by omega) _ | refine bl_step ?_ (by assumption))
  replace HM := hid1 (HM.out.keep H3)
  have B3 : Below w.heap.size w w3 := by repeat (first | exact Below.refl _ _ | refine bl_alloc ?_ _ | refine Below.drew ?_ | refine bl_drewN ?_ _ | refine bl_set ?_ (by omega) _ | refine bl_step ?_ (by assumption))
  clear c0 c1 c2 c3 c4 c5 c6 c7 z hb3 H3 B1
  obtain ⟨c0, c1, c2, c3, c4, c5, c6, c7⟩ := HM.out
  have z := lt_of_cell c0
  go_wp2_with fail
  refine gen_calls (fun W' => Below w.heap.size w W' ∧ Hid (Wc W' w3.heap.size L) ∧ F4 W' (w3.heap.size + 1) bn gd md sn) ⟨by repeat (first | exact Below.refl _ _ | refine bl_alloc ?_ _ | refine Below.drew ?_ | refine bl_drewN ?_ _ | refine bl_set ?_ (by omega) _ | refine bl_step ?_ (by assumption)), hid1 ⟨by simp [go_sem], by simp [go_sem], by simp [go_sem], by simp [go_sem]⟩, by simp [go_sem], by simp [go_sem], by simp [go_sem], by simp [go_sem]⟩ ?_
  clear c0 c1 c2 c3 c4 c5 c6 c7 z HM B3
  rintro W4 ⟨B4, HW, hF⟩
  refine (HR.out _ _ hF).mono ?_
  rintro e w5 ⟨rfl, hb5⟩
  replace HW := hid1 (HW.out.keep hb5)
  have B5 : Below w.heap.size w w5 := by repeat (first | exact Below.refl _ _ | refine bl_alloc ?_ _ | refine Below.drew ?_ | refine bl_drewN ?_ _ | refine bl_set ?_ (by omega) _ | refine bl_step ?_ (by assumption))
  clear hb5 hF B4
  obtain ⟨a0, a1, _, _⟩ := HW.out
  have z := lt_of_cell a0
  go_wp2_with fail
  refine gen_calls (fun W' => Below w.heap.size w W') (by repeat (first | exact Below.refl _ _ | refine bl_alloc ?_ _ | refine Below.drew ?_ | refine bl_drewN ?_ _ | refine bl_set ?_ (by omega) _ | refine bl_step ?_ (by assumption))) ?_
  clear a0 a1 z HW B5
  rintro W6 B6
  refine (HA.out _).mono ?_
  rintro e w7 ⟨rfl, hb7⟩
  have B7 : Below w.heap.size w w7 := by repeat (first | exact Below.refl _ _ | refine bl_alloc ?_ _ | refine Below.drew ?_ | refine bl_drewN ?_ _ | refine bl_set ?_ (by omega) _ | refine bl_step ?_ (by assumption))
  clear hb7 B6
  go_upto_region 9 with fail
  refine gen_world (fun W' => Below w.heap.size w W' ∧ W'.cell? ⟨w7.heap.size, 0, none⟩ = some (.int .i64 (hiOf s)) ∧ W'.cell? ⟨w7.heap.size, 1, none⟩ = some (.int .u64 (loOf s))) ⟨by repeat (first | exact Below.refl _ _ | refine bl_alloc ?_ _ | refine Below.drew ?_ | refine bl_drewN ?_ _ | refine bl_set ?_ (by omega) _ | refine bl_step ?_ (by assumption)), by simp [go_sem], by simp [go_sem]⟩ ?_
  rintro W8 ⟨B8, d0, d1⟩
  go_region_held3 (fun X => X.cell? ⟨w7.heap.size, 0, none⟩ = some (.int .i64 (hiOf s)) ∧ X.cell? ⟨w7.heap.size, 1, none⟩ = some (.int .u64 (loOf s))) (((try dsimp only); first | (simp [go_sem, *]; done) | exact ⟨keepc (W := W8) (by repeat (first | exact Below.refl _ _ | refine bl_alloc ?_ _ | refine Below.drew ?_ | refine bl_drewN ?_ _ | refine bl_set ?_ (by omega) _ | refine bl_step ?_ (by assumption))) d0, keepc (W := W8) (by repeat (first | exact Below.refl _ _ | refine bl_alloc ?_ _ | refine Below.drew ?_ | refine bl_drewN ?_ _ | refine bl_set ?_ (by omega) _ | refine bl_step ?_ (by assumption))) d1⟩))
    (first
      | (go_at_call 98; refine (HO.out _).mono ?_; rintro e w9 ⟨rfl, hb9⟩)
      | (go_at_call 97; refine (HC.out _).mono ?_; rintro e w10 ⟨rfl, hb10⟩))
  all_goals go_wp2_with fail
  all_goals go_ret2
  all_goals refine ⟨by first | rfl | (rw [HZ.out]; rfl) | (simp [HZ.out]; done), ?_⟩
  all_goals repeat (first | exact Below.refl _ _ | refine bl_alloc ?_ _ | refine Below.drew ?_ | refine bl_drewN ?_ _ | refine bl_set ?_ (by omega) _ | refine bl_step ?_ (by assumption))
end Go.Proofs.YtlgjoepeibodkaaGreat.Wd
/- PLUS AS A WHOLE, SHOW. -/
namespace Go.Proofs.YtlgjoepeibodkaaGreat.Wd
open Go.RowKit Go.Shelf
attribute [local go_sem ↓] Go.wp_at_zero Go.wp_at_succ

theorem plus_ok4 (gn gd bn bd mn md sn sd x : Int) (h : noE gn gd bn bd mn md sn sd = 0) (hx : Sm x) (w : World) :
    Calls Tryz.prog 91 #[nm gn gd bn bd mn md sn sd, .int .i64 x] w fun e w' => e = .returned (.tuple #[.bool (decide (0 ≤ nv gn gd bn bd mn md sn sd x)), .int .i64 0]) ∧ Below w.heap.size w w' := by
  obtain ⟨hg, hb, hm, hs, s1⟩ := noE_ok h
  have HN := norm_any gn gd bn bd mn md sn sd
  rw [h] at HN
  have HI := inReach_any x
  rw [decide_eq_true hx] at HI
  have km := mid_bd hm hx
  have xm := bd_mul (A := 2147483647) (B := 1048576) (a := x) (b := md) hx ⟨by have := hm.1; omega, hm.2.1⟩
  obtain ⟨l1, l2, l3⟩ := left_bd hg hb hm hs hx
  obtain ⟨r1, r2, r3⟩ := right_bd hg hb hm hs
  have g1 : I64 gn := ⟨by have := hg.2.2.1; omega, by have := hg.2.2.2; omega⟩
  have g2 : I64 gd := ⟨by have := hg.1; omega, by have := hg.2.1; omega⟩
  have b1 : I64 bn := ⟨by have := hb.2.2.1; omega, by have := hb.2.2.2; omega⟩
  have b2 : I64 bd := ⟨by have := hb.1; omega, by have := hb.2.1; omega⟩
  have m2 : I64 md := ⟨by have := hm.1; omega, by have := hm.2.1; omega⟩
  have t1 : I64 sn := ⟨by have := hs.2.2.1; omega, by have := hs.2.2.2; omega⟩
  have t2 : I64 sd := ⟨by have := hs.1; omega, by have := hs.2.1; omega⟩
  have kI : I64 (x * md - mn) := ⟨by omega, by omega⟩
  have L1 : Rng (gn * (x * md - mn)) := ⟨by omega, by omega⟩
  have L2 : Rng (gn * (x * md - mn) * sd) := ⟨by omega, by omega⟩
  have L3 : Rng (gn * (x * md - mn) * sd * bd) := ⟨by omega, by omega⟩
  have R1 : Rng (bn * gd) := ⟨by omega, by omega⟩
  have R2 : Rng (bn * gd * md) := ⟨by omega, by omega⟩
  have R3 : Rng (bn * gd * md * sn) := ⟨by omega, by omega⟩
  have S : Rng (gn * (x * md - mn) * sd * bd + bn * gd * md * sn) := ⟨by omega, by omega⟩
  exact plus_core gn gd bn bd mn md sn sd x (x * md - mn) _ _ rfl HN HI km.1 km.2 (by omega) (by omega)
    (fun w g hF => product_any gn (x * md - mn) sd bd g1 kI t2 b2 L1 L2 L3 w g hF)
    (fun w g hF => product_any bn gd md sn b1 g2 m2 t1 R1 R2 R3 w g hF) S w
theorem fplus_any (gn gd bn bd mn md sn sd x : Int) (w : World) :
    Calls Tryz.prog 91 #[nm gn gd bn bd mn md sn sd, .int .i64 x] w fun e w' => e = .returned (.tuple #[.bool (plV gn gd bn bd mn md sn sd x), .int .i64 (plE gn gd bn bd mn md sn sd x)]) ∧ Below w.heap.size w w' := by
  unfold plV plE
  by_cases h : noE gn gd bn bd mn md sn sd = 0
  · by_cases h2 : Sm x
    · rw [decide_eq_true h, decide_eq_true h2, if_pos h, if_pos h2]
      exact plus_ok4 gn gd bn bd mn md sn sd x h h2 w
    · rw [decide_eq_true h, decide_eq_false h2, if_pos h, if_neg h2]
      exact plus_no2 gn gd bn bd mn md sn sd x h h2 w
  · rw [decide_eq_false h, if_neg h]
    exact plus_no1 gn gd bn bd mn md sn sd x h w
/-- The table of powers. -/
abbrev LaidP (w : World) : Prop := Lib.TabIs Tryz.prog w "internal/strconv.uint64pow10" .u64 Lib.pow10Tab
/-- What Show writes. -/
def shL (n d : Int) : List UInt8 := if d = 1 then Lib.itoa n else Lib.itoa n ++ (47 :: Lib.itoa d)
def shV (n d : Int) : List UInt8 := if Fr n d then shL n d else []
theorem fr_i64 {n d : Int} (h : Fr n d) : I64 n ∧ I64 d := by
  obtain ⟨a, b, c, e⟩ := h
  exact ⟨⟨by omega, by omega⟩, ⟨by omega, by omega⟩⟩
end Go.Proofs.YtlgjoepeibodkaaGreat.Wd
/- PACKAGE PLAIN: bytes as numbers with a sign. -/
namespace Go.Proofs.YtlgjoepeibodkaaGreat.Nn
open Go.RowKit

theorem und_i64s : Tryz.prog.underlying 36 = some (.slice 2) := by kernel_rfl
theorem info_i64 : (Tryz.prog.info? 2).map (fun i => (i.zero, i.size, i.bytes)) = some (some (.int .i64 0), 1, 8) := by kernel_rfl
theorem gen_listp {P : Program} {ops : Array Oper} {Q : Exit → Act → World → Prop} {rest : List Oper} {a : Act} {W : World} (p : World → Prop) (hp : p W) (h : ∀ W', p W' → wpList P ops Q rest a W') : wpList P ops Q rest a W := h W hp
/-- A list of bytes lies in memory. -/
def RB (W : World) (ao : Option Addr) (m : Nat) (f : Nat → Int) : Prop := ∀ k, k < m → ∃ (g o : Nat), ao = some ⟨g, o, none⟩ ∧ W.cell? ⟨g, o + k, none⟩ = some (.int .u8 (f k)) ∧ 0 ≤ f k ∧ f k < 256
theorem RB.keep {W X : World} {ao : Option Addr} {m : Nat} {f : Nat → Int} (h : RB W ao m f) (hb : Below W.heap.size W X) : RB X ao m f := fun k hk => by
  obtain ⟨g, o, e, c, r⟩ := h k hk
  exact ⟨g, o, e, keepc hb c, r⟩
/-- A byte read with a sign. -/
def s8 (x : Int) : Int := if x < 128 then x else x - 256
def s8f (f : Nat → Int) (k j : Nat) : Value := if j < k then .int .i64 (s8 (f j)) else .int .i64 0
theorem s8_wrap {x : Int} (h0 : 0 ≤ x) (h1 : x < 256) : IntKind.i8.wrap x = s8 x := by
  unfold s8
  simp [IntKind.wrap, IntKind.signed, IntKind.bits]
  split <;> omega
set_option maxHeartbeats 1600000 in
set_option maxRecDepth 100000 in
theorem signed_any (ao : Option Addr) (n cap : Nat) (f : Nat → Int) (w : World) (hn : n ≤ 16777216) (h : RB w ao n f) :
    Calls Tryz.prog 29 #[.slice ao n cap] w fun e w' => e = .returned (.slice (some ⟨w.heap.size, 0, none⟩) n n) ∧ w'.rowIs w.heap.size 2 n (fun k => .int .i64 (s8 (f k))) ∧ Below w.heap.size w w' := by
  obtain ⟨i0, hi, hz0, hz1, hz2⟩ := info_parts info_i64
  have H := hid1 h
  clear h
  go_enter Tryz.func29, Tryz.ntmps29
  go_wp2_with ((refine wpList_make_row _ rfl _ _ 36 rfl 2 i0 (.int .i64 0) und_i64s hi hz0 hz1 rfl .i64 .i64 n (by go_simp) (by go_simp) (by rw [hz2]; omega) (by omega) ?_; refine gen_listp (fun W => Below w.heap.size w W ∧ W.rowIs w.heap.size 2 n (s8f f 0)) ⟨bl_alloc (Below.refl _ _) _, (World.rowIs_made w (.int .i64 0) n 2).congr fun k _ => by simp [s8f]⟩ ?_; rintro W1 ⟨B1, hrow⟩))
  go_loopw [11] (fun i wr => ∃ k : Nat, k ≤ n ∧ i = .int .i64 k ∧ wr.rowIs w.heap.size 2 n (s8f f k) ∧ Below w.heap.size w wr) (fun i _ => n - (intOf i).toNat)
  case atStart => exact ⟨0, Nat.zero_le _, rfl, hrow, B1⟩
  case round =>
    clear hrow B1
    obtain ⟨k, hk, rfl, hrow, hnx⟩ := hrel
    have ik0 : (0 : Int) ≤ (k : Int) := by omega
    by_cases hlt : k < n
    · have ik : (k : Int) < (n : Int) := by omega
      obtain ⟨g, o, rfl, c, r0, r1⟩ := (H.out.keep hnx) k hlt
      have fw := hrow.frozen k
      have cw := hrow.cell hlt
      have zg : ¬ g = w.heap.size := by
        obtain ⟨g', o', e, c', _⟩ := H.out k hlt
        injection e with e
        injection e with e1 e2
        subst e1
        exact Nat.ne_of_lt (block_lt_of_cell c')
      have e8 := s8_wrap r0 r1
      have HS : Hid (s8 (f k) = s8 (f k)) := hid1 rfl
      obtain ⟨y, ey⟩ : ∃ y, s8 (f k) = y := ⟨_, rfl⟩
      have by1 : -128 ≤ y ∧ y < 128 := by rw [← ey]; unfold s8; split <;> omega
      have ew : wrap64 y = y := by unfold wrap64; omega
      rw [ey] at e8
      have EY := hid1 ey
      clear ey HS
      obtain ⟨x, ex⟩ : ∃ x, f k = x := ⟨_, rfl⟩
      rw [ex] at c e8
      have EX := hid1 ex
      clear ex
      have HH := hid1 hrow
      clear hrow
      go_wp2_with fail
      refine ⟨⟨k + 1, by omega, by go_num, (HH.out.set k (.int .i64 y)).congr fun j _ => ?_, bl_set hnx (by omega) _⟩, by simp [intOf]; omega⟩
      unfold s8f
      by_cases e : j = k
      · subst e
        rw [if_pos rfl, if_pos (by omega), EY.out]
      · rw [if_neg e]
        by_cases h : j < k
        · rw [if_pos h, if_pos (by omega)]
        · rw [if_neg h, if_neg (by omega)]
    · obtain rfl : k = n := by omega
      have HH := hid1 hrow
      clear hrow
      go_wp2
      go_ret
      exact ⟨rfl, HH.out.congr fun j hj => by unfold s8f; rw [if_pos hj], hnx⟩
end Go.Proofs.YtlgjoepeibodkaaGreat.Nn
/- PACKAGE PLAIN: elems, room, together. -/
namespace Go.Proofs.YtlgjoepeibodkaaGreat.Nn
open Go.RowKit

set_option maxHeartbeats 800000 in
set_option maxRecDepth 100000 in
theorem pelems_any (h v c : Int) (w : World) :
    Calls Tryz.prog 27 #[shp h v c] w fun e w' => e = .returned (.int .i64 (elN h v c)) ∧ Below w.heap.size w w' := by
  go_enter Tryz.func27, Tryz.ntmps27
  go_wp2_with fail
  refine gen_calls (fun W' => Below w.heap.size w W') (bl_alloc (Below.refl _ _) _) ?_
  intro W B0
  refine (elems_any h v c _).mono ?_
  rintro e w1 ⟨rfl, hb⟩
  have B1 := bl_step B0 hb
  clear hb B0
  go_wp2
  go_ret
  exact ⟨rfl, B1⟩
theorem el_bd (h v c : Int) : 0 ≤ elN h v c ∧ elN h v c ≤ 16777216 := by
  unfold elN
  split
  · rename_i k
    obtain ⟨s, b⟩ := chk_zero k
    have := mul3 s
    omega
  · omega
set_option maxHeartbeats 800000 in
set_option maxRecDepth 100000 in
/-- Room for an output: none of it used. -/
theorem room_any (h v c : Int) (n : Nat) (hn : elN h v c = (n : Int)) (w : World) :
    Calls Tryz.prog 49 #[shp h v c] w fun e w' => ∃ g, e = .returned (.slice (some ⟨g, 0, none⟩) 0 n) ∧ w'.ownsRow w.heap.size 2 1 (.slice (some ⟨g, 0, none⟩) 0 n) 0 [] ∧ Below w.heap.size w w' := by
  obtain ⟨i0, hi, hz0, hz1, hz2⟩ := info_parts info_i64
  have HN := hid1 hn
  have bn : n ≤ 16777216 := by have := el_bd h v c; omega
  clear hn
  go_enter Tryz.func49, Tryz.ntmps49
  go_wp2_with fail
  refine gen_calls (fun W' => Below w.heap.size w W') (bl_alloc (Below.refl _ _) _) ?_
  intro W B0
  refine (pelems_any h v c _).mono ?_
  rw [HN.out]
  rintro e w1 ⟨rfl, hb⟩
  have B1 := bl_step B0 hb
  have z1 := B1.size
  clear hb B0
  obtain ⟨w2, mk, own, gr⟩ := run_make_own (P := Tryz.prog) w1 w.heap.size 36 2 i0 (.int .i64 0) 1 und_i64s hi hz0 hz1 .i64 .i64 n (by rw [hz2]; omega) (by unfold maxLen; omega) z1
  have OW := hid1 own
  have B2 : Below w.heap.size w w2 := B1.grown gr z1 (fun q hq => by cases hq)
  clear own gr z1
  go_wp2
  go_ret
  exact ⟨_, rfl, OW.out, B2⟩
/-- A list of shapes lies in memory. -/
def RS (W : World) (ao : Option Addr) (m : Nat) (fh fv fc : Nat → Int) : Prop := ∀ k, k < m → ∃ (g o : Nat), ao = some ⟨g, o, none⟩ ∧ Sh W g (o + k * 3) (fh k) (fv k) (fc k)
theorem RS.keep {W X : World} {ao : Option Addr} {m : Nat} {fh fv fc : Nat → Int} (h : RS W ao m fh fv fc) (hb : Below W.heap.size W X) : RS X ao m fh fv fc := fun k hk => by
  obtain ⟨g, o, e, c⟩ := h k hk
  exact ⟨g, o, e, c.keep hb⟩
def toV (fh fv fc : Nat → Int) : Nat → Int
  | 0 => 0
  | k + 1 => toV fh fv fc k + elN (fh k) (fv k) (fc k)
theorem to_bd (fh fv fc : Nat → Int) : ∀ k : Nat, 0 ≤ toV fh fv fc k ∧ toV fh fv fc k ≤ 16777216 * (k : Int)
  | 0 => by simp [toV]
  | k + 1 => by
    have := to_bd fh fv fc k
    have := el_bd (fh k) (fv k) (fc k)
    unfold toV
    omega
theorem blk_lt {W : World} {b o : Nat} {v : Value} (h : W.cell? ⟨b, o, none⟩ = some v) : b < W.heap.size := World.block_lt_of_cell? W ⟨b, o, none⟩ h
set_option maxHeartbeats 1600000 in
set_option maxRecDepth 100000 in
theorem together_any (ao : Option Addr) (m cap : Nat) (fh fv fc : Nat → Int) (w : World) (hm : m ≤ 4096) (h : RS w ao m fh fv fc) :
    Calls Tryz.prog 18 #[.slice ao m cap] w fun e w' => e = .returned (.int .i64 (toV fh fv fc m)) ∧ Below w.heap.size w w' := by
  have H := hid1 h
  clear h
  go_enter Tryz.func18, Tryz.ntmps18
  go_wp2
  go_loopw [3, 8] (fun t i wr => ∃ (k : Nat) (v : Int), k ≤ m ∧ i = .int .i64 k ∧ t = .int .i64 v ∧ Hid (v = toV fh fv fc k) ∧ Below w.heap.size w wr) (fun _ i _ => m - (intOf i).toNat)
  case atStart => exact ⟨0, 0, Nat.zero_le _, rfl, rfl, hid1 rfl, Below.refl _ _⟩
  case round =>
    obtain ⟨k, v, hk, rfl, rfl, HV, hnx⟩ := hrel
    rename World => V
    have ik0 : (0 : Int) ≤ (k : Int) := by omega
    by_cases hlt : k < m
    · have ik : (k : Int) < (m : Int) := by omega
      obtain ⟨g, o, rfl, c0, c1, c2⟩ := (H.out.keep hnx) k hlt
      have zz := blk_lt c0
      have b0 := to_bd fh fv fc k
      rw [← HV.out] at b0
      have b1 := el_bd (fh k) (fv k) (fc k)
      have HN : Hid (v + elN (fh k) (fv k) (fc k) = toV fh fv fc (k + 1)) := hid1 (by rw [HV.out]; rfl)
      have HE := hid1 (fun w => pelems_any (fh k) (fv k) (fc k) w)
      obtain ⟨x, ex⟩ : ∃ x, elN (fh k) (fv k) (fc k) = x := ⟨_, rfl⟩
      rw [ex] at b1 HN HE
      have e1 : wrap64 (v + x) = v + x := by unfold wrap64; omega
      clear ex b0 b1
      go_wp2_with fail
      refine gen_calls (fun W' => Below w.heap.size w W') (bl_alloc hnx _) ?_
      intro W B0
      clear c0 c1 c2 zz hnx
      refine (HE.out _).mono ?_
      rintro e w1 ⟨rfl, hb⟩
      have B1 := bl_step B0 hb
      clear hb B0
      go_wp2_with fail
      exact ⟨⟨k + 1, _, by omega, by go_num, rfl, hid1 (e1.trans HN.out), B1⟩, by simp [intOf]; omega⟩
    · obtain rfl : k = m := by omega
      go_wp2
      go_ret
      exact ⟨by rw [HV.out]; rfl, hnx⟩
end Go.Proofs.YtlgjoepeibodkaaGreat.Nn
/- PACKAGE PLAIN: what a sum becomes. -/
namespace Go.Proofs.YtlgjoepeibodkaaGreat.Nn
open Go.RowKit

/-- What the sum x of the output k becomes. -/
def beV (L : Ly) (k : Nat) (x : Int) : Int := if 0 < L.mb then x + L.bs k else if Wd.plV (L.ns k 0) (L.ns k 1) (L.ns k 2) (L.ns k 3) (L.ns k 4) (L.ns k 5) (L.ns k 6) (L.ns k 7) x = true then 1 else -1
set_option maxHeartbeats 1600000 in
set_option maxRecDepth 100000 in
/-- A logit. -/
theorem become_bias (L : Ly) (k : Nat) (x : Int) (w : World) (hL : Lst w L) (hk : k < L.mb) (hx : -4611686018427387904 ≤ x ∧ x ≤ 4611686018427387904) (hb : -4611686018427387000 ≤ L.bs k ∧ L.bs k ≤ 4611686018427387000) :
    Calls Tryz.prog 78 #[lyv L, .int .i64 k, .int .i64 x] w fun e w' => e = .returned (.int .i64 (x + L.bs k)) ∧ Below w.heap.size w w' := by
  obtain ⟨g, o, ea, c0⟩ := hL.2.2.1 k hk
  have hk0 : (0 : Int) ≤ (k : Int) := by omega
  have hk1 : (k : Int) < (L.mb : Int) := by omega
  have h0 : 0 < L.mb := by omega
  have h1 : (0 : Int) < (L.mb : Int) := by omega
  have e1 : wrap64 (x + L.bs k) = x + L.bs k := by unfold wrap64; omega
  have zz := lt_of_cell c0
  clear hL hx hb
  go_enter Tryz.func78, Tryz.ntmps78
  go_wp2_with fail
  go_ret
  exact ⟨by show Ending.returned (.int .i64 (wrap64 (x + L.bs k))) = _; rw [e1], bl_alloc (Below.refl _ _) _⟩
set_option maxHeartbeats 1600000 in
set_option maxRecDepth 100000 in
/-- 1 or -1. -/
theorem become_norm (L : Ly) (k : Nat) (x : Int) (w : World) (hL : Lst w L) (hb : L.mb = 0) (hk : k < L.mn) :
    Calls Tryz.prog 78 #[lyv L, .int .i64 k, .int .i64 x] w fun e w' => e = .returned (.int .i64 (beV L k x)) ∧ Below w.heap.size w w' := by
  obtain ⟨g, o, ea, c0, c1, c2, c3, c4, c5, c6, c7⟩ := hL.2.1 k hk
  have hk0 : (0 : Int) ≤ (k : Int) := by omega
  have hk1 : (k : Int) < (L.mn : Int) := by omega
  have zz := lt_of_cell c0
  have HP := hid1 (fun w => Wd.fplus_any (L.ns k 0) (L.ns k 1) (L.ns k 2) (L.ns k 3) (L.ns k 4) (L.ns k 5) (L.ns k 6) (L.ns k 7) x w)
  obtain ⟨p, ep⟩ : ∃ p, Wd.plV (L.ns k 0) (L.ns k 1) (L.ns k 2) (L.ns k 3) (L.ns k 4) (L.ns k 5) (L.ns k 6) (L.ns k 7) x = p := ⟨_, rfl⟩
  obtain ⟨q, eq⟩ : ∃ q, Wd.plE (L.ns k 0) (L.ns k 1) (L.ns k 2) (L.ns k 3) (L.ns k 4) (L.ns k 5) (L.ns k 6) (L.ns k 7) x = q := ⟨_, rfl⟩
  rw [ep, eq] at HP
  have HB : Hid (beV L k x = if p = true then 1 else -1) := hid1 (by unfold beV; rw [if_neg (by omega), ep])
  rw [HB.out]
  clear hL ep eq HB
  go_enter Tryz.func78, Tryz.ntmps78
  go_wp2_with fail
  refine gen_calls (fun W' => Below w.heap.size w W') (bl_alloc (Below.refl _ _) _) ?_
  intro W B0
  clear c0 c1 c2 c3 c4 c5 c6 c7 zz
  refine (HP.out _).mono ?_
  rintro e w1 ⟨rfl, hx⟩
  have B1 := bl_step B0 hx
  clear hx B0
  cases p <;> (
    go_wp2_with fail
    go_ret
    exact ⟨rfl, B1⟩)
theorem become_any (L : Ly) (k : Nat) (x : Int) (w : World) (hL : Lst w L) (h : (0 < L.mb ∧ k < L.mb ∧ (-4611686018427387904 ≤ x ∧ x ≤ 4611686018427387904) ∧ (-4611686018427387000 ≤ L.bs k ∧ L.bs k ≤ 4611686018427387000)) ∨ (L.mb = 0 ∧ k < L.mn)) :
    Calls Tryz.prog 78 #[lyv L, .int .i64 k, .int .i64 x] w fun e w' => e = .returned (.int .i64 (beV L k x)) ∧ Below w.heap.size w w' := by
  rcases h with ⟨h0, h1, h2, h3⟩ | ⟨h0, h1⟩
  · have e : beV L k x = x + L.bs k := by unfold beV; rw [if_pos h0]
    rw [e]
    exact become_bias L k x w hL h1 h2 h3
  · exact become_norm L k x w hL h0 h1
end Go.Proofs.YtlgjoepeibodkaaGreat.Nn
/- PLAIN: what each output of a layer makes of what it sees, laid behind what is there. -/
namespace Go.Proofs.YtlgjoepeibodkaaGreat.Nn
open Go.RowKit

theorem followsP : Tryz.prog.follows .mixedOrders = true := by kernel_rfl
theorem still_tailP {id : Nat} {Q : Exit → Act → World → Prop} {a : Act} {w : World} {l : List Oper} (n : Nat) (hB : Region.lexTailB .any l.toArray n = true)
    (h : wpStill Tryz.prog l.toArray w.drew (fun a' => wpList Tryz.prog l.toArray Q (l.drop n) a' w.drew) (l.take n) a) : (Code.region id l.toArray true).wp Tryz.prog Q a w := wp_region_still_tail n followsP hB h
def i64L (l : List Int) : List Value := l.map (Value.int .i64)
theorem i64L_snoc (l : List Int) (x : Int) : i64L (l ++ [x]) = i64L l ++ [.int .i64 x] := by simp [i64L]
/-- One number appended to a list of one's own. -/
theorem app_i64 {ops : Array Oper} {rest : List Oper} {o : Oper} {a : Act} {Q : Exit → Act → World → Prop} {w : World} (hgd : o.guard = none) (s x : Operand)
    (ho : o.op = .call { callee := .builtin .append, args := #[s, x], argTypes := #[36, 36] }) (base : Nat) (v : Value) (l : List Int) (n : Nat) (hs : a.eval s = v) (hown : w.ownsRow base 2 1 v n (i64L l))
    (g : Nat) (y : Int) (cb : Nat) (hx : a.eval x = .slice (some ⟨g, 0, none⟩) 1 cb) (hr : w.cell? ⟨g, 0, none⟩ = some (.int .i64 y)) (hM : n ≤ 1000000000) (hb : base ≤ w.heap.size)
    (h : ∀ v' w', w'.ownsRow base 2 1 v' (n + 1) (i64L (l ++ [y])) → w.grownBy w' v.ownBlock → (v'.ownBlock = v.ownBlock ∨ v'.ownBlock = some w.heap.size) → wpList Tryz.prog ops Q rest (a.put o.dst v') w') : wpList Tryz.prog ops Q (o :: rest) a w := by
  obtain ⟨i0, hi, hz0, hz1, hz2⟩ := info_parts info_i64
  refine wpList_append_own_at w hgd s x _ ho base 2 i0 (.int .i64 0) 1 8 und_i64s hi hz0 hz1 hz2 rfl (by decide) v n (i64L l) hs hown ⟨g, 0, none⟩ 1 cb [.int .i64 y] hx rfl
    (fun j u hu => ?_) (fun u hu => by simp at hu; subst hu; rfl) (by unfold maxLen; omega) (by omega) hb ?_
  · rcases j with _ | j
    · simp at hu; subst hu; exact hr
    · simp at hu
  · intro v' w' h1 h2 _ h3
    exact h v' w' (by rw [i64L_snoc]; exact h1) h2 h3
theorem step_appP {ops : Array Oper} {o : Oper} {a : Act} {w : World} {K : Act → World → Prop} {Q : Exit → Act → World → Prop} {E : Prop} (hgd : o.guard = none) (s x : Operand)
    (ho : o.op = .call { callee := .builtin .append, args := #[s, x], argTypes := #[36, 36] }) (base : Nat) (v : Value) (l : List Int) (n : Nat) (hs : a.eval s = v) (hown : w.ownsRow base 2 1 v n (i64L l))
    (g : Nat) (y : Int) (cb : Nat) (hx : a.eval x = .slice (some ⟨g, 0, none⟩) 1 cb) (hr : w.cell? ⟨g, 0, none⟩ = some (.int .i64 y)) (hM : n ≤ 1000000000) (hb : base ≤ w.heap.size)
    (h : ∀ v' w', w'.ownsRow base 2 1 v' (n + 1) (i64L (l ++ [y])) → w.grownBy w' v.ownBlock → (v'.ownBlock = v.ownBlock ∨ v'.ownBlock = some w.heap.size) → K (a.put o.dst v') w') : if Region.wanted o (yielded ops a.tmps) = true then Oper.wp Tryz.prog o a w K Q else E := by
  have hw : Region.wanted o (yielded ops a.tmps) = true := by simp [Region.wanted, hgd]
  rw [if_pos hw]
  obtain ⟨i0, hi, hz0, hz1, hz2⟩ := info_parts info_i64
  obtain ⟨v', w', hr2, h2, h3, h4, h5⟩ := run_append_own_at (P := Tryz.prog) w base 36 o.type 2 i0 (.int .i64 0) 1 8 und_i64s hi hz0 hz1 hz2 rfl (by decide) v n (i64L l) hown ⟨g, 0, none⟩ 1 cb [.int .i64 y] rfl
    (fun j u hu => by
      rcases j with _ | j
      · simp at hu; subst hu; exact hr
      · simp at hu) (fun u hu => by simp at hu; subst hu; rfl) (by unfold maxLen; omega) (by omega) hb
  unfold Oper.wp execOp
  simp only [ho, resolve, invoke, builtin, Sem.run_bind, Sem.run_pure, Result.andThen_ok, List.map_toArray, List.map_cons, List.map_nil, hs, hx, hr2]
  exact h v' w' (by rw [i64L_snoc]; exact h2) h3 h5
theorem gr_refl (w : World) (q : Option Nat) : w.grownBy w q := ⟨rfl, rfl, rfl, Nat.le_refl _, fun _ _ _ => rfl⟩
theorem gr_below {w x y : World} {q : Option Nat} (h : w.grownBy x q) (hb : Below x.heap.size x y) : w.grownBy y q :=
  ⟨hb.os.trans h.os, hb.tape.trans h.tape, hb.output.trans h.output, Nat.le_trans h.size hb.size, fun k hk hne => (hb.block k (Nat.lt_of_lt_of_le hk h.size)).trans (h.block k hk hne)⟩
theorem gr_step {w x y : World} {q r : Option Nat} (h : w.grownBy x q) (hb : x.grownBy y r) (hr : r = q ∨ ∃ k, r = some k ∧ w.heap.size ≤ k) : w.grownBy y q :=
  ⟨hb.os.trans h.os, hb.tape.trans h.tape, hb.output.trans h.output, Nat.le_trans h.size hb.size, fun k hk hne => (hb.block k (Nat.lt_of_lt_of_le hk h.size) (fun e => by
    rcases hr with hr | ⟨j, hr, hj⟩
    · exact hne (e.trans hr)
    · rw [hr] at e; cases e; omega)).trans (h.block k hk hne)⟩
theorem own_bl {w x : World} {base e size n : Nat} {v : Value} {xs : List Value} (h : w.ownsRow base e size v n xs) (hb : Below w.heap.size w x) : x.ownsRow base e size v n xs :=
  h.kept (row := none) ⟨hb.os, hb.tape, hb.output, hb.size, fun k hk _ => hb.block k hk⟩ (by cases hv : v.ownBlock; exact .inl rfl; exact .inr (by simp))
/-- What the outputs of a layer make of what they see. -/
def ouV (L : Ly) (F : Nat) (x : Nat → Int) (k : Nat) : Int := beV L k (smV (fun j => L.ws (k * F + j)) x F)
def ouL (L : Ly) (F : Nat) (x : Nat → Int) (K : Nat) : List Int := (List.range K).map (ouV L F x)
theorem ouL_succ (L : Ly) (F : Nat) (x : Nat → Int) (K : Nat) : ouL L F x (K + 1) = ouL L F x K ++ [ouV L F x K] := by unfold ouL; rw [List.range_succ, List.map_append]; rfl
/-- What become wants of the output k. -/
def BeOk (L : Ly) (F : Nat) (x : Nat → Int) (k : Nat) : Prop := (0 < L.mb ∧ k < L.mb ∧ (-4611686018427387904 ≤ smV (fun j => L.ws (k * F + j)) x F ∧ smV (fun j => L.ws (k * F + j)) x F ≤ 4611686018427387904) ∧ (-4611686018427387000 ≤ L.bs k ∧ L.bs k ≤ 4611686018427387000)) ∨ (L.mb = 0 ∧ k < L.mn)
set_option maxHeartbeats 3200000 in
set_option maxRecDepth 100000 in
theorem pweigh_any (L : Ly) (K F : Nat) (hK : L.k = K) (h1 : 1 ≤ K) (h2 : K ≤ 4096) (hw : L.mw = K * F) (hF1 : 1 ≤ F) (hm : K * F ≤ 16777216) (hcw : L.mw ≤ L.cw) (hws : ∀ j, j < L.mw → -1 ≤ L.ws j ∧ L.ws j ≤ 1) (xo : Option Addr) (xc : Nat) (x : Nat → Int) (hx : ∀ j, j < F → -128 ≤ x j ∧ x j ≤ 128) (hbe : ∀ k, k < K → BeOk L F x k)
    (v : Value) (p base : Nat) (vs : List Int) (hp : p ≤ 100000000) (w : World) (hown : w.ownsRow base 2 1 v p (i64L vs)) (hb : base ≤ w.heap.size) (HKp : ∀ X, w.grownBy X v.ownBlock → Lst X L ∧ R64 X xo F x) :
    Calls Tryz.prog 52 #[v, lyv L, .slice xo F xc] w fun e w' => ∃ v', e = .returned v' ∧ w'.ownsRow base 2 1 v' (p + K) (i64L (vs ++ ouL L F x K)) ∧ w.grownBy w' v.ownBlock ∧ (v'.ownBlock = v.ownBlock ∨ ∃ r, v'.ownBlock = some r ∧ w.heap.size ≤ r) := by
  have HK := hid1 hK
  have HW := hid1 hw
  have HWS := hid1 hws
  have HX := hid1 hx
  have HBE := hid1 hbe
  have HKP := hid1 HKp
  have HO := hid1 hown
  have hF : F ≤ 16777216 := Nat.le_trans (Nat.le_mul_of_pos_left F (by omega)) hm
  have hvl : ∀ q, v.ownBlock = some q → q < w.heap.size := fun q hq => (hown.lt q hq).2
  have HVL := hid1 hvl
  have hmwb : L.mw ≤ 16777216 := by rw [hw]; exact hm
  clear hK hw hws hx hbe HKp hown hvl
  obtain ⟨b, hb0⟩ : ∃ b, w.heap.size = b := ⟨_, rfl⟩
  go_enter Tryz.func52, Tryz.ntmps52
  go_upto_region 2 with fail
  refine gen_world (fun X => Below w.heap.size w X ∧ Lp X b L) ⟨by repeat (first | (with_reducible exact Below.refl _ _) | (with_reducible refine bl_alloc ?_ _) | (with_reducible refine Below.drew ?_) | (with_reducible refine bl_drewN ?_ _) | (with_reducible refine bl_set ?_ (by omega) _) | (with_reducible refine bl_step ?_ (by assumption))), lp_new' hb0 L _⟩ ?_
  rintro X ⟨BX, LX⟩
  have HLX := hid1 LX
  have c2 : X.cell? ⟨b, 2, none⟩ = some (.int .i64 (K : Int)) := by rw [← HK.out]; exact LX.2.2.1
  clear LX
  go_wp2_with fail
  clear c2
  go_loopw [0, 13] (fun vv i wr => ∃ (u : Value) (k : Nat), k ≤ K ∧ vv = u ∧ i = .int .i64 k ∧ Hid (wr.ownsRow base 2 1 u (p + k) (i64L (vs ++ ouL L F x k))) ∧ Hid (w.grownBy wr v.ownBlock) ∧ Hid (u.ownBlock = v.ownBlock ∨ ∃ r, u.ownBlock = some r ∧ b < r) ∧ Hid (Lp wr b L)) (fun _ i _ => K - (intOf i).toNat)
  case atStart => exact ⟨_, 0, Nat.zero_le _, rfl, rfl, hid1 (by rw [Nat.add_zero, show ouL L F x 0 = [] from rfl, List.append_nil]; exact own_bl HO.out BX), hid1 (gr_below (gr_refl w _) BX), hid1 (.inl rfl), HLX⟩
  case round =>
    clear BX HLX HO X
    obtain ⟨u, k, hk, ev, rfl, HO, HG, HU, HLX⟩ := hrel
    replace ev := ev.symm
    subst ev
    by_cases hlt : k < K
    · have ik : (k : Int) < (K : Nat) := by omega
      have ik0 : (0 : Int) ≤ (k : Int) := by omega
      have HLS := hid1 (HKP.out wr HG.out)
      have hkF : k * F + F ≤ K * F := by have := Nat.mul_le_mul_right F (show k + 1 ≤ K by omega); rw [Nat.succ_mul] at this; exact this
      obtain ⟨g, o, ea, -⟩ := HLS.out.1.1 0 (by rw [HW.out]; exact Nat.lt_of_lt_of_le (by omega) hkF)
      obtain ⟨A, hA⟩ : ∃ A, k * F = A := ⟨_, rfl⟩
      obtain ⟨B, hB⟩ : ∃ B, A + F = B := ⟨_, rfl⟩
      rw [hA, hB] at hkF
      have hBm : B ≤ L.mw := by rw [HW.out]; exact hkF
      have q1 : IntKind.i64.wrap ((k : Int) * (F : Int)) = (A : Int) := by rw [IntKind.wrap_i64, ← hA]; push_cast; have := hA; omega
      have q2 : IntKind.i64.wrap ((k : Int) + 1) = ((k : Int) + 1) := by rw [IntKind.wrap_i64]; omega
      have q3 : IntKind.i64.wrap (((k : Int) + 1) * (F : Int)) = (B : Int) := by
        rw [IntKind.wrap_i64]
        have : ((k : Int) + 1) * (F : Int) = (B : Int) := by rw [Int.add_mul, Int.one_mul, ← hB, ← hA]; push_cast; rfl
        omega
      have CS := hid1 (sum_any (some ⟨g, o + A, none⟩) xo F (L.cw - A) F xc (fun j => L.ws (k * F + j)) x wr.drew hF (Nat.le_refl _) (by omega) (fun j hj => by
        obtain ⟨g', o', e', c'⟩ := HLS.out.1.1 (A + j) (by omega)
        rw [ea] at e'
        simp only [Option.some.injEq, Addr.mk.injEq, and_true] at e'
        obtain ⟨rfl, rfl⟩ := e'
        exact ⟨g, o + A, rfl, by rw [hA, Nat.add_assoc]; exact c'⟩) (fun j hj => HLS.out.2 j hj) (fun j hj => HWS.out (k * F + j) (by omega)) HX.out)
      have HBK := HBE.out k hlt
      have CB := hid1 (become_any L k (smV (fun j => L.ws (k * F + j)) x F) wr.drew (HLS.out.1.keep (Below.drew (Below.refl _ _))) HBK)
      have HOV : Hid (ouV L F x k = beV L k (smV (fun j => L.ws (k * F + j)) x F)) := hid1 rfl
      generalize smV (fun j => L.ws (k * F + j)) x F = sv at CS CB HOV
      rw [← HOV.out] at CB
      clear HBK HOV
      obtain ⟨y, hy⟩ : ∃ y, ouV L F x k = y := ⟨_, rfl⟩
      rw [hy] at CB
      have HY := hid1 hy
      have HS := hid1 (ouL_succ L F x k)
      rw [HY.out] at HS
      have iB : (B : Int) ≤ (L.mw : Int) := by omega
      have iA : (A : Int) ≤ (B : Int) := by omega
      have iC : (B : Int) ≤ (L.cw : Int) := by omega
      have eBA : B - A = F := by omega
      have hne : ¬ L.cw = A := by omega
      obtain ⟨c0, c1, c2, c3, c4, c5, c6, c7, c8, c9, c10, c11, c12, c13, c14⟩ := HLX.out
      clear hA hB hy
      unfold lyv at CB
      rw [ea] at c12 CB
      clear ea
      go_upto_region 5 with fail
      go_region_law (first
        | (refine step_appP rfl (.tmp 16) (.tmp 32) rfl base u (vs ++ ouL L F x k) (p + k) (by go_simp) (own_bl HO.out (bl_alloc by1 _)) y1.heap.size y 1 (by go_simp) (by simp [go_sem]) (by omega) (by have := HG.out.size; have := by1.size; simp; omega) ?_; intro v3 y3 own3 gr3 at3; have O3 := hid1 own3; have G3 := hid1 gr3; have A3 := hid1 at3; clear own3 gr3 at3)
        | (go_simp; go_at_call 79; refine CS.out.mono ?_; rintro e y0 ⟨rfl, rfl⟩)
        | (go_simp; go_at_call 78; refine CB.out.mono ?_; rintro e y1 ⟨rfl, hb1⟩; have by1 : Below wr.heap.size wr y1 := bl_step (Below.drew (Below.refl _ _)) hb1; clear hb1))
      all_goals
        have hub : u.ownBlock ≠ some b := fun e => by
          rcases HU.out with h | ⟨r, h, hr⟩
          · have := HVL.out b (by rw [← h]; exact e); omega
          · rw [h] at e; cases e; omega
        have zy : b < y1.heap.size := Nat.lt_of_lt_of_le (lt_of_cell c0) by1.size
        have E1 : Hid (y3.ownsRow base 2 1 v3 (p + (k + 1)) (i64L (vs ++ ouL L F x (k + 1)))) := hid1 (by rw [HS.out, ← List.append_assoc]; exact O3.out)
        have E2 : Hid (w.grownBy y3 v.ownBlock) := hid1 (gr_step (gr_below HG.out (bl_alloc by1 _)) G3.out (by
          rcases HU.out with h | ⟨r, h, hr⟩
          · exact .inl h
          · exact .inr ⟨r, h, by omega⟩))
        have E3 : Hid (v3.ownBlock = v.ownBlock ∨ ∃ r, v3.ownBlock = some r ∧ b < r) := hid1 (by
          rcases A3.out with h | h
          · rw [h]; exact HU.out
          · exact .inr ⟨_, h, by simp; omega⟩)
        have E4 : Hid (Lp y3 b L) := hid1 ((HLX.out.keep (bl_alloc by1 _)).of_block (G3.out.block b (by simp; omega) (fun e => hub e.symm)))
        clear c0 c1 c2 c3 c4 c5 c6 c7 c8 c9 c10 c11 c12 c13 c14
        go_wp2
        exact ⟨⟨v3, k + 1, by omega, rfl, by go_num, E1, E2, E3, E4⟩, by simp [intOf]; omega⟩
    · have hkN : k = K := by omega
      subst hkN
      go_wp2_with fail
      go_ret
      exact ⟨_, rfl, HO.out, HG.out, by
        rcases HU.out with h | ⟨r, h, hr⟩
        · exact .inl h
        · exact .inr ⟨r, h, by omega⟩⟩
end Go.Proofs.YtlgjoepeibodkaaGreat.Nn
/- PLAIN: the work of an LDense. -/
namespace Go.Proofs.YtlgjoepeibodkaaGreat.Nn
open Go.RowKit

theorem gr_bel {a w x : World} {q : Option Nat} (h : w.grownBy x q) (hb : Below a.heap.size a w) (hq : ∀ k, q = some k → a.heap.size ≤ k) : Below a.heap.size a x :=
  ⟨h.os.trans hb.os, h.tape.trans hb.tape, h.output.trans hb.output, Nat.le_trans hb.size h.size, fun k hk => (h.block k (Nat.lt_of_lt_of_le hk hb.size) (fun e => by have := hq k e.symm; omega)).trans (hb.block k hk)⟩
theorem R64.keep' {W X : World} {ao : Option Addr} {m : Nat} {f : Nat → Int} (h : R64 W ao m f) (hb : Below W.heap.size W X) : R64 X ao m f := fun k hk => by
  obtain ⟨g, o, e, c⟩ := h k hk
  exact ⟨g, o, e, keepc hb c⟩
abbrev tnv (h v c : Int) (xo : Option Addr) (F xc : Nat) : Value := .agg #[.int .i64 h, .int .i64 v, .int .i64 c, .slice xo F xc]
/-- The four cells of a tensor. -/
def tnf (h v c : Int) (xo : Option Addr) (F xc : Nat) : Nat → Value := fun i => if i = 0 then .int .i64 h else if i = 1 then .int .i64 v else if i = 2 then .int .i64 c else .slice xo F xc
theorem tn_new (W : World) (h v c : Int) (xo : Option Addr) (F xc : Nat) (t : TypeId) : (W.alloc (.cells #[.int .i64 h, .int .i64 v, .int .i64 c, .slice xo F xc] t)).rowIs W.heap.size t 4 (tnf h v c xo F xc) :=
  World.rowIs_alloc W _ t _ fun i hi => by
    rcases i with _ | _ | _ | _ | i
    · rfl
    · rfl
    · rfl
    · rfl
    · simp at hi; omega
theorem kpC {V Y : World} {b : Nat} {L : Ly} {h v c oh ov oc : Int} {xo : Option Addr} {F xc : Nat} {t : TypeId} (h1 : Lp V b L) (h2 : V.rowIs (b + 1) t 4 (tnf h v c xo F xc)) (h3 : Sh V (b + 2) 0 oh ov oc) (hb : Below V.heap.size V Y) :
    (Y.cell? ⟨b, 0, none⟩ = some (.int .i64 L.kd) ∧ Y.cell? ⟨b, 1, none⟩ = some (.int .i64 L.wt) ∧ Y.cell? ⟨b, 2, none⟩ = some (.int .i64 L.k) ∧ Y.cell? ⟨b, 3, none⟩ = some (.int .i64 L.r) ∧ Y.cell? ⟨b, 4, none⟩ = some (.int .i64 L.s) ∧ Y.cell? ⟨b, 5, none⟩ = some (.int .i64 L.sy) ∧ Y.cell? ⟨b, 6, none⟩ = some (.int .i64 L.sx) ∧ Y.cell? ⟨b, 7, none⟩ = some (.int .i64 L.t) ∧ Y.cell? ⟨b, 8, none⟩ = some (.int .i64 L.l) ∧ Y.cell? ⟨b, 9, none⟩ = some (.int .i64 L.b) ∧ Y.cell? ⟨b, 10, none⟩ = some (.int .i64 L.q) ∧ Y.cell? ⟨b, 11, none⟩ = some (.int .i64 L.bd) ∧ Y.cell? ⟨b, 12, none⟩ = some (.slice L.aw L.mw L.cw) ∧ Y.cell? ⟨b, 13, none⟩ = some (.slice L.an L.mn L.cn) ∧ Y.cell? ⟨b, 14, none⟩ = some (.slice L.ab L.mb L.cb)) ∧ Y.cell? ⟨b + 1, 3, none⟩ = some (.slice xo F xc) ∧ Y.cell? ⟨b + 2, 0, none⟩ = some (.int .i64 oh) ∧ Y.cell? ⟨b + 2, 1, none⟩ = some (.int .i64 ov) ∧ Y.cell? ⟨b + 2, 2, none⟩ = some (.int .i64 oc) :=
  ⟨h1.keep hb, keepc hb (h2.cell (i := 3) (by decide)), keepc hb h3.1, keepc hb h3.2.1, keepc hb h3.2.2⟩
set_option maxHeartbeats 3200000 in
set_option maxRecDepth 100000 in
theorem connect_any (L : Ly) (K F : Nat) (hK : L.k = K) (h1 : 1 ≤ K) (h2 : K ≤ 4096) (hw : L.mw = K * F) (hF1 : 1 ≤ F) (hm : K * F ≤ 16777216) (hcw : L.mw ≤ L.cw) (hws : ∀ j, j < L.mw → -1 ≤ L.ws j ∧ L.ws j ≤ 1) (xo : Option Addr) (xc : Nat) (x : Nat → Int) (hx : ∀ j, j < F → -128 ≤ x j ∧ x j ≤ 128) (hbe : ∀ k, k < K → BeOk L F x k)
    (h v c oh ov oc : Int) (w : World) (hL : Lst w L) (hR : R64 w xo F x) :
    Calls Tryz.prog 36 #[lyv L, tnv h v c xo F xc, shp oh ov oc] w fun e w' => ∃ v', e = .returned v' ∧ w'.ownsRow w.heap.size 2 1 v' K (i64L (ouL L F x K)) ∧ Below w.heap.size w w' := by
  obtain ⟨n, hn⟩ := Int.eq_ofNat_of_zero_le (el_bd oh ov oc).1
  have CR := hid1 (fun W => room_any oh ov oc n hn W)
  have CW : Hid (∀ (y1 : World) (g base : Nat), Below w.heap.size w y1 → w.heap.size ≤ base → base ≤ y1.heap.size → y1.ownsRow base 2 1 (.slice (some ⟨g, 0, none⟩) 0 n) 0 [] → Calls Tryz.prog 52 #[.slice (some ⟨g, 0, none⟩) 0 n, lyv L, .slice xo F xc] y1 fun e w' => ∃ v', e = .returned v' ∧ w'.ownsRow base 2 1 v' K (i64L (ouL L F x K)) ∧ y1.grownBy w' (some g)) := hid1 (fun y1 g base hb hba hby how => by
    refine (pweigh_any L K F hK h1 h2 hw hF1 hm hcw hws xo xc x hx hbe (.slice (some ⟨g, 0, none⟩) 0 n) 0 base [] (by omega) y1 how hby (fun X hX => ?_)).mono ?_
    · have hbx := gr_bel hX hb (fun k e => by cases e; exact Nat.le_trans hba (how.lt g rfl).1)
      exact ⟨hL.keep hbx, hR.keep' hbx⟩
    · rintro e w' ⟨v', rfl, o', g', -⟩
      rw [Nat.zero_add, List.nil_append] at o'
      exact ⟨v', rfl, o', g'⟩)
  clear hn hK h1 h2 hw hF1 hm hcw hws hx hbe hL hR
  obtain ⟨b, hb0⟩ : ∃ b, w.heap.size = b := ⟨_, rfl⟩
  go_enter Tryz.func36, Tryz.ntmps36
  go_upto_region 1 with fail
  refine gen_world (fun X => Below w.heap.size w X ∧ Lp X b L ∧ X.rowIs (b + 1) 71 4 (tnf h v c xo F xc) ∧ Sh X (b + 2) 0 oh ov oc) ⟨by repeat (first | (with_reducible exact Below.refl _ _) | (with_reducible refine bl_alloc ?_ _) | (with_reducible refine Below.drew ?_) | (with_reducible refine bl_drewN ?_ _) | (with_reducible refine bl_set ?_ (by omega) _) | (with_reducible refine bl_step ?_ (by assumption))), (lp_new' hb0 L _).keep (bl_alloc (bl_alloc (Below.refl _ _) _) _), by have := (tn_new (w.alloc (lyo L)) h v c xo F xc 71).alloc (sho oh ov oc); rw [show (w.alloc (lyo L)).heap.size = b + 1 by simp [hb0]] at this; exact this, by have := sh_new ((w.alloc (lyo L)).alloc (.cells #[.int .i64 h, .int .i64 v, .int .i64 c, .slice xo F xc] 71)) oh ov oc 23; rw [show ((w.alloc (lyo L)).alloc (.cells #[.int .i64 h, .int .i64 v, .int .i64 c, .slice xo F xc] 71)).heap.size = b + 2 by simp [hb0]] at this; exact this⟩ ?_
  rintro X ⟨BX, LX, TX, SX⟩
  have HBX := hid1 BX
  have HLX := hid1 LX
  have HTX := hid1 TX
  have HSX := hid1 SX
  clear BX LX TX SX
  have hfo := followsP
  go_region_held3 (fun Y => (Y.cell? ⟨b, 0, none⟩ = some (.int .i64 L.kd) ∧ Y.cell? ⟨b, 1, none⟩ = some (.int .i64 L.wt) ∧ Y.cell? ⟨b, 2, none⟩ = some (.int .i64 L.k) ∧ Y.cell? ⟨b, 3, none⟩ = some (.int .i64 L.r) ∧ Y.cell? ⟨b, 4, none⟩ = some (.int .i64 L.s) ∧ Y.cell? ⟨b, 5, none⟩ = some (.int .i64 L.sy) ∧ Y.cell? ⟨b, 6, none⟩ = some (.int .i64 L.sx) ∧ Y.cell? ⟨b, 7, none⟩ = some (.int .i64 L.t) ∧ Y.cell? ⟨b, 8, none⟩ = some (.int .i64 L.l) ∧ Y.cell? ⟨b, 9, none⟩ = some (.int .i64 L.b) ∧ Y.cell? ⟨b, 10, none⟩ = some (.int .i64 L.q) ∧ Y.cell? ⟨b, 11, none⟩ = some (.int .i64 L.bd) ∧ Y.cell? ⟨b, 12, none⟩ = some (.slice L.aw L.mw L.cw) ∧ Y.cell? ⟨b, 13, none⟩ = some (.slice L.an L.mn L.cn) ∧ Y.cell? ⟨b, 14, none⟩ = some (.slice L.ab L.mb L.cb)) ∧ Y.cell? ⟨b + 1, 3, none⟩ = some (.slice xo F xc) ∧ Y.cell? ⟨b + 2, 0, none⟩ = some (.int .i64 oh) ∧ Y.cell? ⟨b + 2, 1, none⟩ = some (.int .i64 ov) ∧ Y.cell? ⟨b + 2, 2, none⟩ = some (.int .i64 oc))
    (((try dsimp only); (with_reducible refine kpC (V := X) HLX.out HTX.out HSX.out ?_); repeat (first | (with_reducible exact Below.refl _ _) | (with_reducible assumption) | (with_reducible refine Below.drew ?_))))
    (first
    | (go_at_call 49; refine (CR.out _).mono ?_; rintro e y1 ⟨g, rfl, ow1, hb1⟩; have by1 : Below X.heap.size X y1 := bl_step (Below.drew (Below.refl _ _)) hb1; have HO1 := hid1 ow1; clear ow1 hb1)
    | (go_at_call 52; refine (CW.out y1 g X.drew.heap.size (bl_step HBX.out by1) HBX.out.size by1.size HO1.out).mono ?_; rintro e y2 ⟨v', rfl, ow2, gr2⟩; have by2 : Below X.heap.size X y2 := gr_bel gr2 by1 (fun k e => by cases e; exact (HO1.out.lt g rfl).1); have HO2 := hid1 ow2; clear ow2 gr2))
  go_wp2_with fail
  go_ret
  exact ⟨v', rfl, HO2.out.mono HBX.out.size, bl_step HBX.out by2⟩
end Go.Proofs.YtlgjoepeibodkaaGreat.Nn
/- PLAIN: the table of works; the closure of Run. -/
namespace Go.Proofs.YtlgjoepeibodkaaGreat.Nn
open Go.RowKit Go.ChangeMaps

theorem und_mapP : Tryz.prog.underlying 79 = some (.map 3 83) := by kernel_rfl
theorem insP_run {w : World} {b : Nat} {es : Array MapEntry} {c : Nat} (hb : w.heap[b]? = some (.map es c)) (k : Int) (v : Value) (hn : Instr.findNow (.int .i64) (.int .i64 k) es.toList 0 = some none) :
    Sem.run Tryz.prog (Instr.mapUpdate 79 (.map (some b)) (.int .i64 k) v) w = .ok () (setBlock w b (.map (es.push ⟨.int .i64 k, v, c⟩) (c + 1))) := by
  simp [Instr.mapUpdate, run_underlying und_mapP, MapKept.run_getObj_map hb, MapKept.run_checkKey Tryz.underlying3 (show MapKept.IsKey (.int .i64) (.int .i64 k) from rfl) false 9999, MapKept.run_findKey Tryz.underlying3 hn, MapKept.run_setObj_map _ hb, Result.andThen, setBlock]
theorem insP_ex {w : World} {b : Nat} {es : Array MapEntry} {c : Nat} (hb : w.heap[b]? = some (.map es c)) (k : Int) (v : Value) (hn : Instr.findNow (.int .i64) (.int .i64 k) es.toList 0 = some none) :
    ∃ W, Sem.run Tryz.prog (Instr.mapUpdate 79 (.map (some b)) (.int .i64 k) v) w = .ok () W ∧ W.heap.size = w.heap.size ∧ W.heap[b]? = some (.map (es.push ⟨.int .i64 k, v, c⟩) (c + 1)) ∧ (∀ i, i ≠ b → W.heap[i]? = w.heap[i]?) ∧ W.os = w.os ∧ W.tape = w.tape ∧ W.output = w.output :=
  ⟨_, insP_run hb k v hn, by simp [setBlock], heap_setBlock_same hb _, fun i hi => heap_setBlock_other hb _ hi, rfl, rfl, rfl⟩
abbrev plE1 : MapEntry := ⟨.int .i64 1, fv 35, 0⟩
abbrev plE2 : MapEntry := ⟨.int .i64 2, fv 36, 1⟩
abbrev plE3 : MapEntry := ⟨.int .i64 3, fv 37, 2⟩
def Plw (W : World) (b : Nat) : Prop := W.heap[b]? = some (.map #[plE1, plE2, plE3] 3)
theorem Plw.lt {W : World} {b : Nat} (h : Plw W b) : b < W.heap.size := (Array.getElem?_eq_some_iff.1 h).1
theorem Plw.keep {W w' : World} {b : Nat} (h : Plw W b) (hb : Below W.heap.size W w') : Plw w' b := (hb.block _ h.lt).trans h
set_option maxRecDepth 100000 in
theorem pworks_any (w : World) : Calls Tryz.prog 28 #[] w fun e w' => e = .returned (.map (some w.heap.size)) ∧ Plw w' w.heap.size ∧ Below w.heap.size w w' := by
  have hmm := @run_makeMap Tryz.prog
  obtain ⟨W1, r1, z1, b1, o1, t1⟩ := insP_ex (w := w.alloc (.map #[] 0)) (b := w.heap.size) (es := #[]) (c := 0) (new_block w _) 1 (fv 35) rfl
  obtain ⟨W2, r2, z2, b2, o2, t2⟩ := insP_ex (w := W1) (b := w.heap.size) b1 2 (fv 36) (by first | rfl | kernel_rfl)
  obtain ⟨W3, r3, z3, b3, o3, t3⟩ := insP_ex (w := W2) (b := w.heap.size) b2 3 (fv 37) (by first | rfl | kernel_rfl)
  have hs0 : (w.alloc (.map #[] 0)).heap.size = w.heap.size + 1 := by simp
  rw [hs0] at z1
  have q3 : ∀ i, i < w.heap.size → W3.heap[i]? = w.heap[i]? := fun i hi => by rw [o3 i (by omega), o2 i (by omega), o1 i (by omega), old_block _ _ hi]
  have fin : Hid (Plw W3 w.heap.size ∧ Below w.heap.size w W3) := ⟨b3, ⟨t3.1.trans (t2.1.trans t1.1), t3.2.1.trans (t2.2.1.trans t1.2.1), t3.2.2.trans (t2.2.2.trans t1.2.2), by omega, q3⟩⟩
  clear b1 b2 b3 o1 o2 o3 q3 hs0 t1 t2 t3
  go_enter Tryz.func28, Tryz.ntmps28
  go_wp2_with fail
  go_ret
  exact ⟨rfl, fin.out⟩
def plF (kd : Int) : Nat := if kd = 1 then 35 else if kd = 2 then 36 else 37
theorem lookP_run {w : World} {b : Nat} (h : w.heap[b]? = some (.map #[plE1, plE2, plE3] 3)) (kd : Int) (hk : kd = 1 ∨ kd = 2 ∨ kd = 3) : Sem.run Tryz.prog (Instr.lookup 79 (.map (some b)) (.int .i64 kd) false) w = .ok (fv (plF kd)) w := by
  unfold plF
  rcases hk with rfl | rfl | rfl
  · simp [Instr.lookup, run_underlying und_mapP, MapKept.run_getObj_map h, MapKept.run_checkKey Tryz.underlying3 (show MapKept.IsKey (.int .i64) (.int .i64 1) from rfl) _ 9999, Instr.findKey, Instr.findNow, Instr.sameNow, run_underlying Tryz.underlying3, Result.andThen]
  · simp [Instr.lookup, run_underlying und_mapP, MapKept.run_getObj_map h, MapKept.run_checkKey Tryz.underlying3 (show MapKept.IsKey (.int .i64) (.int .i64 2) from rfl) _ 9999, Instr.findKey, Instr.findNow, Instr.sameNow, run_underlying Tryz.underlying3, Result.andThen]
  · simp [Instr.lookup, run_underlying und_mapP, MapKept.run_getObj_map h, MapKept.run_checkKey Tryz.underlying3 (show MapKept.IsKey (.int .i64) (.int .i64 3) from rfl) _ 9999, Instr.findKey, Instr.findNow, Instr.sameNow, run_underlying Tryz.underlying3, Result.andThen]
set_option maxRecDepth 100000 in
theorem plF_call (kd : Int) (args : Array Value) (w : World) : (callFunc (plF kd) args).run Tryz.prog w = .ok (.enter (plF kd) args) w := by
  unfold plF
  by_cases h : kd = 1
  · rw [if_pos h]; rfl
  · rw [if_neg h]
    by_cases h2 : kd = 2
    · rw [if_pos h2]; rfl
    · rw [if_neg h2]; rfl
set_option maxHeartbeats 800000 in
set_option maxRecDepth 100000 in
/-- Run's closure: what comes is kept. -/
theorem run1_any (h v c : Int) (xo : Option Addr) (F xc cb : Nat) (u : Value) (w : World) (hc : w.rowIs cb 36 1 (fun _ => u)) :
    Calls Tryz.prog 22 #[tnv h v c xo F xc, .pointer (some ⟨cb, 0, none⟩)] w fun e w' => e = .returned (.tuple #[]) ∧ w'.rowIs cb 36 1 (fun _ => .slice xo F xc) ∧ w.grownBy w' (some cb) := by
  have HC := hid1 hc
  have hl := hc.lt
  have c0 := hc.cell (i := 0) (by decide)
  have f0 := hc.frozen 0
  clear hc
  go_enter Tryz.func22, Tryz.ntmps22
  go_wp2_with fail
  refine bodyPost_end (v := .tuple #[]) (by simp [results, go_sem]) rfl ⟨rfl, World.rowIs.alloc (((HC.out.set 0 (.slice xo F xc)).congr fun i hi => ?_)) _, ⟨rfl, rfl, rfl, by simp, fun k hk hne => ?_⟩⟩
  · obtain rfl : i = 0 := by omega
    rfl
  · rw [old_block _ _ (by simpa using hk)]
    exact Below.heap_setCell _ _ _ _ (fun e => hne (by rw [e]))
end Go.Proofs.YtlgjoepeibodkaaGreat.Nn
/- PLAIN: a network passed through, for Run. -/
namespace Go.Proofs.YtlgjoepeibodkaaGreat.Nn
open Go.RowKit

theorem shf_atP (N : Nt) (m k : Nat) (hk : k < m) : shf N m (k * 3) = .int .i64 (sp N (k + 1)).h ∧ shf N m (k * 3 + 1) = .int .i64 (sp N (k + 1)).v ∧ shf N m (k * 3 + 2) = .int .i64 (sp N (k + 1)).c := by
  unfold shf
  rw [if_pos (by omega), if_pos (by omega), if_pos (by omega), show k * 3 / 3 = k by omega, show (k * 3 + 1) / 3 = k by omega, show (k * 3 + 2) / 3 = k by omega, show k * 3 % 3 = 0 by omega, show (k * 3 + 1) % 3 = 1 by omega, show (k * 3 + 2) % 3 = 2 by omega]
  exact ⟨rfl, rfl, rfl⟩
theorem cell_four {Y : World} {b c i j k l n : Nat} {u v x z q : Value} (h : Y.cell? ⟨b, n, none⟩ = some q) (hn : b ≠ c) : ((((Y.setCell ⟨c, i, none⟩ u).setCell ⟨c, j, none⟩ v).setCell ⟨c, k, none⟩ x).setCell ⟨c, l, none⟩ z).cell? ⟨b, n, none⟩ = some q :=
  (World.cell?_of_block (w := Y) (by rw [Below.heap_setCell _ _ _ _ (by show b ≠ c; exact hn), Below.heap_setCell _ _ _ _ (by show b ≠ c; exact hn), Below.heap_setCell _ _ _ _ (by show b ≠ c; exact hn), Below.heap_setCell _ _ _ _ (by show b ≠ c; exact hn)])).trans h
theorem heap_four {Y : World} {b c i j k l : Nat} {u v x z : Value} (hn : b ≠ c) : ((((Y.setCell ⟨c, i, none⟩ u).setCell ⟨c, j, none⟩ v).setCell ⟨c, k, none⟩ x).setCell ⟨c, l, none⟩ z).heap[b]? = Y.heap[b]? := by rw [Below.heap_setCell _ _ _ _ (by show b ≠ c; exact hn), Below.heap_setCell _ _ _ _ (by show b ≠ c; exact hn), Below.heap_setCell _ _ _ _ (by show b ≠ c; exact hn), Below.heap_setCell _ _ _ _ (by show b ≠ c; exact hn)]
theorem gr_four {w Y : World} {c i j k l : Nat} {u v x z : Value} {q : Option Nat} (h : w.grownBy Y q) (hc : w.heap.size ≤ c) : w.grownBy ((((Y.setCell ⟨c, i, none⟩ u).setCell ⟨c, j, none⟩ v).setCell ⟨c, k, none⟩ x).setCell ⟨c, l, none⟩ z) q :=
  ⟨h.os, h.tape, h.output, by simpa using h.size, fun n hn hne => (heap_four (by omega)).trans (h.block n hn hne)⟩
theorem kmeet_p {J K : Act → World → Prop} {Q : Exit → Act → World → Prop} {a : Act} {w : World} (hK : ∀ a' w', Met J a' w' → K a' w') (h : Met J a w) : Exit.then K Q Exit.normal a w := hK _ _ h
theorem tn_cells {V : World} {T : Nat} {t : TypeId} {h v c : Int} {xo : Option Addr} {F xc : Nat} (r : V.rowIs T t 4 (tnf h v c xo F xc)) : V.cell? ⟨T, 0, none⟩ = some (.int .i64 h) ∧ V.cell? ⟨T, 1, none⟩ = some (.int .i64 v) ∧ V.cell? ⟨T, 2, none⟩ = some (.int .i64 c) ∧ V.cell? ⟨T, 3, none⟩ = some (.slice xo F xc) :=
  ⟨r.cell (i := 0) (by decide), r.cell (i := 1) (by decide), r.cell (i := 2) (by decide), r.cell (i := 3) (by decide)⟩
theorem tn_set {V : World} {T : Nat} {t : TypeId} {h v c : Int} {xo : Option Addr} {F xc : Nat} (r : V.rowIs T t 4 (tnf h v c xo F xc)) (h' v' c' : Int) (xo' : Option Addr) (F' xc' : Nat) : ((((V.setCell ⟨T, 0, none⟩ (.int .i64 h')).setCell ⟨T, 1, none⟩ (.int .i64 v')).setCell ⟨T, 2, none⟩ (.int .i64 c')).setCell ⟨T, 3, none⟩ (.slice xo' F' xc')).rowIs T t 4 (tnf h' v' c' xo' F' xc') := by
  refine ((((r.set 0 (.int .i64 h')).set 1 (.int .i64 v')).set 2 (.int .i64 c')).set 3 (.slice xo' F' xc')).congr fun i hi => ?_
  rcases i with _ | _ | _ | _ | i
  · rfl
  · rfl
  · rfl
  · rfl
  · omega
theorem kpP {V Y : World} {bl T gs k M : Nat} {L : Ly} {ih iv ic oh ov oc : Int} {xo : Option Addr} {F xc : Nat} {t : TypeId} (h1 : Lp V bl L) (h2 : V.rowIs T t 4 (tnf ih iv ic xo F xc)) (h3 : V.cell? ⟨gs, k * 3, none⟩ = some (.int .i64 oh) ∧ V.cell? ⟨gs, k * 3 + 1, none⟩ = some (.int .i64 ov) ∧ V.cell? ⟨gs, k * 3 + 2, none⟩ = some (.int .i64 oc)) (h4 : Plw V M) (hb : Below V.heap.size V Y) :
    (Y.cell? ⟨bl, 0, none⟩ = some (.int .i64 L.kd) ∧ Y.cell? ⟨bl, 1, none⟩ = some (.int .i64 L.wt) ∧ Y.cell? ⟨bl, 2, none⟩ = some (.int .i64 L.k) ∧ Y.cell? ⟨bl, 3, none⟩ = some (.int .i64 L.r) ∧ Y.cell? ⟨bl, 4, none⟩ = some (.int .i64 L.s) ∧ Y.cell? ⟨bl, 5, none⟩ = some (.int .i64 L.sy) ∧ Y.cell? ⟨bl, 6, none⟩ = some (.int .i64 L.sx) ∧ Y.cell? ⟨bl, 7, none⟩ = some (.int .i64 L.t) ∧ Y.cell? ⟨bl, 8, none⟩ = some (.int .i64 L.l) ∧ Y.cell? ⟨bl, 9, none⟩ = some (.int .i64 L.b) ∧ Y.cell? ⟨bl, 10, none⟩ = some (.int .i64 L.q) ∧ Y.cell? ⟨bl, 11, none⟩ = some (.int .i64 L.bd) ∧ Y.cell? ⟨bl, 12, none⟩ = some (.slice L.aw L.mw L.cw) ∧ Y.cell? ⟨bl, 13, none⟩ = some (.slice L.an L.mn L.cn) ∧ Y.cell? ⟨bl, 14, none⟩ = some (.slice L.ab L.mb L.cb)) ∧ (Y.cell? ⟨T, 0, none⟩ = some (.int .i64 ih) ∧ Y.cell? ⟨T, 1, none⟩ = some (.int .i64 iv) ∧ Y.cell? ⟨T, 2, none⟩ = some (.int .i64 ic) ∧ Y.cell? ⟨T, 3, none⟩ = some (.slice xo F xc)) ∧ (Y.cell? ⟨gs, k * 3, none⟩ = some (.int .i64 oh) ∧ Y.cell? ⟨gs, k * 3 + 1, none⟩ = some (.int .i64 ov) ∧ Y.cell? ⟨gs, k * 3 + 2, none⟩ = some (.int .i64 oc)) ∧ Y.heap[M]? = some (.map #[plE1, plE2, plE3] 3) :=
  ⟨h1.keep hb, ⟨keepc hb (tn_cells h2).1, keepc hb (tn_cells h2).2.1, keepc hb (tn_cells h2).2.2.1, keepc hb (tn_cells h2).2.2.2⟩, ⟨keepc hb h3.1, keepc hb h3.2.1, keepc hb h3.2.2⟩, h4.keep hb⟩
theorem kpN {V Y : World} {b : Nat} {N : Nt} (h : Nb V b N) (hb : Below V.heap.size V Y) : Y.cell? ⟨b, 1, none⟩ = some (.int .i64 N.h) ∧ Y.cell? ⟨b, 2, none⟩ = some (.int .i64 N.v) ∧ Y.cell? ⟨b, 3, none⟩ = some (.int .i64 N.c) := ⟨keepc hb h.2.1, keepc hb h.2.2.1, keepc hb h.2.2.2.1⟩
/-- The values that come in to the layer i, of which there are sz i; what is asked of each layer's work. -/
def Wrk (N : Nt) (sz : Nat → Nat) (val : Nat → Nat → Int) (i : Nat) : Prop := ((N.lf i).kd = 1 ∨ (N.lf i).kd = 2 ∨ (N.lf i).kd = 3) ∧ 1 ≤ sz (i + 1) ∧ ∀ (W : World) (xo : Option Addr) (xc : Nat), sz i ≤ xc → Lst W (N.lf i) → R64 W xo (sz i) (val i) → Calls Tryz.prog (plF (N.lf i).kd) #[lyv (N.lf i), tnv (sp N i).h (sp N i).v (sp N i).c xo (sz i) xc, shp (sp N (i + 1)).h (sp N (i + 1)).v (sp N (i + 1)).c] W fun e w' => ∃ v', e = .returned v' ∧ w'.ownsRow W.heap.size 2 1 v' (sz (i + 1)) (i64L ((List.range (sz (i + 1))).map (val (i + 1)))) ∧ Below W.heap.size W w'
/-- An own row of numbers reads as they do. -/
theorem own_64 {w : World} {base n : Nat} {v : Value} {f : Nat → Int} (h : w.ownsRow base 2 1 v n (i64L ((List.range n).map f))) (hn : 1 ≤ n) : ∃ g cap, v = .slice (some ⟨g, 0, none⟩) n cap ∧ base ≤ g ∧ g < w.heap.size ∧ n ≤ cap ∧ R64 w (some ⟨g, 0, none⟩) n f := by
  rcases h.2 with ⟨_, h0⟩ | ⟨g, cap, cur, hv, hb, hg, h4, h5, h6, h7⟩
  · omega
  · refine ⟨g, cap, hv, hb, (Array.getElem?_eq_some_iff.1 hg).1, h4, fun k hk => ⟨g, 0, rfl, ?_⟩⟩
    have e : (i64L ((List.range n).map f))[k]? = some (.int .i64 (f k)) := by simp [i64L, hk]
    rw [← h7, Nat.mul_one, List.getElem?_take_of_lt hk] at e
    rw [Nat.zero_add]
    simp only [World.cell?, hg]
    rw [Array.getElem?_toList] at e
    simpa using e
set_option maxHeartbeats 6400000 in
set_option maxRecDepth 100000 in
theorem pass_any (N : Nt) (sz : Nat → Nat) (val : Nat → Nat → Int) (hml : 1 ≤ N.ml ∧ N.ml ≤ 64) (hwk : ∀ i, i < N.ml → Wrk N sz val i) (ao : Option Addr) (cap : Nat) (f : Nat → Int) (hs0 : sz 0 ≤ 16777216) (hf : ∀ j, j < sz 0 → s8 (f j) = val 0 j) (gs cb : Nat) (u0 : Value) (w : World) (hN : NtW w N) (hx : RB w ao (sz 0) f) (hsh : w.rowIs gs 23 (N.ml * 3) (shf N N.ml)) (hcb : w.rowIs cb 36 1 (fun _ => u0)) (hk : ∀ X, w.grownBy X (some cb) → NtW X N ∧ X.rowIs gs 23 (N.ml * 3) (shf N N.ml)) :
    Calls Tryz.prog 19 #[ntv N, .slice ao (sz 0) cap, .slice (some ⟨gs, 0, none⟩) N.ml N.ml, .func (.func 22) #[] #[.pointer (some ⟨cb, 0, none⟩)]] w fun e w' => e = .returned (.tuple #[]) ∧ w.grownBy w' (some cb) ∧ ∃ g cap', w'.rowIs cb 36 1 (fun _ => .slice (some ⟨g, 0, none⟩) (sz N.ml) cap') ∧ w.heap.size ≤ g ∧ R64 w' (some ⟨g, 0, none⟩) (sz N.ml) (val N.ml) := by
  have HW := hid1 hN
  have HWK := hid1 hwk
  have HF := hid1 hf
  have HXX := hid1 hx
  have HSH := hid1 hsh
  have HCB := hid1 hcb
  have HKK := hid1 hk
  have lcb := hcb.lt
  have lgs := hsh.lt
  clear hN hwk hf hx hsh hcb hk
  obtain ⟨b, hb0⟩ : ∃ b, w.heap.size = b := ⟨_, rfl⟩
  go_enter Tryz.func19, Tryz.ntmps19
  go_wp2_with fail
  refine gen_calls (fun X => Below w.heap.size w X ∧ Nb X b N) ⟨by repeat (first | (with_reducible exact Below.refl _ _) | (with_reducible refine bl_alloc ?_ _) | (with_reducible refine Below.drew ?_) | (with_reducible refine bl_drewN ?_ _) | (with_reducible refine bl_set ?_ (by omega) _) | (with_reducible refine bl_step ?_ (by assumption))), by rw [← hb0]; exact nb_new _ _ _⟩ ?_
  rintro X ⟨BX, NX⟩
  refine (pworks_any X).mono ?_
  rintro e w1 ⟨rfl, PW, hb⟩
  have hMb0 : b < X.heap.size := lt_of_cell NX.1
  replace BX := bl_step BX hb
  replace NX := NX.keep hb
  obtain ⟨M, hM⟩ : ∃ M, X.heap.size = M := ⟨_, rfl⟩
  rw [hM] at PW hMb0 ⊢
  clear hb
  have CS := hid1 (fun W (h : Below w.heap.size w W) => signed_any ao (sz 0) cap f W hs0 (HXX.out.keep h))
  have n1 := NX.2.1
  have n2 := NX.2.2.1
  have n3 := NX.2.2.2.1
  have HNX := hid1 NX
  have HPW := hid1 PW
  have HBX := hid1 BX
  have lM := PW.lt
  clear NX PW BX
  have hfo := followsP
  go_upto_region 2 with fail
  go_cut [9] from 14 to 18 (fun s9 wx => ∃ T g, s9 = .pointer (some ⟨T, 0, none⟩) ∧ w1.heap.size ≤ T ∧ w1.heap.size ≤ g ∧ wx.rowIs T 71 4 (tnf N.h N.v N.c (some ⟨g, 0, none⟩) (sz 0) (sz 0)) ∧ wx.rowIs g 2 (sz 0) (fun k => .int .i64 (s8 (f k))) ∧ Below w1.heap.size w1 wx)
  case first =>
    go_region_held3 (fun Y => Y.cell? ⟨b, 1, none⟩ = some (.int .i64 N.h) ∧ Y.cell? ⟨b, 2, none⟩ = some (.int .i64 N.v) ∧ Y.cell? ⟨b, 3, none⟩ = some (.int .i64 N.c))
      (((try dsimp only); (with_reducible refine kpN (V := w1) HNX.out ?_); repeat (first | (with_reducible exact Below.refl _ _) | (with_reducible assumption) | (with_reducible refine Below.drew ?_) | (with_reducible refine bl_alloc ?_ _) | (with_reducible refine bl_set ?_ (by first | exact Nat.le_refl _ | exact by1.size) _))))
      ((go_at_call 29; refine (CS.out _ (bl_step HBX.out (by repeat (first | (with_reducible exact Below.refl _ _) | (with_reducible refine Below.drew ?_) | (with_reducible refine bl_alloc ?_ _))))).mono ?_; rintro e y1 ⟨rfl, rg, hb1⟩; have by1 : Below w1.heap.size w1 y1 := (bl_step (by repeat (first | (with_reducible exact Below.refl _ _) | (with_reducible refine Below.drew ?_) | (with_reducible refine bl_alloc ?_ _))) hb1); have HRG := hid1 rg; have HB1 := hid1 hb1; (try (have VR := World.rowIs.of_block (tn_new w1 0 0 0 none 0 0 71).drew (HB1.out.block _ (World.rowIs.lt (tn_new w1 0 0 0 none 0 0 71).drew)); obtain ⟨v0, v1, v2, v3⟩ := tn_cells VR; have f0 := VR.frozen 0; have f1 := VR.frozen 1; have f2 := VR.frozen 2; have f3 := VR.frozen 3; have HVR := hid1 VR; clear VR)); clear hb1 rg))
    all_goals (refine kmeet_p (by assumption) ?_; go_meet)
    · exact ⟨_, _, rfl, by1.size, Nat.le_refl _, tn_new _ _ _ _ _ _ _ _, HRG.out.alloc _, bl_alloc by1 _⟩
    · refine ⟨_, _, rfl, Nat.le_refl _, Nat.le_succ _, tn_set HVR.out _ _ _ _ _ _, ?_, bl_set (bl_set (bl_set (bl_set by1 (Nat.le_refl _) _) (Nat.le_refl _) _) (Nat.le_refl _) _) (Nat.le_refl _) _⟩
      obtain ⟨q, hq, hr⟩ : ∃ q, q = w1.heap.size + 1 ∧ y1.rowIs q 2 (sz 0) (fun k => .int .i64 (s8 (f k))) := ⟨_, by simp, HRG.out⟩
      subst hq
      exact (((hr.setOther (by show w1.heap.size + 1 ≠ w1.heap.size; omega) _).setOther (by show w1.heap.size + 1 ≠ w1.heap.size; omega) _).setOther (by show w1.heap.size + 1 ≠ w1.heap.size; omega) _).setOther (by show w1.heap.size + 1 ≠ w1.heap.size; omega) _
  case rest =>
    obtain ⟨T, g0, rfl, gT, gg0, RT, RG, Bc⟩ := hcut
    have lT := RT.lt
    have n4 := (HNX.out.keep Bc).2.2.2.2
    have K0 := hid1 (gr_below (gr_refl w (some cb)) (bl_step HBX.out Bc))
    have K1 := hid1 (HPW.out.keep Bc)
    have K2 := hid1 RT
    have K3 : Hid (R64 wc (some ⟨g0, 0, none⟩) (sz 0) (val 0)) := hid1 (fun j hj => ⟨g0, 0, rfl, by rw [Nat.zero_add, RG.cell hj, HF.out j hj]⟩)
    have K4 := hid1 (World.rowIs.of_block HCB.out ((bl_step HBX.out Bc).block _ lcb))
    clear RT RG Bc HNX HPW HBX n1 n2 n3
    go_wp2_with fail
    clear n4
    go_loopw [22] (fun i wr => ∃ (k g cp : Nat) (u : Value), k ≤ N.ml ∧ i = .int .i64 k ∧ sz k ≤ cp ∧ T < wr.heap.size ∧ Hid (w.grownBy wr (some cb)) ∧ Hid (Plw wr M) ∧ Hid (wr.rowIs T 71 4 (tnf (sp N k).h (sp N k).v (sp N k).c (some ⟨g, 0, none⟩) (sz k) cp)) ∧ Hid (R64 wr (some ⟨g, 0, none⟩) (sz k) (val k)) ∧ Hid (wr.rowIs cb 36 1 (fun _ => u)) ∧ Hid (0 < k → u = .slice (some ⟨g, 0, none⟩) (sz k) cp ∧ w.heap.size ≤ g)) (fun i _ => N.ml - (intOf i).toNat)
    case atStart => exact ⟨0, g0, sz 0, u0, Nat.zero_le _, rfl, Nat.le_refl _, lT, K0, K1, K2, K3, K4, hid1 (fun h => absurd h (by omega))⟩
    case round =>
      clear K0 K1 K2 K3 K4 lT
      obtain ⟨k, g, cp, u, hk, rfl, hcp, lT, K0, K1, K2, K3, K4, K5⟩ := hrel
      have ik0 : (0 : Int) ≤ (k : Int) := by omega
      by_cases hlt : k < N.ml
      · have ik : (k : Int) < (N.ml : Int) := by omega
        obtain ⟨hNW, hSH⟩ := HKK.out wr K0.out
        obtain ⟨gl, o, ea, LC, LL⟩ := hNW.1 k hlt
        have CK := HWK.out k hlt
        have hkd := CK.1
        have hs1 := CK.2.1
        have HCK := hid1 CK.2.2
        have CF := plF_call (N.lf k).kd
        have LK := fun (W : World) (h : W.heap[M]? = some (Obj.map #[plE1, plE2, plE3] 3)) => lookP_run h (N.lf k).kd hkd
        have hsf := shf_atP N N.ml k hlt
        have s0 := World.rowIs.cell hSH (i := k * 3) (by omega)
        have s1 := World.rowIs.cell hSH (i := k * 3 + 1) (by omega)
        have s2 := World.rowIs.cell hSH (i := k * 3 + 2) (by omega)
        rw [hsf.1] at s0
        rw [hsf.2.1] at s1
        rw [hsf.2.2] at s2
        clear CK hsf hkd
        generalize plF (N.lf k).kd = fw at CF HCK LK
        generalize hLk : N.lf k = L at LC LL HCK LK CF
        have HLS := hid1 LL
        clear LL hLk
        generalize (sp N k).h = ih at K2 HCK
        generalize (sp N k).v = iv at K2 HCK
        generalize (sp N k).c = ic at K2 HCK
        obtain ⟨oh, hoh⟩ : ∃ z, (sp N (k + 1)).h = z := ⟨_, rfl⟩
        obtain ⟨ov, hov⟩ : ∃ z, (sp N (k + 1)).v = z := ⟨_, rfl⟩
        obtain ⟨oc, hoc⟩ : ∃ z, (sp N (k + 1)).c = z := ⟨_, rfl⟩
        rw [hoh] at s0
        rw [hov] at s1
        rw [hoc] at s2
        rw [hoh, hov, hoc] at HCK
        have HOH := hid1 (And.intro hoh (And.intro hov hoc))
        clear hoh hov hoc
        have HSS := hid1 (And.intro s0 (And.intro s1 s2))
        obtain ⟨c0, c1, c2, c3, c4, c5, c6, c7, c8, c9, c10, c11, c12, c13, c14⟩ := LC
        obtain ⟨bl, hbl⟩ : ∃ x, wr.heap.size = x := ⟨_, rfl⟩
        go_upto_region 6 with fail
        clear c0 c1 c2 c3 c4 c5 c6 c7 c8 c9 c10 c11 c12 c13 c14 s0 s1 s2 ea
        refine gen_world (fun X => Below wr.heap.size wr X ∧ Lp X bl L ∧ X.heap.size = bl + 1) ⟨by repeat (first | (with_reducible exact Below.refl _ _) | (with_reducible refine bl_alloc ?_ _) | (with_reducible refine Below.drew ?_) | (with_reducible refine bl_drewN ?_ _) | (with_reducible refine bl_set ?_ (by omega) _) | (with_reducible refine bl_step ?_ (by assumption))), lp_new' hbl L _, by simp [hbl]⟩ ?_
        rintro V ⟨BV, LV, zV⟩
        have HLV := hid1 LV
        have K1' := hid1 (K1.out.keep BV)
        have K2' := hid1 (World.rowIs.of_block K2.out (BV.block _ (World.rowIs.lt K2.out)))
        have HSV := hid1 (And.intro (keepc BV HSS.out.1) (And.intro (keepc BV HSS.out.2.1) (keepc BV HSS.out.2.2)))
        have HLL := hid1 (HLS.out.keep BV)
        have K3' := hid1 (K3.out.keep' BV)
        have HGV := hid1 (gr_below K0.out BV)
        have K4' := hid1 (World.rowIs.of_block K4.out (BV.block _ (World.rowIs.lt K4.out)))
        have lTV : T < V.heap.size := by omega
        have hblV : bl < V.heap.size := by omega
        clear BV LV HSS HLS zV hbl
        have hcV := K4'.out.lt
        go_cut [12] (fun s12 wx => ∃ O g' cp', s12 = .pointer (some ⟨O, 0, none⟩) ∧ V.heap.size ≤ O ∧ V.heap.size ≤ g' ∧ sz (k + 1) ≤ cp' ∧ wx.rowIs O 71 4 (tnf oh ov oc (some ⟨g', 0, none⟩) (sz (k + 1)) cp') ∧ R64 wx (some ⟨g', 0, none⟩) (sz (k + 1)) (val (k + 1)) ∧ Below V.heap.size V wx)
        case first =>
          go_region_held3 (fun Y => (Y.cell? ⟨bl, 0, none⟩ = some (.int .i64 L.kd) ∧ Y.cell? ⟨bl, 1, none⟩ = some (.int .i64 L.wt) ∧ Y.cell? ⟨bl, 2, none⟩ = some (.int .i64 L.k) ∧ Y.cell? ⟨bl, 3, none⟩ = some (.int .i64 L.r) ∧ Y.cell? ⟨bl, 4, none⟩ = some (.int .i64 L.s) ∧ Y.cell? ⟨bl, 5, none⟩ = some (.int .i64 L.sy) ∧ Y.cell? ⟨bl, 6, none⟩ = some (.int .i64 L.sx) ∧ Y.cell? ⟨bl, 7, none⟩ = some (.int .i64 L.t) ∧ Y.cell? ⟨bl, 8, none⟩ = some (.int .i64 L.l) ∧ Y.cell? ⟨bl, 9, none⟩ = some (.int .i64 L.b) ∧ Y.cell? ⟨bl, 10, none⟩ = some (.int .i64 L.q) ∧ Y.cell? ⟨bl, 11, none⟩ = some (.int .i64 L.bd) ∧ Y.cell? ⟨bl, 12, none⟩ = some (.slice L.aw L.mw L.cw) ∧ Y.cell? ⟨bl, 13, none⟩ = some (.slice L.an L.mn L.cn) ∧ Y.cell? ⟨bl, 14, none⟩ = some (.slice L.ab L.mb L.cb)) ∧ (Y.cell? ⟨T, 0, none⟩ = some (.int .i64 ih) ∧ Y.cell? ⟨T, 1, none⟩ = some (.int .i64 iv) ∧ Y.cell? ⟨T, 2, none⟩ = some (.int .i64 ic) ∧ Y.cell? ⟨T, 3, none⟩ = some (.slice (some ⟨g, 0, none⟩) (sz k) cp)) ∧ (Y.cell? ⟨gs, k * 3, none⟩ = some (.int .i64 oh) ∧ Y.cell? ⟨gs, k * 3 + 1, none⟩ = some (.int .i64 ov) ∧ Y.cell? ⟨gs, k * 3 + 2, none⟩ = some (.int .i64 oc)) ∧ Y.heap[M]? = some (.map #[plE1, plE2, plE3] 3))
            (((try dsimp only); (with_reducible refine kpP (V := V) HLV.out K2'.out HSV.out K1'.out ?_); repeat (first | (with_reducible exact Below.refl _ _) | (with_reducible assumption) | (with_reducible refine Below.drew ?_) | (with_reducible refine bl_alloc ?_ _) | (with_reducible refine bl_set ?_ (by first | exact Nat.le_refl _ | exact by1.size) _))))
            ((refine (HCK.out _ _ _ hcp (HLL.out.keep (by repeat (first | (with_reducible exact Below.refl _ _) | (with_reducible refine Below.drew ?_) | (with_reducible refine bl_alloc ?_ _)))) (K3'.out.keep' (by repeat (first | (with_reducible exact Below.refl _ _) | (with_reducible refine Below.drew ?_) | (with_reducible refine bl_alloc ?_ _))))).mono ?_; rintro e y1 ⟨v', rfl, ow, hb1⟩; have by1 : Below V.heap.size V y1 := (bl_step (by repeat (first | (with_reducible exact Below.refl _ _) | (with_reducible refine Below.drew ?_) | (with_reducible refine bl_alloc ?_ _))) hb1); obtain ⟨g', cp', rfl, hg', hgl', hcp', hR'⟩ := own_64 ow hs1; have HR1 := hid1 hR'; have HB1 := hid1 hb1; (try (have VR := World.rowIs.of_block (tn_new V 0 0 0 none 0 0 71).drew (HB1.out.block _ (World.rowIs.lt (tn_new V 0 0 0 none 0 0 71).drew)); obtain ⟨v0, v1, v2, v3⟩ := tn_cells VR; have f0 := VR.frozen 0; have f1 := VR.frozen 1; have f2 := VR.frozen 2; have f3 := VR.frozen 3; have HVR := hid1 VR; clear VR)); clear hb1 ow hR'))
          all_goals (refine kmeet_p (by assumption) ?_; go_meet)
          · exact ⟨_, g', cp', rfl, by1.size, hg', hcp', tn_new _ _ _ _ _ _ _ _, HR1.out.keep' (bl_alloc (Below.refl _ _) _), bl_alloc by1 _⟩
          all_goals
            have zg : V.heap.size + 1 ≤ g' := by simpa using hg'
            refine ⟨_, g', cp', rfl, Nat.le_refl _, by omega, hcp', tn_set HVR.out _ _ _ _ _ _, fun j hj => ?_, bl_set (bl_set (bl_set (bl_set by1 (Nat.le_refl _) _) (Nat.le_refl _) _) (Nat.le_refl _) _) (Nat.le_refl _) _⟩
            obtain ⟨g2, o2, e2, q2⟩ := HR1.out j hj
            cases e2
            exact ⟨_, _, rfl, cell_four q2 (by omega)⟩
        case rest =>
          obtain ⟨O, g', cp', rfl, gO, gg', hcp2, RO, RR, Bc⟩ := hcut
          have J1 := hid1 (K1'.out.keep Bc)
          have J2 := hid1 (World.rowIs.of_block K2'.out (Bc.block _ lTV))
          have J4 := hid1 (World.rowIs.of_block K4'.out (Bc.block _ hcV))
          have JG := hid1 (gr_below HGV.out Bc)
          have JR := hid1 RR
          have JO := hid1 RO
          have JB := hid1 Bc
          have zO := RO.lt
          obtain ⟨t0, t1, t2, t3⟩ := tn_cells RO
          clear RO RR Bc K1' K2' K3' K4' HGV HLV HSV HLL HCK CF LK
          go_wp2_with fail
          refine (run1_any oh ov oc (some ⟨g', 0, none⟩) (sz (k + 1)) cp' cb u wc J4.out).mono ?_
          rintro e y ⟨rfl, RC, gr⟩
          have hOc : O ≠ cb := by omega
          have hgc : g' ≠ cb := by omega
          have hTc : T ≠ cb := by omega
          have zy := gr.size
          have Q1 := hid1 (show Plw y M from (gr.block M J1.out.lt (fun e => by cases e; omega)).trans J1.out)
          have Q2 := hid1 (World.rowIs.of_block J2.out (gr.block T (World.rowIs.lt J2.out) (fun e => by cases e; omega)))
          have QO := hid1 (World.rowIs.of_block JO.out (gr.block O zO (fun e => by cases e; omega)))
          have QR : Hid (R64 y (some ⟨g', 0, none⟩) (sz (k + 1)) (val (k + 1))) := hid1 (fun j hj => by
            obtain ⟨g2, o2, e2, q2⟩ := JR.out j hj
            cases e2
            exact ⟨g', 0, rfl, (World.cell?_of_block (w := wc) (gr.block g' (lt_of_cell q2) (fun e => hgc (Option.some.inj e)))).trans q2⟩)
          have QG := hid1 (gr_step JG.out gr (.inl rfl))
          have QC := hid1 RC
          obtain ⟨t0, t1, t2, t3⟩ := tn_cells QO.out
          obtain ⟨p0, p1, p2, p3⟩ := tn_cells Q2.out
          have f0 := Q2.out.frozen 0
          have f1 := Q2.out.frozen 1
          have f2 := Q2.out.frozen 2
          have f3 := Q2.out.frozen 3
          have lTy := Q2.out.lt
          clear gr RC J1 J2 J4 JG JR JO JB
          go_wp2_with fail
          exact ⟨⟨k + 1, g', cp', .slice (some ⟨g', 0, none⟩) (sz (k + 1)) cp', by omega, by go_num, hcp2, by simpa using lTy, hid1 (gr_four QG.out (by omega)), hid1 ((heap_four (by omega)).trans Q1.out), hid1 (by rw [HOH.out.1, HOH.out.2.1, HOH.out.2.2]; exact tn_set Q2.out _ _ _ _ _ _), hid1 (fun j hj => by
            obtain ⟨g2, o2, e2, q2⟩ := QR.out j hj
            cases e2
            exact ⟨g', 0, rfl, cell_four q2 (by omega)⟩), hid1 (World.rowIs.of_block QC.out (heap_four (by omega))), hid1 (fun _ => ⟨rfl, by omega⟩)⟩, by simp [intOf]; omega⟩
      · have hkN : k = N.ml := by omega
        subst hkN
        go_wp2_with fail
        refine bodyPost_end (v := .tuple #[]) (by simp [results, go_sem]) rfl ⟨rfl, K0.out, ?_⟩
        obtain ⟨rfl, h2⟩ := K5.out (by omega)
        exact ⟨g, cp, K4.out, h2, K3.out⟩
end Go.Proofs.YtlgjoepeibodkaaGreat.Nn
/- PLAIN: Run of a network that may be, over an input of its size. -/
namespace Go.Proofs.YtlgjoepeibodkaaGreat.Nn
open Go.RowKit

set_option maxHeartbeats 1600000 in
set_option maxRecDepth 100000 in
theorem ready_ok (N : Nt) (ao : Option Addr) (n cap : Nat) (hz : chE N = 0) (hn : elN N.h N.v N.c = n) (w : World) (hN : NtW w N) :
    Calls Tryz.prog 17 #[ntv N, .slice ao n cap] w fun e w' => ∃ g, e = .returned (.tuple #[.slice (some ⟨g, 0, none⟩) N.ml N.ml, .int .i64 0]) ∧ w.heap.size ≤ g ∧ w'.rowIs g 23 (N.ml * 3) (shf N N.ml) ∧ Below w.heap.size w w' := by
  have HW := hid1 hN
  have HZ := hid1 hz
  have CE := hid1 (fun W => pelems_any N.h N.v N.c W)
  rw [hn] at CE
  clear hN hz hn
  obtain ⟨b, hb0⟩ : ∃ b, w.heap.size = b := ⟨_, rfl⟩
  go_enter Tryz.func17, Tryz.ntmps17
  go_wp2_with fail
  refine gen_calls (fun X => Below w.heap.size w X ∧ Nb X b N) ⟨by repeat (first | (with_reducible exact Below.refl _ _) | (with_reducible refine bl_alloc ?_ _) | (with_reducible refine Below.drew ?_) | (with_reducible refine bl_drewN ?_ _) | (with_reducible refine bl_set ?_ (by omega) _) | (with_reducible refine bl_step ?_ (by assumption))), by rw [← hb0]; exact nb_new _ _ _⟩ ?_
  rintro X ⟨BX, NX⟩
  have CS := nshapes_any N X (HW.out.keep BX)
  rw [HZ.out] at CS
  refine CS.mono ?_
  rintro e w1 ⟨v, rfl, hb, hv⟩
  obtain ⟨g, hg, rfl, RG⟩ := hv.2 HZ.out
  have hgw : w.heap.size ≤ g := Nat.le_trans BX.size hg
  replace BX := bl_step BX hb
  replace NX := NX.keep hb
  have HR := hid1 RG
  clear hb hv CS hg RG
  obtain ⟨n0, n1, n2, n3, n4⟩ := NX
  go_wp2_with fail
  refine (CE.out w1).mono ?_
  rintro e w2 ⟨rfl, hb⟩
  replace BX := bl_step BX hb
  replace HR := hid1 (World.rowIs.of_block HR.out (hb.block _ (World.rowIs.lt HR.out)))
  clear hb
  go_wp2_with fail
  go_ret2
  exact ⟨g, rfl, hgw, HR.out, BX⟩
/-- Result's two cells. -/
def rsf (xo : Option Addr) (m c : Nat) (a : Int) : Nat → Value := fun i => if i = 0 then .slice xo m c else .int .i64 a
theorem cell_two' {Y : World} {b c i j k : Nat} {u v x : Value} (h : Y.cell? ⟨b, i, none⟩ = some x) (hn : b ≠ c) : ((Y.setCell ⟨c, j, none⟩ u).setCell ⟨c, k, none⟩ v).drew.cell? ⟨b, i, none⟩ = some x := by
  have e : ((Y.setCell ⟨c, j, none⟩ u).setCell ⟨c, k, none⟩ v).heap[b]? = Y.heap[b]? := by rw [Below.heap_setCell _ _ _ _ (by show b ≠ c; exact hn), Below.heap_setCell _ _ _ _ (by show b ≠ c; exact hn)]
  exact (World.cell?_of_block (w := Y) e).trans h
theorem rs_new (W : World) (xo : Option Addr) (m c : Nat) (a : Int) (t : TypeId) : (W.alloc (.cells #[.slice xo m c, .int .i64 a] t)).rowIs W.heap.size t 2 (rsf xo m c a) :=
  World.rowIs_alloc W _ t _ fun i hi => by
    rcases i with _ | _ | i
    · rfl
    · rfl
    · simp at hi; omega
set_option maxHeartbeats 3200000 in
set_option maxRecDepth 100000 in
theorem prun_ok (N : Nt) (sz : Nat → Nat) (val : Nat → Nat → Int) (hz : chE N = 0) (hn : elN N.h N.v N.c = sz 0) (hwk : ∀ i, i < N.ml → Wrk N sz val i) (hsm : sz N.ml ≤ 16777216) (ao : Option Addr) (cap : Nat) (f : Nat → Int) (hf : ∀ j, j < sz 0 → s8 (f j) = val 0 j) (w : World) (hN : NtW w N) (hx : RB w ao (sz 0) f) :
    Calls Tryz.prog 12 #[ntv N, .slice ao (sz 0) cap] w fun e w' => ∃ g cp, e = .returned (.tuple #[.agg #[.slice (some ⟨g, 0, none⟩) (sz N.ml) cp, .int .i64 (grV (val N.ml) (sz N.ml))], .int .i64 0]) ∧ w.heap.size ≤ g ∧ R64 w' (some ⟨g, 0, none⟩) (sz N.ml) (val N.ml) ∧ Below w.heap.size w w' := by
  have HW := hid1 hN
  have HX := hid1 hx
  have hml : 1 ≤ N.ml ∧ N.ml ≤ 64 := by
    have h0 : whE N = 0 := by
      unfold chE at hz
      by_cases h0 : whE N = 0
      · exact h0
      · rw [if_neg h0] at hz; exact absurd hz h0
    exact (wh_parts h0).2.2
  have hs0 : sz 0 ≤ 16777216 := by have := el_bd N.h N.v N.c; omega
  have CR := hid1 (fun W (h : Below w.heap.size w W) => ready_ok N ao (sz 0) cap hz hn W (HW.out.keep h))
  have CP := hid1 (fun gs cb u0 W (h : Below w.heap.size w W) => fun h1 h2 h3 => pass_any N sz val hml hwk ao cap f hs0 hf gs cb u0 W (HW.out.keep h) (HX.out.keep h) h1 h2 h3)
  clear hN hx hz hn hwk hf
  obtain ⟨b, hb0⟩ : ∃ b, w.heap.size = b := ⟨_, rfl⟩
  go_enter Tryz.func12, Tryz.ntmps12
  go_wp2_with fail
  refine gen_calls (fun X => Below w.heap.size w X ∧ Nb X b N ∧ X.rowIs (b + 1) 54 2 (rsf none 0 0 0)) ⟨by repeat (first | (with_reducible exact Below.refl _ _) | (with_reducible refine bl_alloc ?_ _) | (with_reducible refine Below.drew ?_) | (with_reducible refine bl_drewN ?_ _) | (with_reducible refine bl_set ?_ (by omega) _) | (with_reducible refine bl_step ?_ (by assumption))), by rw [← hb0]; exact (nb_new _ _ _).keep (bl_alloc (Below.refl _ _) _), by have := rs_new (w.alloc (.cells #[.string N.nm, .int .i64 N.h, .int .i64 N.v, .int .i64 N.c, .slice N.al N.ml N.cl] 26)) none 0 0 0 54; rw [show (w.alloc (.cells #[.string N.nm, .int .i64 N.h, .int .i64 N.v, .int .i64 N.c, .slice N.al N.ml N.cl] 26)).heap.size = b + 1 by simp [hb0]] at this; exact this⟩ ?_
  rintro X ⟨BX, NX, RX⟩
  refine (CR.out X BX).mono ?_
  rintro e w1 ⟨gs, rfl, hgs, RS, hb⟩
  replace BX := bl_step BX hb
  replace NX := NX.keep hb
  replace RX := World.rowIs.of_block RX (hb.block _ RX.lt)
  clear hb CR
  obtain ⟨cb, hcb⟩ : ∃ c, w1.heap.size = c := ⟨_, rfl⟩
  go_upto_region 5 with fail
  have lgs := RS.lt
  have lRX := RX.lt
  refine gen_world (fun Y => Below w.heap.size w Y ∧ Nb Y b N ∧ Y.rowIs (b + 1) 54 2 (rsf none 0 0 0) ∧ Y.rowIs gs 23 (N.ml * 3) (shf N N.ml) ∧ Y.rowIs cb 36 1 (fun _ => .slice none 0 0) ∧ gs < cb ∧ b + 1 < cb) ⟨by repeat (first | (with_reducible exact Below.refl _ _) | (with_reducible refine bl_alloc ?_ _) | (with_reducible refine Below.drew ?_) | (with_reducible refine bl_drewN ?_ _) | (with_reducible refine bl_set ?_ (by omega) _) | (with_reducible refine bl_step ?_ (by assumption))), NX.keep (bl_alloc (Below.refl _ _) _), RX.alloc _, RS.alloc _, by rw [← hcb]; exact World.rowIs_alloc w1 #[.slice none 0 0] 36 _ (fun i hi => by simp at hi; subst hi; rfl), by omega, by omega⟩ ?_
  clear BX NX RX RS hcb lgs lRX
  rintro Y ⟨BY, NY, RY, SY, CY, hgc, hbc⟩
  have C1 := CP.out gs cb (.slice none 0 0) Y BY SY CY (fun Z hZ => ⟨HW.out.keep (gr_bel hZ BY (fun k e => by cases e; omega)), World.rowIs.of_block SY (hZ.block gs SY.lt (fun e => by cases e; omega))⟩)
  obtain ⟨n0, n1, n2, n3, n4⟩ := NY
  have HRY := hid1 RY
  have HBY := hid1 BY
  have lRY := RY.lt
  clear RY SY CY BY
  go_wp2_with fail
  refine C1.mono ?_
  rintro e y1 ⟨rfl, gr, g, cp, RC, hg, RR⟩
  have BY1 := hid1 (gr_bel gr HBY.out (fun k e => by cases e; omega))
  have HRR := hid1 (World.rowIs.of_block HRY.out (gr.block (b + 1) lRY (fun e => by cases e; omega)))
  have gw : w.heap.size ≤ g := by have := HBY.out.size; omega
  have gn : b + 1 < g := by omega
  have c0 := RC.cell (i := 0) (by decide)
  have CG := hid1 (greatest_any (some ⟨g, 0, none⟩) (sz N.ml) cp (val N.ml) y1.drew hsm RR)
  have HR64 := hid1 RR
  clear gr RC hg RR C1 HBY HRY n0 n1 n2 n3 n4
  have r0 := HRR.out.cell (i := 0) (by decide)
  have r1 := HRR.out.cell (i := 1) (by decide)
  have f0 := HRR.out.frozen 0
  have f1 := HRR.out.frozen 1
  have hl1 := HRR.out.lt
  go_upto_region 6 with fail
  refine still_tailP 4 (by kernel_rfl) ?_
  simp only [List.take_succ_cons, List.take_zero, List.drop_succ_cons, List.drop_zero]
  repeat still_step
  still_call CG.out
  repeat still_step
  refine wpStill_nil ?_
  go_wp2
  refine bodyPost_ret (v := .tuple #[.agg #[.slice (some ⟨g, 0, none⟩) (sz N.ml) cp, .int .i64 (grV (val N.ml) (sz N.ml))], .int .i64 0]) (by simp [results, Tryz.results12, go_sem, *]) rfl ⟨g, cp, rfl, gw, fun j hj => ?_, ?_⟩
  · obtain ⟨g2, o2, e2, q2⟩ := HR64.out j hj
    cases e2
    exact ⟨g, 0, rfl, cell_two' q2 (by omega)⟩
  · have := BY1.out
    exact (bl_set (bl_set this (by omega) _) (by omega) _).drew
end Go.Proofs.YtlgjoepeibodkaaGreat.Nn
