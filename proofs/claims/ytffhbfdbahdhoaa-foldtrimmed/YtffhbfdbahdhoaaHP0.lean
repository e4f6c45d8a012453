/- WHAT EVERY ROW OF THE SEATS OF fold WANTS: thresholds, norms, lists of them as parameters. -/
import Derived.Test.YtffhbfdbahdhoaaRows
import Derived.Test.YtffhbfdbahdhoaaHT1
import Derived.ProofKit
import Derived.OpenShut
import Derived.ChangeOld
import Derived.SizedLaws
import Derived.Deep.Slices
import Derived.ChangeSame
namespace Go.Proofs.Ytffhbfdbahdhoaa
open Go.ChangeShapes Go.WideShapes Go.ChangeAt Go.RowKit Wd
set_option maxRecDepth 100000

theorem own : ownKnob Try.prog.godebug = none := by kernel_rfl
theorem laidOut : laidOutB Try.prog = true := by kernel_rfl
theorem fld {H : Type} {enc : TypeId × Value → H} {P : Program} {w : World} {base : Nat} {sp : Nat → Bool} {held : Bool} {t : TypeId} {fs : Array Field} {fuel : Nat} {cs : List Value} {x : DataW H × List MemPlace}
    (ht : P.underlying t = some (.struct fs)) (h : DataW.trod enc P w base sp held fuel t cs = some x) (i : Nat) (f : Field) (hi : fs[i]? = some f) :
    ∃ n y, DataW.trod enc P w base sp held n f.type ((cs.drop f.offset).take (P.cellsOf f.type)) = some y := by
  obtain ⟨xs, n, _, _, _, hxl, hf⟩ := DataW.trod_struct ht h
  have g := hf i f hi
  have hlt : i < xs.length := by
    rw [hxl]
    exact (Array.getElem?_eq_some_iff.1 hi).1
  rw [List.getElem?_eq_getElem hlt] at g
  exact ⟨n, _, g⟩
theorem fldI {H : Type} {enc : TypeId × Value → H} {P : Program} {w : World} {base : Nat} {sp : Nat → Bool} {held : Bool} {t : TypeId} {fs : Array Field} {fuel : Nat} {cs : List Value} {x : DataW H × List MemPlace}
    (ht : P.underlying t = some (.struct fs)) (h : DataW.trod enc P w base sp held fuel t cs = some x) (i : Nat) (f : Field) (hi : fs[i]? = some f) (hu : P.underlying f.type = some (.int .i64)) (hc : P.cellsOf f.type = 1) :
    ∃ z : Int, (cs.drop f.offset).take 1 = [.int .i64 z] := by
  obtain ⟨n, y, g⟩ := fld ht h i f hi
  rw [hc] at g
  obtain ⟨z, e, _⟩ := DataW.trod_int hu g
  exact ⟨z, e⟩

theorem cells_i64 : Try.prog.cellsOf 2 = 1 := by kernel_rfl
theorem cells_int : Try.prog.cellsOf 3 = 1 := by kernel_rfl
theorem cells_thr : Try.prog.cellsOf 23 = 2 := by kernel_rfl
theorem cells_rch : Try.prog.cellsOf 41 = 2 := by kernel_rfl
theorem cells_frac : Try.prog.cellsOf 26 = 2 := by kernel_rfl
theorem cells_norm : Try.prog.cellsOf 28 = 8 := by kernel_rfl
theorem len2 {l : List Value} (h : l.length = 2) : ∃ a b, l = [a, b] := by
  match l, h with
  | [a, b], _ => exact ⟨a, b, rfl⟩
theorem len8 {l : List Value} (h : l.length = 8) : ∃ a b c d e f g i, l = [a, b, c, d, e, f, g, i] := by
  match l, h with
  | [a, b, c, d, e, f, g, i], _ => exact ⟨a, b, c, d, e, f, g, i, rfl⟩
set_option maxRecDepth 100000 in
theorem thr_cells {H : Type} {enc : TypeId × Value → H} {w : World} {base : Nat} {sp : Nat → Bool} {held : Bool} {fuel : Nat} {cs : List Value} {x : DataW H × List MemPlace}
    (h : DataW.trod enc Try.prog w base sp held fuel 23 cs = some x) : ∃ a b : Int, cs = [.int .i64 a, .int .i64 b] := by
  have hl : cs.length = 2 := by
    obtain ⟨_, _, _, _, hlen, _, _⟩ := DataW.trod_struct Try.underlying23 h
    exact hlen.trans cells_thr
  obtain ⟨z0, e0⟩ := fldI Try.underlying23 h 0 _ rfl Try.underlying3 cells_int
  obtain ⟨z1, e1⟩ := fldI Try.underlying23 h 1 _ rfl Try.underlying2 cells_i64
  obtain ⟨a, b, rfl⟩ := len2 hl
  simp at e0 e1
  subst e0 e1
  exact ⟨z0, z1, rfl⟩
set_option maxRecDepth 100000 in
theorem rch_cells {H : Type} {enc : TypeId × Value → H} {w : World} {base : Nat} {sp : Nat → Bool} {held : Bool} {fuel : Nat} {cs : List Value} {x : DataW H × List MemPlace}
    (h : DataW.trod enc Try.prog w base sp held fuel 41 cs = some x) : ∃ a b : Int, cs = [.int .i64 a, .int .i64 b] := by
  have hl : cs.length = 2 := by
    obtain ⟨_, _, _, _, hlen, _, _⟩ := DataW.trod_struct Try.underlying41 h
    exact hlen.trans cells_rch
  obtain ⟨z0, e0⟩ := fldI Try.underlying41 h 0 _ rfl Try.underlying2 cells_i64
  obtain ⟨z1, e1⟩ := fldI Try.underlying41 h 1 _ rfl Try.underlying2 cells_i64
  obtain ⟨a, b, rfl⟩ := len2 hl
  simp at e0 e1
  subst e0 e1
  exact ⟨z0, z1, rfl⟩
set_option maxRecDepth 100000 in
theorem frac_cells {H : Type} {enc : TypeId × Value → H} {w : World} {base : Nat} {sp : Nat → Bool} {held : Bool} {fuel : Nat} {cs : List Value} {x : DataW H × List MemPlace}
    (h : DataW.trod enc Try.prog w base sp held fuel 26 cs = some x) : ∃ a b : Int, cs = [.int .i64 a, .int .i64 b] := by
  have hl : cs.length = 2 := by
    obtain ⟨_, _, _, _, hlen, _, _⟩ := DataW.trod_struct Try.underlying26 h
    exact hlen.trans cells_frac
  obtain ⟨z0, e0⟩ := fldI Try.underlying26 h 0 _ rfl Try.underlying2 cells_i64
  obtain ⟨z1, e1⟩ := fldI Try.underlying26 h 1 _ rfl Try.underlying2 cells_i64
  obtain ⟨a, b, rfl⟩ := len2 hl
  simp at e0 e1
  subst e0 e1
  exact ⟨z0, z1, rfl⟩
theorem fldF {H : Type} {enc : TypeId × Value → H} {w : World} {base : Nat} {sp : Nat → Bool} {held : Bool} {t : TypeId} {fs : Array Field} {fuel : Nat} {cs : List Value} {x : DataW H × List MemPlace}
    (ht : Try.prog.underlying t = some (.struct fs)) (h : DataW.trod enc Try.prog w base sp held fuel t cs = some x) (i : Nat) (f : Field) (hi : fs[i]? = some f) (hu : f.type = 26) :
    ∃ a b : Int, (cs.drop f.offset).take 2 = [.int .i64 a, .int .i64 b] := by
  obtain ⟨n, y, g⟩ := fld ht h i f hi
  rw [hu, cells_frac] at g
  exact frac_cells g
set_option maxRecDepth 100000 in
theorem norm_cells {H : Type} {enc : TypeId × Value → H} {w : World} {base : Nat} {sp : Nat → Bool} {held : Bool} {fuel : Nat} {cs : List Value} {x : DataW H × List MemPlace}
    (h : DataW.trod enc Try.prog w base sp held fuel 28 cs = some x) :
    ∃ gn gd bn bd mn md sn sd : Int, cs = [.int .i64 gn, .int .i64 gd, .int .i64 bn, .int .i64 bd, .int .i64 mn, .int .i64 md, .int .i64 sn, .int .i64 sd] := by
  have hl : cs.length = 8 := by
    obtain ⟨_, _, _, _, hlen, _, _⟩ := DataW.trod_struct Try.underlying28 h
    exact hlen.trans cells_norm
  obtain ⟨a0, b0, e0⟩ := fldF Try.underlying28 h 0 _ rfl rfl
  obtain ⟨a1, b1, e1⟩ := fldF Try.underlying28 h 1 _ rfl rfl
  obtain ⟨a2, b2, e2⟩ := fldF Try.underlying28 h 2 _ rfl rfl
  obtain ⟨a3, b3, e3⟩ := fldF Try.underlying28 h 3 _ rfl rfl
  obtain ⟨a, b, c, d, e, f, g, i, rfl⟩ := len8 hl
  simp at e0 e1 e2 e3
  obtain ⟨rfl, rfl⟩ := e0
  obtain ⟨rfl, rfl⟩ := e1
  obtain ⟨rfl, rfl⟩ := e2
  obtain ⟨rfl, rfl⟩ := e3
  exact ⟨_, _, _, _, _, _, _, _, rfl⟩
set_option maxRecDepth 100000 in

theorem open_thr {H : Type} {enc : TypeId × Value → H} {W : World} {base : Nat} {v : Value} {d : DataW H} {p : List MemPlace}
    (hv : Value.okWide Try.prog W .any base 23 v) (h : DataW.Trod enc Try.prog W 0 (fun _ => true) true 23 v d p) : ∃ a b : Int, v = th a b := by
  obtain ⟨cs, rfl, _⟩ := okWide_struct Try.underlying23 hv
  obtain ⟨fuel, hf⟩ := h
  obtain ⟨a, b, e⟩ := thr_cells hf
  refine ⟨a, b, ?_⟩
  simp [Value.cells] at e
  obtain ⟨l⟩ := cs
  simp at e
  subst e
  rfl
theorem open_norm {H : Type} {enc : TypeId × Value → H} {W : World} {base : Nat} {v : Value} {d : DataW H} {p : List MemPlace}
    (hv : Value.okWide Try.prog W .any base 28 v) (h : DataW.Trod enc Try.prog W 0 (fun _ => true) true 28 v d p) : ∃ gn gd bn bd mn md sn sd : Int, v = nm gn gd bn bd mn md sn sd := by
  obtain ⟨cs, rfl, _⟩ := okWide_struct Try.underlying28 hv
  obtain ⟨fuel, hf⟩ := h
  obtain ⟨gn, gd, bn, bd, mn, md, sn, sd, e⟩ := norm_cells hf
  refine ⟨gn, gd, bn, bd, mn, md, sn, sd, ?_⟩
  simp [Value.cells] at e
  obtain ⟨l⟩ := cs
  simp at e
  subst e
  rfl
theorem add_at (b o n : Nat) : Addr.add ⟨b, o, none⟩ n = ⟨b, o + n, none⟩ := by
  unfold Addr.add
  by_cases h : n = 0
  · subst h; rfl
  · rw [if_neg h]

theorem max_is : maxLen = 9223372036854775807 := by decide
/-- A list at the cells of each element. -/
theorem open_list {H : Type} {enc : TypeId × Value → H} {W : World} {base : Nat} {t e : TypeId} {N : Nat} {v : Value} {d : DataW H} {p : List MemPlace} (ht : Try.prog.underlying t = some (.slice e)) (hN : Try.prog.cellsOf e = N) (hpos : 0 < N)
    (hv : Value.okWide Try.prog W .any base t v) (h : DataW.Trod enc Try.prog W 0 (fun _ => true) true t v d p) :
    ∃ (ao : Option Addr) (m cap : Nat), v = .slice ao m cap ∧ m ≤ 9223372036854775807 ∧ ∀ k, k < m → ∃ (g o n : Nat) (cs : List Value) (y : DataW H × List MemPlace), ao = some ⟨g, o, none⟩ ∧ DataW.trod enc Try.prog W 0 (fun _ => true) true n e cs = some y ∧ cs.length = N ∧
      ∀ j, j < N → W.cell? ⟨g, o + k * N + j, none⟩ = cs[j]? := by
  obtain ⟨a0, len, cap, rfl⟩ := okWide_slice ht hv
  obtain ⟨fuel, hf⟩ := h
  rcases Deep.open_slice ht hf with ⟨hc, hx⟩ | ⟨a, len', cap', mm, n, D, Pl, hc, _, hl, hm, hmm, hx, hcell⟩
  · simp [Value.cells] at hc
    obtain ⟨rfl, rfl, rfl⟩ := hc
    exact ⟨none, 0, 0, rfl, by omega, fun k hk => absurd hk (by omega)⟩
  · simp [Value.cells] at hc
    obtain ⟨rfl, rfl, rfl⟩ := hc
    simp only [if_true] at hmm
    refine ⟨some a, len, cap, rfl, by have := max_is; omega, fun k hk => ?_⟩
    obtain ⟨b, o, s⟩ := a
    obtain rfl : s = none := by
      obtain ⟨cs0, h0, _⟩ := hcell 0 (by omega)
      rw [hN] at h0
      obtain ⟨_, hlen, hc0⟩ := World.cells?_some h0
      have e0 := hc0 0 hpos
      rw [Deep.add_add, List.getElem?_eq_getElem (by omega)] at e0
      have := World.cell?_spot e0
      simpa [Addr.add] using this
    obtain ⟨cs, h1, h2⟩ := hcell k (by omega)
    rw [hN] at h1
    obtain ⟨_, hlen, hc1⟩ := World.cells?_some h1
    refine ⟨b, o, n, cs, _, rfl, h2, hlen, fun j hj => ?_⟩
    have := hc1 j hj
    rw [Deep.add_add, add_at, ← Nat.add_assoc] at this
    exact this

theorem und_ths : Try.prog.underlying 46 = some (.slice 23) := by kernel_rfl
theorem und_rchs : Try.prog.underlying 49 = some (.slice 41) := by kernel_rfl
theorem und_i64s : Try.prog.underlying 47 = some (.slice 2) := by kernel_rfl
theorem open_ths {H : Type} {enc : TypeId × Value → H} {W : World} {base : Nat} {v : Value} {d : DataW H} {p : List MemPlace}
    (hv : Value.okWide Try.prog W .any base 46 v) (h : DataW.Trod enc Try.prog W 0 (fun _ => true) true 46 v d p) :
    ∃ (ao : Option Addr) (m cap : Nat), v = .slice ao m cap ∧ m ≤ 9223372036854775807 ∧ Lp2 W ao m := by
  obtain ⟨ao, m, cap, rfl, hm, hf⟩ := open_list und_ths cells_thr (by decide) hv h
  refine ⟨ao, m, cap, rfl, hm, fun k hk => ?_⟩
  obtain ⟨g, o, n, cs, y, rfl, ht, _, hc⟩ := hf k hk
  obtain ⟨a, b, rfl⟩ := thr_cells ht
  exact ⟨g, o, a, b, rfl, by simpa using hc 0 (by decide), by simpa using hc 1 (by decide)⟩
theorem open_rchs {H : Type} {enc : TypeId × Value → H} {W : World} {base : Nat} {v : Value} {d : DataW H} {p : List MemPlace}
    (hv : Value.okWide Try.prog W .any base 49 v) (h : DataW.Trod enc Try.prog W 0 (fun _ => true) true 49 v d p) :
    ∃ (ao : Option Addr) (m cap : Nat), v = .slice ao m cap ∧ m ≤ 9223372036854775807 ∧ Lp2 W ao m := by
  obtain ⟨ao, m, cap, rfl, hm, hf⟩ := open_list und_rchs cells_rch (by decide) hv h
  refine ⟨ao, m, cap, rfl, hm, fun k hk => ?_⟩
  obtain ⟨g, o, n, cs, y, rfl, ht, _, hc⟩ := hf k hk
  obtain ⟨a, b, rfl⟩ := rch_cells ht
  exact ⟨g, o, a, b, rfl, by simpa using hc 0 (by decide), by simpa using hc 1 (by decide)⟩
theorem open_i64s {H : Type} {enc : TypeId × Value → H} {W : World} {base : Nat} {v : Value} {d : DataW H} {p : List MemPlace}
    (hv : Value.okWide Try.prog W .any base 47 v) (h : DataW.Trod enc Try.prog W 0 (fun _ => true) true 47 v d p) :
    ∃ (ao : Option Addr) (m cap : Nat), v = .slice ao m cap ∧ m ≤ 9223372036854775807 ∧ Ln1 W ao m := by
  obtain ⟨ao, m, cap, rfl, hm, hf⟩ := open_list und_i64s cells_i64 (by decide) hv h
  refine ⟨ao, m, cap, rfl, hm, fun k hk => ?_⟩
  obtain ⟨g, o, n, cs, y, rfl, ht, _, hc⟩ := hf k hk
  obtain ⟨x, rfl, _, _⟩ := DataW.trod_int Try.underlying2 ht
  exact ⟨g, o, x, rfl, by simpa using hc 0 (by decide)⟩
end Go.Proofs.Ytffhbfdbahdhoaa
