import Derived.Test.YtffhbfdbahdhoabHR1
import Derived.Test.YtffhbfdbahdhoabRows
import Derived.ProofKit
import Derived.OpenShut
import Derived.ChangeOld
import Derived.SizedLaws
import Derived.Deep.Slices
import Derived.ChangeSame
import Derived.Test.YtffhbfdbahdhoabW17
import Derived.Laws.AppendOwn
/- LISTS OF PAIRS OF NUMBERS; FoldTrims, WALKED. -/
namespace Go.Proofs.Ytffhbfdbahdhoab
open Go.RowKit Go.Shelf Wd
attribute [local go_sem ↓] Go.wp_at_zero Go.wp_at_succ

/-- A list of structs of two numbers. -/
def Lp2 (W : World) (ao : Option Addr) (m : Nat) : Prop := ∀ k, k < m → ∃ (g o : Nat) (x y : Int), ao = some ⟨g, o, none⟩ ∧ W.cell? ⟨g, o + k * 2, none⟩ = some (.int .i64 x) ∧ W.cell? ⟨g, o + k * 2 + 1, none⟩ = some (.int .i64 y)
theorem Lp2.keep {W w' : World} {ao : Option Addr} {m : Nat} (h : Lp2 W ao m) (hb : Below W.heap.size W w') : Lp2 w' ao m := fun k hk => by
  obtain ⟨g, o, x, y, e, a, b⟩ := h k hk
  exact ⟨g, o, x, y, e, keepc hb a, keepc hb b⟩
/-- A list of numbers; a list of norms. -/
def Ln1 (W : World) (ao : Option Addr) (m : Nat) : Prop := ∀ k, k < m → ∃ (g o : Nat) (x : Int), ao = some ⟨g, o, none⟩ ∧ W.cell? ⟨g, o + k, none⟩ = some (.int .i64 x)
theorem Ln1.keep {W w' : World} {ao : Option Addr} {m : Nat} (h : Ln1 W ao m) (hb : Below W.heap.size W w') : Ln1 w' ao m := fun k hk => by
  obtain ⟨g, o, x, e, a⟩ := h k hk
  exact ⟨g, o, x, e, keepc hb a⟩
def N8 (w : World) (b o : Nat) (gn gd bn bd mn md sn sd : Int) : Prop :=
  w.cell? ⟨b, o, none⟩ = some (.int .i64 gn) ∧ w.cell? ⟨b, o + 1, none⟩ = some (.int .i64 gd) ∧ w.cell? ⟨b, o + 2, none⟩ = some (.int .i64 bn) ∧ w.cell? ⟨b, o + 3, none⟩ = some (.int .i64 bd) ∧
  w.cell? ⟨b, o + 4, none⟩ = some (.int .i64 mn) ∧ w.cell? ⟨b, o + 5, none⟩ = some (.int .i64 md) ∧ w.cell? ⟨b, o + 6, none⟩ = some (.int .i64 sn) ∧ w.cell? ⟨b, o + 7, none⟩ = some (.int .i64 sd)
theorem N8.keep {w w' : World} {b o : Nat} {gn gd bn bd mn md sn sd : Int} (h : N8 w b o gn gd bn bd mn md sn sd) (hb : Below w.heap.size w w') : N8 w' b o gn gd bn bd mn md sn sd := by
  obtain ⟨a, c, d, e, f, g, i, j⟩ := h
  exact ⟨keepc hb a, keepc hb c, keepc hb d, keepc hb e, keepc hb f, keepc hb g, keepc hb i, keepc hb j⟩
def Ln8 (W : World) (ao : Option Addr) (m : Nat) : Prop := ∀ k, k < m → ∃ (g o : Nat) (gn gd bn bd mn md sn sd : Int), ao = some ⟨g, o, none⟩ ∧ N8 W g (o + k * 8) gn gd bn bd mn md sn sd
theorem Ln8.keep {W w' : World} {ao : Option Addr} {m : Nat} (h : Ln8 W ao m) (hb : Below W.heap.size W w') : Ln8 w' ao m := fun k hk => by
  obtain ⟨g, o, a, b, c, d, e, f, i, j, h1, h2⟩ := h k hk
  exact ⟨g, o, a, b, c, d, e, f, i, j, h1, h2.keep hb⟩
theorem wz_new {W : World} {t : TypeId} {g : Nat} (hg : W.heap.size = g) : Wz (W.alloc (.cells #[.int .i64 0, .int .i64 0] t)) g := by
  subst hg
  exact ⟨by simp [go_sem], by simp [go_sem], by simp [go_sem], by simp [go_sem]⟩
theorem c2_new {W : World} {a b : Int} {t : TypeId} {g : Nat} (hg : W.heap.size = g) : C2 (W.alloc (.cells #[.int .i64 a, .int .i64 b] t)) g a b := by
  subst hg
  exact ⟨by simp [go_sem], by simp [go_sem]⟩
theorem c2_set {X : World} {g : Nat} {x y a b : Int} (h : C2 X g x y) : C2 ((X.setCell ⟨g, 0, none⟩ (.int .i64 a)).setCell ⟨g, 1, none⟩ (.int .i64 b)) g a b := by
  obtain ⟨h0, h1⟩ := h
  exact ⟨by simp [go_sem, *], by simp [go_sem, *]⟩
theorem kp4 {W w' : World} {g h o p q r : Nat} {a b c d : Value} (hb : Below W.heap.size W w') (h0 : W.cell? ⟨g, o, none⟩ = some a) (h1 : W.cell? ⟨g, p, none⟩ = some b) (h2 : W.cell? ⟨h, q, none⟩ = some c) (h3 : W.cell? ⟨h, r, none⟩ = some d) :
    w'.cell? ⟨g, o, none⟩ = some a ∧ w'.cell? ⟨g, p, none⟩ = some b ∧ w'.cell? ⟨h, q, none⟩ = some c ∧ w'.cell? ⟨h, r, none⟩ = some d := ⟨keepc hb h0, keepc hb h1, keepc hb h2, keepc hb h3⟩
end Go.Proofs.Ytffhbfdbahdhoab
/- WHAT EVERY ROW OF THE SEATS OF fold WANTS: thresholds, norms, lists of them as parameters. -/
namespace Go.Proofs.Ytffhbfdbahdhoab
open Go.ChangeShapes Go.WideShapes Go.ChangeAt Go.RowKit Wd
set_option maxRecDepth 100000

theorem own : ownKnob Try.prog.godebug = none := by kernel_rfl
theorem laidOut : laidOutB Try.prog = true := by kernel_rfl
theorem fld {H : Type} {enc : TypeId × Value → H} {P : Program} {w : World} {base : Nat} {sp : Nat → Bool} {held : Bool} {t : TypeId} {fs : Array Field} {fuel : Nat} {cs : List Value} {x : DataW H × List MemPlace}
    (ht : P.underlying t = some (.struct fs)) (h : DataW.trod enc P w base sp held fuel t cs = some x) (i : Nat) (f : Field) (hi : fs[i]? = some f) :
    ∃ n y, DataW.trod enc P w base sp held n f.type ((cs.drop f.offset).take (P.cellsOf f.type)) = some y := by
  obtain ⟨xs, n, _, _, _, hxl, hf⟩ := DataW.trod_struct ht h
  have g := hf i f hi
  have hlt : i < xs.length := by
    rw [hxl]
    exact (Array.getElem?_eq_some_iff.1 hi).1
  rw [List.getElem?_eq_getElem hlt] at g
  exact ⟨n, _, g⟩
theorem fldI {H : Type} {enc : TypeId × Value → H} {P : Program} {w : World} {base : Nat} {sp : Nat → Bool} {held : Bool} {t : TypeId} {fs : Array Field} {fuel : Nat} {cs : List Value} {x : DataW H × List MemPlace}
    (ht : P.underlying t = some (.struct fs)) (h : DataW.trod enc P w base sp held fuel t cs = some x) (i : Nat) (f : Field) (hi : fs[i]? = some f) (hu : P.underlying f.type = some (.int .i64)) (hc : P.cellsOf f.type = 1) :
    ∃ z : Int, (cs.drop f.offset).take 1 = [.int .i64 z] := by
  obtain ⟨n, y, g⟩ := fld ht h i f hi
  rw [hc] at g
  obtain ⟨z, e, _⟩ := DataW.trod_int hu g
  exact ⟨z, e⟩

theorem cells_i64 : Try.prog.cellsOf 2 = 1 := by kernel_rfl
theorem cells_int : Try.prog.cellsOf 3 = 1 := by kernel_rfl
theorem cells_thr : Try.prog.cellsOf 25 = 2 := by kernel_rfl
theorem cells_rch : Try.prog.cellsOf 38 = 2 := by kernel_rfl
theorem cells_frac : Try.prog.cellsOf 30 = 2 := by kernel_rfl
theorem cells_norm : Try.prog.cellsOf 32 = 8 := by kernel_rfl
theorem len2 {l : List Value} (h : l.length = 2) : ∃ a b, l = [a, b] := by
  match l, h with
  | [a, b], _ => exact ⟨a, b, rfl⟩
theorem len8 {l : List Value} (h : l.length = 8) : ∃ a b c d e f g i, l = [a, b, c, d, e, f, g, i] := by
  match l, h with
  | [a, b, c, d, e, f, g, i], _ => exact ⟨a, b, c, d, e, f, g, i, rfl⟩
set_option maxRecDepth 100000 in
theorem thr_cells {H : Type} {enc : TypeId × Value → H} {w : World} {base : Nat} {sp : Nat → Bool} {held : Bool} {fuel : Nat} {cs : List Value} {x : DataW H × List MemPlace}
    (h : DataW.trod enc Try.prog w base sp held fuel 25 cs = some x) : ∃ a b : Int, cs = [.int .i64 a, .int .i64 b] := by
  have hl : cs.length = 2 := by
    obtain ⟨_, _, _, _, hlen, _, _⟩ := DataW.trod_struct Try.underlying25 h
    exact hlen.trans cells_thr
  obtain ⟨z0, e0⟩ := fldI Try.underlying25 h 0 _ rfl Try.underlying3 cells_int
  obtain ⟨z1, e1⟩ := fldI Try.underlying25 h 1 _ rfl Try.underlying2 cells_i64
  obtain ⟨a, b, rfl⟩ := len2 hl
  simp at e0 e1
  subst e0 e1
  exact ⟨z0, z1, rfl⟩
set_option maxRecDepth 100000 in
theorem rch_cells {H : Type} {enc : TypeId × Value → H} {w : World} {base : Nat} {sp : Nat → Bool} {held : Bool} {fuel : Nat} {cs : List Value} {x : DataW H × List MemPlace}
    (h : DataW.trod enc Try.prog w base sp held fuel 38 cs = some x) : ∃ a b : Int, cs = [.int .i64 a, .int .i64 b] := by
  have hl : cs.length = 2 := by
    obtain ⟨_, _, _, _, hlen, _, _⟩ := DataW.trod_struct Try.underlying38 h
    exact hlen.trans cells_rch
  obtain ⟨z0, e0⟩ := fldI Try.underlying38 h 0 _ rfl Try.underlying2 cells_i64
  obtain ⟨z1, e1⟩ := fldI Try.underlying38 h 1 _ rfl Try.underlying2 cells_i64
  obtain ⟨a, b, rfl⟩ := len2 hl
  simp at e0 e1
  subst e0 e1
  exact ⟨z0, z1, rfl⟩
set_option maxRecDepth 100000 in
theorem frac_cells {H : Type} {enc : TypeId × Value → H} {w : World} {base : Nat} {sp : Nat → Bool} {held : Bool} {fuel : Nat} {cs : List Value} {x : DataW H × List MemPlace}
    (h : DataW.trod enc Try.prog w base sp held fuel 30 cs = some x) : ∃ a b : Int, cs = [.int .i64 a, .int .i64 b] := by
  have hl : cs.length = 2 := by
    obtain ⟨_, _, _, _, hlen, _, _⟩ := DataW.trod_struct Try.underlying30 h
    exact hlen.trans cells_frac
  obtain ⟨z0, e0⟩ := fldI Try.underlying30 h 0 _ rfl Try.underlying2 cells_i64
  obtain ⟨z1, e1⟩ := fldI Try.underlying30 h 1 _ rfl Try.underlying2 cells_i64
  obtain ⟨a, b, rfl⟩ := len2 hl
  simp at e0 e1
  subst e0 e1
  exact ⟨z0, z1, rfl⟩
theorem fldF {H : Type} {enc : TypeId × Value → H} {w : World} {base : Nat} {sp : Nat → Bool} {held : Bool} {t : TypeId} {fs : Array Field} {fuel : Nat} {cs : List Value} {x : DataW H × List MemPlace}
    (ht : Try.prog.underlying t = some (.struct fs)) (h : DataW.trod enc Try.prog w base sp held fuel t cs = some x) (i : Nat) (f : Field) (hi : fs[i]? = some f) (hu : f.type = 30) :
    ∃ a b : Int, (cs.drop f.offset).take 2 = [.int .i64 a, .int .i64 b] := by
  obtain ⟨n, y, g⟩ := fld ht h i f hi
  rw [hu, cells_frac] at g
  exact frac_cells g
set_option maxRecDepth 100000 in
theorem norm_cells {H : Type} {enc : TypeId × Value → H} {w : World} {base : Nat} {sp : Nat → Bool} {held : Bool} {fuel : Nat} {cs : List Value} {x : DataW H × List MemPlace}
    (h : DataW.trod enc Try.prog w base sp held fuel 32 cs = some x) :
    ∃ gn gd bn bd mn md sn sd : Int, cs = [.int .i64 gn, .int .i64 gd, .int .i64 bn, .int .i64 bd, .int .i64 mn, .int .i64 md, .int .i64 sn, .int .i64 sd] := by
  have hl : cs.length = 8 := by
    obtain ⟨_, _, _, _, hlen, _, _⟩ := DataW.trod_struct Try.underlying32 h
    exact hlen.trans cells_norm
  obtain ⟨a0, b0, e0⟩ := fldF Try.underlying32 h 0 _ rfl rfl
  obtain ⟨a1, b1, e1⟩ := fldF Try.underlying32 h 1 _ rfl rfl
  obtain ⟨a2, b2, e2⟩ := fldF Try.underlying32 h 2 _ rfl rfl
  obtain ⟨a3, b3, e3⟩ := fldF Try.underlying32 h 3 _ rfl rfl
  obtain ⟨a, b, c, d, e, f, g, i, rfl⟩ := len8 hl
  simp at e0 e1 e2 e3
  obtain ⟨rfl, rfl⟩ := e0
  obtain ⟨rfl, rfl⟩ := e1
  obtain ⟨rfl, rfl⟩ := e2
  obtain ⟨rfl, rfl⟩ := e3
  exact ⟨_, _, _, _, _, _, _, _, rfl⟩
set_option maxRecDepth 100000 in

theorem open_thr {H : Type} {enc : TypeId × Value → H} {W : World} {base : Nat} {v : Value} {d : DataW H} {p : List MemPlace}
    (hv : Value.okWide Try.prog W .any base 25 v) (h : DataW.Trod enc Try.prog W 0 (fun _ => true) true 25 v d p) : ∃ a b : Int, v = th a b := by
  obtain ⟨cs, rfl, _⟩ := okWide_struct Try.underlying25 hv
  obtain ⟨fuel, hf⟩ := h
  obtain ⟨a, b, e⟩ := thr_cells hf
  refine ⟨a, b, ?_⟩
  simp [Value.cells] at e
  obtain ⟨l⟩ := cs
  simp at e
  subst e
  rfl
theorem open_norm {H : Type} {enc : TypeId × Value → H} {W : World} {base : Nat} {v : Value} {d : DataW H} {p : List MemPlace}
    (hv : Value.okWide Try.prog W .any base 32 v) (h : DataW.Trod enc Try.prog W 0 (fun _ => true) true 32 v d p) : ∃ gn gd bn bd mn md sn sd : Int, v = nm gn gd bn bd mn md sn sd := by
  obtain ⟨cs, rfl, _⟩ := okWide_struct Try.underlying32 hv
  obtain ⟨fuel, hf⟩ := h
  obtain ⟨gn, gd, bn, bd, mn, md, sn, sd, e⟩ := norm_cells hf
  refine ⟨gn, gd, bn, bd, mn, md, sn, sd, ?_⟩
  simp [Value.cells] at e
  obtain ⟨l⟩ := cs
  simp at e
  subst e
  rfl
theorem add_at (b o n : Nat) : Addr.add ⟨b, o, none⟩ n = ⟨b, o + n, none⟩ := by
  unfold Addr.add
  by_cases h : n = 0
  · subst h; rfl
  · rw [if_neg h]

theorem max_is : maxLen = 9223372036854775807 := by decide
/-- A list at the cells of each element. -/
theorem open_list {H : Type} {enc : TypeId × Value → H} {W : World} {base : Nat} {t e : TypeId} {N : Nat} {v : Value} {d : DataW H} {p : List MemPlace} (ht : Try.prog.underlying t = some (.slice e)) (hN : Try.prog.cellsOf e = N) (hpos : 0 < N)
    (hv : Value.okWide Try.prog W .any base t v) (h : DataW.Trod enc Try.prog W 0 (fun _ => true) true t v d p) :
    ∃ (ao : Option Addr) (m cap : Nat), v = .slice ao m cap ∧ m ≤ 9223372036854775807 ∧ ∀ k, k < m → ∃ (g o n : Nat) (cs : List Value) (y : DataW H × List MemPlace), ao = some ⟨g, o, none⟩ ∧ DataW.trod enc Try.prog W 0 (fun _ => true) true n e cs = some y ∧ cs.length = N ∧
      ∀ j, j < N → W.cell? ⟨g, o + k * N + j, none⟩ = cs[j]? := by
  obtain ⟨a0, len, cap, rfl⟩ := okWide_slice ht hv
  obtain ⟨fuel, hf⟩ := h
  rcases Deep.open_slice ht hf with ⟨hc, hx⟩ | ⟨a, len', cap', mm, n, D, Pl, hc, _, hl, hm, hmm, hx, hcell⟩
  · simp [Value.cells] at hc
    obtain ⟨rfl, rfl, rfl⟩ := hc
    exact ⟨none, 0, 0, rfl, by omega, fun k hk => absurd hk (by omega)⟩
  · simp [Value.cells] at hc
    obtain ⟨rfl, rfl, rfl⟩ := hc
    simp only [if_true] at hmm
    refine ⟨some a, len, cap, rfl, by have := max_is; omega, fun k hk => ?_⟩
    obtain ⟨b, o, s⟩ := a
    obtain rfl : s = none := by
      obtain ⟨cs0, h0, _⟩ := hcell 0 (by omega)
      rw [hN] at h0
      obtain ⟨_, hlen, hc0⟩ := World.cells?_some h0
      have e0 := hc0 0 hpos
      rw [Deep.add_add, List.getElem?_eq_getElem (by omega)] at e0
      have := World.cell?_spot e0
      simpa [Addr.add] using this
    obtain ⟨cs, h1, h2⟩ := hcell k (by omega)
    rw [hN] at h1
    obtain ⟨_, hlen, hc1⟩ := World.cells?_some h1
    refine ⟨b, o, n, cs, _, rfl, h2, hlen, fun j hj => ?_⟩
    have := hc1 j hj
    rw [Deep.add_add, add_at, ← Nat.add_assoc] at this
    exact this

theorem und_i64s : Try.prog.underlying 79 = some (.slice 2) := by kernel_rfl
theorem und_norms : Try.prog.underlying 22 = some (.slice 32) := by kernel_rfl
theorem open_i64s {H : Type} {enc : TypeId × Value → H} {W : World} {base : Nat} {v : Value} {d : DataW H} {p : List MemPlace}
    (hv : Value.okWide Try.prog W .any base 79 v) (h : DataW.Trod enc Try.prog W 0 (fun _ => true) true 79 v d p) :
    ∃ (ao : Option Addr) (m cap : Nat), v = .slice ao m cap ∧ m ≤ 9223372036854775807 ∧ Ln1 W ao m := by
  obtain ⟨ao, m, cap, rfl, hm, hf⟩ := open_list und_i64s cells_i64 (by decide) hv h
  refine ⟨ao, m, cap, rfl, hm, fun k hk => ?_⟩
  obtain ⟨g, o, n, cs, y, rfl, ht, _, hc⟩ := hf k hk
  obtain ⟨x, rfl, _, _⟩ := DataW.trod_int Try.underlying2 ht
  exact ⟨g, o, x, rfl, by simpa using hc 0 (by decide)⟩
theorem open_norms {H : Type} {enc : TypeId × Value → H} {W : World} {base : Nat} {v : Value} {d : DataW H} {p : List MemPlace}
    (hv : Value.okWide Try.prog W .any base 22 v) (h : DataW.Trod enc Try.prog W 0 (fun _ => true) true 22 v d p) :
    ∃ (ao : Option Addr) (m cap : Nat), v = .slice ao m cap ∧ m ≤ 9223372036854775807 ∧ Ln8 W ao m := by
  obtain ⟨ao, m, cap, rfl, hm, hf⟩ := open_list und_norms cells_norm (by decide) hv h
  refine ⟨ao, m, cap, rfl, hm, fun k hk => ?_⟩
  obtain ⟨g, o, n, cs, y, rfl, ht, _, hc⟩ := hf k hk
  obtain ⟨r, s, sy, sx, t, l, b, q, rfl⟩ := norm_cells ht
  exact ⟨g, o, r, s, sy, sx, t, l, b, q, rfl, by simpa using hc 0 (by decide), by simpa using hc 1 (by decide), by simpa using hc 2 (by decide), by simpa using hc 3 (by decide), by simpa using hc 4 (by decide), by simpa using hc 5 (by decide), by simpa using hc 6 (by decide), by simpa using hc 7 (by decide)⟩
end Go.Proofs.Ytffhbfdbahdhoab
namespace Go.Proofs.Ytffhbfdbahdhoab.Wd
open Go.RowKit Go.Shelf

/-- Digits as cells. -/
def ivs (ds : List Int) : List Value := ds.map (Value.int .i64)
theorem ivs_len (ds : List Int) : (ivs ds).length = ds.length := by simp [ivs]
theorem ivs_snoc (ds : List Int) (d : Int) : ivs (ds ++ [d]) = ivs ds ++ [.int .i64 d] := by simp [ivs]
def shr (n : Int) : Nat → Int
  | 0 => n
  | k + 1 => shr n k / 65536
def dgs (n : Int) : Nat → List Int
  | 0 => []
  | k + 1 => dgs n k ++ [shr n k % 65536]
theorem dgs_len (n : Int) : ∀ k, (dgs n k).length = k
  | 0 => rfl
  | k + 1 => by simp [dgs, dgs_len n k]
theorem shr_bd {n : Int} (h : U64 n) : ∀ k, 0 ≤ shr n k ∧ shr n k < 18446744073709551616
  | 0 => h
  | k + 1 => by
    have := shr_bd h k
    simp only [shr]; omega
theorem info_int : (Try.prog.info? 3).map (fun i => (i.zero, i.size, i.bytes)) = some (some (.int .i64 0), 1, 8) := by kernel_rfl
theorem und_ints : Try.prog.underlying 74 = some (.slice 3) := by kernel_rfl

set_option maxHeartbeats 800000 in
set_option maxRecDepth 100000 in
theorem digits_any (n : Int) (hn : U64 n) (w : World) :
    Calls Try.prog 58 #[.int .u64 n] w fun e w' => ∃ v, e = .returned v ∧ w'.ownsRow w.heap.size 3 1 v 4 (ivs (dgs n 4)) ∧ Below w.heap.size w w' := by
  have HN := hid1 hn
  clear hn
  obtain ⟨i0, hi, hz0, hz1, hz2⟩ := info_parts info_int
  go_enter Try.func58, Try.ntmps58
  go_wp2
  go_loopw [0, 3, 4] (fun a v i wr => ∃ (k : Nat), k ≤ 4 ∧ a = .int .u64 (shr n k) ∧ i = .int .i64 k ∧ wr.ownsRow w.heap.size 3 1 v k (ivs (dgs n k)) ∧ Below w.heap.size w wr)
    (fun _ _ i _ => 4 - (intOf i).toNat)
  case atStart => exact ⟨0, Nat.zero_le _, rfl, rfl, World.ownsRow_nil _ _ _ _, Below.refl _ _⟩
  case round =>
    obtain ⟨k, hk, rfl, rfl, hown, hnx⟩ := hrel
    have hsize := hnx.size
    by_cases hlt : k < 4
    · obtain ⟨b1, b2⟩ := shr_bd HN.out k
      have e1 : dgs n (k + 1) = dgs n k ++ [shr n k % 65536] := rfl
      have e2 : shr n (k + 1) = shr n k / 65536 := rfl
      have H1 := hid1 e1
      have H2 := hid1 e2
      clear e1 e2
      obtain ⟨s, hs⟩ : ∃ s, shr n k = s := ⟨_, rfl⟩
      rw [hs] at H1 H2 b1 b2 ⊢
      clear hs
      go_wp2_with (first
        | (at_builtin; refine wpList_append_own _ rfl _ _ 74 rfl w.heap.size 3 i0 (.int .i64 0) 1 8 und_ints hi hz0 hz1 hz2 rfl (by decide) _ _ _ rfl (hown.alloc _) ⟨wr.heap.size, 0, none⟩ 1 1 [.int .i64 (s % 65536)] rfl rfl (cell_one_new _ _ _) (fun x hx => by simp at hx; subst hx; rfl) (by unfold maxLen; omega) (by omega) (by simp; omega) ?_; intro v' w3 hown' hgrow3 hnil3))
      exact ⟨⟨k + 1, by omega, by rw [H2.out], by go_num, by rw [H1.out, ivs_snoc]; exact hown', (hnx.alloc hsize _).grown hgrow3 (by simp; omega) (fun q hq => (hown.lt q hq).1)⟩, by simp [intOf]; omega⟩
    · have hk4 : k = 4 := by omega
      subst hk4
      go_wp2
      go_ret
      exact ⟨_, rfl, hown, hnx⟩
end Go.Proofs.Ytffhbfdbahdhoab.Wd
namespace Go.Proofs.Ytffhbfdbahdhoab.Wd
open Go.RowKit Go.Shelf

/-- The worth of digits in base 65536, the lowest first. -/
def val : List Int → Int
  | [] => 0
  | d :: r => d + 65536 * val r
def dat (ds : List Int) (k : Nat) : Int := (ds[k]?).getD 0
def Dg (ds : List Int) : Prop := ∀ d ∈ ds, 0 ≤ d ∧ d < 65536
theorem val_app : ∀ (a b : List Int), val (a ++ b) = val a + 65536 ^ a.length * val b
  | [], b => by simp [val]
  | d :: r, b => by
    simp only [List.cons_append, val, val_app r b, List.length_cons, Int.pow_succ]
    generalize (65536 : Int) ^ r.length = p
    generalize val r = x
    generalize val b = y
    rw [Int.mul_add, Int.mul_comm p 65536, Int.mul_assoc]; omega
theorem val_take (ds : List Int) (k : Nat) : val (ds.take (k + 1)) = val (ds.take k) + 65536 ^ k * dat ds k := by
  by_cases h : k < ds.length
  · rw [List.take_succ_eq_append_getElem h, val_app]
    simp [val, dat, h, Nat.min_eq_left (Nat.le_of_lt h)]
  · rw [List.take_of_length_le (by omega), List.take_of_length_le (by omega)]
    simp [dat, List.getElem?_eq_none (Nat.le_of_not_lt h)]
theorem dat_bd {ds : List Int} (h : Dg ds) (k : Nat) : 0 ≤ dat ds k ∧ dat ds k < 65536 := by
  by_cases hk : k < ds.length
  · simp only [dat, List.getElem?_eq_getElem hk, Option.getD_some]; exact h _ (List.getElem_mem _)
  · simp [dat, List.getElem?_eq_none (Nat.le_of_not_lt hk)]
theorem dat_of {ds : List Int} {k : Nat} (h : k < ds.length) : ds[k]? = some (dat ds k) := by simp [dat, h]
theorem dat_out {ds : List Int} {k : Nat} (h : ¬ k < ds.length) : dat ds k = 0 := by simp [dat, List.getElem?_eq_none (Nat.le_of_not_lt h)]
theorem Dg.snoc {ds : List Int} {d : Int} (h : Dg ds) (h1 : 0 ≤ d ∧ d < 65536) : Dg (ds ++ [d]) := by
  intro x hx
  rcases List.mem_append.1 hx with hx | hx
  · exact h x hx
  · simp at hx; subst hx; exact h1

/-- The carry ahead of place k, and the digits up to it. -/
def cry (a b : List Int) : Nat → Int
  | 0 => 0
  | k + 1 => (cry a b k + dat a k + dat b k) / 65536
def prow (a b : List Int) : Nat → List Int
  | 0 => []
  | k + 1 => prow a b k ++ [(cry a b k + dat a k + dat b k) % 65536]
theorem prow_len (a b : List Int) : ∀ k, (prow a b k).length = k
  | 0 => rfl
  | k + 1 => by simp [prow, prow_len a b k]
theorem cry_bd {a b : List Int} (ha : Dg a) (hb : Dg b) : ∀ k, 0 ≤ cry a b k ∧ cry a b k ≤ 1
  | 0 => by simp [cry]
  | k + 1 => by
    have := cry_bd ha hb k; have := dat_bd ha k; have := dat_bd hb k
    simp only [cry]; omega
theorem prow_dg (a b : List Int) : ∀ k, Dg (prow a b k)
  | 0 => fun _ h => by simp [prow] at h
  | k + 1 => (prow_dg a b k).snoc (by omega)
theorem prow_val (a b : List Int) : ∀ k, val (prow a b k) + 65536 ^ k * cry a b k = val (a.take k) + val (b.take k)
  | 0 => by simp [prow, cry, val]
  | k + 1 => by
    have ih := prow_val a b k
    rw [val_take, val_take]
    simp only [prow, cry, val_app, prow_len, val, Int.pow_succ]
    generalize hs : cry a b k + dat a k + dat b k = s
    generalize (65536 : Int) ^ k = p at *
    have e : s % 65536 + 65536 * (s / 65536) = s := Int.emod_add_mul_ediv s 65536
    have e2 : p * (s % 65536) + p * 65536 * (s / 65536) = p * s := by
      rw [Int.mul_assoc, ← Int.mul_add, e]
    have e3 : p * s = p * cry a b k + p * dat a k + p * dat b k := by rw [← hs, Int.mul_add, Int.mul_add]
    have e4 : s % 65536 + 65536 * 0 = s % 65536 := by omega
    rw [e4]; omega

/-- The digits of one taken from the other: what is owed ahead of place k. -/
def owe (a b : List Int) : Nat → Int
  | 0 => 0
  | k + 1 => if dat a k - owe a b k - dat b k < 0 then 1 else 0
def mrow (a b : List Int) : Nat → List Int
  | 0 => []
  | k + 1 => mrow a b k ++ [dat a k - owe a b k - dat b k + 65536 * owe a b (k + 1)]
theorem mrow_len (a b : List Int) : ∀ k, (mrow a b k).length = k
  | 0 => rfl
  | k + 1 => by simp [mrow, mrow_len a b k]
theorem owe_bd (a b : List Int) (k : Nat) : owe a b k = 0 ∨ owe a b k = 1 := by
  cases k with
  | zero => exact .inl rfl
  | succ k => simp only [owe]; split <;> simp
theorem mrow_dg {a b : List Int} (ha : Dg a) (hb : Dg b) : ∀ k, Dg (mrow a b k)
  | 0 => fun _ h => by simp [mrow] at h
  | k + 1 => by
    refine (mrow_dg ha hb k).snoc ?_
    have := dat_bd ha k; have := dat_bd hb k; have := owe_bd a b k
    simp only [owe]; split <;> omega
theorem mrow_val (a b : List Int) : ∀ k, val (mrow a b k) + val (b.take k) = val (a.take k) + 65536 ^ k * owe a b k
  | 0 => by simp [mrow, owe, val]
  | k + 1 => by
    have ih := mrow_val a b k
    rw [val_take, val_take]
    rw [show mrow a b (k + 1) = mrow a b k ++ [dat a k - owe a b k - dat b k + 65536 * owe a b (k + 1)] from rfl]
    simp only [val_app, mrow_len, val, Int.pow_succ]
    generalize owe a b (k + 1) = o
    generalize (65536 : Int) ^ k = p at *
    have e : p * (dat a k - owe a b k - dat b k + 65536 * o + 65536 * 0) = p * dat a k - p * owe a b k - p * dat b k + p * 65536 * o := by
      rw [Int.mul_zero, Int.add_zero, Int.mul_add, Int.mul_sub, Int.mul_sub, Int.mul_assoc]
    omega
theorem val_nonneg : ∀ {ds : List Int}, Dg ds → 0 ≤ val ds
  | [], _ => Int.le_refl 0
  | d :: r, h => by
    have h1 := h d (by simp)
    have h2 := val_nonneg (ds := r) fun x hx => h x (by simp [hx])
    simp only [val]; omega
theorem val_lt : ∀ {ds : List Int}, Dg ds → val ds < 65536 ^ ds.length
  | [], _ => by simp [val]
  | d :: r, h => by
    have h1 := h d (by simp)
    have h2 := val_lt (ds := r) fun x hx => h x (by simp [hx])
    simp only [val, List.length_cons, Int.pow_succ]; omega
/-- Where the greater is the one that is taken from, nothing is owed at the end. -/
theorem owe_end {a b : List Int} (ha : Dg a) (hb : Dg b) (hle : val b ≤ val a) (hl : b.length ≤ a.length) : owe a b a.length = 0 ∧ val (mrow a b a.length) = val a - val b := by
  have h := mrow_val a b a.length
  rw [List.take_length, List.take_of_length_le hl] at h
  have h1 := val_lt (mrow_dg ha hb a.length)
  rw [mrow_len] at h1
  have h2 := val_nonneg (mrow_dg ha hb a.length)
  rcases owe_bd a b a.length with e | e
  · rw [e] at h ⊢; exact ⟨rfl, by omega⟩
  · rw [e] at h; omega
end Go.Proofs.Ytffhbfdbahdhoab.Wd
namespace Go.Proofs.Ytffhbfdbahdhoab.Wd
open Go.RowKit Go.Shelf

/-- The slice v reads, in this world, as these digits. -/
def Rd (w : World) (v : Value) (ds : List Int) : Prop :=
  (v = .slice none 0 0 ∧ ds = []) ∨ ∃ g cap, v = .slice (some ⟨g, 0, none⟩) ds.length cap ∧ ds.length ≤ cap ∧ cap ≤ maxLen ∧ g < w.heap.size ∧ ∀ k d, ds[k]? = some d → w.cell? ⟨g, k, none⟩ = some (.int .i64 d)
theorem Rd.below {w w' : World} {v : Value} {ds : List Int} (h : Rd w v ds) (hb : Below w.heap.size w w') : Rd w' v ds := by
  rcases h with h | ⟨g, cap, h1, h2, h3, h4, h5⟩
  · exact .inl h
  · exact .inr ⟨g, cap, h1, h2, h3, Nat.lt_of_lt_of_le h4 hb.size, fun k d hk => keepc hb (h5 k d hk)⟩
theorem Rd.own {w : World} {base : Nat} {v : Value} {n : Nat} {ds : List Int} (h : w.ownsRow base 3 1 v n (ivs ds)) : Rd w v ds := by
  have hl : ds.length = n := by have := h.1; simpa [ivs_len] using this
  rcases h.2 with ⟨h1, h2⟩ | ⟨g, cap, cur, h1, _, h3, h4, h5, h6, h7⟩
  · subst h2; exact .inl ⟨h1, List.eq_nil_of_length_eq_zero hl⟩
  · subst hl
    refine .inr ⟨g, cap, h1, h4, h5, ?_, ?_⟩
    · exact (Array.getElem?_eq_some_iff.1 h3).1
    · intro k d hk
      have hkl : k < ds.length := (List.getElem?_eq_some_iff.1 hk).1
      have e1 : (ivs ds)[k]? = some (.int .i64 d) := by simp [ivs, hk]
      rw [← h7, Nat.mul_one] at e1
      rw [List.getElem?_take_of_lt hkl] at e1
      simp at e1
      simp [World.cell?, h3, e1]
/-- Its length and its parts, for the walk: the value as a slice with its own letters. -/
theorem Rd.parts {w : World} {v : Value} {ds : List Int} (h : Rd w v ds) : ∃ (ao : Option Addr) (cap : Nat), v = .slice ao ds.length cap ∧ ∀ k, k < ds.length → ∃ g, ao = some ⟨g, 0, none⟩ ∧ w.cell? ⟨g, k, none⟩ = some (.int .i64 (dat ds k)) := by
  rcases h with ⟨h1, h2⟩ | ⟨g, cap, h1, h2, h3, h4, h5⟩
  · subst h2; exact ⟨none, 0, h1, fun k hk => absurd hk (by simp)⟩
  · exact ⟨some ⟨g, 0, none⟩, cap, h1, fun k hk => ⟨g, rfl, h5 k _ (dat_of hk)⟩⟩
/-- A place's cell, as an address and its offset. -/
theorem Rd.block {w : World} {v : Value} {ds : List Int} (h : Rd w v ds) (h0 : 0 < ds.length) : ∃ g cap, v = .slice (some ⟨g, 0, none⟩) ds.length cap ∧ g < w.heap.size ∧ ∀ k, k < ds.length → w.cell? ⟨g, k, none⟩ = some (.int .i64 (dat ds k)) := by
  rcases h with ⟨h1, h2⟩ | ⟨g, cap, h1, h2, h3, h4, h5⟩
  · subst h2; simp at h0
  · exact ⟨g, cap, h1, h4, fun k hk => h5 k _ (dat_of hk)⟩

set_option maxHeartbeats 1600000 in
set_option maxRecDepth 100000 in
theorem minus_any (a b : List Int) (va vb : Value) (w : World) (ra : Rd w va a) (rb : Rd w vb b) (ha : Dg a) (hb : Dg b) (la : a.length ≤ 1048576) :
    Calls Try.prog 61 #[va, vb] w fun e w' => ∃ v, e = .returned v ∧ w'.ownsRow w.heap.size 3 1 v a.length (ivs (mrow a b a.length)) ∧ Below w.heap.size w w' := by
  obtain ⟨i0, hi, hz0, hz1, hz2⟩ := info_parts info_int
  obtain ⟨ao, ca, rfl, rda⟩ := ra.parts
  obtain ⟨bo, cb, rfl, rdb⟩ := rb.parts
  have HA := hid1 ha
  have HB := hid1 hb
  have RA := hid1 rda
  have RB := hid1 rdb
  clear ha hb rda rdb ra rb
  go_enter Try.func61, Try.ntmps61
  go_wp2
  go_loopw [5, 6, 7] (fun v o i wr => ∃ (k : Nat), k ≤ a.length ∧ o = .int .i64 (owe a b k) ∧ i = .int .i64 k ∧ wr.ownsRow w.heap.size 3 1 v k (ivs (mrow a b k)) ∧ Below w.heap.size w wr)
    (fun _ _ i _ => a.length - (intOf i).toNat)
  case atStart => exact ⟨0, Nat.zero_le _, rfl, rfl, World.ownsRow_nil _ _ _ _, Below.refl _ _⟩
  case round =>
    obtain ⟨k, hk, rfl, rfl, hown, hnx⟩ := hrel
    have hsize := hnx.size
    by_cases hlt : k < a.length
    · obtain ⟨g, rfl, c1⟩ := RA.out k hlt
      have c1 := keepc hnx c1
      obtain ⟨d1, d2⟩ := dat_bd HA.out k
      obtain ⟨d3, d4⟩ := dat_bd HB.out k
      have ho := owe_bd a b k
      have e1 : mrow a b (k + 1) = mrow a b k ++ [dat a k - owe a b k - dat b k + 65536 * owe a b (k + 1)] := rfl
      have e2 : owe a b (k + 1) = if dat a k - owe a b k - dat b k < 0 then 1 else 0 := rfl
      generalize owe a b k = o at *
      generalize dat a k = x at *
      by_cases hlb : k < b.length
      · obtain ⟨g', rfl, c2⟩ := RB.out k hlb
        have c2 := keepc hnx c2
        generalize dat b k = y at *
        by_cases ht : x - o - y < 0
        · have e3 : owe a b (k + 1) = 1 := by rw [e2, if_pos ht]
          have e4 : mrow a b (k + 1) = mrow a b k ++ [x - o - y + 65536] := by rw [e1, e3]; congr 2 <;> omega
          have H3 := hid1 e3
          have H4 := hid1 e4
          clear e1 e2 e3 e4
          go_wp2_with (first
          | (at_builtin; refine wpList_append_own _ rfl _ _ 74 rfl w.heap.size 3 i0 (.int .i64 0) 1 8 und_ints hi hz0 hz1 hz2 rfl (by decide) _ _ _ rfl (hown.alloc _) ⟨wr.heap.size, 0, none⟩ 1 1 [.int .i64 (x - o - y + 65536)] rfl rfl (cell_one_new _ _ _) (fun x hx => by simp at hx; subst hx; rfl) (by unfold maxLen; omega) (by omega) (by simp; omega) ?_; intro v' w3 hown' hgrow3 hnil3))
          exact ⟨⟨k + 1, by omega, by rw [H3.out], by go_num, by rw [H4.out, ivs_snoc]; exact hown', (hnx.alloc hsize _).grown hgrow3 (by simp; omega) (fun q hq => (hown.lt q hq).1)⟩, by simp [intOf]; omega⟩
        · have e3 : owe a b (k + 1) = 0 := by rw [e2, if_neg ht]
          have e4 : mrow a b (k + 1) = mrow a b k ++ [x - o - y] := by rw [e1, e3]; congr 2 <;> omega
          have H3 := hid1 e3
          have H4 := hid1 e4
          clear e1 e2 e3 e4
          go_wp2_with (first
          | (at_builtin; refine wpList_append_own _ rfl _ _ 74 rfl w.heap.size 3 i0 (.int .i64 0) 1 8 und_ints hi hz0 hz1 hz2 rfl (by decide) _ _ _ rfl (hown.alloc _) ⟨wr.heap.size, 0, none⟩ 1 1 [.int .i64 (x - o - y)] rfl rfl (cell_one_new _ _ _) (fun x hx => by simp at hx; subst hx; rfl) (by unfold maxLen; omega) (by omega) (by simp; omega) ?_; intro v' w3 hown' hgrow3 hnil3))
          exact ⟨⟨k + 1, by omega, by rw [H3.out], by go_num, by rw [H4.out, ivs_snoc]; exact hown', (hnx.alloc hsize _).grown hgrow3 (by simp; omega) (fun q hq => (hown.lt q hq).1)⟩, by simp [intOf]; omega⟩
      · rw [dat_out hlb] at e1 e2
        by_cases ht : x - o < 0
        · have e3 : owe a b (k + 1) = 1 := by rw [e2, if_pos (by omega)]
          have e4 : mrow a b (k + 1) = mrow a b k ++ [x - o + 65536] := by rw [e1, e3]; congr 2 <;> omega
          have H3 := hid1 e3
          have H4 := hid1 e4
          clear e1 e2 e3 e4
          go_wp2_with (first
          | (at_builtin; refine wpList_append_own _ rfl _ _ 74 rfl w.heap.size 3 i0 (.int .i64 0) 1 8 und_ints hi hz0 hz1 hz2 rfl (by decide) _ _ _ rfl (hown.alloc _) ⟨wr.heap.size, 0, none⟩ 1 1 [.int .i64 (x - o + 65536)] rfl rfl (cell_one_new _ _ _) (fun x hx => by simp at hx; subst hx; rfl) (by unfold maxLen; omega) (by omega) (by simp; omega) ?_; intro v' w3 hown' hgrow3 hnil3))
          exact ⟨⟨k + 1, by omega, by rw [H3.out], by go_num, by rw [H4.out, ivs_snoc]; exact hown', (hnx.alloc hsize _).grown hgrow3 (by simp; omega) (fun q hq => (hown.lt q hq).1)⟩, by simp [intOf]; omega⟩
        · have e3 : owe a b (k + 1) = 0 := by rw [e2, if_neg (by omega)]
          have e4 : mrow a b (k + 1) = mrow a b k ++ [x - o] := by rw [e1, e3]; congr 2 <;> omega
          have H3 := hid1 e3
          have H4 := hid1 e4
          clear e1 e2 e3 e4
          go_wp2_with (first
          | (at_builtin; refine wpList_append_own _ rfl _ _ 74 rfl w.heap.size 3 i0 (.int .i64 0) 1 8 und_ints hi hz0 hz1 hz2 rfl (by decide) _ _ _ rfl (hown.alloc _) ⟨wr.heap.size, 0, none⟩ 1 1 [.int .i64 (x - o)] rfl rfl (cell_one_new _ _ _) (fun x hx => by simp at hx; subst hx; rfl) (by unfold maxLen; omega) (by omega) (by simp; omega) ?_; intro v' w3 hown' hgrow3 hnil3))
          exact ⟨⟨k + 1, by omega, by rw [H3.out], by go_num, by rw [H4.out, ivs_snoc]; exact hown', (hnx.alloc hsize _).grown hgrow3 (by simp; omega) (fun q hq => (hown.lt q hq).1)⟩, by simp [intOf]; omega⟩
    · have hk4 : k = a.length := by omega
      subst hk4
      go_wp2
      go_ret
      exact ⟨_, rfl, hown, hnx⟩
end Go.Proofs.Ytffhbfdbahdhoab.Wd
namespace Go.Proofs.Ytffhbfdbahdhoab.Wd
open Go.RowKit Go.Shelf

def top (a b : List Int) : Nat := max a.length b.length
theorem cry_none {a b : List Int} : cry a b (top a b + 1) = cry a b (top a b) / 65536 := by
  have h1 : ¬ top a b < a.length := by unfold top; omega
  have h2 : ¬ top a b < b.length := by unfold top; omega
  simp only [cry, dat_out h1, dat_out h2, Int.add_zero]
theorem plus_val {a b : List Int} {k : Nat} (h1 : a.length ≤ k) (h2 : b.length ≤ k) (h3 : cry a b k = 0) : val (prow a b k) = val a + val b := by
  have h := prow_val a b k
  rw [List.take_of_length_le h1, List.take_of_length_le h2, h3] at h
  omega

set_option maxHeartbeats 1600000 in
set_option maxRecDepth 100000 in
theorem plus_digits (a b : List Int) (va vb : Value) (w : World) (ra : Rd w va a) (rb : Rd w vb b) (ha : Dg a) (hb : Dg b) (la : a.length ≤ 1048576) (lb : b.length ≤ 1048576) :
    Calls Try.prog 59 #[va, vb] w fun e w' => ∃ v, e = .returned v ∧ ∃ ds, w'.ownsRow w.heap.size 3 1 v ds.length (ivs ds) ∧ Dg ds ∧ val ds = val a + val b ∧ ds.length ≤ top a b + 1 ∧ Below w.heap.size w w' := by
  obtain ⟨i0, hi, hz0, hz1, hz2⟩ := info_parts info_int
  obtain ⟨ao, ca, rfl, rda⟩ := ra.parts
  obtain ⟨bo, cb, rfl, rdb⟩ := rb.parts
  have HA := hid1 ha
  have HB := hid1 hb
  have RA := hid1 rda
  have RB := hid1 rdb
  have ht1 : a.length ≤ top a b := by unfold top; omega
  have ht2 : b.length ≤ top a b := by unfold top; omega
  have ht3 : top a b ≤ 1048576 := by unfold top; omega
  have HC := hid1 (cry_none (a := a) (b := b))
  have htl : ∀ k : Nat, a.length ≤ k → b.length ≤ k → top a b ≤ k := fun k h1 h2 => by unfold top; omega
  have HT := hid1 htl
  clear ha hb rda rdb ra rb htl
  go_enter Try.func59, Try.ntmps59
  go_wp2
  go_loopw [5, 6, 7] (fun v o i wr => ∃ (k : Nat), k ≤ top a b + 1 ∧ (k = top a b + 1 → cry a b k = 0) ∧ o = .int .i64 (cry a b k) ∧ i = .int .i64 k ∧ wr.ownsRow w.heap.size 3 1 v k (ivs (prow a b k)) ∧ Below w.heap.size w wr)
    (fun _ _ i _ => top a b + 1 - (intOf i).toNat)
  case atStart => exact ⟨0, Nat.zero_le _, fun _ => rfl, rfl, rfl, World.ownsRow_nil _ _ _ _, Below.refl _ _⟩
  case round =>
    obtain ⟨k, hk, hlast, rfl, rfl, hown, hnx⟩ := hrel
    have hsize := hnx.size
    have hnext : k + 1 = top a b + 1 → cry a b (k + 1) = 0 := by
      intro h
      have h' : k = top a b := by omega
      rw [h', HC.out]
      have := cry_bd HA.out HB.out (top a b)
      omega
    have HX := hid1 hnext
    clear hnext
    by_cases hgo : k < a.length ∨ k < b.length ∨ 0 < cry a b k
    · have hk1 : k < top a b + 1 := by
        rcases hgo with h | h | h
        · omega
        · omega
        · rcases Nat.lt_or_ge k (top a b + 1) with h' | h'
          · exact h'
          · have := hlast (by omega); omega
      obtain ⟨d1, d2⟩ := dat_bd HA.out k
      obtain ⟨d3, d4⟩ := dat_bd HB.out k
      obtain ⟨o1, o2⟩ := cry_bd HA.out HB.out k
      have e1 : prow a b (k + 1) = prow a b k ++ [(cry a b k + dat a k + dat b k) % 65536] := rfl
      have e2 : cry a b (k + 1) = (cry a b k + dat a k + dat b k) / 65536 := rfl
      clear hlast
      generalize cry a b k = o at *
      by_cases hla : k < a.length
      · obtain ⟨g, rfl, c1⟩ := RA.out k hla
        have c1 := keepc hnx c1
        generalize dat a k = x at *
        clear hgo
        by_cases hlb : k < b.length
        · obtain ⟨g', rfl, c2⟩ := RB.out k hlb
          have c2 := keepc hnx c2
          generalize dat b k = y at *
          have H3 := hid1 e2
          have H4 := hid1 e1
          clear e1 e2
          go_wp2_with (first
          | (at_builtin; refine wpList_append_own _ rfl _ _ 74 rfl w.heap.size 3 i0 (.int .i64 0) 1 8 und_ints hi hz0 hz1 hz2 rfl (by decide) _ _ _ rfl (hown.alloc _) ⟨wr.heap.size, 0, none⟩ 1 1 [.int .i64 ((o + x + y) % 65536)] rfl rfl (cell_one_new _ _ _) (fun x hx => by simp at hx; subst hx; rfl) (by unfold maxLen; omega) (by omega) (by simp; omega) ?_; intro v' w3 hown' hgrow3 hnil3))
          exact ⟨⟨k + 1, by omega, HX.out, by rw [H3.out], by go_num, by rw [H4.out, ivs_snoc]; exact hown', (hnx.alloc hsize _).grown hgrow3 (by simp; omega) (fun q hq => (hown.lt q hq).1)⟩, by simp [intOf]; omega⟩
        · rw [dat_out hlb, Int.add_zero] at e1 e2
          have H3 := hid1 e2
          have H4 := hid1 e1
          clear e1 e2
          go_wp2_with (first
          | (at_builtin; refine wpList_append_own _ rfl _ _ 74 rfl w.heap.size 3 i0 (.int .i64 0) 1 8 und_ints hi hz0 hz1 hz2 rfl (by decide) _ _ _ rfl (hown.alloc _) ⟨wr.heap.size, 0, none⟩ 1 1 [.int .i64 ((o + x) % 65536)] rfl rfl (cell_one_new _ _ _) (fun x hx => by simp at hx; subst hx; rfl) (by unfold maxLen; omega) (by omega) (by simp; omega) ?_; intro v' w3 hown' hgrow3 hnil3))
          exact ⟨⟨k + 1, by omega, HX.out, by rw [H3.out], by go_num, by rw [H4.out, ivs_snoc]; exact hown', (hnx.alloc hsize _).grown hgrow3 (by simp; omega) (fun q hq => (hown.lt q hq).1)⟩, by simp [intOf]; omega⟩
      · rw [dat_out hla, Int.add_zero] at e1 e2
        by_cases hlb : k < b.length
        · obtain ⟨g', rfl, c2⟩ := RB.out k hlb
          have c2 := keepc hnx c2
          generalize dat b k = y at *
          clear hgo
          have H3 := hid1 e2
          have H4 := hid1 e1
          clear e1 e2
          go_wp2_with (first
          | (at_builtin; refine wpList_append_own _ rfl _ _ 74 rfl w.heap.size 3 i0 (.int .i64 0) 1 8 und_ints hi hz0 hz1 hz2 rfl (by decide) _ _ _ rfl (hown.alloc _) ⟨wr.heap.size, 0, none⟩ 1 1 [.int .i64 ((o + y) % 65536)] rfl rfl (cell_one_new _ _ _) (fun x hx => by simp at hx; subst hx; rfl) (by unfold maxLen; omega) (by omega) (by simp; omega) ?_; intro v' w3 hown' hgrow3 hnil3))
          exact ⟨⟨k + 1, by omega, HX.out, by rw [H3.out], by go_num, by rw [H4.out, ivs_snoc]; exact hown', (hnx.alloc hsize _).grown hgrow3 (by simp; omega) (fun q hq => (hown.lt q hq).1)⟩, by simp [intOf]; omega⟩
        · rw [dat_out hlb, Int.add_zero] at e1 e2
          have ho : 0 < o := by omega
          clear hgo
          have H3 := hid1 e2
          have H4 := hid1 e1
          clear e1 e2
          go_wp2_with (first
          | (at_builtin; refine wpList_append_own _ rfl _ _ 74 rfl w.heap.size 3 i0 (.int .i64 0) 1 8 und_ints hi hz0 hz1 hz2 rfl (by decide) _ _ _ rfl (hown.alloc _) ⟨wr.heap.size, 0, none⟩ 1 1 [.int .i64 ((o) % 65536)] rfl rfl (cell_one_new _ _ _) (fun x hx => by simp at hx; subst hx; rfl) (by unfold maxLen; omega) (by omega) (by simp; omega) ?_; intro v' w3 hown' hgrow3 hnil3))
          exact ⟨⟨k + 1, by omega, HX.out, by rw [H3.out], by go_num, by rw [H4.out, ivs_snoc]; exact hown', (hnx.alloc hsize _).grown hgrow3 (by simp; omega) (fun q hq => (hown.lt q hq).1)⟩, by simp [intOf]; omega⟩
    · have h1 : ¬ k < a.length := fun h => hgo (.inl h)
      have h2 : ¬ k < b.length := fun h => hgo (.inr (.inl h))
      have h3 : ¬ 0 < cry a b k := fun h => hgo (.inr (.inr h))
      have h4 := (cry_bd HA.out HB.out k).1
      have h5 : cry a b k = 0 := by omega
      have H5 := hid1 (plus_val (Nat.le_of_not_lt h1) (Nat.le_of_not_lt h2) h5)
      clear hgo h4 h5 hlast
      generalize cry a b k = o at *
      go_wp2
      go_ret
      exact ⟨_, rfl, prow a b k, by rw [prow_len]; exact hown, prow_dg a b k, H5.out, by rw [prow_len]; exact hk, hnx⟩
end Go.Proofs.Ytffhbfdbahdhoab.Wd
namespace Go.Proofs.Ytffhbfdbahdhoab.Wd
open Go.RowKit Go.Shelf

/-- How many of the first k digits are left when the noughts at the top go. -/
def trimN (ds : List Int) : Nat → Nat
  | 0 => 0
  | k + 1 => if dat ds k = 0 then trimN ds k else k + 1
def trimL (ds : List Int) : List Int := ds.take (trimN ds ds.length)
theorem trimN_le (ds : List Int) : ∀ k, trimN ds k ≤ k
  | 0 => Nat.le_refl 0
  | k + 1 => by
    have := trimN_le ds k
    simp only [trimN]; split <;> omega
theorem trimL_len (ds : List Int) : (trimL ds).length = trimN ds ds.length := by
  have := trimN_le ds ds.length
  simp [trimL, this]
theorem trim_val (ds : List Int) : ∀ k, val (ds.take (trimN ds k)) = val (ds.take k)
  | 0 => rfl
  | k + 1 => by
    simp only [trimN]
    split
    · next h => rw [trim_val ds k, val_take, h]; omega
    · rfl
theorem trimL_val (ds : List Int) : val (trimL ds) = val ds := by
  unfold trimL; rw [trim_val, List.take_length]
theorem trimL_dg {ds : List Int} (h : Dg ds) : Dg (trimL ds) := fun d hd => h d (List.mem_of_mem_take hd)
/-- No nought at the top. -/
def Tr (ds : List Int) : Prop := ds = [] ∨ dat ds (ds.length - 1) ≠ 0
theorem trimN_top (ds : List Int) : ∀ k, trimN ds k = 0 ∨ dat ds (trimN ds k - 1) ≠ 0
  | 0 => .inl rfl
  | k + 1 => by
    simp only [trimN]
    split
    · exact trimN_top ds k
    · next h => exact .inr h
theorem trimL_tr (ds : List Int) : Tr (trimL ds) := by
  rcases trimN_top ds ds.length with h | h
  · left; unfold trimL; rw [h]; rfl
  · by_cases h0 : trimN ds ds.length = 0
    · left; unfold trimL; rw [h0]; rfl
    · right; rw [trimL_len]; unfold trimL
      intro e; apply h
      rw [← e]; unfold dat; rw [List.getElem?_take_of_lt (by omega)]

def bv (s : Bool) (v : Value) : Value := .agg #[.bool s, v]
theorem trimL_nil : trimL [] = [] := rfl
set_option maxHeartbeats 1600000 in
set_option maxRecDepth 100000 in
theorem trim_nil (s : Bool) (w : World) :
    Calls Try.prog 57 #[.agg #[.bool s, .slice none 0 0]] w fun e w' => e = .returned (.agg #[.bool false, .slice none 0 0]) ∧ Below w.heap.size w w' := by
  go_enter Try.func57, Try.ntmps57
  go_wp2
  go_loop [3] (fun i => i = .int .i64 0) (fun i => (intOf i).toNat)
  case atStart => rfl
  case round =>
    subst hrel
    go_wp2
    simp [bodyPost, results, Try.results57, go_sem]
    repeat (first | exact Below.refl _ _ | refine bl_alloc ?_ _ | refine Below.drew ?_ | refine bl_set ?_ (by omega) _ | refine bl_step ?_ (by assumption))

set_option maxHeartbeats 1600000 in
set_option maxRecDepth 100000 in
theorem trim_block (s : Bool) (g cap : Nat) (ds : List Int) (w : World) (hg : g < w.heap.size) (hcap : ds.length ≤ cap) (hmax : cap ≤ maxLen) (rd : ∀ k, k < ds.length → w.cell? ⟨g, k, none⟩ = some (.int .i64 (dat ds k))) :
    Calls Try.prog 57 #[.agg #[.bool s, .slice (some ⟨g, 0, none⟩) ds.length cap]] w fun e w' => e = .returned (.agg #[.bool (s && !(trimL ds).isEmpty), .slice (some ⟨g, 0, none⟩) (trimL ds).length cap]) ∧ Below w.heap.size w w' := by
  have RD := hid1 rd
  clear rd
  unfold maxLen at hmax
  go_enter Try.func57, Try.ntmps57
  go_wp2
  go_loop [3] (fun i => ∃ (k : Nat), k ≤ ds.length ∧ i = .int .i64 k ∧ trimN ds k = trimN ds ds.length) (fun i => (intOf i).toNat)
  case atStart => exact ⟨ds.length, Nat.le_refl _, rfl, rfl⟩
  case round =>
    obtain ⟨k, hk, rfl, ht⟩ := hrel
    have HT := hid1 ht
    clear ht
    cases k with
    | zero =>
      have h0 : (trimL ds).length = 0 := by rw [trimL_len, ← HT.out]; rfl
      have h1 : trimL ds = [] := List.eq_nil_of_length_eq_zero h0
      have H1 := hid1 h1
      clear h0 h1
      go_wp2
      simp [bodyPost, results, Try.results57, go_sem, H1.out]
      repeat (first | exact Below.refl _ _ | refine bl_alloc ?_ _ | refine Below.drew ?_ | refine bl_set ?_ (by omega) _ | refine bl_step ?_ (by assumption))
    | succ j =>
      have c1 := RD.out j (by omega)
      have hgz : g ≠ w.heap.size := by omega
      by_cases hd : dat ds j = 0
      · have H1 : Hid (trimN ds j = trimN ds ds.length) := hid1 (by rw [← HT.out]; simp only [trimN, if_pos hd])
        rw [hd] at c1
        go_wp2
        exact ⟨⟨j, by omega, rfl, H1.out⟩, by simp [intOf]⟩
      · have h0 : (trimL ds).length = j + 1 := by rw [trimL_len, ← HT.out]; simp only [trimN, if_neg hd]
        have h1 : (trimL ds).isEmpty = false := by
          rcases hL : trimL ds with _ | ⟨x, r⟩
          · rw [hL] at h0; simp at h0
          · rfl
        have H0 := hid1 h0
        have H1 := hid1 h1
        clear h0 h1
        generalize dat ds j = x at *
        go_wp2
        simp [bodyPost, results, Try.results57, go_sem, H0.out, H1.out]
        repeat (first | exact Below.refl _ _ | refine bl_alloc ?_ _ | refine Below.drew ?_ | refine bl_set ?_ (by omega) _ | refine bl_step ?_ (by assumption))
theorem trim_any (s : Bool) (v : Value) (ds : List Int) (w : World) (r : Rd w v ds) :
    Calls Try.prog 57 #[bv s v] w fun e w' => ∃ v', e = .returned (bv (s && !(trimL ds).isEmpty) v') ∧ Rd w' v' (trimL ds) ∧ Below w.heap.size w w' := by
  rcases r with ⟨h1, h2⟩ | ⟨g, cap, h1, h2, h3, h4, h5⟩
  · subst h1 h2
    refine (trim_nil s w).mono ?_
    rintro e w' ⟨rfl, hb⟩
    exact ⟨.slice none 0 0, by simp [bv, trimL_nil], .inl ⟨rfl, rfl⟩, hb⟩
  · subst h1
    refine (trim_block s g cap ds w h4 h2 h3 fun k hk => h5 k _ (dat_of hk)).mono ?_
    rintro e w' ⟨rfl, hb⟩
    have hle := trimN_le ds ds.length
    refine ⟨_, rfl, .inr ⟨g, cap, rfl, by rw [trimL_len]; omega, h3, Nat.lt_of_lt_of_le h4 hb.size, fun k d hk => keepc hb (h5 k d ?_)⟩, hb⟩
    have hkl : k < (trimL ds).length := (List.getElem?_eq_some_iff.1 hk).1
    rw [trimL_len] at hkl
    unfold trimL at hk
    rwa [List.getElem?_take_of_lt hkl] at hk
end Go.Proofs.Ytffhbfdbahdhoab.Wd
namespace Go.Proofs.Ytffhbfdbahdhoab.Wd
open Go.RowKit Go.Shelf

theorem pow_pos' (k : Nat) : (0 : Int) < 65536 ^ k := Int.pow_pos (by decide)
theorem pow_le_pow' {m n : Nat} (h : m ≤ n) : (65536 : Int) ^ m ≤ 65536 ^ n := by
  obtain ⟨d, rfl⟩ := Nat.exists_eq_add_of_le h
  rw [Int.pow_add]
  have h1 := pow_pos' m
  have h2 := pow_pos' d
  have h3 : (65536 : Int) ^ m * 1 ≤ 65536 ^ m * 65536 ^ d := Int.mul_le_mul_of_nonneg_left (by omega) (Int.le_of_lt h1)
  rwa [Int.mul_one] at h3
theorem take_dg {ds : List Int} (h : Dg ds) (k : Nat) : Dg (ds.take k) := fun d hd => h d (List.mem_of_mem_take hd)
theorem take_lt {ds : List Int} (h : Dg ds) {k : Nat} (hk : k ≤ ds.length) : val (ds.take k) < 65536 ^ k := by
  have := val_lt (take_dg h k)
  rwa [List.length_take, Nat.min_eq_left hk] at this
/-- Digits that differ at place i and agree above. -/
theorem cmp_at {a b : List Int} (ha : Dg a) (hb : Dg b) {i : Nat} (hia : i ≤ a.length) (hlt : dat a i < dat b i) : val (a.take (i + 1)) < val (b.take (i + 1)) := by
  rw [val_take, val_take]
  have h1 := take_lt ha hia
  have h2 := val_nonneg (take_dg hb i)
  have h3 : (65536 : Int) ^ i * (dat a i + 1) ≤ 65536 ^ i * dat b i := Int.mul_le_mul_of_nonneg_left (by omega) (Int.le_of_lt (pow_pos' i))
  rw [Int.mul_add, Int.mul_one] at h3
  omega
theorem cmp_above {a b : List Int} : ∀ (n i : Nat), (∀ j, i ≤ j → j < i + n → dat a j = dat b j) → val (a.take (i + n)) - val (b.take (i + n)) = val (a.take i) - val (b.take i)
  | 0, i, _ => rfl
  | n + 1, i, h => by
    have e := cmp_above n i fun j h1 h2 => h j h1 (by omega)
    have e1 := h (i + n) (by omega) (by omega)
    rw [← Nat.add_assoc, val_take, val_take, e1]
    omega
theorem cmp_len {a b : List Int} (ha : Dg a) (hb : Dg b) (tb : Tr b) (h : a.length < b.length) : val a < val b := by
  have h1 := val_lt ha
  have h2 : dat b (b.length - 1) ≠ 0 := by
    rcases tb with rfl | h'
    · simp at h
    · exact h'
  have h3 := dat_bd hb (b.length - 1)
  have h4 := val_take b (b.length - 1)
  rw [show b.length - 1 + 1 = b.length by omega, List.take_length] at h4
  have h5 := val_nonneg (take_dg hb (b.length - 1))
  have h6 : (65536 : Int) ^ (b.length - 1) * 1 ≤ 65536 ^ (b.length - 1) * dat b (b.length - 1) := Int.mul_le_mul_of_nonneg_left (by omega) (Int.le_of_lt (pow_pos' _))
  have h7 : (65536 : Int) ^ a.length ≤ 65536 ^ (b.length - 1) := pow_le_pow' (by omega)
  omega

set_option maxHeartbeats 1600000 in
set_option maxRecDepth 100000 in
theorem compare_any (a b : List Int) (va vb : Value) (w : World) (ra : Rd w va a) (rb : Rd w vb b) (ha : Dg a) (hb : Dg b) (ta : Tr a) (tb : Tr b) (la : a.length ≤ 1048576) (lb : b.length ≤ 1048576) :
    Calls Try.prog 60 #[va, vb] w fun e w' => ∃ r, e = .returned (.int .i64 r) ∧ (0 ≤ r ↔ val b ≤ val a) ∧ Below w.heap.size w w' := by
  obtain ⟨ao, ca, rfl, rda⟩ := ra.parts
  obtain ⟨bo, cb, rfl, rdb⟩ := rb.parts
  have HA := hid1 ha
  have HB := hid1 hb
  have RA := hid1 rda
  have RB := hid1 rdb
  have TA := hid1 ta
  have TB := hid1 tb
  clear ha hb rda rdb ra rb ta tb
  by_cases hle : a.length = b.length
  · go_enter Try.func60, Try.ntmps60
    go_wp2
    go_loopw [5] (fun i wr => ∃ (k : Nat), k ≤ a.length ∧ i = .int .i64 (k - 1) ∧ val a - val b = val (a.take k) - val (b.take k) ∧ Below w.heap.size w wr) (fun i _ => (intOf i + 1).toNat)
    case atStart => exact ⟨a.length, Nat.le_refl _, by first | rfl | rw [hle], by rw [List.take_length, List.take_of_length_le (by omega)], Below.refl _ _⟩
    case round =>
      obtain ⟨k, hk, rfl, hv, hnx⟩ := hrel
      have HV := hid1 hv
      clear hv
      cases k with
      | zero =>
        go_wp2
        go_ret
        have e := HV.out
        simp [val] at e
        exact ⟨_, rfl, by omega, hnx⟩
      | succ j =>
        obtain ⟨g, rfl, c1⟩ := RA.out j (by omega)
        obtain ⟨g', rfl, c2⟩ := RB.out j (by omega)
        have c1 := keepc hnx c1
        have c2 := keepc hnx c2
        have e0 : ((j + 1 : Nat) : Int) - 1 = (j : Int) := by omega
        rw [e0]
        by_cases he : dat a j = dat b j
        · rw [he] at c1
          have H1 : Hid (val a - val b = val (a.take j) - val (b.take j)) := hid1 (by rw [HV.out, val_take, val_take, he]; omega)
          generalize dat b j = x at *
          have h1 : (j : Int) < a.length := by omega
          have h2 : (j : Int) < b.length := by omega
          go_wp2
          go_quiet (fail)
          go_wp2
          exact ⟨⟨j, by omega, by go_num, H1.out, by repeat (first | exact hnx | refine Below.drew ?_ | refine bl_drewN ?_ _)⟩, by simp [intOf]⟩
        · have H1 : Hid (0 ≤ dat a j - dat b j ↔ val b ≤ val a) := hid1 (by
            have e := HV.out
            rcases (show dat a j < dat b j ∨ dat b j < dat a j by omega) with h | h
            · have := cmp_at HA.out HB.out (by omega) h; omega
            · have := cmp_at HB.out HA.out (by omega) h; omega)
          obtain ⟨d1, d2⟩ := dat_bd HA.out j
          obtain ⟨d3, d4⟩ := dat_bd HB.out j
          generalize dat b j = x at *
          generalize dat a j = y at *
          have h1 : (j : Int) < a.length := by omega
          have h2 : (j : Int) < b.length := by omega
          go_wp2
          go_quiet (fail)
          go_wp2
          go_quiet (fail)
          go_wp2
          go_ret
          exact ⟨_, rfl, H1.out, by repeat (first | exact hnx | refine Below.drew ?_ | refine bl_drewN ?_ _)⟩
  · go_enter Try.func60, Try.ntmps60
    go_wp2
    go_ret
    refine ⟨_, rfl, ?_, Below.refl _ _⟩
    rcases (show a.length < b.length ∨ b.length < a.length by omega) with h | h
    · have := cmp_len HA.out HB.out TB.out h; omega
    · have := cmp_len HB.out HA.out TA.out h; omega
end Go.Proofs.Ytffhbfdbahdhoab.Wd
