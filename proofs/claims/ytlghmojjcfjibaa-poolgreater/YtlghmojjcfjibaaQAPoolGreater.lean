import Derived.Test.YtlghmojjcfjibaaBW11
import Derived.ProofKit
import Derived.OpenShut
import Derived.ChangeOld
import Derived.SizedLaws
import Derived.Test.YtlghmojjcfjibaaBW12
import Derived.ChangeSlices
import Derived.Test.YtlghmojjcfjibaaSW2
import Derived.Test.YtlghmojjcfjibaaSW3
import Derived.Deep.Slices
import Derived.Test.YtlghmojjcfjibaaUL1
import Derived.Test.YtlghmojjcfjibaaUM2
import Derived.Test.YtlghmojjcfjibaaKW4
import Derived.Test.YtlghmojjcfjibaaUL2
import Derived.Deep.DeepAppendWide
import Derived.Laws.AppendOwnNone
import Derived.Laws.OwnMore
/- WHAT EVERY ROW OF THIS SEAT WANTS. -/
namespace Go.Proofs.Ytlghmojjcfjibaa
open Go.ChangeShapes Go.WideShapes Go.ChangeAt Go.RowKit

theorem own : ownKnob Try.prog.godebug = none := by kernel_rfl
theorem laidOut : laidOutB Try.prog = true := by kernel_rfl
theorem i64_of_wf {x : Int} (h : (Lit.int .i64 x).wf = true) : -9223372036854775808 ≤ x ∧ x ≤ 9223372036854775807 := by
  simp [Lit.wf, IntKind.min, IntKind.max, IntKind.signed, IntKind.bits] at h
  exact ⟨by omega, by omega⟩
end Go.Proofs.Ytlghmojjcfjibaa
/- PARAMETERS THAT ARE LISTS OF SMALL NUMBERS. -/
namespace Go.Proofs.Ytlghmojjcfjibaa
open Go.ChangeShapes Go.WideShapes Go.ChangeAt Go.RowKit
set_option maxRecDepth 100000

theorem reach_is : reachBytes = 140737488351232 := by decide
theorem cells_i8 : Try.prog.cellsOf 86 = 1 := by kernel_rfl
theorem bytes_i8 : Try.prog.bytesOf 86 = 1 := by kernel_rfl
theorem open_i8 {H : Type} {enc : TypeId × Value → H} {W : World} {base : Nat} {v : Value} {d : DataW H} {p : List MemPlace}
    (hv : Value.okWide Try.prog W .any base 40 v) (h : DataW.Trod enc Try.prog W 0 (fun _ => true) true 40 v d p) :
    ∃ (ao : Option Addr) (l : List Int) (cap : Nat), v = .slice ao l.length cap ∧ l.length ≤ cap ∧ (ao = none → l.length = 0 ∧ cap = 0) ∧ R8 W ao l ∧
      ((d = .nil ∧ cap = 0) ∨ ∃ es sp, d = .slice es sp ∧ es.length + sp.length = cap) := by
  obtain ⟨a0, len, cap, rfl⟩ := okWide_slice und_i8s hv
  obtain ⟨fuel, hf⟩ := h
  rcases open_ints und_i8s Try.underlying86 cells_i8 hf with ⟨hc, hx⟩ | ⟨a, len', cap', zs, hc, _, hl, _, hz, hx, hcell, _⟩
  · simp [Value.cells] at hc
    obtain ⟨rfl, rfl, rfl⟩ := hc
    simp only [Prod.mk.injEq] at hx
    exact ⟨none, [], 0, rfl, Nat.le_refl _, fun _ => ⟨rfl, rfl⟩, fun k hk => absurd hk (by simp), .inl ⟨hx.1, rfl⟩⟩
  · simp [Value.cells] at hc
    obtain ⟨rfl, rfl, rfl⟩ := hc
    simp only [if_true] at hz
    simp only [Prod.mk.injEq] at hx
    have hlen : (zs.take len).length = len := by simp; omega
    refine ⟨some a, zs.take len, cap, by rw [hlen], by rw [hlen]; exact hl, fun e => (by cases e), ?_, .inr ⟨_, _, hx.1, by simp [lits]; omega⟩⟩
    intro k hk
    rw [hlen] at hk
    have c := hcell k (by omega)
    have c0 := hcell 0 (by omega)
    have hs := World.cell?_spot c0
    obtain ⟨b, o, s⟩ := a
    simp [Addr.add] at hs
    subst hs
    refine ⟨b, o, rfl, ?_⟩
    have e1 : ia (zs.take len) k = zs.getD k 0 := ia_take hk
    rw [e1, ← c]
    by_cases h0 : k = 0
    · subst h0; rfl
    · simp [Addr.add, h0]
end Go.Proofs.Ytlghmojjcfjibaa
/- PARAMETERS THAT ARE A SHAPE, A WINDOW. -/
namespace Go.Proofs.Ytlghmojjcfjibaa
open Go.ChangeShapes Go.WideShapes Go.ChangeAt Go.RowKit
set_option maxRecDepth 100000

theorem fldF {H : Type} {enc : TypeId × Value → H} {P : Program} {w : World} {base : Nat} {sp : Nat → Bool} {held : Bool} {t : TypeId} {fs : Array Field} {fuel : Nat} {cs : List Value} {x : DataW H × List MemPlace}
    (ht : P.underlying t = some (.struct fs)) (h : DataW.trod enc P w base sp held fuel t cs = some x) (i : Nat) (f : Field) (hi : fs[i]? = some f) :
    ∃ n y, DataW.trod enc P w base sp held n f.type ((cs.drop f.offset).take (P.cellsOf f.type)) = some y := by
  obtain ⟨xs, n, _, _, _, hxl, hf⟩ := DataW.trod_struct ht h
  have g := hf i f hi
  have hlt : i < xs.length := by
    rw [hxl]
    exact (Array.getElem?_eq_some_iff.1 hi).1
  rw [List.getElem?_eq_getElem hlt] at g
  exact ⟨n, _, g⟩
theorem fldIF {H : Type} {enc : TypeId × Value → H} {P : Program} {w : World} {base : Nat} {sp : Nat → Bool} {held : Bool} {t : TypeId} {fs : Array Field} {fuel : Nat} {cs : List Value} {x : DataW H × List MemPlace}
    (ht : P.underlying t = some (.struct fs)) (h : DataW.trod enc P w base sp held fuel t cs = some x) (i : Nat) (f : Field) (hi : fs[i]? = some f) (hu : P.underlying f.type = some (.int .i64)) (hc : P.cellsOf f.type = 1) :
    ∃ z : Int, (cs.drop f.offset).take 1 = [.int .i64 z] := by
  obtain ⟨n, y, g⟩ := fldF ht h i f hi
  rw [hc] at g
  obtain ⟨z, e, _⟩ := DataW.trod_int hu g
  exact ⟨z, e⟩
theorem cells_intF : Try.prog.cellsOf 3 = 1 := by kernel_rfl
theorem cells_shpF : Try.prog.cellsOf 23 = 3 := by kernel_rfl
theorem cells_winF : Try.prog.cellsOf 28 = 8 := by kernel_rfl
theorem len3F {l : List Value} (h : l.length = 3) : ∃ a b c, l = [a, b, c] := by
  match l, h with
  | [a, b, c], _ => exact ⟨a, b, c, rfl⟩
theorem len8F {l : List Value} (h : l.length = 8) : ∃ a b c d e f g i, l = [a, b, c, d, e, f, g, i] := by
  match l, h with
  | [a, b, c, d, e, f, g, i], _ => exact ⟨a, b, c, d, e, f, g, i, rfl⟩
set_option maxRecDepth 100000 in
theorem shape_cellsF {H : Type} {enc : TypeId × Value → H} {w : World} {base : Nat} {sp : Nat → Bool} {held : Bool} {fuel : Nat} {cs : List Value} {x : DataW H × List MemPlace}
    (h : DataW.trod enc Try.prog w base sp held fuel 23 cs = some x) : ∃ a b c : Int, cs = [.int .i64 a, .int .i64 b, .int .i64 c] := by
  have hl : cs.length = 3 := by
    obtain ⟨_, _, _, _, hlen, _, _⟩ := DataW.trod_struct Try.underlying23 h
    exact hlen.trans cells_shpF
  obtain ⟨z0, e0⟩ := fldIF Try.underlying23 h 0 _ rfl Try.underlying3 cells_intF
  obtain ⟨z1, e1⟩ := fldIF Try.underlying23 h 1 _ rfl Try.underlying3 cells_intF
  obtain ⟨z2, e2⟩ := fldIF Try.underlying23 h 2 _ rfl Try.underlying3 cells_intF
  obtain ⟨a, b, c, rfl⟩ := len3F hl
  simp at e0 e1 e2
  subst e0 e1 e2
  exact ⟨z0, z1, z2, rfl⟩
set_option maxRecDepth 100000 in
theorem win_cellsF {H : Type} {enc : TypeId × Value → H} {w : World} {base : Nat} {sp : Nat → Bool} {held : Bool} {fuel : Nat} {cs : List Value} {x : DataW H × List MemPlace}
    (h : DataW.trod enc Try.prog w base sp held fuel 28 cs = some x) :
    ∃ r s sy sx t l b q : Int, cs = [.int .i64 r, .int .i64 s, .int .i64 sy, .int .i64 sx, .int .i64 t, .int .i64 l, .int .i64 b, .int .i64 q] := by
  have hl : cs.length = 8 := by
    obtain ⟨_, _, _, _, hlen, _, _⟩ := DataW.trod_struct Try.underlying28 h
    exact hlen.trans cells_winF
  obtain ⟨z0, e0⟩ := fldIF Try.underlying28 h 0 _ rfl Try.underlying3 cells_intF
  obtain ⟨z1, e1⟩ := fldIF Try.underlying28 h 1 _ rfl Try.underlying3 cells_intF
  obtain ⟨z2, e2⟩ := fldIF Try.underlying28 h 2 _ rfl Try.underlying3 cells_intF
  obtain ⟨z3, e3⟩ := fldIF Try.underlying28 h 3 _ rfl Try.underlying3 cells_intF
  obtain ⟨z4, e4⟩ := fldIF Try.underlying28 h 4 _ rfl Try.underlying3 cells_intF
  obtain ⟨z5, e5⟩ := fldIF Try.underlying28 h 5 _ rfl Try.underlying3 cells_intF
  obtain ⟨z6, e6⟩ := fldIF Try.underlying28 h 6 _ rfl Try.underlying3 cells_intF
  obtain ⟨z7, e7⟩ := fldIF Try.underlying28 h 7 _ rfl Try.underlying3 cells_intF
  obtain ⟨a, b, c, d, e, f, g, i, rfl⟩ := len8F hl
  simp at e0 e1 e2 e3 e4 e5 e6 e7
  subst e0 e1 e2 e3 e4 e5 e6 e7
  exact ⟨z0, z1, z2, z3, z4, z5, z6, z7, rfl⟩
theorem open_shape {H : Type} {enc : TypeId × Value → H} {W : World} {base : Nat} {v : Value} {d : DataW H} {p : List MemPlace}
    (hv : Value.okWide Try.prog W .any base 23 v) (h : DataW.Trod enc Try.prog W 0 (fun _ => true) true 23 v d p) : ∃ a b c : Int, v = Sg.shp a b c := by
  obtain ⟨cs, rfl, _⟩ := okWide_struct Try.underlying23 hv
  obtain ⟨fuel, hf⟩ := h
  obtain ⟨a, b, c, e⟩ := shape_cellsF hf
  refine ⟨a, b, c, ?_⟩
  simp [Value.cells] at e
  obtain ⟨l⟩ := cs
  simp at e
  subst e
  rfl
theorem open_win {H : Type} {enc : TypeId × Value → H} {W : World} {base : Nat} {v : Value} {d : DataW H} {p : List MemPlace}
    (hv : Value.okWide Try.prog W .any base 28 v) (h : DataW.Trod enc Try.prog W 0 (fun _ => true) true 28 v d p) : ∃ r s sy sx t l b q : Int, v = Sg.win r s sy sx t l b q := by
  obtain ⟨cs, rfl, _⟩ := okWide_struct Try.underlying28 hv
  obtain ⟨fuel, hf⟩ := h
  obtain ⟨r, s, sy, sx, t, l, b, q, e⟩ := win_cellsF hf
  refine ⟨r, s, sy, sx, t, l, b, q, ?_⟩
  simp [Value.cells] at e
  obtain ⟨l⟩ := cs
  simp at e
  subst e
  rfl
end Go.Proofs.Ytlghmojjcfjibaa
/- PARAMETERS THAT ARE A CUBE, LISTS OF CUBES, LISTS OF WINDOWS (plain rows). -/
namespace Go.Proofs.Ytlghmojjcfjibaa
open Go.ChangeShapes Go.WideShapes Go.ChangeAt Go.RowKit
set_option maxRecDepth 100000

theorem max_is : maxLen = 9223372036854775807 := by decide
theorem add_at (b o n : Nat) : Addr.add ⟨b, o, none⟩ n = ⟨b, o + n, none⟩ := by
  unfold Addr.add
  by_cases h : n = 0
  · subst h; rfl
  · rw [if_neg h]
theorem u64_of_wf {x : Int} (h : (Lit.int .u64 x).wf = true) : 0 ≤ x ∧ x < 18446744073709551616 := by
  simp [Lit.wf, IntKind.min, IntKind.max, IntKind.signed, IntKind.bits] at h
  exact ⟨by omega, by omega⟩
theorem cells_u64 : Try.prog.cellsOf 66 = 1 := by kernel_rfl
theorem cells_intU : Try.prog.cellsOf 3 = 1 := by kernel_rfl
theorem cells_us : Try.prog.cellsOf 24 = 1 := by kernel_rfl
theorem bytes_u64 : Try.prog.bytesOf 66 = 8 := by kernel_rfl
theorem num_gen (B : Nat) (hB : 0 < B) (f : Nat → Nat) : ∀ m, (∀ k, k < m → f k < B) → ∃ N, N < B ^ m ∧ ∀ k, k < m → N / B ^ k % B = f k
  | 0, _ => ⟨0, by simp, fun k hk => absurd hk (by omega)⟩
  | m + 1, h => by
    obtain ⟨N, h1, h2⟩ := num_gen B hB f m fun k hk => h k (by omega)
    have hm := h m (by omega)
    have hp : 0 < B ^ m := Nat.pow_pos hB
    refine ⟨N + B ^ m * f m, ?_, fun k hk => ?_⟩
    · have h3 : B ^ m * (f m + 1) ≤ B ^ m * B := Nat.mul_le_mul_left _ (by omega)
      rw [Nat.mul_add, Nat.mul_one] at h3
      rw [Nat.pow_succ]
      omega
    · by_cases hkm : k = m
      · subst hkm
        rw [Nat.add_mul_div_left _ _ hp, Nat.div_eq_of_lt h1, Nat.zero_add, Nat.mod_eq_of_lt hm]
      · have hlt : k < m := by omega
        obtain ⟨q, rfl⟩ : ∃ q, m = k + (q + 1) := ⟨m - k - 1, by omega⟩
        have e : B ^ (k + (q + 1)) * f (k + (q + 1)) = B ^ k * (B * (B ^ q * f (k + (q + 1)))) := by
          rw [Nat.pow_add, Nat.pow_succ, Nat.mul_comm (B ^ q) B]
          simp only [Nat.mul_assoc]
        rw [e, Nat.add_mul_div_left _ _ (Nat.pow_pos hB), Nat.add_mul_mod_self_left]
        exact h2 k hlt
theorem num_of (f : Nat → Nat) (m : Nat) (h : ∀ k, k < m → f k < 18446744073709551616) : ∃ N, N < 2 ^ (64 * m) ∧ ∀ k, k < m → wd N k = f k := by
  obtain ⟨N, h1, h2⟩ := num_gen (2 ^ 64) (Nat.pow_pos (by decide)) f m (by rw [← two64]; exact h)
  refine ⟨N, by rw [Nat.pow_mul]; exact h1, fun k hk => ?_⟩
  have h3 := h2 k hk
  rw [← Nat.pow_mul, ← two64] at h3
  exact h3
theorem weightsAll_mem {H : Type} {P : Program} {e : TypeId} : ∀ {l : List (DataW H)} {d : DataW H}, d ∈ l → ∀ n ∈ d.weights P e, n ∈ DataW.weightsAll P e l
  | x :: l, d, hd, n, hn => by
    rw [DataW.weightsAll, List.mem_append]
    rcases List.mem_cons.mp hd with rfl | h
    · exact Or.inl hn
    · exact Or.inr (weightsAll_mem h n hn)
theorem open_list {H : Type} {enc : TypeId × Value → H} {W : World} {base : Nat} {t e : TypeId} {N : Nat} {v : Value} {d : DataW H} {p : List MemPlace} (ht : Try.prog.underlying t = some (.slice e)) (hN : Try.prog.cellsOf e = N) (hpos : 0 < N)
    (hv : Value.okWide Try.prog W .any base t v) (h : DataW.Trod enc Try.prog W 0 (fun _ => true) true t v d p) :
    ∃ (ao : Option Addr) (m cap : Nat), v = .slice ao m cap ∧ m ≤ 9223372036854775807 ∧ ∀ k, k < m → ∃ (g o n : Nat) (cs : List Value) (y : DataW H × List MemPlace), ao = some ⟨g, o, none⟩ ∧ DataW.trod enc Try.prog W 0 (fun _ => true) true n e cs = some y ∧ cs.length = N ∧
      ∀ j, j < N → W.cell? ⟨g, o + k * N + j, none⟩ = cs[j]? := by
  obtain ⟨a0, len, cap, rfl⟩ := okWide_slice ht hv
  obtain ⟨fuel, hf⟩ := h
  rcases Deep.open_slice ht hf with ⟨hc, hx⟩ | ⟨a, len', cap', mm, n, D, Pl, hc, _, hl, hm, hmm, hx, hcell⟩
  · simp [Value.cells] at hc
    obtain ⟨rfl, rfl, rfl⟩ := hc
    exact ⟨none, 0, 0, rfl, by omega, fun k hk => absurd hk (by omega)⟩
  · simp [Value.cells] at hc
    obtain ⟨rfl, rfl, rfl⟩ := hc
    simp only [if_true] at hmm
    refine ⟨some a, len, cap, rfl, by have := max_is; omega, fun k hk => ?_⟩
    obtain ⟨b, o, s⟩ := a
    obtain rfl : s = none := by
      obtain ⟨cs0, h0, _⟩ := hcell 0 (by omega)
      rw [hN] at h0
      obtain ⟨_, hlen, hc0⟩ := World.cells?_some h0
      have e0 := hc0 0 hpos
      rw [Deep.add_add, List.getElem?_eq_getElem (by omega)] at e0
      have := World.cell?_spot e0
      simpa [Addr.add] using this
    obtain ⟨cs, h1, h2⟩ := hcell k (by omega)
    rw [hN] at h1
    obtain ⟨_, hlen, hc1⟩ := World.cells?_some h1
    refine ⟨b, o, n, cs, _, rfl, h2, hlen, fun j hj => ?_⟩
    have := hc1 j hj
    rw [Deep.add_add, add_at, ← Nat.add_assoc] at this
    exact this
section
variable {H : Type} {enc : TypeId × Value → H} {W : World} {fuel : Nat} {cs : List Value} {x : DataW H × List MemPlace}
theorem open_words (h : DataW.trod enc Try.prog W 0 (fun _ => true) true fuel 24 cs = some x) :
    ∃ (ao : Option Addr) (m cap N : Nat), cs = [.slice ao m cap] ∧ m ≤ cap ∧ cap ≤ 9223372036854775807 ∧ N < 2 ^ (64 * m) ∧ ∀ k, k < m → ∃ g o, ao = some ⟨g, o, none⟩ ∧ W.cell? ⟨g, o + k, none⟩ = some (wf N k) := by
  rcases open_ints und_u64s Try.underlying66 cells_u64 h with ⟨hc, hx⟩ | ⟨a, len, cap, zs, hc, _, hl, hm, hzl, hx, hcell, hwf⟩
  · exact ⟨none, 0, 0, 0, hc, by omega, by omega, by simp, fun k hk => absurd hk (by omega)⟩
  · simp only [if_true] at hzl
    have hmx := max_is
    have hr : ∀ k, k < len → 0 ≤ zs.getD k 0 ∧ zs.getD k 0 < 18446744073709551616 := fun k hk => by
      have hk2 : k < zs.length := by omega
      have e : zs.getD k 0 = zs[k] := by simp [List.getD, hk2]
      rw [e]
      exact u64_of_wf (hwf _ (List.getElem_mem hk2))
    obtain ⟨N, hN, hNk⟩ := num_of (fun k => (zs.getD k 0).toNat) len fun k hk => by have := hr k hk; omega
    obtain ⟨b, o, s⟩ := a
    have at_ : ∀ k, k < len → s = none ∧ W.cell? ⟨b, o + k, none⟩ = some (wf N k) := fun k hk => by
      have c := hcell k (by omega)
      have c0 := hcell 0 (by omega)
      have hs := World.cell?_spot c0
      simp [Addr.add] at hs
      subst hs
      rw [add_at] at c
      refine ⟨rfl, ?_⟩
      rw [c]
      unfold wf
      rw [hNk k hk]
      have := hr k hk
      congr 2
      omega
    refine ⟨some ⟨b, o, s⟩, len, cap, N, hc, hl, by omega, hN, fun k hk => ?_⟩
    obtain ⟨rfl, c⟩ := at_ k hk
    exact ⟨b, o, rfl, c⟩
theorem fldZ {t : TypeId} {fs : Array Field} (ht : Try.prog.underlying t = some (.struct fs)) (h : DataW.trod enc Try.prog W 0 (fun _ => true) true fuel t cs = some x) (hz : ∀ n ∈ x.1.weights Try.prog t, n ≤ reachBytes) (i : Nat) (f : Field) (hi : fs[i]? = some f) :
    ∃ n y, DataW.trod enc Try.prog W 0 (fun _ => true) true n f.type ((cs.drop f.offset).take (Try.prog.cellsOf f.type)) = some y ∧ ∀ m ∈ y.1.weights Try.prog f.type, m ≤ reachBytes := by
  obtain ⟨xs, n, _, ex, _, hxl, hf⟩ := DataW.trod_struct ht h
  have g := hf i f hi
  have hlt : i < xs.length := by
    rw [hxl]
    exact (Array.getElem?_eq_some_iff.1 hi).1
  rw [List.getElem?_eq_getElem hlt] at g
  refine ⟨n, _, g, fun m hm => hz m ?_⟩
  rw [ex]
  simp only [DataW.weights, ht]
  refine DataW.weights_mem_each (j := i) (t := f.type) (d := xs[i].1) ?_ ?_ _ hm
  · simp [hi]
  · rw [List.getElem?_map, List.getElem?_eq_getElem hlt]
    rfl
theorem open_wordsZ (h : DataW.trod enc Try.prog W 0 (fun _ => true) true fuel 24 cs = some x) (hz : ∀ n ∈ x.1.weights Try.prog 24, n ≤ reachBytes) :
    ∃ (ao : Option Addr) (m cap N : Nat), cs = [.slice ao m cap] ∧ (m ≤ cap ∧ cap ≤ 9223372036854775807) ∧ m ≤ 17592186043904 ∧ N < 2 ^ (64 * m) ∧ ∀ k, k < m → ∃ g o, ao = some ⟨g, o, none⟩ ∧ W.cell? ⟨g, o + k, none⟩ = some (wf N k) := by
  obtain ⟨ao, m, cap, N, e, h1, h2, h3, h4⟩ := open_words h
  refine ⟨ao, m, cap, N, e, ?_, ?_, h3, h4⟩
  · exact ⟨h1, h2⟩
  · rcases open_ints und_u64s Try.underlying66 cells_u64 h with ⟨hc, hx⟩ | ⟨a, len, cap', zs, hc, _, hl, hm, hzl, hx, _⟩
    · rw [e] at hc
      simp at hc
      omega
    · rw [e] at hc
      simp at hc
      simp only [if_true] at hzl
      have w1 := hz ((lits (H := H) .u64 (zs.take len)).length + (lits (H := H) .u64 (zs.drop len)).length |>.mul 8) (by
        rw [hx]
        simp only [DataW.weights, und_u64s, bytes_u64]
        exact List.mem_cons_self)
      rw [reach_is] at w1
      have e1 : (lits (H := H) .u64 (zs.take len)).length + (lits (H := H) .u64 (zs.drop len)).length = zs.length := by simp [lits]; omega
      rw [e1] at w1
      have w2 : zs.length * 8 ≤ 140737488351232 := w1
      omega
theorem cells_cube : Try.prog.cellsOf 26 = 4 := by kernel_rfl
theorem open_cubeZ (h : DataW.trod enc Try.prog W 0 (fun _ => true) true fuel 26 cs = some x) (hz : ∀ n ∈ x.1.weights Try.prog 26, n ≤ reachBytes) :
    ∃ (h v c : Int) (ao : Option Addr) (m cap N : Nat), cs = [.int .i64 h, .int .i64 v, .int .i64 c, .slice ao m cap] ∧ Wr W ao m N ∧ m ≤ 17592186043904 ∧ m ≤ cap ∧ cap ≤ 9223372036854775807 := by
  have hl : cs.length = 4 := by
    obtain ⟨_, _, _, _, hlen, _, _⟩ := DataW.trod_struct Try.underlying26 h
    exact hlen.trans cells_cube
  obtain ⟨_, y0, t0, _⟩ := fldZ Try.underlying26 h hz 0 _ rfl
  obtain ⟨_, y1, t1, z1⟩ := fldZ Try.underlying26 h hz 1 _ rfl
  replace t0 : DataW.trod enc Try.prog W 0 (fun _ => true) true _ 23 ((cs.drop 0).take (Try.prog.cellsOf 23)) = some y0 := t0
  replace t1 : DataW.trod enc Try.prog W 0 (fun _ => true) true _ 24 ((cs.drop 3).take (Try.prog.cellsOf 24)) = some y1 := t1
  rw [cells_shpF] at t0
  rw [cells_us] at t1
  obtain ⟨hh, v, c, e0⟩ := shape_cellsF t0
  obtain ⟨ao, m, cap, N, e1, h1, h2, h3, h4⟩ := open_wordsZ t1 z1
  match cs, hl with
  | [a, b, d, f], _ =>
    simp at e0 e1
    obtain ⟨rfl, rfl, rfl⟩ := e0
    subst e1
    exact ⟨hh, v, c, ao, m, cap, N, rfl, ⟨h3, h4⟩, h2, h1⟩
end
/-- A list of cubes that came in. -/
def LqU (W : World) (ao : Option Addr) (m : Nat) : Prop := ∀ j, j < m → ∃ (g o : Nat) (h v c : Int) (xo : Option Addr) (n xc N : Nat), ao = some ⟨g, o, none⟩ ∧ (W.cell? ⟨g, o + j * 4, none⟩ = some (.int .i64 h) ∧ W.cell? ⟨g, o + j * 4 + 1, none⟩ = some (.int .i64 v) ∧ W.cell? ⟨g, o + j * 4 + 2, none⟩ = some (.int .i64 c) ∧ W.cell? ⟨g, o + j * 4 + 3, none⟩ = some (.slice xo n xc)) ∧ Wr W xo n N ∧ n ≤ 17592186043904 ∧ n ≤ xc ∧ xc ≤ 9223372036854775807
theorem und_cubesU : Try.prog.underlying 50 = some (.slice 26) := by kernel_rfl
theorem open_cubess {H : Type} {enc : TypeId × Value → H} {W : World} {base : Nat} {v : Value} {d : DataW H} {p : List MemPlace}
    (hv : Value.okWide Try.prog W .any base 50 v) (h : DataW.Trod enc Try.prog W 0 (fun _ => true) true 50 v d p) (hz : ∀ n ∈ d.weights Try.prog 50, n ≤ reachBytes) :
    ∃ (ao : Option Addr) (m cap : Nat), v = .slice ao m cap ∧ m ≤ 9223372036854775807 ∧ LqU W ao m := by
  obtain ⟨a0, len, cap, rfl⟩ := okWide_slice und_cubesU hv
  obtain ⟨fuel, hf⟩ := h
  rcases Deep.open_slice und_cubesU hf with ⟨hc, hx⟩ | ⟨a, len', cap', mm, n, D, Pl, hc, _, hl, hm, hmm, hx, hcell⟩
  · simp [Value.cells] at hc
    obtain ⟨rfl, rfl, rfl⟩ := hc
    exact ⟨none, 0, 0, rfl, by simp, fun j hj => absurd hj (by simp)⟩
  · simp [Value.cells] at hc
    obtain ⟨rfl, rfl, rfl⟩ := hc
    simp only [if_true] at hmm
    have hmx := max_is
    have hd : d = .slice ((List.range len).map D) ((List.range (mm - len)).map fun j => D (len + j)) := congrArg Prod.fst hx
    obtain ⟨b, o, s⟩ := a
    refine ⟨some ⟨b, o, s⟩, len, cap, rfl, by omega, fun j hj => ?_⟩
    obtain ⟨cs1, h1, h2⟩ := hcell j (by omega)
    rw [cells_cube] at h1
    obtain ⟨_, hlen, hc1⟩ := World.cells?_some h1
    have hzj : ∀ n ∈ (D j).weights Try.prog 26, n ≤ reachBytes := fun n hn => hz n (by
      rw [hd]
      simp only [DataW.weights, und_cubesU]
      refine List.mem_cons_of_mem _ (List.mem_append.mpr (Or.inl ?_))
      exact weightsAll_mem (List.mem_map.mpr ⟨j, List.mem_range.mpr hj, rfl⟩) n hn)
    obtain ⟨h, v, c, xo, m, xc, N, rfl, wr, hm', hx'⟩ := open_cubeZ h2 hzj
    have e0 := hc1 0 (by decide)
    have e1 := hc1 1 (by decide)
    have e2 := hc1 2 (by decide)
    have e3 := hc1 3 (by decide)
    rw [Deep.add_add] at e0 e1 e2 e3
    have hs : s = none := by
      obtain ⟨cs0, h0, _⟩ := hcell 0 (by omega)
      rw [cells_cube] at h0
      obtain ⟨_, hlen0, hc0⟩ := World.cells?_some h0
      have e2 := hc0 0 (by decide)
      rw [Deep.add_add, List.getElem?_eq_getElem (by omega)] at e2
      have := World.cell?_spot e2
      simpa [Addr.add] using this
    subst hs
    rw [add_at] at e0 e1 e2 e3
    exact ⟨b, o, h, v, c, xo, m, xc, N, rfl, ⟨by simpa using e0, by simpa [Nat.add_assoc] using e1, by simpa [Nat.add_assoc] using e2, by simpa [Nat.add_assoc] using e3⟩, wr, hm', hx'⟩
theorem open_cube {H : Type} {enc : TypeId × Value → H} {W : World} {base : Nat} {v : Value} {d : DataW H} {p : List MemPlace}
    (hv : Value.okWide Try.prog W .any base 26 v) (h : DataW.Trod enc Try.prog W 0 (fun _ => true) true 26 v d p) (hz : ∀ n ∈ d.weights Try.prog 26, n ≤ reachBytes) :
    ∃ (a b c : Int) (ao : Option Addr) (m cap N : Nat), v = cuv a b c ao m cap ∧ Wr W ao m N ∧ m ≤ 17592186043904 ∧ m ≤ cap ∧ cap ≤ 9223372036854775807 := by
  obtain ⟨cs, rfl, _⟩ := okWide_struct Try.underlying26 hv
  obtain ⟨fuel, hf⟩ := h
  obtain ⟨a, b, c, ao, m, cap, N, e, w1, w2, w3⟩ := open_cubeZ hf hz
  refine ⟨a, b, c, ao, m, cap, N, ?_, w1, w2, w3⟩
  simp [Value.cells] at e
  obtain ⟨l⟩ := cs
  simp at e
  subst e
  rfl
/-- A list of windows that came in. -/
def LwU (W : World) (ao : Option Addr) (m : Nat) : Prop := ∀ j, j < m → ∃ (g o : Nat) (r s sy sx t l b q : Int), ao = some ⟨g, o, none⟩ ∧ Sg.Wn W g (o + j * 8) r s sy sx t l b q
theorem und_winsU : Try.prog.underlying 68 = some (.slice 28) := by kernel_rfl
theorem open_wins {H : Type} {enc : TypeId × Value → H} {W : World} {base : Nat} {v : Value} {d : DataW H} {p : List MemPlace}
    (hv : Value.okWide Try.prog W .any base 68 v) (h : DataW.Trod enc Try.prog W 0 (fun _ => true) true 68 v d p) :
    ∃ (ao : Option Addr) (m cap : Nat), v = .slice ao m cap ∧ m ≤ 9223372036854775807 ∧ LwU W ao m := by
  obtain ⟨ao, m, cap, rfl, hm, hf⟩ := open_list und_winsU cells_winF (by decide) hv h
  refine ⟨ao, m, cap, rfl, hm, fun k hk => ?_⟩
  obtain ⟨g, o, n, cs, y, rfl, ht, _, hc⟩ := hf k hk
  obtain ⟨r, s, sy, sx, t, l, b, q, rfl⟩ := win_cellsF ht
  exact ⟨g, o, r, s, sy, sx, t, l, b, q, rfl, hc 0 (by decide), hc 1 (by decide), hc 2 (by decide), hc 3 (by decide), hc 4 (by decide), hc 5 (by decide), hc 6 (by decide), hc 7 (by decide)⟩
end Go.Proofs.Ytlghmojjcfjibaa
/- ALL TURNED ABOUT: plain mathematics. -/
namespace Go.Proofs.Ytlghmojjcfjibaa

/-- All elements turned. -/
def tN (N C P : Nat) : Nat := js (64 * nw C) (fun p => nt C (pl N (nw C) p)) P
theorem nt_words (C x : Nat) : nt C x < 2 ^ (64 * nw C) := Nat.lt_of_lt_of_le (nt_lt C x) (pow_mono (nw_le C))
theorem tN_lt (N C P : Nat) : tN N C P < 2 ^ (64 * (P * nw C)) := by
  have := js_lt (s := 64 * nw C) (P := fun p => nt C (pl N (nw C) p)) (n := P) (fun i _ => nt_words C _)
  rwa [show P * (64 * nw C) = 64 * (P * nw C) by rw [Nat.mul_left_comm]] at this
theorem tN_pl {N C P p : Nat} (hp : p < P) : pl (tN N C P) (nw C) p = nt C (pl N (nw C) p) := js_pl (fun _ _ => nt_words C _) hp
theorem tN_pok (N C P : Nat) : Pok P C (tN N C P) := fun i hi => by rw [tN_pl hi]; exact nt_lt C _
theorem pbt_pl {N V d y x b : Nat} (hb : b < 64 * d) : pbt N V d y x b = (pl N d (y * V + x)).testBit b := by
  rw [pl_bit]; simp [hb, pbt]
theorem po_turn {al : Bool} {N H V C R S y x OH OW : Nat} (hN : Pok (H * V) C N) (hR : 0 < R) (hS : 0 < S) (fy : ∀ p, p < OH → p * y + R ≤ H) (fx : ∀ p, p < OW → p * x + S ≤ V) :
    poN (!al) (tN N C (H * V)) V (nw C) R S y x OW (OH * OW) = tN (poN al N V (nw C) R S y x OW (OH * OW)) C (OH * OW) := by
  refine js_congr _ fun p hp => ?_
  rw [poN_pl hp]
  have h0 : 0 < OW := by
    rcases Nat.eq_zero_or_pos OW with e | e
    · subst e; simp at hp
    · exact e
  have hy := fy _ (Nat.div_lt_of_lt_mul (by rwa [Nat.mul_comm] : p < OW * OH))
  have hx := fx _ (Nat.mod_lt p h0)
  have hin : jp al N V (nw C) R S y x (p / OW) (p % OW) < 2 ^ C := jp_c hN hR hS hy hx
  have hin2 : jp (!al) (tN N C (H * V)) V (nw C) R S y x (p / OW) (p % OW) < 2 ^ C := jp_c (tN_pok N C (H * V)) hR hS hy hx
  refine Nat.eq_of_testBit_eq fun b => ?_
  rw [nt_bit hin]
  by_cases hb : b < C
  · have hb2 : b < 64 * nw C := Nat.lt_of_lt_of_le hb (nw_le C)
    rw [jp_bit hb2 hR hS hx, jp_bit hb2 hR hS hx, ← qs_not]
    simp only [hb, decide_true, Bool.true_and]
    refine qs_congr _ fun j hj => ?_
    rw [← qs_not]
    refine qs_congr _ fun i hi => ?_
    have hq : (p / OW * y + i) * V + (p % OW * x + j) < H * V := by
      have : (p / OW * y + i + 1) * V ≤ H * V := Nat.mul_le_mul_right _ (by omega)
      rw [Nat.succ_mul] at this; omega
    rw [pbt_pl hb2, pbt_pl hb2, tN_pl hq, nt_bit (hN _ hq)]
    simp [hb]
  · rw [bit_above hin2 (by omega)]
    simp [hb]
/-- What is unpacked, turned and packed again. -/
def tL (N C n : Nat) : List Int := (List.range n).map fun j => -(uv N C j)
theorem tL_len (N C n : Nat) : (tL N C n).length = n := by simp [tL]
theorem tL_at {N C n j : Nat} (h : j < n) : ia (tL N C n) j = -(uv N C j) := by
  unfold ia tL
  rw [List.getD_eq_getElem?_getD, List.getElem?_map, List.getElem?_range h]
  rfl
theorem uv_pm (N C j : Nat) : uv N C j = 1 ∨ uv N C j = -1 := by
  unfold uv sg
  split
  · exact .inl rfl
  · exact .inr rfl
theorem tL_pack {N C P : Nat} (hC : 0 < C) (hN : Pok P C N) : js (64 * nw C) (sp (tL N C (P * C)) C) P = tN N C P := by
  refine js_congr _ fun p hp => Nat.eq_of_testBit_eq fun b => ?_
  rw [sp_bit, nt_bit (hN p hp)]
  by_cases hb : b < C
  · have hj : p * C + b < P * C := by
      have := Nat.mul_le_mul_right C (show p + 1 ≤ P from hp)
      rw [Nat.succ_mul] at this
      omega
    rw [tL_at hj]
    have e1 : (p * C + b) / C = p := by rw [Nat.mul_comm, Nat.mul_add_div hC, Nat.div_eq_of_lt hb]; omega
    have e2 : (p * C + b) % C = b := by rw [Nat.mul_comm, Nat.mul_add_mod, Nat.mod_eq_of_lt hb]
    unfold uv sg
    rw [e1, e2]
    cases (pl N (nw C) p).testBit b <;> simp [hb]
  · simp [hb]
end Go.Proofs.Ytlghmojjcfjibaa
/- PoolTurned: turned; any window. -/
namespace Go.Proofs.Ytlghmojjcfjibaa
open Go.RowKit Go.Shelf

/-- What a window is refused for, whatever the cube's elements. -/
def gE (H V C : Nat) (r s sy sx t l b q : Int) : Int := if ¬ Sg.WOk r s sy sx t l b q ∨ 0 < t ∨ 0 < l ∨ 0 < b ∨ 0 < q then 56 else Sg.slE H V C r s sy sx t l b q C
theorem poE_g {H V C m N : Nat} (h : Qb H V C m N) (r s sy sx t l b q : Int) : poE H V C m N r s sy sx t l b q = gE H V C r s sy sx t l b q := by
  unfold poE gE
  rw [if_neg (fun x => x (cuk_of h.ck h.hm h.pk))]
/-- Where nothing is refused. -/
theorem gE_zero {H V C m N : Nat} {r s sy sx t l b q : Int} (h : Qb H V C m N) (k : gE H V C r s sy sx t l b q = 0) : ∃ R S y x : Nat, r = R ∧ s = S ∧ sy = y ∧ sx = x ∧ t = 0 ∧ l = 0 ∧ b = 0 ∧ q = 0 ∧ (1 ≤ R ∧ R ≤ 15) ∧ (1 ≤ S ∧ S ≤ 15) ∧ (1 ≤ y ∧ y ≤ 15) ∧ (1 ≤ x ∧ x ≤ 15) ∧ R ≤ H ∧ S ≤ V := by
  rw [← poE_g h] at k
  obtain ⟨H', V', C', R, S, y, x, e1, e2, e3, rfl, rfl, rfl, rfl, rfl, rfl, rfl, rfl, pg⟩ := poE_zero k
  obtain rfl : H = H' := by omega
  obtain rfl : V = V' := by omega
  obtain rfl : C = C' := by omega
  exact ⟨R, S, y, x, rfl, rfl, rfl, rfl, rfl, rfl, rfl, rfl, pg.hR, pg.hS, pg.hy, pg.hx, pg.fH, pg.fV⟩
/-- A list under way: i of its values are turned. -/
def tf (N C i : Nat) : Nat → Value := fun j => .int .i8 (if j < i then -(uv N C j) else uv N C j)
theorem tf_step {N C i : Nat} (j : Nat) : (if j = i then .int .i8 (-(uv N C i)) else tf N C i j) = tf N C (i + 1) j := by
  unfold tf
  by_cases e : j = i
  · subst e
    rw [if_pos rfl, if_pos (Nat.lt_succ_self _)]
  · rw [if_neg e]
    by_cases h : j < i
    · rw [if_pos h, if_pos (by omega)]
    · rw [if_neg h, if_neg (by omega)]
theorem neg_i8 {x : Int} (h : x = 1 ∨ x = -1) : IntKind.i8.wrap (-x) = -x := by
  rcases h with rfl | rfl <;> decide
theorem turned_start (w : World) (h v c : Int) (ao : Option Addr) (m cap : Nat) : ∃ W, (w.alloc (.cells #[.int .i64 h, .int .i64 v, .int .i64 c, .slice ao m cap] 26)).alloc (.cells #[.int .i64 0, .int .i64 0, .int .i64 0, .slice none 0 0] 26) = W ∧ W.heap.size = w.heap.size + 2 ∧ Below w.heap.size w W ∧ W.rowIs w.heap.size 26 4 (cf h v c ao m cap) ∧ W.rowIs (w.heap.size + 1) 26 4 (cf 0 0 0 none 0 0) := by
  refine ⟨_, rfl, by simp, bl_alloc (bl_alloc (Below.refl _ _) _) _, (cu_new w _ _ _ _ _ _ _).alloc _, ?_⟩
  have := cu_new (w.alloc (.cells #[.int .i64 h, .int .i64 v, .int .i64 c, .slice ao m cap] 26)) 0 0 0 none 0 0 26
  rw [World.size_alloc] at this
  exact this
theorem elN_pos {h v c : Int} (k : Sg.chk h v c = 0) : ((0 : Nat) : Int) ≠ Sg.elN h v c := by
  obtain ⟨H, V, C, rfl, rfl, rfl, hH, hV, hC, _⟩ := chk_nat k
  rw [elN_nat k]
  have : 0 < H * V * C := Nat.mul_pos (Nat.mul_pos hH.1 hV.1) hC.1
  omega
set_option maxHeartbeats 3200000 in
set_option maxRecDepth 100000 in
theorem turned_bad (h v c : Int) (ao : Option Addr) (m cap N : Nat) (w : World) (hmc : m ≤ cap) (hcap : cap ≤ 9223372036854775807) (rd : Wr w ao m N) (k : cuk h v c m N ≠ 0) :
    Calls Try.prog 15 #[cuv h v c ao m cap] w fun e w' => e = .returned (.tuple #[cuv 0 0 0 none 0 0, .bool false]) ∧ Below w.heap.size w w' := by
  have HU := hid1 (fun W r => cunpack_bad h v c ao m cap N W hmc hcap r k)
  obtain ⟨E, hE⟩ : ∃ E : Int, E = if Sg.chk h v c = 0 then 32 else Sg.chk h v c := ⟨_, rfl⟩
  have HP := hid1 (fun W => cpack_bad h v c none 0 0 W E hE elN_pos)
  have HST := hid1 (turned_start w h v c ao m cap)
  have RD := hid1 rd
  clear rd hE
  generalize cuk h v c m N = EE at *
  go_enter Try.func15, Try.ntmps15
  go_wp2_with fail
  refine gen_calls (fun W => W.heap.size = w.heap.size + 2 ∧ Below w.heap.size w W ∧ W.rowIs w.heap.size 26 4 (cf h v c ao m cap) ∧ W.rowIs (w.heap.size + 1) 26 4 (cf 0 0 0 none 0 0)) (by obtain ⟨X, rfl, z⟩ := HST.out; exact z) ?_
  rintro W ⟨z0, B0, b0, b1⟩
  refine (HU.out W (RD.out.below B0)).mono ?_
  rintro e w1 ⟨rfl, hb⟩
  replace b0 := keepr hb b0
  replace b1 := keepr hb b1
  have B1 := bl_step B0 hb
  clear hb B0
  have e0 := cf0 b0
  have e1 := cf1 b0
  have e2 := cf2 b0
  go_wp2_with fail
  go_loopw [6] (fun i wr => i = .int .i64 0 ∧ wr = w1) (fun _ _ => 0)
  case atStart => exact ⟨rfl, rfl⟩
  case round =>
    obtain ⟨rfl, rfl⟩ := hrel
    go_wp2_with fail
    refine (HP.out _).mono ?_
    rintro e w2 ⟨rfl, hb⟩
    replace b1 := keepr hb b1
    have B2 := bl_step B1 hb
    have z2 := hb.size
    clear hb B1 e0 e1 e2 b0
    have f0 := b1.frozen 0
    have f1 := b1.frozen 1
    have f2 := b1.frozen 2
    have f3 := b1.frozen 3
    have d0 := cf0 b1
    have d1 := cf1 b1
    have d2 := cf2 b1
    have d3 := cf3 b1
    have l1 := b1.lt
    go_wp2_with fail
    have u := (cf_set b1 0 0 0 none 0 0).alloc (.cells #[.int .i64 0, .int .i64 0, .int .i64 0, .slice none 0 0] 26)
    have u0 := cf0 u
    have u1 := cf1 u
    have u2 := cf2 u
    have u3 := cf3 u
    exact bodyPost_ret (v := .tuple #[cuv 0 0 0 none 0 0, .bool false]) (by simp [results, Try.results15, go_sem, u0, u1, u2, u3]) rfl ⟨rfl, bl_alloc (bl_set (bl_set (bl_set (bl_set B2 (by omega) _) (by omega) _) (by omega) _) (by omega) _) _⟩
set_option maxHeartbeats 3200000 in
set_option maxRecDepth 100000 in
theorem turned_ok (H V C : Nat) (ao : Option Addr) (m cap N : Nat) (w : World) (qb : Qb H V C m N) (hT : H * V * C ≤ 16777216) (hmc : m ≤ cap) (hcap : cap ≤ 9223372036854775807) (rd : Wr w ao m N) :
    Calls Try.prog 15 #[cuv H V C ao m cap] w fun e w' => ∃ bo, e = .returned (.tuple #[cuv H V C bo m m, .bool true]) ∧ Wr w' bo m (tN N C (H * V)) ∧ Below w.heap.size w w' := by
  obtain ⟨g, o, rfl⟩ := rd.some qb.pos
  have HU := hid1 (fun W r => cunpack_ok H V C g o m cap N W qb.hH qb.hV qb.hC hT (cuk_of qb.ck qb.hm qb.pk) qb.hm hmc hcap r)
  have HPK := hid1 (tL_pack (N := N) (C := C) (P := H * V) qb.hC.1 qb.pk)
  obtain ⟨n, hn⟩ : ∃ n, H * V * C = n := ⟨_, rfl⟩
  rw [hn] at HU HPK hT
  have HP := hid1 (fun G W r => cpack_ok H V C (tL N C n) n (tL_len N C n) G 0 n W qb.hH qb.hV qb.hC hn.symm hT (Nat.le_refl _) (by omega) qb.ck m qb.hm.symm r)
  rw [HPK.out] at HP
  have HTL := hid1 (tN_lt N C (H * V))
  rw [← qb.hm] at HTL
  generalize tN N C (H * V) = X at *
  have HST := hid1 (turned_start w H V C (some ⟨g, o, none⟩) m cap)
  have RD := hid1 rd
  clear rd hn
  go_enter Try.func15, Try.ntmps15
  go_wp2_with fail
  refine gen_calls (fun W => W.heap.size = w.heap.size + 2 ∧ Below w.heap.size w W ∧ W.rowIs w.heap.size 26 4 (cf H V C (some ⟨g, o, none⟩) m cap) ∧ W.rowIs (w.heap.size + 1) 26 4 (cf 0 0 0 none 0 0)) (by obtain ⟨X, rfl, z⟩ := HST.out; exact z) ?_
  rintro W ⟨z0, B0, b0, b1⟩
  refine (HU.out W (RD.out.below B0)).mono ?_
  rintro e w1 ⟨G, rfl, hG, row, hb⟩
  replace b0 := keepr hb b0
  replace b1 := keepr hb b1
  have B1 := bl_step B0 hb
  have z1 := hb.size
  clear hb B0
  go_wp2_with fail
  go_loopw [6] (fun i wr => ∃ k : Nat, k ≤ n ∧ i = .int .i64 k ∧ wr.rowIs G 86 n (tf N C k) ∧ wr.rowIs w.heap.size 26 4 (cf H V C (some ⟨g, o, none⟩) m cap) ∧ wr.rowIs (w.heap.size + 1) 26 4 (cf 0 0 0 none 0 0) ∧ Below w.heap.size w wr) (fun i _ => n - (intOf i).toNat)
  case atStart => exact ⟨0, Nat.zero_le _, rfl, row.congr fun j _ => by simp [tf], b0, b1, B1⟩
  case round =>
    clear b0 b1 B1 row
    obtain ⟨k, hk, rfl, row, b0, b1, B1⟩ := hrel
    by_cases hlt : k < n
    · have ik0 : (0 : Int) ≤ (k : Int) := by omega
      have ik1 : (k : Int) < (n : Int) := by omega
      have c1 := row.cell hlt
      have f1 := row.frozen k
      have ng := neg_i8 (uv_pm N C k)
      have HSP := hid1 (fun j => tf_step (N := N) (C := C) (i := k) j)
      unfold tf at c1
      rw [if_neg (Nat.lt_irrefl _)] at c1
      generalize uv N C k = x at *
      have bt : But G wr (wr.setCell ⟨G, k, none⟩ (.int .i8 (-x))) := (But.refl G wr).set _
      have R := hid1 row
      have b0' := hid1 (bt.row (by omega) b0)
      have b1' := hid1 (bt.row (by omega) b1)
      have B1' := hid1 (bt.below (by omega) B1.size B1)
      clear row b0 b1 B1 bt
      go_wp2_with fail
      exact ⟨⟨k + 1, by omega, by go_num, (R.out.set k _).congr fun j _ => HSP.out j, b0'.out, b1'.out, B1'.out⟩, by simp [intOf]; omega⟩
    · obtain rfl : k = n := by omega
      have r8 : R8 wr (some ⟨G, 0, none⟩) (tL N C k) := fun j hj => by
        rw [tL_len] at hj
        refine ⟨G, 0, rfl, ?_⟩
        rw [Nat.zero_add, row.cell hj, tL_at hj]
        unfold tf
        rw [if_pos hj]
      have e0 := cf0 b0
      have e1 := cf1 b0
      have e2 := cf2 b0
      have l0 := b1.lt
      go_wp2_with fail
      refine (HP.out G wr r8).mono ?_
      rintro e w2 ⟨G2, rfl, hG2, row2, hb⟩
      replace b1 := keepr hb b1
      have B2 := bl_step B1 hb
      have z2 := hb.size
      clear hb B1 e0 e1 e2 b0
      have f0 := b1.frozen 0
      have f1 := b1.frozen 1
      have f2 := b1.frozen 2
      have f3 := b1.frozen 3
      have d0 := cf0 b1
      have d1 := cf1 b1
      have d2 := cf2 b1
      have d3 := cf3 b1
      have l1 := b1.lt
      have l2 := row2.lt
      have HB1 := hid1 b1
      have HR2 := hid1 row2
      clear b1 row2
      go_wp2_with fail
      obtain ⟨q, _, qr, qB⟩ := pool_end (h := H) (v := V) (c := C) HB1.out HR2.out hG2 (And.intro (Nat.le_add_right _ _) (by omega)) B2
      have u := q.alloc (.cells #[.int .i64 (H : Int), .int .i64 (V : Int), .int .i64 (C : Int), .slice (some ⟨G2, 0, none⟩) m m] 26)
      have u0 := cf0 u
      have u1 := cf1 u
      have u2 := cf2 u
      have u3 := cf3 u
      exact bodyPost_ret (v := .tuple #[cuv H V C (some ⟨G2, 0, none⟩) m m, .bool true]) (by simp [results, Try.results15, go_sem, u0, u1, u2, u3]) rfl ⟨_, rfl, Wr.row (qr.alloc _) HTL.out, bl_alloc qB _⟩
theorem max_gen {H V C m N : Nat} (ao : Option Addr) (cap : Nat) (r s sy sx t l b q : Int) (w : World) (h : Qb H V C m N) (hmc : m ≤ cap) (hcap : cap ≤ 9223372036854775807) (rd : Wr w ao m N) (k : gE H V C r s sy sx t l b q ≠ 0) :
    Calls Try.prog 12 #[cuv H V C ao m cap, Sg.win r s sy sx t l b q] w fun e w' => e = .returned (.tuple #[cuv 0 0 0 none 0 0, .int .i64 (gE H V C r s sy sx t l b q)]) ∧ Below w.heap.size w w' := by
  have := max_bad H V C ao m cap N r s sy sx t l b q w hmc hcap rd (by rw [poE_g h]; exact k)
  rwa [poE_g h] at this
theorem min_gen {H V C m N : Nat} (ao : Option Addr) (cap : Nat) (r s sy sx t l b q : Int) (w : World) (h : Qb H V C m N) (hmc : m ≤ cap) (hcap : cap ≤ 9223372036854775807) (rd : Wr w ao m N) (k : gE H V C r s sy sx t l b q ≠ 0) :
    Calls Try.prog 13 #[cuv H V C ao m cap, Sg.win r s sy sx t l b q] w fun e w' => e = .returned (.tuple #[cuv 0 0 0 none 0 0, .int .i64 (gE H V C r s sy sx t l b q)]) ∧ Below w.heap.size w w' := by
  have := min_bad H V C ao m cap N r s sy sx t l b q w hmc hcap rd (by rw [poE_g h]; exact k)
  rwa [poE_g h] at this
/-- Where nothing is refused: the cube. -/
theorem max_fit {H V C m N R S y x OH OW M : Nat} (ao : Option Addr) (cap : Nat) (w : World) (pg : Pg H V C R S y x m N) (hm : 0 < m) (eH : oS H R y = OH) (eW : oS V S x = OW) (eM : OH * OW * nw C = M) (hmc : m ≤ cap) (hcap : cap ≤ 9223372036854775807) (rd : Wr w ao m N) :
    Calls Try.prog 12 #[cuv H V C ao m cap, Sg.win R S y x 0 0 0 0] w fun e w' => ∃ bo, e = .returned (.tuple #[cuv OH OW C bo M M, .int .i64 0]) ∧ Wr w' bo M (poN false N V (nw C) R S y x OW (OH * OW)) ∧ Below w.heap.size w w' := by
  obtain ⟨g, o, rfl⟩ := rd.some hm
  refine (max_ok H V C R S y x g o m cap N OH OW M w pg eH eW eM hmc hcap rd).mono ?_
  rintro e w1 ⟨G, rfl, _, row, hb⟩
  exact ⟨_, rfl, Wr.row row (by rw [← eM]; exact poN_lt _ _ _ _ _ _ _ _ _ _), hb⟩
theorem min_fit {H V C m N R S y x OH OW M : Nat} (ao : Option Addr) (cap : Nat) (w : World) (pg : Pg H V C R S y x m N) (hm : 0 < m) (eH : oS H R y = OH) (eW : oS V S x = OW) (eM : OH * OW * nw C = M) (hmc : m ≤ cap) (hcap : cap ≤ 9223372036854775807) (rd : Wr w ao m N) :
    Calls Try.prog 13 #[cuv H V C ao m cap, Sg.win R S y x 0 0 0 0] w fun e w' => ∃ bo, e = .returned (.tuple #[cuv OH OW C bo M M, .int .i64 0]) ∧ Wr w' bo M (poN true N V (nw C) R S y x OW (OH * OW)) ∧ Below w.heap.size w w' := by
  obtain ⟨g, o, rfl⟩ := rd.some hm
  refine (min_ok H V C R S y x g o m cap N OH OW M w pg eH eW eM hmc hcap rd).mono ?_
  rintro e w1 ⟨G, rfl, _, row, hb⟩
  exact ⟨_, rfl, Wr.row row (by rw [← eM]; exact poN_lt _ _ _ _ _ _ _ _ _ _), hb⟩
theorem Pg.qb {H V C R S y x m N : Nat} (h : Pg H V C R S y x m N) : Qb H V C m N := ⟨h.hH, h.hV, h.hC, h.ck, h.hm, h.pk⟩
end Go.Proofs.Ytlghmojjcfjibaa
/- GREATER: plain mathematics. -/
namespace Go.Proofs.Ytlghmojjcfjibaa

/-- A list's cube, as a number. -/
def cU (l : List Int) (C P : Nat) : Nat := js (64 * nw C) (sp l C) P
theorem sp_words (l : List Int) (C i : Nat) : sp l C i < 2 ^ (64 * nw C) := Nat.lt_of_lt_of_le (sp_lt l C i) (pow_mono (nw_le C))
theorem cU_lt (l : List Int) (C P : Nat) : cU l C P < 2 ^ (64 * (P * nw C)) := by
  have := js_lt (s := 64 * nw C) (P := sp l C) (n := P) (fun i _ => sp_words l C i)
  rwa [show P * (64 * nw C) = 64 * (P * nw C) by rw [Nat.mul_left_comm]] at this
theorem cU_pl {l : List Int} {C P i : Nat} (hi : i < P) : pl (cU l C P) (nw C) i = sp l C i := js_pl (fun i _ => sp_words l C i) hi
theorem cU_pok (l : List Int) (C P : Nat) : Pok P C (cU l C P) := fun i hi => by rw [cU_pl hi]; exact sp_lt l C i
/-- An element's bit. -/
def eb (X C j : Nat) : Bool := (pl X (nw C) (j / C)).testBit (j % C)
theorem uv_eb (X C j : Nat) : uv X C j = if eb X C j = true then 1 else -1 := rfl
theorem uv_le {X Y C j : Nat} (h : eb X C j = true → eb Y C j = true) : uv X C j ≤ uv Y C j := by
  rw [uv_eb, uv_eb]
  cases h1 : eb X C j
  · cases h2 : eb Y C j <;> simp
  · rw [h h1]; simp
theorem uv_max {X Y Z C j : Nat} (h : eb Z C j = (eb X C j || eb Y C j)) : (if uv Y C j > uv X C j then uv Y C j else uv X C j) = uv Z C j := by
  rw [uv_eb, uv_eb, uv_eb, h]
  cases eb X C j <;> cases eb Y C j <;> simp
/-- What is seen at an element. -/
def se (al : Bool) (N V d R S y x OW C j : Nat) : Bool := qs al (fun jj => qs al (fun i => pbt N V d (j / C / OW * y + i) (j / C % OW * x + jj) (j % C)) R) S
theorem eb_po {al : Bool} {N V C R S y x OH OW j : Nat} (hC : 0 < C) (hR : 0 < R) (hS : 0 < S) (fx : ∀ p, p < OW → p * x + S ≤ V) (hj : j < OH * OW * C) :
    eb (poN al N V (nw C) R S y x OW (OH * OW)) C j = se al N V (nw C) R S y x OW C j := by
  have hp : j / C < OH * OW := Nat.div_lt_of_lt_mul (by rwa [Nat.mul_comm])
  have h0 : 0 < OW := by
    rcases Nat.eq_zero_or_pos OW with e | e
    · subst e; simp at hp
    · exact e
  have hb : j % C < 64 * nw C := Nat.lt_of_lt_of_le (Nat.mod_lt _ hC) (nw_le C)
  unfold eb se
  rw [poN_pl hp, jp_bit hb hR hS (fx _ (Nat.mod_lt _ h0))]
theorem qs_mono {al : Bool} {f g : Nat → Bool} {n : Nat} (h : ∀ i, i < n → f i = true → g i = true) (hq : qs al f n = true) : qs al g n = true := by
  cases al
  · obtain ⟨i, hi, hf⟩ := (qs_false _ _).1 hq
    exact (qs_false _ _).2 ⟨i, hi, h i hi hf⟩
  · exact (qs_true _ _).2 fun i hi => h i hi ((qs_true _ _).1 hq i hi)
theorem qs_all_one {f : Nat → Bool} {n : Nat} (hn : 0 < n) (h : qs true f n = true) : qs false f n = true := (qs_false _ _).2 ⟨0, hn, (qs_true _ _).1 h 0 hn⟩
theorem qs_or (f g : Nat → Bool) (n : Nat) : qs false (fun i => f i || g i) n = (qs false f n || qs false g n) := by
  refine beq_iff ?_
  rw [Bool.or_eq_true, qs_false, qs_false, qs_false]
  constructor
  · rintro ⟨i, hi, h⟩
    rw [Bool.or_eq_true] at h
    rcases h with h | h
    · exact .inl ⟨i, hi, h⟩
    · exact .inr ⟨i, hi, h⟩
  · rintro (⟨i, hi, h⟩ | ⟨i, hi, h⟩)
    · exact ⟨i, hi, by rw [h]; rfl⟩
    · exact ⟨i, hi, by rw [h]; simp⟩
theorem se_mono {al : Bool} {N N' V d R S y x OW C j : Nat} (h : ∀ i, i < R → ∀ k, k < S → pbt N V d (j / C / OW * y + i) (j / C % OW * x + k) (j % C) = true → pbt N' V d (j / C / OW * y + i) (j / C % OW * x + k) (j % C) = true) (hq : se al N V d R S y x OW C j = true) : se al N' V d R S y x OW C j = true := by
  unfold se at hq ⊢
  exact qs_mono (fun k hk => qs_mono fun i hi => h i hi k hk) hq
theorem se_all_one {N V d R S y x OW C j : Nat} (hR : 0 < R) (hS : 0 < S) (h : se true N V d R S y x OW C j = true) : se false N V d R S y x OW C j = true := by
  unfold se at h ⊢
  exact qs_all_one hS (qs_mono (fun k _ h => qs_all_one hR h) h)
theorem se_or {N N' N2 V d R S y x OW C j : Nat} (h : ∀ i, i < R → ∀ k, k < S → pbt N2 V d (j / C / OW * y + i) (j / C % OW * x + k) (j % C) = (pbt N V d (j / C / OW * y + i) (j / C % OW * x + k) (j % C) || pbt N' V d (j / C / OW * y + i) (j / C % OW * x + k) (j % C))) :
    se false N2 V d R S y x OW C j = (se false N V d R S y x OW C j || se false N' V d R S y x OW C j) := by
  unfold se
  rw [← qs_or]
  refine qs_congr _ fun k hk => ?_
  rw [← qs_or]
  exact qs_congr _ fun i hi => h i hi k hk
/-- The greater of two lists, value by value. -/
def gL (l m : List Int) (n : Nat) : List Int := (List.range n).map fun k => if ia m k > ia l k then ia m k else ia l k
theorem gL_len (l m : List Int) (n : Nat) : (gL l m n).length = n := by simp [gL]
theorem gL_at {l m : List Int} {n k : Nat} (h : k < n) : ia (gL l m n) k = if ia m k > ia l k then ia m k else ia l k := by
  unfold gL
  rw [show ia ((List.range n).map fun k => if ia m k > ia l k then ia m k else ia l k) k = ((List.range n).map fun k => if ia m k > ia l k then ia m k else ia l k).getD k 0 from rfl]
  rw [List.getD_eq_getElem?_getD, List.getElem?_map, List.getElem?_range h]
  rfl
theorem gL_snoc (l m : List Int) (n : Nat) : gL l m (n + 1) = gL l m n ++ [if ia m n > ia l n then ia m n else ia l n] := by
  unfold gL; rw [List.range_succ, List.map_append]; rfl
theorem cU_bit {l : List Int} {V C P yy xx b : Nat} (hp : yy * V + xx < P) (hb : b < C) : pbt (cU l C P) V (nw C) yy xx b = decide (0 < ia l ((yy * V + xx) * C + b)) := by
  rw [pbt_pl (Nat.lt_of_lt_of_le hb (nw_le C)), cU_pl hp, sp_bit]
  simp [hb]
theorem cU_gL {l m : List Int} {V C P yy xx b : Nat} (hp : yy * V + xx < P) (hb : b < C) : pbt (cU (gL l m (P * C)) C P) V (nw C) yy xx b = (pbt (cU l C P) V (nw C) yy xx b || pbt (cU m C P) V (nw C) yy xx b) := by
  rw [cU_bit hp hb, cU_bit hp hb, cU_bit hp hb]
  have hj : (yy * V + xx) * C + b < P * C := by
    have := Nat.mul_le_mul_right C (show yy * V + xx + 1 ≤ P from hp)
    rw [Nat.succ_mul] at this
    omega
  rw [gL_at hj]
  generalize ia l ((yy * V + xx) * C + b) = p
  generalize ia m ((yy * V + xx) * C + b) = q
  refine beq_iff ?_
  simp only [decide_eq_true_eq, Bool.or_eq_true]
  split <;> omega
end Go.Proofs.Ytlghmojjcfjibaa
/- PoolGreater: greater, below. -/
namespace Go.Proofs.Ytlghmojjcfjibaa
open Go.RowKit Go.Shelf

theorem app_oneU {ops : Array Oper} {rest : List Oper} {o : Oper} {a : Act} {Q : Exit → Act → World → Prop} {w : World} (hgd : o.guard = none) (s x : Operand)
    (ho : o.op = .call { callee := .builtin .append, args := #[s, x], argTypes := #[40, 40] }) (base : Nat) (v : Value) (l : List Int) (n : Nat) (hs : a.eval s = v) (hown : w.ownsRow base 86 1 v n (i8s l))
    (g : Nat) (y : Int) (cb : Nat) (hx : a.eval x = .slice (some ⟨g, 0, none⟩) 1 cb) (hr : w.cell? ⟨g, 0, none⟩ = some (.int .i8 y)) (hM : n ≤ 140737488351252) (hb : base ≤ w.heap.size)
    (h : ∀ v' w', w'.ownsRow base 86 1 v' (n + 1) (i8s (l ++ [y])) → w.grownBy w' v.ownBlock → wpList Try.prog ops Q rest (a.put o.dst v') w') : wpList Try.prog ops Q (o :: rest) a w := by
  obtain ⟨i0, hi, hz0, hz1, hz2⟩ := info_parts info_i8k
  refine wpList_append_own w hgd s x _ ho base 86 i0 (.int .i8 0) 1 1 und_i8sk hi hz0 hz1 hz2 rfl (by decide) v n (i8s l) hs hown ⟨g, 0, none⟩ 1 cb [.int .i8 y] hx rfl
    (fun j u hu => ?_) (fun u hu => by simp at hu; subst hu; rfl) (by unfold maxLen; omega) (by omega) hb ?_
  · rcases j with _ | j
    · simp at hu; subst hu; exact hr
    · simp at hu
  · intro v' w' h1 h2 _
    exact h v' w' (by rw [i8s_snoc]; exact h1) h2
theorem own8_U {W : World} {base G K n : Nat} {l : List Int} (hl : l.length = n) (h : W.ownsRow base 86 1 (.slice (some ⟨G, 0, none⟩) n K) n (i8s l)) : R8 W (some ⟨G, 0, none⟩) l := by
  subst hl
  intro k hk
  have e : (i8s l)[k]? = some (.int .i8 (ia l k)) := by
    unfold i8s ia
    rw [List.getElem?_map, List.getElem?_eq_getElem hk]
    simp [List.getD, hk]
  have := h.cells (g := G) rfl k _ e
  exact ⟨G, 0, rfl, by rcases k with _ | k <;> simpa [Addr.add] using this⟩
set_option maxHeartbeats 1600000 in
set_option maxRecDepth 100000 in
theorem greater_any (n : Nat) (la lb : List Int) (ha : la.length = n) (hb : lb.length = n) (ao bo : Option Addr) (ca cb : Nat) (w : World) (hn : 0 < n ∧ n ≤ 16777216) (ra : R8 w ao la) (rb : R8 w bo lb) :
    Calls Try.prog 19 #[.slice ao n ca, .slice bo n cb] w fun e w' => ∃ G K, e = .returned (.slice (some ⟨G, 0, none⟩) n K) ∧ n ≤ K ∧ K ≤ 9223372036854775807 ∧ R8 w' (some ⟨G, 0, none⟩) (gL la lb n) ∧ Below w.heap.size w w' := by
  have RA := hid1 ra
  have RB := hid1 rb
  clear ra rb
  go_enter Try.func19, Try.ntmps19
  go_wp2_with fail
  go_loopw [5, 6] (fun u i wr => ∃ k : Nat, k ≤ n ∧ i = .int .i64 k ∧ wr.ownsRow w.heap.size 86 1 u k (i8s (gL la lb k)) ∧ Below w.heap.size w wr) (fun _ i _ => n - (intOf i).toNat)
  case atStart => exact ⟨0, Nat.zero_le _, rfl, ⟨rfl, .inl ⟨rfl, rfl⟩⟩, Below.refl _ _⟩
  case round =>
    obtain ⟨k, hk, rfl, own, B0⟩ := hrel
    by_cases hlt : k < n
    · obtain ⟨ga, oa, rfl, a1⟩ := (RA.out.below B0) k (by omega)
      obtain ⟨gb, ob, rfl, b1⟩ := (RB.out.below B0) k (by omega)
      have ik : (k : Int) < (n : Int) := by omega
      have ik0 : (0 : Int) ≤ (k : Int) := by omega
      have hsn := gL_snoc la lb k
      have HOW := hid1 own
      have HB := hid1 B0
      have zz := B0.size
      clear own B0
      generalize ia la k = xa at *
      generalize ia lb k = xb at *
      by_cases hgt : xb > xa
      · rw [if_pos hgt] at hsn
        have hg' : xa < xb := hgt
        go_wp2_with (at_builtin; refine app_oneU rfl _ _ rfl w.heap.size u5 (gL la lb k) k (by go_simp) (HOW.out.alloc _) wr.heap.size xb 1 (by go_simp) (by simp [go_sem]) (by omega) (by simp; omega) ?_; intro v2 w2 ow2 gr2; have B2 := (HB.out.alloc zz _).grown gr2 (by simp; omega) (fun q hq => (HOW.out.lt q hq).1); rw [← hsn] at ow2; have HO2 := hid1 ow2; clear ow2 gr2)
        exact ⟨⟨k + 1, by omega, by go_num, HO2.out, B2⟩, by simp [intOf]; omega⟩
      · rw [if_neg hgt] at hsn
        have hg' : ¬ xa < xb := hgt
        go_wp2_with (at_builtin; refine app_oneU rfl _ _ rfl w.heap.size u5 (gL la lb k) k (by go_simp) (HOW.out.alloc _) wr.heap.size xa 1 (by go_simp) (by simp [go_sem]) (by omega) (by simp; omega) ?_; intro v2 w2 ow2 gr2; have B2 := (HB.out.alloc zz _).grown gr2 (by simp; omega) (fun q hq => (HOW.out.lt q hq).1); rw [← hsn] at ow2; have HO2 := hid1 ow2; clear ow2 gr2)
        exact ⟨⟨k + 1, by omega, by go_num, HO2.out, B2⟩, by simp [intOf]; omega⟩
    · obtain rfl : k = n := by omega
      rcases own.2 with ⟨rfl, h0⟩ | ⟨G, K, cur, rfl, hG, _, hK, hK2, _⟩
      · omega
      · go_wp2_with fail
        go_ret
        exact ⟨G, K, rfl, hK, by unfold maxLen at hK2; omega, own8_U (gL_len _ _ _) own, B0⟩
set_option maxHeartbeats 1600000 in
set_option maxRecDepth 100000 in
theorem below_true (n : Nat) (fa fb : Nat → Int) (h : ∀ k, k < n → fa k ≤ fb k) (ao bo : Option Addr) (ca cb : Nat) (w : World) (hn : n ≤ 16777216) (ra : Rs w ao n (fun k => .int .i8 (fa k))) (rb : Rs w bo n (fun k => .int .i8 (fb k))) :
    Calls Try.prog 20 #[.slice ao n ca, .slice bo n cb] w fun e w' => e = .returned (.bool true) ∧ Below w.heap.size w w' := by
  have RA := hid1 ra
  have RB := hid1 rb
  have HL := hid1 h
  clear ra rb h
  go_enter Try.func20, Try.ntmps20
  go_wp2_with fail
  go_loopw [5] (fun i wr => ∃ k : Nat, k ≤ n ∧ i = .int .i64 k ∧ Below w.heap.size w wr) (fun i _ => n - (intOf i).toNat)
  case atStart => exact ⟨0, Nat.zero_le _, rfl, Below.refl _ _⟩
  case round =>
    obtain ⟨k, hk, rfl, B0⟩ := hrel
    by_cases hlt : k < n
    · obtain ⟨ga, oa, rfl, a1⟩ := (RA.out.below B0) k hlt
      obtain ⟨gb, ob, rfl, b1⟩ := (RB.out.below B0) k hlt
      have ik : (k : Int) < (n : Int) := by omega
      have ik0 : (0 : Int) ≤ (k : Int) := by omega
      have hle := HL.out k hlt
      dsimp only at a1 b1
      generalize fa k = xa at *
      generalize fb k = xb at *
      have hgt : ¬ xb < xa := by omega
      have hgd : decide (xb < xa) = false := decide_eq_false hgt
      go_wp2_with fail
      go_quiet (fail)
      go_wp2_with fail
      exact ⟨⟨k + 1, by omega, by go_num, bl_drewN B0 _⟩, by simp [intOf]; omega⟩
    · obtain rfl : k = n := by omega
      go_wp2_with fail
      go_ret
      exact ⟨rfl, B0⟩
end Go.Proofs.Ytlghmojjcfjibaa
/- PoolGreater: pools. -/
namespace Go.Proofs.Ytlghmojjcfjibaa
open Go.RowKit Go.Shelf

theorem ps_start (w : World) (h v c : Int) (r s sy sx t l b q : Int) : ∃ W, (w.alloc (.cells #[.int .i64 h, .int .i64 v, .int .i64 c] 23)).alloc (.cells #[.int .i64 r, .int .i64 s, .int .i64 sy, .int .i64 sx, .int .i64 t, .int .i64 l, .int .i64 b, .int .i64 q] 28) = W ∧ W.rowIs w.heap.size 23 3 (hf h v c) ∧ W.rowIs (w.heap.size + 1) 28 8 (wnf r s sy sx t l b q) ∧ Below w.heap.size w W := by
  refine ⟨_, rfl, (hf_new w _ _ _ _).alloc _, ?_, bl_alloc (bl_alloc (Below.refl _ _) _) _⟩
  have := wnf_new (w.alloc (.cells #[.int .i64 h, .int .i64 v, .int .i64 c] 23)) r s sy sx t l b q 28
  rw [World.size_alloc] at this
  exact this
theorem Qb.elU {H V C m N : Nat} (h : Qb H V C m N) : H * V * C ≤ 16777216 := by
  obtain ⟨H', V', C', e1, e2, e3, _, _, _, hb⟩ := chk_nat h.ck
  obtain rfl : H = H' := by omega
  obtain rfl : V = V' := by omega
  obtain rfl : C = C' := by omega
  exact hb
theorem unpack_fit {H V C m N n : Nat} (ao : Option Addr) (cap : Nat) (w : World) (q : Qb H V C m N) (hn : H * V * C = n) (hmc : m ≤ cap) (hcap : cap ≤ 9223372036854775807) (rd : Wr w ao m N) :
    Calls Try.prog 43 #[cuv H V C ao m cap] w fun e w' => ∃ G, e = .returned (.tuple #[.slice (some ⟨G, 0, none⟩) n n, .int .i64 0]) ∧ Rs w' (some ⟨G, 0, none⟩) n (fun j => .int .i8 (uv N C j)) ∧ Below w.heap.size w w' := by
  obtain ⟨g, o, rfl⟩ := rd.some q.pos
  subst hn
  refine (cunpack_ok H V C g o m cap N w q.hH q.hV q.hC q.elU (cuk_of q.ck q.hm q.pk) q.hm hmc hcap rd).mono ?_
  rintro e w1 ⟨G, rfl, _, row, hb⟩
  exact ⟨G, rfl, fun k hk => ⟨G, 0, rfl, by rw [Nat.zero_add]; exact row.cell hk⟩, hb⟩
theorem pack_fit {H V C m n : Nat} (l : List Int) (ao : Option Addr) (cap : Nat) (w : World) (q : Qb H V C m (cU l C (H * V))) (hl : l.length = n) (hn : H * V * C = n) (hmc : n ≤ cap) (hcap : cap ≤ 9223372036854775807) (rd : R8 w ao l) :
    Calls Try.prog 44 #[Sg.shp H V C, .slice ao n cap] w fun e w' => ∃ bo, e = .returned (.tuple #[cuv H V C bo m m, .int .i64 0]) ∧ Wr w' bo m (cU l C (H * V)) ∧ Below w.heap.size w w' := by
  have n0 : 0 < l.length := by rw [hl, ← hn]; exact Nat.mul_pos (Nat.mul_pos q.hH.1 q.hV.1) q.hC.1
  obtain ⟨g, o, rfl, _⟩ := rd 0 n0
  refine (cpack_ok H V C l n hl g o cap w q.hH q.hV q.hC hn.symm (by rw [← hn]; exact q.elU) hmc hcap q.ck m q.hm.symm rd).mono ?_
  rintro e w1 ⟨G, rfl, _, row, hb⟩
  exact ⟨_, rfl, Wr.row row (by rw [q.hm]; exact cU_lt l C (H * V)), hb⟩
set_option maxHeartbeats 6400000 in
set_option maxRecDepth 100000 in
theorem pools_fit {H V C R S y x m n OH OW M k : Nat} (l : List Int) (ao : Option Addr) (cap : Nat) (w : World) (pg : Pg H V C R S y x m (cU l C (H * V))) (hl : l.length = n) (hn : H * V * C = n) (eH : oS H R y = OH) (eW : oS V S x = OW) (eM : OH * OW * nw C = M) (ek : OH * OW * C = k) (hmc : n ≤ cap) (hcap : cap ≤ 9223372036854775807) (rd : R8 w ao l) :
    Calls Try.prog 18 #[Sg.shp H V C, .slice ao n cap, Sg.win R S y x 0 0 0 0] w fun e w' => ∃ G1 G2, e = .returned (.tuple #[.slice (some ⟨G1, 0, none⟩) k k, .slice (some ⟨G2, 0, none⟩) k k, .bool true]) ∧
      Rs w' (some ⟨G1, 0, none⟩) k (fun j => .int .i8 (uv (poN false (cU l C (H * V)) V (nw C) R S y x OW (OH * OW)) C j)) ∧ Rs w' (some ⟨G2, 0, none⟩) k (fun j => .int .i8 (uv (poN true (cU l C (H * V)) V (nw C) R S y x OW (OH * OW)) C j)) ∧ Below w.heap.size w w' := by
  have qb := pg.qb
  have HP := hid1 (fun W r => pack_fit l ao cap W qb hl hn hmc hcap r)
  have HX := hid1 (fun bo W r => max_fit bo m W pg qb.pos eH eW eM (Nat.le_refl _) (Nat.le_trans qb.le (by decide)) r)
  have HN := hid1 (fun bo W r => min_fit bo m W pg qb.pos eH eW eM (Nat.le_refl _) (Nat.le_trans qb.le (by decide)) r)
  have q1 : Qb OH OW C M (poN false (cU l C (H * V)) V (nw C) R S y x OW (OH * OW)) := by
    have := qb.next (al := false) pg.hR pg.hS pg.hy pg.hx ⟨pg.fH, pg.fV⟩ (M := M) (by rw [eH, eW, eM]) rfl
    rwa [eH, eW] at this
  have q2 : Qb OH OW C M (poN true (cU l C (H * V)) V (nw C) R S y x OW (OH * OW)) := by
    have := qb.next (al := true) pg.hR pg.hS pg.hy pg.hx ⟨pg.fH, pg.fV⟩ (M := M) (by rw [eH, eW, eM]) rfl
    rwa [eH, eW] at this
  generalize poN false (cU l C (H * V)) V (nw C) R S y x OW (OH * OW) = X1 at *
  generalize poN true (cU l C (H * V)) V (nw C) R S y x OW (OH * OW) = X2 at *
  generalize cU l C (H * V) = NN at *
  have HU1 := hid1 (fun bo W r => unpack_fit bo M W q1 ek (Nat.le_refl _) (Nat.le_trans q1.le (by decide)) r)
  have HU2 := hid1 (fun bo W r => unpack_fit bo M W q2 ek (Nat.le_refl _) (Nat.le_trans q2.le (by decide)) r)
  have HST := hid1 (ps_start w H V C R S y x 0 0 0 0)
  have RD := hid1 rd
  clear rd pg qb hl hn eH eW eM ek q1 q2
  go_enter Try.func18, Try.ntmps18
  go_wp2_with fail
  refine gen_calls (fun W => W.rowIs w.heap.size 23 3 (hf H V C) ∧ W.rowIs (w.heap.size + 1) 28 8 (wnf R S y x 0 0 0 0) ∧ Below w.heap.size w W) (by obtain ⟨X, rfl, z⟩ := HST.out; exact z) ?_
  rintro W ⟨b0, b1, B1⟩
  refine (HP.out W (RD.out.below B1)).mono ?_
  rintro e x1 ⟨bc, rfl, rc, hb⟩
  replace b0 := keepr hb b0
  replace b1 := keepr hb b1
  have B2 := bl_step B1 hb
  clear hb B1
  clear b0
  obtain ⟨b1w0, b1w1, b1w2, b1w3, b1w4, b1w5, b1w6, b1w7⟩ := wnf_wn b1
  simp only [Nat.zero_add] at b1w1 b1w2 b1w3 b1w4 b1w5 b1w6 b1w7
  have b1l := b1.lt
  go_wp2_with fail
  refine gen_calls (fun W => W.rowIs (w.heap.size + 1) 28 8 (wnf R S y x 0 0 0 0) ∧ Wr W bc m NN ∧ W.rowIs (x1.heap.size) 26 4 (cf H V C bc m m) ∧ Below w.heap.size w W) ⟨b1.alloc _, rc.below (bl_alloc (Below.refl _ _) _), cu_new _ _ _ _ _ _ _ _, bl_alloc B2 _⟩ ?_
  clear b1 rc b1w0 b1w1 b1w2 b1w3 b1w4 b1w5 b1w6 b1w7 b1l B2
  rintro Y1w ⟨b1, rc, b2, B3⟩
  refine (HX.out _ _ rc).mono ?_
  rintro e x2 ⟨ba, rfl, ra, hb⟩
  replace b1 := keepr hb b1
  replace rc := rc.below hb
  replace b2 := keepr hb b2
  have B4 := bl_step B3 hb
  clear hb B3
  have b2c0 := cf0 b2
  have b2c1 := cf1 b2
  have b2c2 := cf2 b2
  have b2c3 := cf3 b2
  have b2l := b2.lt
  obtain ⟨b1w0, b1w1, b1w2, b1w3, b1w4, b1w5, b1w6, b1w7⟩ := wnf_wn b1
  simp only [Nat.zero_add] at b1w1 b1w2 b1w3 b1w4 b1w5 b1w6 b1w7
  have b1l := b1.lt
  go_wp2_with fail
  refine gen_calls (fun W => W.rowIs (w.heap.size + 1) 28 8 (wnf R S y x 0 0 0 0) ∧ Wr W bc m NN ∧ W.rowIs (x1.heap.size) 26 4 (cf H V C bc m m) ∧ Wr W ba M X1 ∧ W.rowIs (x2.heap.size) 26 4 (cf OH OW C ba M M) ∧ Below w.heap.size w W) ⟨b1.alloc _, rc.below (bl_alloc (Below.refl _ _) _), b2.alloc _, ra.below (bl_alloc (Below.refl _ _) _), cu_new _ _ _ _ _ _ _ _, bl_alloc B4 _⟩ ?_
  clear b1 rc b2 ra b2c0 b2c1 b2c2 b2c3 b2l b1w0 b1w1 b1w2 b1w3 b1w4 b1w5 b1w6 b1w7 b1l B4
  rintro Y2w ⟨b1, rc, b2, ra, b3, B5⟩
  refine (HN.out _ _ rc).mono ?_
  rintro e x3 ⟨bb, rfl, rb, hb⟩
  replace b1 := keepr hb b1
  replace rc := rc.below hb
  replace b2 := keepr hb b2
  replace ra := ra.below hb
  replace b3 := keepr hb b3
  have B6 := bl_step B5 hb
  clear hb B5
  clear b2 b1 rc
  have b3c0 := cf0 b3
  have b3c1 := cf1 b3
  have b3c2 := cf2 b3
  have b3c3 := cf3 b3
  have b3l := b3.lt
  go_wp2_with fail
  refine gen_calls (fun W => Wr W ba M X1 ∧ W.rowIs (x2.heap.size) 26 4 (cf OH OW C ba M M) ∧ Wr W bb M X2 ∧ W.rowIs (x3.heap.size) 26 4 (cf OH OW C bb M M) ∧ Below w.heap.size w W) ⟨ra.below (bl_alloc (Below.refl _ _) _), b3.alloc _, rb.below (bl_alloc (Below.refl _ _) _), cu_new _ _ _ _ _ _ _ _, bl_alloc B6 _⟩ ?_
  clear ra b3 rb b3c0 b3c1 b3c2 b3c3 b3l B6
  rintro Y3w ⟨ra, b3, rb, b4, B7⟩
  refine (HU1.out _ _ ra).mono ?_
  rintro e x4 ⟨G1, rfl, s1, hb⟩
  replace ra := ra.below hb
  replace b3 := keepr hb b3
  replace rb := rb.below hb
  replace b4 := keepr hb b4
  have B8 := bl_step B7 hb
  clear hb B7
  clear b3 ra
  have b4c0 := cf0 b4
  have b4c1 := cf1 b4
  have b4c2 := cf2 b4
  have b4c3 := cf3 b4
  have b4l := b4.lt
  go_wp2_with fail
  refine (HU2.out _ _ rb).mono ?_
  rintro e x5 ⟨G2, rfl, s2, hb⟩
  replace rb := rb.below hb
  replace b4 := keepr hb b4
  replace s1 := s1.below hb
  have B9 := bl_step B8 hb
  clear hb B8 b4c0 b4c1 b4c2 b4c3 b4l
  go_wp2_with fail
  exact bodyPost_ret (v := .tuple #[.slice (some ⟨G1, 0, none⟩) k k, .slice (some ⟨G2, 0, none⟩) k k, .bool true]) (by simp [results, Try.results18, go_sem]) rfl ⟨G1, G2, rfl, s1, s2, B9⟩
end Go.Proofs.Ytlghmojjcfjibaa
/- PoolGreater. -/
namespace Go.Proofs.Ytlghmojjcfjibaa
open Go.RowKit Go.Shelf

theorem sl_zero {h v c r s sy sx t l b q : Int} (k : Sg.slE h v c r s sy sx t l b q c = 0) : Sg.chk h v c = 0 ∧ Sg.WOk r s sy sx t l b q := by
  unfold Sg.slE at k
  by_cases h1 : Sg.chk h v c ≠ 0
  · rw [if_pos h1] at k; exact absurd k h1
  · rw [if_neg h1] at k
    by_cases h0 : c < 1 ∨ c > 4096
    · rw [if_pos h0] at k; omega
    · rw [if_neg h0] at k
      by_cases h2 : ¬ Sg.WOk r s sy sx t l b q
      · rw [if_pos h2] at k; omega
      · exact ⟨Classical.byContradiction fun x => h1 x, Classical.byContradiction fun x => h2 x⟩
theorem pok_zero (P C : Nat) : Pok P C 0 := fun p _ => by
  have : pl 0 (nw C) p = 0 := by unfold pl; simp
  rw [this]; exact Nat.two_pow_pos C
/-- All that is asked of the values. -/
theorem great_math {la lb : List Int} {H V C R S y x OH OW k : Nat} (hC : 0 < C) (hR : 0 < R) (hS : 0 < S) (fy : ∀ p, p < OH → p * y + R ≤ H) (fx : ∀ p, p < OW → p * x + S ≤ V) (ek : OH * OW * C = k) (j : Nat) (hj : j < k) :
    uv (poN true (cU la C (H * V)) V (nw C) R S y x OW (OH * OW)) C j ≤ uv (poN false (cU la C (H * V)) V (nw C) R S y x OW (OH * OW)) C j ∧
    uv (poN false (cU la C (H * V)) V (nw C) R S y x OW (OH * OW)) C j ≤ uv (poN false (cU (gL la lb (H * V * C)) C (H * V)) V (nw C) R S y x OW (OH * OW)) C j ∧
    uv (poN true (cU la C (H * V)) V (nw C) R S y x OW (OH * OW)) C j ≤ uv (poN true (cU (gL la lb (H * V * C)) C (H * V)) V (nw C) R S y x OW (OH * OW)) C j ∧
    uv (poN false (cU lb C (H * V)) V (nw C) R S y x OW (OH * OW)) C j ≤ uv (poN false (cU (gL la lb (H * V * C)) C (H * V)) V (nw C) R S y x OW (OH * OW)) C j ∧
    (if uv (poN false (cU lb C (H * V)) V (nw C) R S y x OW (OH * OW)) C j > uv (poN false (cU la C (H * V)) V (nw C) R S y x OW (OH * OW)) C j then uv (poN false (cU lb C (H * V)) V (nw C) R S y x OW (OH * OW)) C j else uv (poN false (cU la C (H * V)) V (nw C) R S y x OW (OH * OW)) C j) = uv (poN false (cU (gL la lb (H * V * C)) C (H * V)) V (nw C) R S y x OW (OH * OW)) C j := by
  subst ek
  have hp : j / C < OH * OW := Nat.div_lt_of_lt_mul (by rwa [Nat.mul_comm])
  have h0 : 0 < OW := by
    rcases Nat.eq_zero_or_pos OW with e | e
    · subst e; simp at hp
    · exact e
  have hy := fy _ (Nat.div_lt_of_lt_mul (by rwa [Nat.mul_comm] : j / C < OW * OH))
  have hx := fx _ (Nat.mod_lt (j / C) h0)
  have hb : j % C < C := Nat.mod_lt _ hC
  have E := fun (al : Bool) (N : Nat) => eb_po (al := al) (N := N) (V := V) (R := R) (S := S) (y := y) (x := x) (OH := OH) (OW := OW) (j := j) hC hR hS fx hj
  have G : ∀ i, i < R → ∀ k, k < S → pbt (cU (gL la lb (H * V * C)) C (H * V)) V (nw C) (j / C / OW * y + i) (j / C % OW * x + k) (j % C) = (pbt (cU la C (H * V)) V (nw C) (j / C / OW * y + i) (j / C % OW * x + k) (j % C) || pbt (cU lb C (H * V)) V (nw C) (j / C / OW * y + i) (j / C % OW * x + k) (j % C)) := fun i hi k hk => by
    refine cU_gL ?_ hb
    have : (j / C / OW * y + i + 1) * V ≤ H * V := Nat.mul_le_mul_right _ (by omega)
    rw [Nat.succ_mul] at this; omega
  refine ⟨uv_le ?_, uv_le ?_, uv_le ?_, uv_le ?_, uv_max ?_⟩
  · rw [E, E]; exact se_all_one hR hS
  · rw [E, E]; exact se_mono fun i hi k hk h => by rw [G i hi k hk, h]; rfl
  · rw [E, E]; exact se_mono fun i hi k hk h => by rw [G i hi k hk, h]; rfl
  · rw [E, E]; exact se_mono fun i hi k hk h => by rw [G i hi k hk, h]; simp
  · rw [E, E, E]; exact se_or G
/-- Values as a list. -/
def vL (X C k : Nat) : List Int := (List.range k).map fun j => uv X C j
theorem vL_len (X C k : Nat) : (vL X C k).length = k := by simp [vL]
theorem vL_at {X C k j : Nat} (h : j < k) : ia (vL X C k) j = uv X C j := by
  unfold vL
  rw [show ia ((List.range k).map fun j => uv X C j) j = ((List.range k).map fun j => uv X C j).getD j 0 from rfl]
  rw [List.getD_eq_getElem?_getD, List.getElem?_map, List.getElem?_range h]
  rfl
theorem Rs.r8 {w : World} {ao : Option Addr} {X C k : Nat} (h : Rs w ao k (fun j => .int .i8 (uv X C j))) : R8 w ao (vL X C k) := fun j hj => by
  rw [vL_len] at hj
  rw [vL_at hj]
  exact h j hj
theorem kpG {W X : World} {b : Nat} {v0 v1 v2 v3 v4 v5 v6 v7 v8 v9 v10 : Value} (h : (W.cell? ⟨b, 0, none⟩ = some v0 ∧ W.cell? ⟨b, 1, none⟩ = some v1 ∧ W.cell? ⟨b, 2, none⟩ = some v2) ∧ W.cell? ⟨b + 1, 0, none⟩ = some v3 ∧ W.cell? ⟨b + 1, 1, none⟩ = some v4 ∧ W.cell? ⟨b + 1, 2, none⟩ = some v5 ∧ W.cell? ⟨b + 1, 3, none⟩ = some v6 ∧ W.cell? ⟨b + 1, 4, none⟩ = some v7 ∧ W.cell? ⟨b + 1, 5, none⟩ = some v8 ∧ W.cell? ⟨b + 1, 6, none⟩ = some v9 ∧ W.cell? ⟨b + 1, 7, none⟩ = some v10) (hb : Below W.heap.size W X) :
    (X.cell? ⟨b, 0, none⟩ = some v0 ∧ X.cell? ⟨b, 1, none⟩ = some v1 ∧ X.cell? ⟨b, 2, none⟩ = some v2) ∧ X.cell? ⟨b + 1, 0, none⟩ = some v3 ∧ X.cell? ⟨b + 1, 1, none⟩ = some v4 ∧ X.cell? ⟨b + 1, 2, none⟩ = some v5 ∧ X.cell? ⟨b + 1, 3, none⟩ = some v6 ∧ X.cell? ⟨b + 1, 4, none⟩ = some v7 ∧ X.cell? ⟨b + 1, 5, none⟩ = some v8 ∧ X.cell? ⟨b + 1, 6, none⟩ = some v9 ∧ X.cell? ⟨b + 1, 7, none⟩ = some v10 := by
  obtain ⟨⟨a0, a1, a2⟩, b0, b1, b2, b3, b4, b5, b6, b7⟩ := h
  exact ⟨⟨keepc hb a0, keepc hb a1, keepc hb a2⟩, keepc hb b0, keepc hb b1, keepc hb b2, keepc hb b3, keepc hb b4, keepc hb b5, keepc hb b6, keepc hb b7⟩
set_option maxHeartbeats 6400000 in
set_option maxRecDepth 100000 in
theorem poolGreater_any (h v c : Int) (ao : Option Addr) (la : List Int) (n1 ca : Nat) (ha : la.length = n1) (bo : Option Addr) (lb : List Int) (n2 cb : Nat) (hb2 : lb.length = n2) (r s sy sx t l b q : Int) (w : World) (hac : n1 ≤ ca) (hca : ca ≤ 9223372036854775807) (hbc : n2 ≤ cb) (hcb : cb ≤ 9223372036854775807) (ra : R8 w ao la) (rb : R8 w bo lb) :
    Calls Try.prog 5 #[Sg.shp h v c, .slice ao n1 ca, .slice bo n2 cb, Sg.win r s sy sx t l b q] w fun e w' => e = .returned (.bool true) ∧ Below w.heap.size w w' := by
  have HST := hid1 (ps_start w h v c r s sy sx t l b q)
  have HSL := hid1 (fun W => Sg.slide_any h v c r s sy sx t l b q c W)
  have HEL := hid1 (fun W => Sg.elems_any h v c W)
  have RA := hid1 ra
  have RB := hid1 rb
  have HA := hid1 ha
  have HB := hid1 hb2
  clear ra rb ha hb2
  obtain ⟨a1, a2, a3, hsv⟩ : ∃ a1 a2 a3 : Int, Sg.slV h v c r s sy sx t l b q c = Sg.sle a1 a2 a3 (Sg.slE h v c r s sy sx t l b q c) := by
    unfold Sg.slV
    by_cases k : Sg.slE h v c r s sy sx t l b q c = 0
    · rw [if_pos k, k]; exact ⟨_, _, _, rfl⟩
    · rw [if_neg k]; exact ⟨_, _, _, rfl⟩
  rw [hsv] at HSL
  clear hsv
  obtain ⟨E, hE⟩ : ∃ E, Sg.slE h v c r s sy sx t l b q c = E := ⟨_, rfl⟩
  obtain ⟨en, hen⟩ : ∃ E, Sg.elN h v c = E := ⟨_, rfl⟩
  rw [hE] at HSL
  rw [hen] at HEL
  obtain ⟨ck, hck⟩ : ∃ E, Sg.chk h v c = E := ⟨_, rfl⟩
  rw [hck] at HEL
  have HE := hid1 hE
  have HEN := hid1 hen
  clear hE hen hck
  go_enter Try.func5, Try.ntmps5
  go_wp2_with fail
  refine gen_calls (fun W => W.rowIs w.heap.size 23 3 (hf h v c) ∧ W.rowIs (w.heap.size + 1) 28 8 (wnf r s sy sx t l b q) ∧ Below w.heap.size w W) (by obtain ⟨X, rfl, z⟩ := HST.out; exact z) ?_
  rintro W ⟨b0, b1, B1⟩
  refine (ubegun_any W).mono ?_
  rintro e w1 ⟨rfl, hb⟩
  replace b0 := keepr hb b0
  replace b1 := keepr hb b1
  have B2 := bl_step B1 hb
  clear hb B1
  have b0c0 := hf0 b0
  have b0c1 := hf1 b0
  have b0c2 := hf2 b0
  have b0l := b0.lt
  obtain ⟨b1w0, b1w1, b1w2, b1w3, b1w4, b1w5, b1w6, b1w7⟩ := wnf_wn b1
  simp only [Nat.zero_add] at b1w1 b1w2 b1w3 b1w4 b1w5 b1w6 b1w7
  have b1l := b1.lt
  go_wp2_with fail
  refine (HSL.out _).mono ?_
  rintro e w2 ⟨rfl, hb⟩
  replace b0 := keepr hb b0
  replace b1 := keepr hb b1
  have B3 := bl_step B2 hb
  clear hb B2 b0c0 b0c1 b0c2 b0l b1w0 b1w1 b1w2 b1w3 b1w4 b1w5 b1w6 b1w7 b1l
  have b0c0 := hf0 b0
  have b0c1 := hf1 b0
  have b0c2 := hf2 b0
  have b0l := b0.lt
  go_wp2_with fail
  refine gen_calls (fun W => W.rowIs (w.heap.size) 23 3 (hf h v c) ∧ W.rowIs (w.heap.size + 1) 28 8 (wnf r s sy sx t l b q) ∧ Below w.heap.size w W) ⟨b0.alloc _, b1.alloc _, bl_alloc B3 _⟩ ?_
  clear b0 b1 b0c0 b0c1 b0c2 b0l B3
  rintro W3 ⟨b0, b1, B4⟩
  refine (HEL.out _).mono ?_
  rintro e w3 ⟨rfl, hb⟩
  replace b0 := keepr hb b0
  replace b1 := keepr hb b1
  have B5 := bl_step B4 hb
  clear hb B4
  go_upto_region 5 with fail
  have b0c0 := hf0 b0
  have b0c1 := hf1 b0
  have b0c2 := hf2 b0
  have b0l := b0.lt
  obtain ⟨b1w0, b1w1, b1w2, b1w3, b1w4, b1w5, b1w6, b1w7⟩ := wnf_wn b1
  simp only [Nat.zero_add] at b1w1 b1w2 b1w3 b1w4 b1w5 b1w6 b1w7
  have b1l := b1.lt
  by_cases k0 : E = 0
  · subst k0
    by_cases k1 : t = 0
    · subst k1
      by_cases k2 : l = 0
      · subst k2
        by_cases k3 : b = 0
        · subst k3
          by_cases k4 : q = 0
          · subst k4
            by_cases k5 : (n1 : Int) = en
            · skip
              by_cases k6 : (n2 : Int) = en
              · skip
                obtain ⟨hck, hwk⟩ := sl_zero HE.out
                obtain ⟨H, V, C, rfl, rfl, rfl, hH, hV, hC, hel⟩ := chk_nat hck
                have qb0 : Qb H V C (H * V * nw C) 0 := ⟨hH, hV, hC, hck, rfl, pok_zero _ _⟩
                have hg : gE H V C r s sy sx 0 0 0 0 = 0 := by unfold gE; rw [if_neg (fun z => z.elim (fun z => z hwk) (by omega))]; exact HE.out
                obtain ⟨R, S, y, x, rfl, rfl, rfl, rfl, -, -, -, -, hR, hS, hy, hx, fH, fV⟩ := gE_zero qb0 hg
                have een : en = (H * V * C : Nat) := by rw [← HEN.out]; exact elN_nat hck
                obtain ⟨n, hn⟩ : ∃ n, H * V * C = n := ⟨_, rfl⟩
                rw [hn] at een
                obtain rfl : n1 = n := by omega
                obtain rfl : n1 = n2 := by omega
                obtain ⟨OH, eH⟩ : ∃ z, oS H R y = z := ⟨_, rfl⟩
                obtain ⟨OW, eW⟩ : ∃ z, oS V S x = z := ⟨_, rfl⟩
                obtain ⟨M, eM⟩ : ∃ z, OH * OW * nw C = z := ⟨_, rfl⟩
                obtain ⟨kk, ek⟩ : ∃ z, OH * OW * C = z := ⟨_, rfl⟩
                have n0 : 0 < n1 := by rw [← hn]; exact Nat.mul_pos (Nat.mul_pos hH.1 hV.1) hC.1
                have n16 : n1 ≤ 16777216 := by rw [← hn]; exact hel
                have hOH : 0 < OH := by rw [← eH]; exact oS_pos _ _ _
                have hOW : 0 < OW := by rw [← eW]; exact oS_pos _ _ _
                have kk0 : 0 < kk := by rw [← ek]; exact Nat.mul_pos (Nat.mul_pos hOH hOW) hC.1
                have kk16 : kk ≤ 16777216 := by
                  rw [← ek]
                  refine Nat.le_trans (Nat.mul_le_mul_right _ (Nat.mul_le_mul ?_ ?_)) hel
                  · rw [← eH]; exact oS_le fH hR.1
                  · rw [← eW]; exact oS_le fV hS.1
                have PG := fun (l : List Int) => (show Pg H V C R S y x (H * V * nw C) (cU l C (H * V)) from ⟨hH, hV, hC, hR, hS, hy, hx, fH, fV, hck, rfl, cU_pok _ _ _⟩)
                have HP1 := hid1 (fun W r' => pools_fit la ao ca W (PG la) HA.out hn eH eW eM ek hac hca r')
                have HP2 := hid1 (fun W r' => pools_fit lb bo cb W (PG lb) HB.out hn eH eW eM ek hbc hcb r')
                have HP3 := hid1 (fun go K W (h1 : n1 ≤ K) (h2 : K ≤ 9223372036854775807) r' => pools_fit (gL la lb n1) go K W (PG (gL la lb n1)) (gL_len _ _ _) hn eH eW eM ek h1 h2 r')
                have HG1 := hid1 (fun W r1 r2 => greater_any n1 la lb HA.out HB.out ao bo ca cb W ⟨n0, n16⟩ r1 r2)
                have GM := hid1 (fun j hj => great_math (la := la) (lb := lb) (H := H) (V := V) (C := C) (R := R) (S := S) (y := y) (x := x) (OH := OH) (OW := OW) hC.1 hR.1 hS.1 (fun p hp => oS_fit fH (by rw [eH]; exact hp)) (fun p hp => oS_fit fV (by rw [eW]; exact hp)) ek j hj)
                rw [hn] at GM
                generalize poN false (cU la C (H * V)) V (nw C) R S y x OW (OH * OW) = X1 at *
                generalize poN true (cU la C (H * V)) V (nw C) R S y x OW (OH * OW) = X2 at *
                generalize poN false (cU lb C (H * V)) V (nw C) R S y x OW (OH * OW) = X3 at *
                generalize poN true (cU lb C (H * V)) V (nw C) R S y x OW (OH * OW) = X4 at *
                generalize poN false (cU (gL la lb n1) C (H * V)) V (nw C) R S y x OW (OH * OW) = X5 at *
                generalize poN true (cU (gL la lb n1) C (H * V)) V (nw C) R S y x OW (OH * OW) = X6 at *
                clear PG hck hwk hel qb0 hg hn eH eW eM ek hOH hOW fH fV hR hS hy hx hH hV hC HE HEN een
                have RA' := RA.out.below B5
                have RB' := RB.out.below B5
                go_wp2_with fail
                refine (HP1.out _ RA').mono ?_
                rintro e x1 ⟨G1, G2, rfl, s1, s2, hb⟩
                replace b0 := keepr hb b0
                replace b1 := keepr hb b1
                replace RA' := RA'.below hb
                replace RB' := RB'.below hb
                have B6 := bl_step B5 hb
                clear hb B5 b0c0 b0c1 b0c2 b0l b1w0 b1w1 b1w2 b1w3 b1w4 b1w5 b1w6 b1w7 b1l
                have b0c0 := hf0 b0
                have b0c1 := hf1 b0
                have b0c2 := hf2 b0
                have b0l := b0.lt
                obtain ⟨b1w0, b1w1, b1w2, b1w3, b1w4, b1w5, b1w6, b1w7⟩ := wnf_wn b1
                simp only [Nat.zero_add] at b1w1 b1w2 b1w3 b1w4 b1w5 b1w6 b1w7
                have b1l := b1.lt
                go_wp2_with fail
                refine (HP2.out _ RB').mono ?_
                rintro e x2 ⟨G3, G4, rfl, s3, s4, hb⟩
                replace b0 := keepr hb b0
                replace b1 := keepr hb b1
                replace RA' := RA'.below hb
                replace RB' := RB'.below hb
                replace s1 := s1.below hb
                replace s2 := s2.below hb
                have B7 := bl_step B6 hb
                clear hb B6 b0c0 b0c1 b0c2 b0l b1w0 b1w1 b1w2 b1w3 b1w4 b1w5 b1w6 b1w7 b1l
                clear s4
                have b0c0 := hf0 b0
                have b0c1 := hf1 b0
                have b0c2 := hf2 b0
                have b0l := b0.lt
                obtain ⟨b1w0, b1w1, b1w2, b1w3, b1w4, b1w5, b1w6, b1w7⟩ := wnf_wn b1
                simp only [Nat.zero_add] at b1w1 b1w2 b1w3 b1w4 b1w5 b1w6 b1w7
                have b1l := b1.lt
                have HC11 := hid1 (And.intro (And.intro b0c0 (And.intro b0c1 b0c2)) (And.intro b1w0 (And.intro b1w1 (And.intro b1w2 (And.intro b1w3 (And.intro b1w4 (And.intro b1w5 (And.intro b1w6 b1w7))))))))
                clear b0c0 b0c1 b0c2 b0l b1w0 b1w1 b1w2 b1w3 b1w4 b1w5 b1w6 b1w7 b1l
                have H0f := hid1 b0
                have H1f := hid1 b1
                have H2f := hid1 RA'
                have H3f := hid1 RB'
                have H4f := hid1 s1
                have H5f := hid1 s2
                have H6f := hid1 s3
                clear b0 b1 RA' RB' s1 s2 s3
                go_upto_region 9 with fail
                go_region_held3 (fun X => (X.cell? ⟨w.heap.size, 0, none⟩ = some (.int .i64 H) ∧ X.cell? ⟨w.heap.size, 1, none⟩ = some (.int .i64 V) ∧ X.cell? ⟨w.heap.size, 2, none⟩ = some (.int .i64 C)) ∧ X.cell? ⟨w.heap.size + 1, 0, none⟩ = some (.int .i64 R) ∧ X.cell? ⟨w.heap.size + 1, 1, none⟩ = some (.int .i64 S) ∧ X.cell? ⟨w.heap.size + 1, 2, none⟩ = some (.int .i64 y) ∧ X.cell? ⟨w.heap.size + 1, 3, none⟩ = some (.int .i64 x) ∧ X.cell? ⟨w.heap.size + 1, 4, none⟩ = some (.int .i64 0) ∧ X.cell? ⟨w.heap.size + 1, 5, none⟩ = some (.int .i64 0) ∧ X.cell? ⟨w.heap.size + 1, 6, none⟩ = some (.int .i64 0) ∧ X.cell? ⟨w.heap.size + 1, 7, none⟩ = some (.int .i64 0))
                  (((try dsimp only); (with_reducible refine kpG (W := x2) HC11.out ?_); repeat (first | (with_reducible exact Below.refl _ _) | (with_reducible assumption) | (with_reducible refine Below.drew ?_))))
                  (first
                    | (go_at_call 19; refine (HG1.out _ (H2f.out.below (Below.refl _ _).drew) (H3f.out.below (Below.refl _ _).drew)).mono ?_; rintro e y1 ⟨G5, K5, rfl, k51, k52, r5, hb⟩; have bb1 : Below x2.heap.size x2 y1 := bl_step (Below.refl _ _).drew hb; clear hb)
                    | (go_at_call 18; refine (HP3.out _ _ _ k51 k52 r5).mono ?_; rintro e y2 ⟨G6, G7, rfl, s5, s6, hb⟩; have bb2 : Below x2.heap.size x2 y2 := bl_step bb1 hb; clear hb))
                have s1 := H4f.out.below bb2
                have s2 := H5f.out.below bb2
                have s3 := H6f.out.below bb2
                have B8 := bl_step B7 bb2
                clear bb1 bb2 r5 B7
                go_wp2_with fail
                refine (below_true kk (fun j => uv X2 C j) (fun j => uv X1 C j) (fun j hj => (GM.out j hj).1) _ _ _ _ _ kk16 s2 s1).mono ?_
                rintro e z1 ⟨rfl, hb⟩
                replace s1 := s1.below hb
                replace s2 := s2.below hb
                replace s3 := s3.below hb
                replace s5 := s5.below hb
                replace s6 := s6.below hb
                have B9 := bl_step B8 hb
                clear hb B8
                go_wp2_with fail
                refine (below_true kk (fun j => uv X1 C j) (fun j => uv X5 C j) (fun j hj => (GM.out j hj).2.1) _ _ _ _ _ kk16 s1 s5).mono ?_
                rintro e z2 ⟨rfl, hb⟩
                replace s1 := s1.below hb
                replace s2 := s2.below hb
                replace s3 := s3.below hb
                replace s5 := s5.below hb
                replace s6 := s6.below hb
                have B10 := bl_step B9 hb
                clear hb B9
                go_wp2_with fail
                refine (below_true kk (fun j => uv X2 C j) (fun j => uv X6 C j) (fun j hj => (GM.out j hj).2.2.1) _ _ _ _ _ kk16 s2 s6).mono ?_
                rintro e z3 ⟨rfl, hb⟩
                replace s1 := s1.below hb
                replace s2 := s2.below hb
                replace s3 := s3.below hb
                replace s5 := s5.below hb
                replace s6 := s6.below hb
                have B11 := bl_step B10 hb
                clear hb B10
                go_wp2_with fail
                refine (below_true kk (fun j => uv X3 C j) (fun j => uv X5 C j) (fun j hj => (GM.out j hj).2.2.2.1) _ _ _ _ _ kk16 s3 s5).mono ?_
                rintro e z4 ⟨rfl, hb⟩
                replace s1 := s1.below hb
                replace s2 := s2.below hb
                replace s3 := s3.below hb
                replace s5 := s5.below hb
                replace s6 := s6.below hb
                have B12 := bl_step B11 hb
                clear hb B11
                go_wp2_with fail
                refine (greater_any kk (vL X1 C kk) (vL X3 C kk) (vL_len _ _ _) (vL_len _ _ _) _ _ _ _ _ ⟨kk0, kk16⟩ s1.r8 s3.r8).mono ?_
                rintro e z5 ⟨G8, K8, rfl, -, -, r8, hb⟩
                replace s1 := s1.below hb
                replace s2 := s2.below hb
                replace s3 := s3.below hb
                replace s5 := s5.below hb
                replace s6 := s6.below hb
                have B13 := bl_step B12 hb
                clear hb B12
                have s8 : Rs z5 (some ⟨G8, 0, none⟩) kk (fun j => .int .i8 (uv X5 C j)) := fun j hj => by
                  have := r8 j (by rw [gL_len]; exact hj)
                  rw [gL_at hj, vL_at hj, vL_at hj, (GM.out j hj).2.2.2.2] at this
                  exact this
                clear r8
                go_wp2_with fail
                refine (below_true kk (fun j => uv X5 C j) (fun j => uv X5 C j) (fun j hj => Int.le_refl _) _ _ _ _ _ kk16 s8 s5).mono ?_
                rintro e z6 ⟨rfl, hb⟩
                replace s1 := s1.below hb
                replace s2 := s2.below hb
                replace s3 := s3.below hb
                replace s5 := s5.below hb
                replace s6 := s6.below hb
                replace s8 := s8.below hb
                have B14 := bl_step B13 hb
                clear hb B13
                go_wp2_with fail
                refine (below_true kk (fun j => uv X5 C j) (fun j => uv X5 C j) (fun j hj => Int.le_refl _) _ _ _ _ _ kk16 s5 s8).mono ?_
                rintro e z7 ⟨rfl, hb⟩
                replace s1 := s1.below hb
                replace s2 := s2.below hb
                replace s3 := s3.below hb
                replace s5 := s5.below hb
                replace s6 := s6.below hb
                replace s8 := s8.below hb
                have B15 := bl_step B14 hb
                clear hb B14
                go_wp2_with fail
                go_ret
                exact ⟨rfl, B15⟩
              · go_wp2_with fail
                go_ret
                exact ⟨rfl, B5⟩
            · go_wp2_with fail
              go_ret
              exact ⟨rfl, B5⟩
          · go_wp2_with fail
            go_ret
            exact ⟨rfl, B5⟩
        · go_wp2_with fail
          go_ret
          exact ⟨rfl, B5⟩
      · go_wp2_with fail
        go_ret
        exact ⟨rfl, B5⟩
    · go_wp2_with fail
      go_ret
      exact ⟨rfl, B5⟩
  · go_wp2_with fail
    go_ret
    exact ⟨rfl, B5⟩
end Go.Proofs.Ytlghmojjcfjibaa
namespace Go.Proofs.Ytlghmojjcfjibaa
open Go.ChangeShapes Go.WideShapes Go.ChangeAt Go.RowKit

set_option maxRecDepth 100000 in
theorem poolGreater_lifted (os : Os) (started : os.Started) (H : Type) (enc : TypeId × Value → H) :
    ReturnsInHanded {} Try.checked os 5 .any (Rows.poolGreaterSpec.pre6 enc Try.prog Try.f5 Rows.poolGreaterRow.domain false) (Rows.poolGreaterSpec.post enc Try.prog Try.f5 false true false false) := by
  refine returnsInHanded_of_change_sized (C := Try.checked) own started (by kernel_rfl) Try.func5
    (ChangeSpec.witness6 (enc := enc) (C := Try.checked) false ⟨#[], #[.agg #[.int .i64 0, .int .i64 0, .int .i64 0], .slice none 0 0, .slice none 0 0, .agg #[.int .i64 0, .int .i64 0, .int .i64 0, .int .i64 0, .int .i64 0, .int .i64 0, .int .i64 0, .int .i64 0]], []⟩ 8 (by kernel_rfl) (by kernel_rfl) (by kernel_rfl) (by kernel_rfl)) ?_
  intro W base args ds gs before hval0 hW hcnd hsz _
  have hval : ∀ (j : Nat) t v, Try.f5.params[j]? = some t → args[j]? = some v → Value.okWide Try.prog W .any base t v := hval0
  have hW' := hW
  obtain ⟨p, q, hA0, hV, rfl, hfz, hnd⟩ := hW
  have hA : DataW.TrodAll enc Try.prog W 0 (fun _ => true) true Try.f5.params.toList args.toList ds p := hA0
  rw [Try.params5] at hA hval hsz
  obtain ⟨v0, vs0, d0, ds0, p0, q0, hargs, rfl, rfl, h0, r0⟩ := trodAll_cons hA
  obtain ⟨v1, vs1, d1, ds1, p1, q1, rfl, rfl, rfl, h1, r1⟩ := trodAll_cons r0
  obtain ⟨v2, vs2, d2, ds2, p2, q2, rfl, rfl, rfl, h2, r2⟩ := trodAll_cons r1
  obtain ⟨v3, vs3, d3, ds3, p3, q3, rfl, rfl, rfl, h3, r3⟩ := trodAll_cons r2
  obtain ⟨rfl, rfl, rfl⟩ := trodAll_nil r3
  obtain rfl : args = #[v0, v1, v2, v3] := by cases args; simp_all
  obtain ⟨rfl, rfl⟩ := trodVars_none hV
  have lt0 : ∀ x ∈ p0, x.block < W.heap.size := by obtain ⟨m, hm⟩ := h0; exact DataW.trod_lt m _ _ _ hm
  have k0 := h0
  have lt1 : ∀ x ∈ p1, x.block < W.heap.size := by obtain ⟨m, hm⟩ := h1; exact DataW.trod_lt m _ _ _ hm
  have k1 := h1
  have lt2 : ∀ x ∈ p2, x.block < W.heap.size := by obtain ⟨m, hm⟩ := h2; exact DataW.trod_lt m _ _ _ hm
  have k2 := h2
  have lt3 : ∀ x ∈ p3, x.block < W.heap.size := by obtain ⟨m, hm⟩ := h3; exact DataW.trod_lt m _ _ _ hm
  have k3 := h3
  obtain ⟨a0, b0, d0', rfl⟩ := open_shape (hval 0 23 v0 rfl rfl) h0
  obtain ⟨ao1, l1, c1, rfl, hl1, hn1, rr1, hd1⟩ := open_i8 (hval 1 40 v1 rfl rfl) h1
  have hc1 : c1 ≤ 140737488351232 := by
    rcases hd1 with ⟨_, h0⟩ | ⟨es, sp, h0, h1⟩
    · omega
    · have hs : (es.length + sp.length) * Try.prog.bytesOf 86 ≤ reachBytes := sized_slice hsz (j := 1) (t := 40) (e := 86) (elems := es) (spare := sp) rfl (by rw [h0]; rfl) und_i8s
      rw [bytes_i8, Nat.mul_one, h1] at hs
      have := reach_is
      omega
  obtain ⟨ao2, l2, c2, rfl, hl2, hn2, rr2, hd2⟩ := open_i8 (hval 2 40 v2 rfl rfl) h2
  have hc2 : c2 ≤ 140737488351232 := by
    rcases hd2 with ⟨_, h0⟩ | ⟨es, sp, h0, h1⟩
    · omega
    · have hs : (es.length + sp.length) * Try.prog.bytesOf 86 ≤ reachBytes := sized_slice hsz (j := 2) (t := 40) (e := 86) (elems := es) (spare := sp) rfl (by rw [h0]; rfl) und_i8s
      rw [bytes_i8, Nat.mul_one, h1] at hs
      have := reach_is
      omega
  obtain ⟨wa3, wb3, wc3, wd3, we3, wf3, wg3, wh3, rfl⟩ := open_win (hval 3 28 v3 rfl rfl) h3
  clear hA0 hval0
  refine (poolGreater_any a0 b0 d0' ao1 l1 _ c1 rfl ao2 l2 _ c2 rfl wa3 wb3 wc3 wd3 we3 wf3 wg3 wh3 W (by omega) (by omega) (by omega) (by omega) rr1 rr2).mono fun e W' ⟨he, bel⟩ => ?_
  subst he
  exact ⟨_, rfl, _, _, _, [], _, [], hW', trodAll_mk1 (shut_bool Try.underlying4 _), (trodAll_cons_mk (Below.trod laidOut (by kernel_rfl) (of_decide_eq_true (by kernel_rfl)) k0 bel lt0) (trodAll_cons_mk (Below.trod laidOut (by kernel_rfl) (of_decide_eq_true (by kernel_rfl)) k1 bel lt1) (trodAll_cons_mk (Below.trod laidOut (by kernel_rfl) (of_decide_eq_true (by kernel_rfl)) k2 bel lt2) (trodAll_cons_mk (Below.trod laidOut (by kernel_rfl) (of_decide_eq_true (by kernel_rfl)) k3 bel lt3) trodAll_mk0)))), rfl, bel.frame _, fun h => by cases h⟩

theorem poolGreater_holds : Rows.PoolGreaterSaid :=
  OpenClaim.holds_of_wide 5 Try.f5 rfl rfl rfl rfl rfl rfl rfl ⟨rfl, rfl, rfl, rfl, rfl⟩ rfl rfl rfl rfl rfl (by kernel_rfl) Try.func5 (by kernel_rfl)
    (of_decide_eq_true (by kernel_rfl)) (by unfold Func.isWrapper; first | (rw [if_pos (by decide +kernel)]; kernel_rfl) | (rw [if_neg (by decide +kernel)]; exact ⟨rfl, rfl⟩))
    (fun os started H enc _ => poolGreater_lifted os started H enc)
#print axioms poolGreater_holds
end Go.Proofs.Ytlghmojjcfjibaa
