import Derived.Test.YtlghmojjcfjibaaBW11
import Derived.ProofKit
import Derived.OpenShut
import Derived.ChangeOld
import Derived.SizedLaws
import Derived.Test.YtlghmojjcfjibaaBW12
import Derived.ChangeSlices
import Derived.Test.YtlghmojjcfjibaaSW2
import Derived.Test.YtlghmojjcfjibaaSW3
import Derived.Deep.Slices
import Derived.Test.YtlghmojjcfjibaaUL1
import Derived.Test.YtlghmojjcfjibaaUM2
import Derived.Test.YtlghmojjcfjibaaKW4
import Derived.Test.YtlghmojjcfjibaaUL2
/- WHAT EVERY ROW OF THIS SEAT WANTS. -/
namespace Go.Proofs.Ytlghmojjcfjibaa
open Go.ChangeShapes Go.WideShapes Go.ChangeAt Go.RowKit

theorem own : ownKnob Try.prog.godebug = none := by kernel_rfl
theorem laidOut : laidOutB Try.prog = true := by kernel_rfl
theorem i64_of_wf {x : Int} (h : (Lit.int .i64 x).wf = true) : -9223372036854775808 ≤ x ∧ x ≤ 9223372036854775807 := by
  simp [Lit.wf, IntKind.min, IntKind.max, IntKind.signed, IntKind.bits] at h
  exact ⟨by omega, by omega⟩
end Go.Proofs.Ytlghmojjcfjibaa
/- PARAMETERS THAT ARE LISTS OF SMALL NUMBERS. -/
namespace Go.Proofs.Ytlghmojjcfjibaa
open Go.ChangeShapes Go.WideShapes Go.ChangeAt Go.RowKit
set_option maxRecDepth 100000

theorem reach_is : reachBytes = 140737488351232 := by decide
theorem cells_i8 : Try.prog.cellsOf 86 = 1 := by kernel_rfl
theorem bytes_i8 : Try.prog.bytesOf 86 = 1 := by kernel_rfl
theorem open_i8 {H : Type} {enc : TypeId × Value → H} {W : World} {base : Nat} {v : Value} {d : DataW H} {p : List MemPlace}
    (hv : Value.okWide Try.prog W .any base 40 v) (h : DataW.Trod enc Try.prog W 0 (fun _ => true) true 40 v d p) :
    ∃ (ao : Option Addr) (l : List Int) (cap : Nat), v = .slice ao l.length cap ∧ l.length ≤ cap ∧ (ao = none → l.length = 0 ∧ cap = 0) ∧ R8 W ao l ∧
      ((d = .nil ∧ cap = 0) ∨ ∃ es sp, d = .slice es sp ∧ es.length + sp.length = cap) := by
  obtain ⟨a0, len, cap, rfl⟩ := okWide_slice und_i8s hv
  obtain ⟨fuel, hf⟩ := h
  rcases open_ints und_i8s Try.underlying86 cells_i8 hf with ⟨hc, hx⟩ | ⟨a, len', cap', zs, hc, _, hl, _, hz, hx, hcell, _⟩
  · simp [Value.cells] at hc
    obtain ⟨rfl, rfl, rfl⟩ := hc
    simp only [Prod.mk.injEq] at hx
    exact ⟨none, [], 0, rfl, Nat.le_refl _, fun _ => ⟨rfl, rfl⟩, fun k hk => absurd hk (by simp), .inl ⟨hx.1, rfl⟩⟩
  · simp [Value.cells] at hc
    obtain ⟨rfl, rfl, rfl⟩ := hc
    simp only [if_true] at hz
    simp only [Prod.mk.injEq] at hx
    have hlen : (zs.take len).length = len := by simp; omega
    refine ⟨some a, zs.take len, cap, by rw [hlen], by rw [hlen]; exact hl, fun e => (by cases e), ?_, .inr ⟨_, _, hx.1, by simp [lits]; omega⟩⟩
    intro k hk
    rw [hlen] at hk
    have c := hcell k (by omega)
    have c0 := hcell 0 (by omega)
    have hs := World.cell?_spot c0
    obtain ⟨b, o, s⟩ := a
    simp [Addr.add] at hs
    subst hs
    refine ⟨b, o, rfl, ?_⟩
    have e1 : ia (zs.take len) k = zs.getD k 0 := ia_take hk
    rw [e1, ← c]
    by_cases h0 : k = 0
    · subst h0; rfl
    · simp [Addr.add, h0]
end Go.Proofs.Ytlghmojjcfjibaa
/- PARAMETERS THAT ARE A SHAPE, A WINDOW. -/
namespace Go.Proofs.Ytlghmojjcfjibaa
open Go.ChangeShapes Go.WideShapes Go.ChangeAt Go.RowKit
set_option maxRecDepth 100000

theorem fldF {H : Type} {enc : TypeId × Value → H} {P : Program} {w : World} {base : Nat} {sp : Nat → Bool} {held : Bool} {t : TypeId} {fs : Array Field} {fuel : Nat} {cs : List Value} {x : DataW H × List MemPlace}
    (ht : P.underlying t = some (.struct fs)) (h : DataW.trod enc P w base sp held fuel t cs = some x) (i : Nat) (f : Field) (hi : fs[i]? = some f) :
    ∃ n y, DataW.trod enc P w base sp held n f.type ((cs.drop f.offset).take (P.cellsOf f.type)) = some y := by
  obtain ⟨xs, n, _, _, _, hxl, hf⟩ := DataW.trod_struct ht h
  have g := hf i f hi
  have hlt : i < xs.length := by
    rw [hxl]
    exact (Array.getElem?_eq_some_iff.1 hi).1
  rw [List.getElem?_eq_getElem hlt] at g
  exact ⟨n, _, g⟩
theorem fldIF {H : Type} {enc : TypeId × Value → H} {P : Program} {w : World} {base : Nat} {sp : Nat → Bool} {held : Bool} {t : TypeId} {fs : Array Field} {fuel : Nat} {cs : List Value} {x : DataW H × List MemPlace}
    (ht : P.underlying t = some (.struct fs)) (h : DataW.trod enc P w base sp held fuel t cs = some x) (i : Nat) (f : Field) (hi : fs[i]? = some f) (hu : P.underlying f.type = some (.int .i64)) (hc : P.cellsOf f.type = 1) :
    ∃ z : Int, (cs.drop f.offset).take 1 = [.int .i64 z] := by
  obtain ⟨n, y, g⟩ := fldF ht h i f hi
  rw [hc] at g
  obtain ⟨z, e, _⟩ := DataW.trod_int hu g
  exact ⟨z, e⟩
theorem cells_intF : Try.prog.cellsOf 3 = 1 := by kernel_rfl
theorem cells_shpF : Try.prog.cellsOf 23 = 3 := by kernel_rfl
theorem cells_winF : Try.prog.cellsOf 28 = 8 := by kernel_rfl
theorem len3F {l : List Value} (h : l.length = 3) : ∃ a b c, l = [a, b, c] := by
  match l, h with
  | [a, b, c], _ => exact ⟨a, b, c, rfl⟩
theorem len8F {l : List Value} (h : l.length = 8) : ∃ a b c d e f g i, l = [a, b, c, d, e, f, g, i] := by
  match l, h with
  | [a, b, c, d, e, f, g, i], _ => exact ⟨a, b, c, d, e, f, g, i, rfl⟩
set_option maxRecDepth 100000 in
theorem shape_cellsF {H : Type} {enc : TypeId × Value → H} {w : World} {base : Nat} {sp : Nat → Bool} {held : Bool} {fuel : Nat} {cs : List Value} {x : DataW H × List MemPlace}
    (h : DataW.trod enc Try.prog w base sp held fuel 23 cs = some x) : ∃ a b c : Int, cs = [.int .i64 a, .int .i64 b, .int .i64 c] := by
  have hl : cs.length = 3 := by
    obtain ⟨_, _, _, _, hlen, _, _⟩ := DataW.trod_struct Try.underlying23 h
    exact hlen.trans cells_shpF
  obtain ⟨z0, e0⟩ := fldIF Try.underlying23 h 0 _ rfl Try.underlying3 cells_intF
  obtain ⟨z1, e1⟩ := fldIF Try.underlying23 h 1 _ rfl Try.underlying3 cells_intF
  obtain ⟨z2, e2⟩ := fldIF Try.underlying23 h 2 _ rfl Try.underlying3 cells_intF
  obtain ⟨a, b, c, rfl⟩ := len3F hl
  simp at e0 e1 e2
  subst e0 e1 e2
  exact ⟨z0, z1, z2, rfl⟩
set_option maxRecDepth 100000 in
theorem win_cellsF {H : Type} {enc : TypeId × Value → H} {w : World} {base : Nat} {sp : Nat → Bool} {held : Bool} {fuel : Nat} {cs : List Value} {x : DataW H × List MemPlace}
    (h : DataW.trod enc Try.prog w base sp held fuel 28 cs = some x) :
    ∃ r s sy sx t l b q : Int, cs = [.int .i64 r, .int .i64 s, .int .i64 sy, .int .i64 sx, .int .i64 t, .int .i64 l, .int .i64 b, .int .i64 q] := by
  have hl : cs.length = 8 := by
    obtain ⟨_, _, _, _, hlen, _, _⟩ := DataW.trod_struct Try.underlying28 h
    exact hlen.trans cells_winF
  obtain ⟨z0, e0⟩ := fldIF Try.underlying28 h 0 _ rfl Try.underlying3 cells_intF
  obtain ⟨z1, e1⟩ := fldIF Try.underlying28 h 1 _ rfl Try.underlying3 cells_intF
  obtain ⟨z2, e2⟩ := fldIF Try.underlying28 h 2 _ rfl Try.underlying3 cells_intF
  obtain ⟨z3, e3⟩ := fldIF Try.underlying28 h 3 _ rfl Try.underlying3 cells_intF
  obtain ⟨z4, e4⟩ := fldIF Try.underlying28 h 4 _ rfl Try.underlying3 cells_intF
  obtain ⟨z5, e5⟩ := fldIF Try.underlying28 h 5 _ rfl Try.underlying3 cells_intF
  obtain ⟨z6, e6⟩ := fldIF Try.underlying28 h 6 _ rfl Try.underlying3 cells_intF
  obtain ⟨z7, e7⟩ := fldIF Try.underlying28 h 7 _ rfl Try.underlying3 cells_intF
  obtain ⟨a, b, c, d, e, f, g, i, rfl⟩ := len8F hl
  simp at e0 e1 e2 e3 e4 e5 e6 e7
  subst e0 e1 e2 e3 e4 e5 e6 e7
  exact ⟨z0, z1, z2, z3, z4, z5, z6, z7, rfl⟩
theorem open_shape {H : Type} {enc : TypeId × Value → H} {W : World} {base : Nat} {v : Value} {d : DataW H} {p : List MemPlace}
    (hv : Value.okWide Try.prog W .any base 23 v) (h : DataW.Trod enc Try.prog W 0 (fun _ => true) true 23 v d p) : ∃ a b c : Int, v = Sg.shp a b c := by
  obtain ⟨cs, rfl, _⟩ := okWide_struct Try.underlying23 hv
  obtain ⟨fuel, hf⟩ := h
  obtain ⟨a, b, c, e⟩ := shape_cellsF hf
  refine ⟨a, b, c, ?_⟩
  simp [Value.cells] at e
  obtain ⟨l⟩ := cs
  simp at e
  subst e
  rfl
theorem open_win {H : Type} {enc : TypeId × Value → H} {W : World} {base : Nat} {v : Value} {d : DataW H} {p : List MemPlace}
    (hv : Value.okWide Try.prog W .any base 28 v) (h : DataW.Trod enc Try.prog W 0 (fun _ => true) true 28 v d p) : ∃ r s sy sx t l b q : Int, v = Sg.win r s sy sx t l b q := by
  obtain ⟨cs, rfl, _⟩ := okWide_struct Try.underlying28 hv
  obtain ⟨fuel, hf⟩ := h
  obtain ⟨r, s, sy, sx, t, l, b, q, e⟩ := win_cellsF hf
  refine ⟨r, s, sy, sx, t, l, b, q, ?_⟩
  simp [Value.cells] at e
  obtain ⟨l⟩ := cs
  simp at e
  subst e
  rfl
end Go.Proofs.Ytlghmojjcfjibaa
/- PARAMETERS THAT ARE A CUBE, LISTS OF CUBES, LISTS OF WINDOWS (plain rows). -/
namespace Go.Proofs.Ytlghmojjcfjibaa
open Go.ChangeShapes Go.WideShapes Go.ChangeAt Go.RowKit
set_option maxRecDepth 100000

theorem max_is : maxLen = 9223372036854775807 := by decide
theorem add_at (b o n : Nat) : Addr.add ⟨b, o, none⟩ n = ⟨b, o + n, none⟩ := by
  unfold Addr.add
  by_cases h : n = 0
  · subst h; rfl
  · rw [if_neg h]
theorem u64_of_wf {x : Int} (h : (Lit.int .u64 x).wf = true) : 0 ≤ x ∧ x < 18446744073709551616 := by
  simp [Lit.wf, IntKind.min, IntKind.max, IntKind.signed, IntKind.bits] at h
  exact ⟨by omega, by omega⟩
theorem cells_u64 : Try.prog.cellsOf 66 = 1 := by kernel_rfl
theorem cells_intU : Try.prog.cellsOf 3 = 1 := by kernel_rfl
theorem cells_us : Try.prog.cellsOf 24 = 1 := by kernel_rfl
theorem bytes_u64 : Try.prog.bytesOf 66 = 8 := by kernel_rfl
theorem num_gen (B : Nat) (hB : 0 < B) (f : Nat → Nat) : ∀ m, (∀ k, k < m → f k < B) → ∃ N, N < B ^ m ∧ ∀ k, k < m → N / B ^ k % B = f k
  | 0, _ => ⟨0, by simp, fun k hk => absurd hk (by omega)⟩
  | m + 1, h => by
    obtain ⟨N, h1, h2⟩ := num_gen B hB f m fun k hk => h k (by omega)
    have hm := h m (by omega)
    have hp : 0 < B ^ m := Nat.pow_pos hB
    refine ⟨N + B ^ m * f m, ?_, fun k hk => ?_⟩
    · have h3 : B ^ m * (f m + 1) ≤ B ^ m * B := Nat.mul_le_mul_left _ (by omega)
      rw [Nat.mul_add, Nat.mul_one] at h3
      rw [Nat.pow_succ]
      omega
    · by_cases hkm : k = m
      · subst hkm
        rw [Nat.add_mul_div_left _ _ hp, Nat.div_eq_of_lt h1, Nat.zero_add, Nat.mod_eq_of_lt hm]
      · have hlt : k < m := by omega
        obtain ⟨q, rfl⟩ : ∃ q, m = k + (q + 1) := ⟨m - k - 1, by omega⟩
        have e : B ^ (k + (q + 1)) * f (k + (q + 1)) = B ^ k * (B * (B ^ q * f (k + (q + 1)))) := by
          rw [Nat.pow_add, Nat.pow_succ, Nat.mul_comm (B ^ q) B]
          simp only [Nat.mul_assoc]
        rw [e, Nat.add_mul_div_left _ _ (Nat.pow_pos hB), Nat.add_mul_mod_self_left]
        exact h2 k hlt
theorem num_of (f : Nat → Nat) (m : Nat) (h : ∀ k, k < m → f k < 18446744073709551616) : ∃ N, N < 2 ^ (64 * m) ∧ ∀ k, k < m → wd N k = f k := by
  obtain ⟨N, h1, h2⟩ := num_gen (2 ^ 64) (Nat.pow_pos (by decide)) f m (by rw [← two64]; exact h)
  refine ⟨N, by rw [Nat.pow_mul]; exact h1, fun k hk => ?_⟩
  have h3 := h2 k hk
  rw [← Nat.pow_mul, ← two64] at h3
  exact h3
theorem weightsAll_mem {H : Type} {P : Program} {e : TypeId} : ∀ {l : List (DataW H)} {d : DataW H}, d ∈ l → ∀ n ∈ d.weights P e, n ∈ DataW.weightsAll P e l
  | x :: l, d, hd, n, hn => by
    rw [DataW.weightsAll, List.mem_append]
    rcases List.mem_cons.mp hd with rfl | h
    · exact Or.inl hn
    · exact Or.inr (weightsAll_mem h n hn)
theorem open_list {H : Type} {enc : TypeId × Value → H} {W : World} {base : Nat} {t e : TypeId} {N : Nat} {v : Value} {d : DataW H} {p : List MemPlace} (ht : Try.prog.underlying t = some (.slice e)) (hN : Try.prog.cellsOf e = N) (hpos : 0 < N)
    (hv : Value.okWide Try.prog W .any base t v) (h : DataW.Trod enc Try.prog W 0 (fun _ => true) true t v d p) :
    ∃ (ao : Option Addr) (m cap : Nat), v = .slice ao m cap ∧ m ≤ 9223372036854775807 ∧ ∀ k, k < m → ∃ (g o n : Nat) (cs : List Value) (y : DataW H × List MemPlace), ao = some ⟨g, o, none⟩ ∧ DataW.trod enc Try.prog W 0 (fun _ => true) true n e cs = some y ∧ cs.length = N ∧
      ∀ j, j < N → W.cell? ⟨g, o + k * N + j, none⟩ = cs[j]? := by
  obtain ⟨a0, len, cap, rfl⟩ := okWide_slice ht hv
  obtain ⟨fuel, hf⟩ := h
  rcases Deep.open_slice ht hf with ⟨hc, hx⟩ | ⟨a, len', cap', mm, n, D, Pl, hc, _, hl, hm, hmm, hx, hcell⟩
  · simp [Value.cells] at hc
    obtain ⟨rfl, rfl, rfl⟩ := hc
    exact ⟨none, 0, 0, rfl, by omega, fun k hk => absurd hk (by omega)⟩
  · simp [Value.cells] at hc
    obtain ⟨rfl, rfl, rfl⟩ := hc
    simp only [if_true] at hmm
    refine ⟨some a, len, cap, rfl, by have := max_is; omega, fun k hk => ?_⟩
    obtain ⟨b, o, s⟩ := a
    obtain rfl : s = none := by
      obtain ⟨cs0, h0, _⟩ := hcell 0 (by omega)
      rw [hN] at h0
      obtain ⟨_, hlen, hc0⟩ := World.cells?_some h0
      have e0 := hc0 0 hpos
      rw [Deep.add_add, List.getElem?_eq_getElem (by omega)] at e0
      have := World.cell?_spot e0
      simpa [Addr.add] using this
    obtain ⟨cs, h1, h2⟩ := hcell k (by omega)
    rw [hN] at h1
    obtain ⟨_, hlen, hc1⟩ := World.cells?_some h1
    refine ⟨b, o, n, cs, _, rfl, h2, hlen, fun j hj => ?_⟩
    have := hc1 j hj
    rw [Deep.add_add, add_at, ← Nat.add_assoc] at this
    exact this
section
variable {H : Type} {enc : TypeId × Value → H} {W : World} {fuel : Nat} {cs : List Value} {x : DataW H × List MemPlace}
theorem open_words (h : DataW.trod enc Try.prog W 0 (fun _ => true) true fuel 24 cs = some x) :
    ∃ (ao : Option Addr) (m cap N : Nat), cs = [.slice ao m cap] ∧ m ≤ cap ∧ cap ≤ 9223372036854775807 ∧ N < 2 ^ (64 * m) ∧ ∀ k, k < m → ∃ g o, ao = some ⟨g, o, none⟩ ∧ W.cell? ⟨g, o + k, none⟩ = some (wf N k) := by
  rcases open_ints und_u64s Try.underlying66 cells_u64 h with ⟨hc, hx⟩ | ⟨a, len, cap, zs, hc, _, hl, hm, hzl, hx, hcell, hwf⟩
  · exact ⟨none, 0, 0, 0, hc, by omega, by omega, by simp, fun k hk => absurd hk (by omega)⟩
  · simp only [if_true] at hzl
    have hmx := max_is
    have hr : ∀ k, k < len → 0 ≤ zs.getD k 0 ∧ zs.getD k 0 < 18446744073709551616 := fun k hk => by
      have hk2 : k < zs.length := by omega
      have e : zs.getD k 0 = zs[k] := by simp [List.getD, hk2]
      rw [e]
      exact u64_of_wf (hwf _ (List.getElem_mem hk2))
    obtain ⟨N, hN, hNk⟩ := num_of (fun k => (zs.getD k 0).toNat) len fun k hk => by have := hr k hk; omega
    obtain ⟨b, o, s⟩ := a
    have at_ : ∀ k, k < len → s = none ∧ W.cell? ⟨b, o + k, none⟩ = some (wf N k) := fun k hk => by
      have c := hcell k (by omega)
      have c0 := hcell 0 (by omega)
      have hs := World.cell?_spot c0
      simp [Addr.add] at hs
      subst hs
      rw [add_at] at c
      refine ⟨rfl, ?_⟩
      rw [c]
      unfold wf
      rw [hNk k hk]
      have := hr k hk
      congr 2
      omega
    refine ⟨some ⟨b, o, s⟩, len, cap, N, hc, hl, by omega, hN, fun k hk => ?_⟩
    obtain ⟨rfl, c⟩ := at_ k hk
    exact ⟨b, o, rfl, c⟩
theorem fldZ {t : TypeId} {fs : Array Field} (ht : Try.prog.underlying t = some (.struct fs)) (h : DataW.trod enc Try.prog W 0 (fun _ => true) true fuel t cs = some x) (hz : ∀ n ∈ x.1.weights Try.prog t, n ≤ reachBytes) (i : Nat) (f : Field) (hi : fs[i]? = some f) :
    ∃ n y, DataW.trod enc Try.prog W 0 (fun _ => true) true n f.type ((cs.drop f.offset).take (Try.prog.cellsOf f.type)) = some y ∧ ∀ m ∈ y.1.weights Try.prog f.type, m ≤ reachBytes := by
  obtain ⟨xs, n, _, ex, _, hxl, hf⟩ := DataW.trod_struct ht h
  have g := hf i f hi
  have hlt : i < xs.length := by
    rw [hxl]
    exact (Array.getElem?_eq_some_iff.1 hi).1
  rw [List.getElem?_eq_getElem hlt] at g
  refine ⟨n, _, g, fun m hm => hz m ?_⟩
  rw [ex]
  simp only [DataW.weights, ht]
  refine DataW.weights_mem_each (j := i) (t := f.type) (d := xs[i].1) ?_ ?_ _ hm
  · simp [hi]
  · rw [List.getElem?_map, List.getElem?_eq_getElem hlt]
    rfl
theorem open_wordsZ (h : DataW.trod enc Try.prog W 0 (fun _ => true) true fuel 24 cs = some x) (hz : ∀ n ∈ x.1.weights Try.prog 24, n ≤ reachBytes) :
    ∃ (ao : Option Addr) (m cap N : Nat), cs = [.slice ao m cap] ∧ (m ≤ cap ∧ cap ≤ 9223372036854775807) ∧ m ≤ 17592186043904 ∧ N < 2 ^ (64 * m) ∧ ∀ k, k < m → ∃ g o, ao = some ⟨g, o, none⟩ ∧ W.cell? ⟨g, o + k, none⟩ = some (wf N k) := by
  obtain ⟨ao, m, cap, N, e, h1, h2, h3, h4⟩ := open_words h
  refine ⟨ao, m, cap, N, e, ?_, ?_, h3, h4⟩
  · exact ⟨h1, h2⟩
  · rcases open_ints und_u64s Try.underlying66 cells_u64 h with ⟨hc, hx⟩ | ⟨a, len, cap', zs, hc, _, hl, hm, hzl, hx, _⟩
    · rw [e] at hc
      simp at hc
      omega
    · rw [e] at hc
      simp at hc
      simp only [if_true] at hzl
      have w1 := hz ((lits (H := H) .u64 (zs.take len)).length + (lits (H := H) .u64 (zs.drop len)).length |>.mul 8) (by
        rw [hx]
        simp only [DataW.weights, und_u64s, bytes_u64]
        exact List.mem_cons_self)
      rw [reach_is] at w1
      have e1 : (lits (H := H) .u64 (zs.take len)).length + (lits (H := H) .u64 (zs.drop len)).length = zs.length := by simp [lits]; omega
      rw [e1] at w1
      have w2 : zs.length * 8 ≤ 140737488351232 := w1
      omega
theorem cells_cube : Try.prog.cellsOf 26 = 4 := by kernel_rfl
theorem open_cubeZ (h : DataW.trod enc Try.prog W 0 (fun _ => true) true fuel 26 cs = some x) (hz : ∀ n ∈ x.1.weights Try.prog 26, n ≤ reachBytes) :
    ∃ (h v c : Int) (ao : Option Addr) (m cap N : Nat), cs = [.int .i64 h, .int .i64 v, .int .i64 c, .slice ao m cap] ∧ Wr W ao m N ∧ m ≤ 17592186043904 ∧ m ≤ cap ∧ cap ≤ 9223372036854775807 := by
  have hl : cs.length = 4 := by
    obtain ⟨_, _, _, _, hlen, _, _⟩ := DataW.trod_struct Try.underlying26 h
    exact hlen.trans cells_cube
  obtain ⟨_, y0, t0, _⟩ := fldZ Try.underlying26 h hz 0 _ rfl
  obtain ⟨_, y1, t1, z1⟩ := fldZ Try.underlying26 h hz 1 _ rfl
  replace t0 : DataW.trod enc Try.prog W 0 (fun _ => true) true _ 23 ((cs.drop 0).take (Try.prog.cellsOf 23)) = some y0 := t0
  replace t1 : DataW.trod enc Try.prog W 0 (fun _ => true) true _ 24 ((cs.drop 3).take (Try.prog.cellsOf 24)) = some y1 := t1
  rw [cells_shpF] at t0
  rw [cells_us] at t1
  obtain ⟨hh, v, c, e0⟩ := shape_cellsF t0
  obtain ⟨ao, m, cap, N, e1, h1, h2, h3, h4⟩ := open_wordsZ t1 z1
  match cs, hl with
  | [a, b, d, f], _ =>
    simp at e0 e1
    obtain ⟨rfl, rfl, rfl⟩ := e0
    subst e1
    exact ⟨hh, v, c, ao, m, cap, N, rfl, ⟨h3, h4⟩, h2, h1⟩
end
/-- A list of cubes that came in. -/
def LqU (W : World) (ao : Option Addr) (m : Nat) : Prop := ∀ j, j < m → ∃ (g o : Nat) (h v c : Int) (xo : Option Addr) (n xc N : Nat), ao = some ⟨g, o, none⟩ ∧ (W.cell? ⟨g, o + j * 4, none⟩ = some (.int .i64 h) ∧ W.cell? ⟨g, o + j * 4 + 1, none⟩ = some (.int .i64 v) ∧ W.cell? ⟨g, o + j * 4 + 2, none⟩ = some (.int .i64 c) ∧ W.cell? ⟨g, o + j * 4 + 3, none⟩ = some (.slice xo n xc)) ∧ Wr W xo n N ∧ n ≤ 17592186043904 ∧ n ≤ xc ∧ xc ≤ 9223372036854775807
theorem und_cubesU : Try.prog.underlying 50 = some (.slice 26) := by kernel_rfl
theorem open_cubess {H : Type} {enc : TypeId × Value → H} {W : World} {base : Nat} {v : Value} {d : DataW H} {p : List MemPlace}
    (hv : Value.okWide Try.prog W .any base 50 v) (h : DataW.Trod enc Try.prog W 0 (fun _ => true) true 50 v d p) (hz : ∀ n ∈ d.weights Try.prog 50, n ≤ reachBytes) :
    ∃ (ao : Option Addr) (m cap : Nat), v = .slice ao m cap ∧ m ≤ 9223372036854775807 ∧ LqU W ao m := by
  obtain ⟨a0, len, cap, rfl⟩ := okWide_slice und_cubesU hv
  obtain ⟨fuel, hf⟩ := h
  rcases Deep.open_slice und_cubesU hf with ⟨hc, hx⟩ | ⟨a, len', cap', mm, n, D, Pl, hc, _, hl, hm, hmm, hx, hcell⟩
  · simp [Value.cells] at hc
    obtain ⟨rfl, rfl, rfl⟩ := hc
    exact ⟨none, 0, 0, rfl, by simp, fun j hj => absurd hj (by simp)⟩
  · simp [Value.cells] at hc
    obtain ⟨rfl, rfl, rfl⟩ := hc
    simp only [if_true] at hmm
    have hmx := max_is
    have hd : d = .slice ((List.range len).map D) ((List.range (mm - len)).map fun j => D (len + j)) := congrArg Prod.fst hx
    obtain ⟨b, o, s⟩ := a
    refine ⟨some ⟨b, o, s⟩, len, cap, rfl, by omega, fun j hj => ?_⟩
    obtain ⟨cs1, h1, h2⟩ := hcell j (by omega)
    rw [cells_cube] at h1
    obtain ⟨_, hlen, hc1⟩ := World.cells?_some h1
    have hzj : ∀ n ∈ (D j).weights Try.prog 26, n ≤ reachBytes := fun n hn => hz n (by
      rw [hd]
      simp only [DataW.weights, und_cubesU]
      refine List.mem_cons_of_mem _ (List.mem_append.mpr (Or.inl ?_))
      exact weightsAll_mem (List.mem_map.mpr ⟨j, List.mem_range.mpr hj, rfl⟩) n hn)
    obtain ⟨h, v, c, xo, m, xc, N, rfl, wr, hm', hx'⟩ := open_cubeZ h2 hzj
    have e0 := hc1 0 (by decide)
    have e1 := hc1 1 (by decide)
    have e2 := hc1 2 (by decide)
    have e3 := hc1 3 (by decide)
    rw [Deep.add_add] at e0 e1 e2 e3
    have hs : s = none := by
      obtain ⟨cs0, h0, _⟩ := hcell 0 (by omega)
      rw [cells_cube] at h0
      obtain ⟨_, hlen0, hc0⟩ := World.cells?_some h0
      have e2 := hc0 0 (by decide)
      rw [Deep.add_add, List.getElem?_eq_getElem (by omega)] at e2
      have := World.cell?_spot e2
      simpa [Addr.add] using this
    subst hs
    rw [add_at] at e0 e1 e2 e3
    exact ⟨b, o, h, v, c, xo, m, xc, N, rfl, ⟨by simpa using e0, by simpa [Nat.add_assoc] using e1, by simpa [Nat.add_assoc] using e2, by simpa [Nat.add_assoc] using e3⟩, wr, hm', hx'⟩
theorem open_cube {H : Type} {enc : TypeId × Value → H} {W : World} {base : Nat} {v : Value} {d : DataW H} {p : List MemPlace}
    (hv : Value.okWide Try.prog W .any base 26 v) (h : DataW.Trod enc Try.prog W 0 (fun _ => true) true 26 v d p) (hz : ∀ n ∈ d.weights Try.prog 26, n ≤ reachBytes) :
    ∃ (a b c : Int) (ao : Option Addr) (m cap N : Nat), v = cuv a b c ao m cap ∧ Wr W ao m N ∧ m ≤ 17592186043904 ∧ m ≤ cap ∧ cap ≤ 9223372036854775807 := by
  obtain ⟨cs, rfl, _⟩ := okWide_struct Try.underlying26 hv
  obtain ⟨fuel, hf⟩ := h
  obtain ⟨a, b, c, ao, m, cap, N, e, w1, w2, w3⟩ := open_cubeZ hf hz
  refine ⟨a, b, c, ao, m, cap, N, ?_, w1, w2, w3⟩
  simp [Value.cells] at e
  obtain ⟨l⟩ := cs
  simp at e
  subst e
  rfl
/-- A list of windows that came in. -/
def LwU (W : World) (ao : Option Addr) (m : Nat) : Prop := ∀ j, j < m → ∃ (g o : Nat) (r s sy sx t l b q : Int), ao = some ⟨g, o, none⟩ ∧ Sg.Wn W g (o + j * 8) r s sy sx t l b q
theorem und_winsU : Try.prog.underlying 68 = some (.slice 28) := by kernel_rfl
theorem open_wins {H : Type} {enc : TypeId × Value → H} {W : World} {base : Nat} {v : Value} {d : DataW H} {p : List MemPlace}
    (hv : Value.okWide Try.prog W .any base 68 v) (h : DataW.Trod enc Try.prog W 0 (fun _ => true) true 68 v d p) :
    ∃ (ao : Option Addr) (m cap : Nat), v = .slice ao m cap ∧ m ≤ 9223372036854775807 ∧ LwU W ao m := by
  obtain ⟨ao, m, cap, rfl, hm, hf⟩ := open_list und_winsU cells_winF (by decide) hv h
  refine ⟨ao, m, cap, rfl, hm, fun k hk => ?_⟩
  obtain ⟨g, o, n, cs, y, rfl, ht, _, hc⟩ := hf k hk
  obtain ⟨r, s, sy, sx, t, l, b, q, rfl⟩ := win_cellsF ht
  exact ⟨g, o, r, s, sy, sx, t, l, b, q, rfl, hc 0 (by decide), hc 1 (by decide), hc 2 (by decide), hc 3 (by decide), hc 4 (by decide), hc 5 (by decide), hc 6 (by decide), hc 7 (by decide)⟩
end Go.Proofs.Ytlghmojjcfjibaa
/- ALL TURNED ABOUT: plain mathematics. -/
namespace Go.Proofs.Ytlghmojjcfjibaa

/-- All elements turned. -/
def tN (N C P : Nat) : Nat := js (64 * nw C) (fun p => nt C (pl N (nw C) p)) P
theorem nt_words (C x : Nat) : nt C x < 2 ^ (64 * nw C) := Nat.lt_of_lt_of_le (nt_lt C x) (pow_mono (nw_le C))
theorem tN_lt (N C P : Nat) : tN N C P < 2 ^ (64 * (P * nw C)) := by
  have := js_lt (s := 64 * nw C) (P := fun p => nt C (pl N (nw C) p)) (n := P) (fun i _ => nt_words C _)
  rwa [show P * (64 * nw C) = 64 * (P * nw C) by rw [Nat.mul_left_comm]] at this
theorem tN_pl {N C P p : Nat} (hp : p < P) : pl (tN N C P) (nw C) p = nt C (pl N (nw C) p) := js_pl (fun _ _ => nt_words C _) hp
theorem tN_pok (N C P : Nat) : Pok P C (tN N C P) := fun i hi => by rw [tN_pl hi]; exact nt_lt C _
theorem pbt_pl {N V d y x b : Nat} (hb : b < 64 * d) : pbt N V d y x b = (pl N d (y * V + x)).testBit b := by
  rw [pl_bit]; simp [hb, pbt]
theorem po_turn {al : Bool} {N H V C R S y x OH OW : Nat} (hN : Pok (H * V) C N) (hR : 0 < R) (hS : 0 < S) (fy : ∀ p, p < OH → p * y + R ≤ H) (fx : ∀ p, p < OW → p * x + S ≤ V) :
    poN (!al) (tN N C (H * V)) V (nw C) R S y x OW (OH * OW) = tN (poN al N V (nw C) R S y x OW (OH * OW)) C (OH * OW) := by
  refine js_congr _ fun p hp => ?_
  rw [poN_pl hp]
  have h0 : 0 < OW := by
    rcases Nat.eq_zero_or_pos OW with e | e
    · subst e; simp at hp
    · exact e
  have hy := fy _ (Nat.div_lt_of_lt_mul (by rwa [Nat.mul_comm] : p < OW * OH))
  have hx := fx _ (Nat.mod_lt p h0)
  have hin : jp al N V (nw C) R S y x (p / OW) (p % OW) < 2 ^ C := jp_c hN hR hS hy hx
  have hin2 : jp (!al) (tN N C (H * V)) V (nw C) R S y x (p / OW) (p % OW) < 2 ^ C := jp_c (tN_pok N C (H * V)) hR hS hy hx
  refine Nat.eq_of_testBit_eq fun b => ?_
  rw [nt_bit hin]
  by_cases hb : b < C
  · have hb2 : b < 64 * nw C := Nat.lt_of_lt_of_le hb (nw_le C)
    rw [jp_bit hb2 hR hS hx, jp_bit hb2 hR hS hx, ← qs_not]
    simp only [hb, decide_true, Bool.true_and]
    refine qs_congr _ fun j hj => ?_
    rw [← qs_not]
    refine qs_congr _ fun i hi => ?_
    have hq : (p / OW * y + i) * V + (p % OW * x + j) < H * V := by
      have : (p / OW * y + i + 1) * V ≤ H * V := Nat.mul_le_mul_right _ (by omega)
      rw [Nat.succ_mul] at this; omega
    rw [pbt_pl hb2, pbt_pl hb2, tN_pl hq, nt_bit (hN _ hq)]
    simp [hb]
  · rw [bit_above hin2 (by omega)]
    simp [hb]
/-- What is unpacked, turned and packed again. -/
def tL (N C n : Nat) : List Int := (List.range n).map fun j => -(uv N C j)
theorem tL_len (N C n : Nat) : (tL N C n).length = n := by simp [tL]
theorem tL_at {N C n j : Nat} (h : j < n) : ia (tL N C n) j = -(uv N C j) := by
  unfold ia tL
  rw [List.getD_eq_getElem?_getD, List.getElem?_map, List.getElem?_range h]
  rfl
theorem uv_pm (N C j : Nat) : uv N C j = 1 ∨ uv N C j = -1 := by
  unfold uv sg
  split
  · exact .inl rfl
  · exact .inr rfl
theorem tL_pack {N C P : Nat} (hC : 0 < C) (hN : Pok P C N) : js (64 * nw C) (sp (tL N C (P * C)) C) P = tN N C P := by
  refine js_congr _ fun p hp => Nat.eq_of_testBit_eq fun b => ?_
  rw [sp_bit, nt_bit (hN p hp)]
  by_cases hb : b < C
  · have hj : p * C + b < P * C := by
      have := Nat.mul_le_mul_right C (show p + 1 ≤ P from hp)
      rw [Nat.succ_mul] at this
      omega
    rw [tL_at hj]
    have e1 : (p * C + b) / C = p := by rw [Nat.mul_comm, Nat.mul_add_div hC, Nat.div_eq_of_lt hb]; omega
    have e2 : (p * C + b) % C = b := by rw [Nat.mul_comm, Nat.mul_add_mod, Nat.mod_eq_of_lt hb]
    unfold uv sg
    rw [e1, e2]
    cases (pl N (nw C) p).testBit b <;> simp [hb]
  · simp [hb]
end Go.Proofs.Ytlghmojjcfjibaa
/- PoolTurned: turned; any window. -/
namespace Go.Proofs.Ytlghmojjcfjibaa
open Go.RowKit Go.Shelf

/-- What a window is refused for, whatever the cube's elements. -/
def gE (H V C : Nat) (r s sy sx t l b q : Int) : Int := if ¬ Sg.WOk r s sy sx t l b q ∨ 0 < t ∨ 0 < l ∨ 0 < b ∨ 0 < q then 56 else Sg.slE H V C r s sy sx t l b q C
theorem poE_g {H V C m N : Nat} (h : Qb H V C m N) (r s sy sx t l b q : Int) : poE H V C m N r s sy sx t l b q = gE H V C r s sy sx t l b q := by
  unfold poE gE
  rw [if_neg (fun x => x (cuk_of h.ck h.hm h.pk))]
/-- Where nothing is refused. -/
theorem gE_zero {H V C m N : Nat} {r s sy sx t l b q : Int} (h : Qb H V C m N) (k : gE H V C r s sy sx t l b q = 0) : ∃ R S y x : Nat, r = R ∧ s = S ∧ sy = y ∧ sx = x ∧ t = 0 ∧ l = 0 ∧ b = 0 ∧ q = 0 ∧ (1 ≤ R ∧ R ≤ 15) ∧ (1 ≤ S ∧ S ≤ 15) ∧ (1 ≤ y ∧ y ≤ 15) ∧ (1 ≤ x ∧ x ≤ 15) ∧ R ≤ H ∧ S ≤ V := by
  rw [← poE_g h] at k
  obtain ⟨H', V', C', R, S, y, x, e1, e2, e3, rfl, rfl, rfl, rfl, rfl, rfl, rfl, rfl, pg⟩ := poE_zero k
  obtain rfl : H = H' := by omega
  obtain rfl : V = V' := by omega
  obtain rfl : C = C' := by omega
  exact ⟨R, S, y, x, rfl, rfl, rfl, rfl, rfl, rfl, rfl, rfl, pg.hR, pg.hS, pg.hy, pg.hx, pg.fH, pg.fV⟩
/-- A list under way: i of its values are turned. -/
def tf (N C i : Nat) : Nat → Value := fun j => .int .i8 (if j < i then -(uv N C j) else uv N C j)
theorem tf_step {N C i : Nat} (j : Nat) : (if j = i then .int .i8 (-(uv N C i)) else tf N C i j) = tf N C (i + 1) j := by
  unfold tf
  by_cases e : j = i
  · subst e
    rw [if_pos rfl, if_pos (Nat.lt_succ_self _)]
  · rw [if_neg e]
    by_cases h : j < i
    · rw [if_pos h, if_pos (by omega)]
    · rw [if_neg h, if_neg (by omega)]
theorem neg_i8 {x : Int} (h : x = 1 ∨ x = -1) : IntKind.i8.wrap (-x) = -x := by
  rcases h with rfl | rfl <;> decide
theorem turned_start (w : World) (h v c : Int) (ao : Option Addr) (m cap : Nat) : ∃ W, (w.alloc (.cells #[.int .i64 h, .int .i64 v, .int .i64 c, .slice ao m cap] 26)).alloc (.cells #[.int .i64 0, .int .i64 0, .int .i64 0, .slice none 0 0] 26) = W ∧ W.heap.size = w.heap.size + 2 ∧ Below w.heap.size w W ∧ W.rowIs w.heap.size 26 4 (cf h v c ao m cap) ∧ W.rowIs (w.heap.size + 1) 26 4 (cf 0 0 0 none 0 0) := by
  refine ⟨_, rfl, by simp, bl_alloc (bl_alloc (Below.refl _ _) _) _, (cu_new w _ _ _ _ _ _ _).alloc _, ?_⟩
  have := cu_new (w.alloc (.cells #[.int .i64 h, .int .i64 v, .int .i64 c, .slice ao m cap] 26)) 0 0 0 none 0 0 26
  rw [World.size_alloc] at this
  exact this
theorem elN_pos {h v c : Int} (k : Sg.chk h v c = 0) : ((0 : Nat) : Int) ≠ Sg.elN h v c := by
  obtain ⟨H, V, C, rfl, rfl, rfl, hH, hV, hC, _⟩ := chk_nat k
  rw [elN_nat k]
  have : 0 < H * V * C := Nat.mul_pos (Nat.mul_pos hH.1 hV.1) hC.1
  omega
set_option maxHeartbeats 3200000 in
set_option maxRecDepth 100000 in
theorem turned_bad (h v c : Int) (ao : Option Addr) (m cap N : Nat) (w : World) (hmc : m ≤ cap) (hcap : cap ≤ 9223372036854775807) (rd : Wr w ao m N) (k : cuk h v c m N ≠ 0) :
    Calls Try.prog 15 #[cuv h v c ao m cap] w fun e w' => e = .returned (.tuple #[cuv 0 0 0 none 0 0, .bool false]) ∧ Below w.heap.size w w' := by
  have HU := hid1 (fun W r => cunpack_bad h v c ao m cap N W hmc hcap r k)
  obtain ⟨E, hE⟩ : ∃ E : Int, E = if Sg.chk h v c = 0 then 32 else Sg.chk h v c := ⟨_, rfl⟩
  have HP := hid1 (fun W => cpack_bad h v c none 0 0 W E hE elN_pos)
  have HST := hid1 (turned_start w h v c ao m cap)
  have RD := hid1 rd
  clear rd hE
  generalize cuk h v c m N = EE at *
  go_enter Try.func15, Try.ntmps15
  go_wp2_with fail
  refine gen_calls (fun W => W.heap.size = w.heap.size + 2 ∧ Below w.heap.size w W ∧ W.rowIs w.heap.size 26 4 (cf h v c ao m cap) ∧ W.rowIs (w.heap.size + 1) 26 4 (cf 0 0 0 none 0 0)) (by obtain ⟨X, rfl, z⟩ := HST.out; exact z) ?_
  rintro W ⟨z0, B0, b0, b1⟩
  refine (HU.out W (RD.out.below B0)).mono ?_
  rintro e w1 ⟨rfl, hb⟩
  replace b0 := keepr hb b0
  replace b1 := keepr hb b1
  have B1 := bl_step B0 hb
  clear hb B0
  have e0 := cf0 b0
  have e1 := cf1 b0
  have e2 := cf2 b0
  go_wp2_with fail
  go_loopw [6] (fun i wr => i = .int .i64 0 ∧ wr = w1) (fun _ _ => 0)
  case atStart => exact ⟨rfl, rfl⟩
  case round =>
    obtain ⟨rfl, rfl⟩ := hrel
    go_wp2_with fail
    refine (HP.out _).mono ?_
    rintro e w2 ⟨rfl, hb⟩
    replace b1 := keepr hb b1
    have B2 := bl_step B1 hb
    have z2 := hb.size
    clear hb B1 e0 e1 e2 b0
    have f0 := b1.frozen 0
    have f1 := b1.frozen 1
    have f2 := b1.frozen 2
    have f3 := b1.frozen 3
    have d0 := cf0 b1
    have d1 := cf1 b1
    have d2 := cf2 b1
    have d3 := cf3 b1
    have l1 := b1.lt
    go_wp2_with fail
    have u := (cf_set b1 0 0 0 none 0 0).alloc (.cells #[.int .i64 0, .int .i64 0, .int .i64 0, .slice none 0 0] 26)
    have u0 := cf0 u
    have u1 := cf1 u
    have u2 := cf2 u
    have u3 := cf3 u
    exact bodyPost_ret (v := .tuple #[cuv 0 0 0 none 0 0, .bool false]) (by simp [results, Try.results15, go_sem, u0, u1, u2, u3]) rfl ⟨rfl, bl_alloc (bl_set (bl_set (bl_set (bl_set B2 (by omega) _) (by omega) _) (by omega) _) (by omega) _) _⟩
set_option maxHeartbeats 3200000 in
set_option maxRecDepth 100000 in
theorem turned_ok (H V C : Nat) (ao : Option Addr) (m cap N : Nat) (w : World) (qb : Qb H V C m N) (hT : H * V * C ≤ 16777216) (hmc : m ≤ cap) (hcap : cap ≤ 9223372036854775807) (rd : Wr w ao m N) :
    Calls Try.prog 15 #[cuv H V C ao m cap] w fun e w' => ∃ bo, e = .returned (.tuple #[cuv H V C bo m m, .bool true]) ∧ Wr w' bo m (tN N C (H * V)) ∧ Below w.heap.size w w' := by
  obtain ⟨g, o, rfl⟩ := rd.some qb.pos
  have HU := hid1 (fun W r => cunpack_ok H V C g o m cap N W qb.hH qb.hV qb.hC hT (cuk_of qb.ck qb.hm qb.pk) qb.hm hmc hcap r)
  have HPK := hid1 (tL_pack (N := N) (C := C) (P := H * V) qb.hC.1 qb.pk)
  obtain ⟨n, hn⟩ : ∃ n, H * V * C = n := ⟨_, rfl⟩
  rw [hn] at HU HPK hT
  have HP := hid1 (fun G W r => cpack_ok H V C (tL N C n) n (tL_len N C n) G 0 n W qb.hH qb.hV qb.hC hn.symm hT (Nat.le_refl _) (by omega) qb.ck m qb.hm.symm r)
  rw [HPK.out] at HP
  have HTL := hid1 (tN_lt N C (H * V))
  rw [← qb.hm] at HTL
  generalize tN N C (H * V) = X at *
  have HST := hid1 (turned_start w H V C (some ⟨g, o, none⟩) m cap)
  have RD := hid1 rd
  clear rd hn
  go_enter Try.func15, Try.ntmps15
  go_wp2_with fail
  refine gen_calls (fun W => W.heap.size = w.heap.size + 2 ∧ Below w.heap.size w W ∧ W.rowIs w.heap.size 26 4 (cf H V C (some ⟨g, o, none⟩) m cap) ∧ W.rowIs (w.heap.size + 1) 26 4 (cf 0 0 0 none 0 0)) (by obtain ⟨X, rfl, z⟩ := HST.out; exact z) ?_
  rintro W ⟨z0, B0, b0, b1⟩
  refine (HU.out W (RD.out.below B0)).mono ?_
  rintro e w1 ⟨G, rfl, hG, row, hb⟩
  replace b0 := keepr hb b0
  replace b1 := keepr hb b1
  have B1 := bl_step B0 hb
  have z1 := hb.size
  clear hb B0
  go_wp2_with fail
  go_loopw [6] (fun i wr => ∃ k : Nat, k ≤ n ∧ i = .int .i64 k ∧ wr.rowIs G 86 n (tf N C k) ∧ wr.rowIs w.heap.size 26 4 (cf H V C (some ⟨g, o, none⟩) m cap) ∧ wr.rowIs (w.heap.size + 1) 26 4 (cf 0 0 0 none 0 0) ∧ Below w.heap.size w wr) (fun i _ => n - (intOf i).toNat)
  case atStart => exact ⟨0, Nat.zero_le _, rfl, row.congr fun j _ => by simp [tf], b0, b1, B1⟩
  case round =>
    clear b0 b1 B1 row
    obtain ⟨k, hk, rfl, row, b0, b1, B1⟩ := hrel
    by_cases hlt : k < n
    · have ik0 : (0 : Int) ≤ (k : Int) := by omega
      have ik1 : (k : Int) < (n : Int) := by omega
      have c1 := row.cell hlt
      have f1 := row.frozen k
      have ng := neg_i8 (uv_pm N C k)
      have HSP := hid1 (fun j => tf_step (N := N) (C := C) (i := k) j)
      unfold tf at c1
      rw [if_neg (Nat.lt_irrefl _)] at c1
      generalize uv N C k = x at *
      have bt : But G wr (wr.setCell ⟨G, k, none⟩ (.int .i8 (-x))) := (But.refl G wr).set _
      have R := hid1 row
      have b0' := hid1 (bt.row (by omega) b0)
      have b1' := hid1 (bt.row (by omega) b1)
      have B1' := hid1 (bt.below (by omega) B1.size B1)
      clear row b0 b1 B1 bt
      go_wp2_with fail
      exact ⟨⟨k + 1, by omega, by go_num, (R.out.set k _).congr fun j _ => HSP.out j, b0'.out, b1'.out, B1'.out⟩, by simp [intOf]; omega⟩
    · obtain rfl : k = n := by omega
      have r8 : R8 wr (some ⟨G, 0, none⟩) (tL N C k) := fun j hj => by
        rw [tL_len] at hj
        refine ⟨G, 0, rfl, ?_⟩
        rw [Nat.zero_add, row.cell hj, tL_at hj]
        unfold tf
        rw [if_pos hj]
      have e0 := cf0 b0
      have e1 := cf1 b0
      have e2 := cf2 b0
      have l0 := b1.lt
      go_wp2_with fail
      refine (HP.out G wr r8).mono ?_
      rintro e w2 ⟨G2, rfl, hG2, row2, hb⟩
      replace b1 := keepr hb b1
      have B2 := bl_step B1 hb
      have z2 := hb.size
      clear hb B1 e0 e1 e2 b0
      have f0 := b1.frozen 0
      have f1 := b1.frozen 1
      have f2 := b1.frozen 2
      have f3 := b1.frozen 3
      have d0 := cf0 b1
      have d1 := cf1 b1
      have d2 := cf2 b1
      have d3 := cf3 b1
      have l1 := b1.lt
      have l2 := row2.lt
      have HB1 := hid1 b1
      have HR2 := hid1 row2
      clear b1 row2
      go_wp2_with fail
      obtain ⟨q, _, qr, qB⟩ := pool_end (h := H) (v := V) (c := C) HB1.out HR2.out hG2 (And.intro (Nat.le_add_right _ _) (by omega)) B2
      have u := q.alloc (.cells #[.int .i64 (H : Int), .int .i64 (V : Int), .int .i64 (C : Int), .slice (some ⟨G2, 0, none⟩) m m] 26)
      have u0 := cf0 u
      have u1 := cf1 u
      have u2 := cf2 u
      have u3 := cf3 u
      exact bodyPost_ret (v := .tuple #[cuv H V C (some ⟨G2, 0, none⟩) m m, .bool true]) (by simp [results, Try.results15, go_sem, u0, u1, u2, u3]) rfl ⟨_, rfl, Wr.row (qr.alloc _) HTL.out, bl_alloc qB _⟩
theorem max_gen {H V C m N : Nat} (ao : Option Addr) (cap : Nat) (r s sy sx t l b q : Int) (w : World) (h : Qb H V C m N) (hmc : m ≤ cap) (hcap : cap ≤ 9223372036854775807) (rd : Wr w ao m N) (k : gE H V C r s sy sx t l b q ≠ 0) :
    Calls Try.prog 12 #[cuv H V C ao m cap, Sg.win r s sy sx t l b q] w fun e w' => e = .returned (.tuple #[cuv 0 0 0 none 0 0, .int .i64 (gE H V C r s sy sx t l b q)]) ∧ Below w.heap.size w w' := by
  have := max_bad H V C ao m cap N r s sy sx t l b q w hmc hcap rd (by rw [poE_g h]; exact k)
  rwa [poE_g h] at this
theorem min_gen {H V C m N : Nat} (ao : Option Addr) (cap : Nat) (r s sy sx t l b q : Int) (w : World) (h : Qb H V C m N) (hmc : m ≤ cap) (hcap : cap ≤ 9223372036854775807) (rd : Wr w ao m N) (k : gE H V C r s sy sx t l b q ≠ 0) :
    Calls Try.prog 13 #[cuv H V C ao m cap, Sg.win r s sy sx t l b q] w fun e w' => e = .returned (.tuple #[cuv 0 0 0 none 0 0, .int .i64 (gE H V C r s sy sx t l b q)]) ∧ Below w.heap.size w w' := by
  have := min_bad H V C ao m cap N r s sy sx t l b q w hmc hcap rd (by rw [poE_g h]; exact k)
  rwa [poE_g h] at this
/-- Where nothing is refused: the cube. -/
theorem max_fit {H V C m N R S y x OH OW M : Nat} (ao : Option Addr) (cap : Nat) (w : World) (pg : Pg H V C R S y x m N) (hm : 0 < m) (eH : oS H R y = OH) (eW : oS V S x = OW) (eM : OH * OW * nw C = M) (hmc : m ≤ cap) (hcap : cap ≤ 9223372036854775807) (rd : Wr w ao m N) :
    Calls Try.prog 12 #[cuv H V C ao m cap, Sg.win R S y x 0 0 0 0] w fun e w' => ∃ bo, e = .returned (.tuple #[cuv OH OW C bo M M, .int .i64 0]) ∧ Wr w' bo M (poN false N V (nw C) R S y x OW (OH * OW)) ∧ Below w.heap.size w w' := by
  obtain ⟨g, o, rfl⟩ := rd.some hm
  refine (max_ok H V C R S y x g o m cap N OH OW M w pg eH eW eM hmc hcap rd).mono ?_
  rintro e w1 ⟨G, rfl, _, row, hb⟩
  exact ⟨_, rfl, Wr.row row (by rw [← eM]; exact poN_lt _ _ _ _ _ _ _ _ _ _), hb⟩
theorem min_fit {H V C m N R S y x OH OW M : Nat} (ao : Option Addr) (cap : Nat) (w : World) (pg : Pg H V C R S y x m N) (hm : 0 < m) (eH : oS H R y = OH) (eW : oS V S x = OW) (eM : OH * OW * nw C = M) (hmc : m ≤ cap) (hcap : cap ≤ 9223372036854775807) (rd : Wr w ao m N) :
    Calls Try.prog 13 #[cuv H V C ao m cap, Sg.win R S y x 0 0 0 0] w fun e w' => ∃ bo, e = .returned (.tuple #[cuv OH OW C bo M M, .int .i64 0]) ∧ Wr w' bo M (poN true N V (nw C) R S y x OW (OH * OW)) ∧ Below w.heap.size w w' := by
  obtain ⟨g, o, rfl⟩ := rd.some hm
  refine (min_ok H V C R S y x g o m cap N OH OW M w pg eH eW eM hmc hcap rd).mono ?_
  rintro e w1 ⟨G, rfl, _, row, hb⟩
  exact ⟨_, rfl, Wr.row row (by rw [← eM]; exact poN_lt _ _ _ _ _ _ _ _ _ _), hb⟩
theorem Pg.qb {H V C R S y x m N : Nat} (h : Pg H V C R S y x m N) : Qb H V C m N := ⟨h.hH, h.hV, h.hC, h.ck, h.hm, h.pk⟩
end Go.Proofs.Ytlghmojjcfjibaa
/- PoolTurned. -/
namespace Go.Proofs.Ytlghmojjcfjibaa
open Go.RowKit Go.Shelf

theorem pt_start (w : World) (h v c : Int) (ao : Option Addr) (m cap : Nat) (r s sy sx t l b q : Int) : ∃ W, (w.alloc (.cells #[.int .i64 h, .int .i64 v, .int .i64 c, .slice ao m cap] 26)).alloc (.cells #[.int .i64 r, .int .i64 s, .int .i64 sy, .int .i64 sx, .int .i64 t, .int .i64 l, .int .i64 b, .int .i64 q] 28) = W ∧ W.rowIs w.heap.size 26 4 (cf h v c ao m cap) ∧ W.rowIs (w.heap.size + 1) 28 8 (wnf r s sy sx t l b q) ∧ Below w.heap.size w W := by
  refine ⟨_, rfl, (cu_new w _ _ _ _ _ _ _).alloc _, ?_, bl_alloc (bl_alloc (Below.refl _ _) _) _⟩
  have := wnf_new (w.alloc (.cells #[.int .i64 h, .int .i64 v, .int .i64 c, .slice ao m cap] 26)) r s sy sx t l b q 28
  rw [World.size_alloc] at this
  exact this
theorem poE_c {h v c : Int} {m N : Nat} {r s sy sx t l b q : Int} (k : cuk h v c m N ≠ 0) : poE h v c m N r s sy sx t l b q = cuk h v c m N := by
  unfold poE; rw [if_pos k]
theorem Qb.el {H V C m N : Nat} (h : Qb H V C m N) : H * V * C ≤ 16777216 := by
  obtain ⟨H', V', C', e1, e2, e3, _, _, _, hb⟩ := chk_nat h.ck
  obtain rfl : H = H' := by omega
  obtain rfl : V = V' := by omega
  obtain rfl : C = C' := by omega
  exact hb
set_option maxHeartbeats 6400000 in
set_option maxRecDepth 100000 in
theorem poolTurned_any (h v c : Int) (ao : Option Addr) (m cap N : Nat) (r s sy sx t l b q : Int) (w : World) (hmc : m ≤ cap) (hcap : cap ≤ 9223372036854775807) (rd : Wr w ao m N) :
    Calls Try.prog 4 #[cuv h v c ao m cap, Sg.win r s sy sx t l b q] w fun e w' => e = .returned (.bool true) ∧ Below w.heap.size w w' := by
  have HST := hid1 (pt_start w h v c ao m cap r s sy sx t l b q)
  have RD := hid1 rd
  clear rd
  go_enter Try.func4, Try.ntmps4
  go_wp2_with fail
  refine gen_calls (fun W => W.rowIs w.heap.size 26 4 (cf h v c ao m cap) ∧ W.rowIs (w.heap.size + 1) 28 8 (wnf r s sy sx t l b q) ∧ Below w.heap.size w W) (by obtain ⟨X, rfl, z⟩ := HST.out; exact z) ?_
  rintro W ⟨b0, b1, B1⟩
  refine (ubegun_any W).mono ?_
  rintro e w1 ⟨rfl, hb⟩
  replace b0 := keepr hb b0
  replace b1 := keepr hb b1
  have B2 := bl_step B1 hb
  clear hb B1
  have r0 := RD.out.below B2
  clear RD HST
  have HC := hid1 (fun W r' => ccheck_any h v c ao m cap N W hmc hcap r')
  by_cases k1 : cuk h v c m N = 0
  · rw [k1] at HC
    obtain ⟨H, V, C, rfl, rfl, rfl, hH, hV, hC, -, ck, hm, pk⟩ := cuk_zeroU k1
    have qb : Qb H V C m N := ⟨hH, hV, hC, ck, hm, pk⟩
    have qt : Qb H V C m (tN N C (H * V)) := ⟨hH, hV, hC, ck, hm, tN_pok _ _ _⟩
    have HT := hid1 (fun W r => turned_ok H V C ao m cap N W qb qb.el hmc hcap r)
    clear ck hm pk hH hV hC k1
    by_cases k2 : gE H V C r s sy sx t l b q = 0
    · obtain ⟨R, S, y, x, rfl, rfl, rfl, rfl, rfl, rfl, rfl, rfl, hR, hS, hy, hx, fH, fV⟩ := gE_zero qb k2
      have pg : Pg H V C R S y x m N := qb.pg hR hS hy hx ⟨fH, fV⟩
      have pt : Pg H V C R S y x m (tN N C (H * V)) := qt.pg hR hS hy hx ⟨fH, fV⟩
      obtain ⟨OH, eH⟩ : ∃ z, oS H R y = z := ⟨_, rfl⟩
      obtain ⟨OW, eW⟩ : ∃ z, oS V S x = z := ⟨_, rfl⟩
      obtain ⟨M, eM⟩ : ∃ z, OH * OW * nw C = z := ⟨_, rfl⟩
      have HX := hid1 (fun W r => max_fit ao cap W pg qb.pos eH eW eM hmc hcap r)
      have HN := hid1 (fun W r => min_fit ao cap W pg qb.pos eH eW eM hmc hcap r)
      have HXT := hid1 (fun bo W r => max_fit bo m W pt qb.pos eH eW eM (Nat.le_refl _) (Nat.le_trans qb.le (by decide)) r)
      have HNT := hid1 (fun bo W r => min_fit bo m W pt qb.pos eH eW eM (Nat.le_refl _) (Nat.le_trans qb.le (by decide)) r)
      have HD := po_turn (al := false) (N := N) (H := H) (V := V) (C := C) (R := R) (S := S) (y := y) (x := x) (OH := OH) (OW := OW) qb.pk hR.1 hS.1 (fun p hp => oS_fit fH (by rw [eH]; exact hp)) (fun p hp => oS_fit fV (by rw [eW]; exact hp))
      have HE := po_turn (al := true) (N := N) (H := H) (V := V) (C := C) (R := R) (S := S) (y := y) (x := x) (OH := OH) (OW := OW) qb.pk hR.1 hS.1 (fun p hp => oS_fit fH (by rw [eH]; exact hp)) (fun p hp => oS_fit fV (by rw [eW]; exact hp))
      rw [show (!false) = true from rfl] at HD
      rw [show (!true) = false from rfl] at HE
      rw [HD] at HNT
      rw [HE] at HXT
      have q1 : Qb OH OW C M (poN false N V (nw C) R S y x OW (OH * OW)) := by
        have := qb.next (al := false) hR hS hy hx ⟨fH, fV⟩ (M := M) (by rw [eH, eW, eM]) rfl
        rwa [eH, eW] at this
      have q2 : Qb OH OW C M (poN true N V (nw C) R S y x OW (OH * OW)) := by
        have := qb.next (al := true) hR hS hy hx ⟨fH, fV⟩ (M := M) (by rw [eH, eW, eM]) rfl
        rwa [eH, eW] at this
      generalize poN false N V (nw C) R S y x OW (OH * OW) = X1 at *
      generalize poN true N V (nw C) R S y x OW (OH * OW) = X2 at *
      have M63 : M ≤ 9223372036854775807 := Nat.le_trans q1.le (by decide)
      have HT1 := hid1 (fun bo W r => turned_ok OH OW C bo M M X1 W q1 q1.el (Nat.le_refl _) M63 r)
      have HT2 := hid1 (fun bo W r => turned_ok OH OW C bo M M X2 W q2 q2.el (Nat.le_refl _) M63 r)
      generalize tN N C (H * V) = NT at *
      generalize tN X1 C (OH * OW) = Y1 at *
      generalize tN X2 C (OH * OW) = Y2 at *
      clear qb qt pg pt eH eW eM HD HE q1 q2 k2 hR hS hy hx fH fV
      have b0c0 := cf0 b0
      have b0c1 := cf1 b0
      have b0c2 := cf2 b0
      have b0c3 := cf3 b0
      have b0l := b0.lt
      go_wp2_with fail
      refine (HT.out _ r0).mono ?_
      rintro e x1 ⟨bt, rfl, rt, hb⟩
      replace b0 := keepr hb b0
      replace b1 := keepr hb b1
      replace r0 := r0.below hb
      have B3 := bl_step B2 hb
      clear hb B2 b0c0 b0c1 b0c2 b0c3 b0l
      have b0c0 := cf0 b0
      have b0c1 := cf1 b0
      have b0c2 := cf2 b0
      have b0c3 := cf3 b0
      have b0l := b0.lt
      obtain ⟨b1w0, b1w1, b1w2, b1w3, b1w4, b1w5, b1w6, b1w7⟩ := wnf_wn b1
      simp only [Nat.zero_add] at b1w1 b1w2 b1w3 b1w4 b1w5 b1w6 b1w7
      have b1l := b1.lt
      go_wp2_with fail
      refine gen_calls (fun W => W.rowIs (w.heap.size) 26 4 (cf H V C ao m cap) ∧ W.rowIs (w.heap.size + 1) 28 8 (wnf R S y x 0 0 0 0) ∧ Wr W ao m N ∧ Wr W bt m NT ∧ W.rowIs (x1.heap.size) 26 4 (cf H V C bt m m) ∧ Below w.heap.size w W) ⟨b0.alloc _, b1.alloc _, r0.below (bl_alloc (Below.refl _ _) _), rt.below (bl_alloc (Below.refl _ _) _), cu_new _ _ _ _ _ _ _ _, bl_alloc B3 _⟩ ?_
      clear b0 b1 r0 rt b0c0 b0c1 b0c2 b0c3 b0l b1w0 b1w1 b1w2 b1w3 b1w4 b1w5 b1w6 b1w7 b1l B3
      rintro Y1w ⟨b0, b1, r0, rt, b2, B4⟩
      refine (HX.out _ r0).mono ?_
      rintro e x2 ⟨ba, rfl, ra, hb⟩
      replace b0 := keepr hb b0
      replace b1 := keepr hb b1
      replace r0 := r0.below hb
      replace rt := rt.below hb
      replace b2 := keepr hb b2
      have B5 := bl_step B4 hb
      clear hb B4
      have b0c0 := cf0 b0
      have b0c1 := cf1 b0
      have b0c2 := cf2 b0
      have b0c3 := cf3 b0
      have b0l := b0.lt
      obtain ⟨b1w0, b1w1, b1w2, b1w3, b1w4, b1w5, b1w6, b1w7⟩ := wnf_wn b1
      simp only [Nat.zero_add] at b1w1 b1w2 b1w3 b1w4 b1w5 b1w6 b1w7
      have b1l := b1.lt
      go_wp2_with fail
      refine gen_calls (fun W => W.rowIs (w.heap.size) 26 4 (cf H V C ao m cap) ∧ W.rowIs (w.heap.size + 1) 28 8 (wnf R S y x 0 0 0 0) ∧ Wr W ao m N ∧ Wr W bt m NT ∧ W.rowIs (x1.heap.size) 26 4 (cf H V C bt m m) ∧ Wr W ba M X1 ∧ W.rowIs (x2.heap.size) 26 4 (cf OH OW C ba M M) ∧ Below w.heap.size w W) ⟨b0.alloc _, b1.alloc _, r0.below (bl_alloc (Below.refl _ _) _), rt.below (bl_alloc (Below.refl _ _) _), b2.alloc _, ra.below (bl_alloc (Below.refl _ _) _), cu_new _ _ _ _ _ _ _ _, bl_alloc B5 _⟩ ?_
      clear b0 b1 r0 rt b2 ra b0c0 b0c1 b0c2 b0c3 b0l b1w0 b1w1 b1w2 b1w3 b1w4 b1w5 b1w6 b1w7 b1l B5
      rintro Y2w ⟨b0, b1, r0, rt, b2, ra, b3, B6⟩
      refine (HN.out _ r0).mono ?_
      rintro e x3 ⟨bb, rfl, rb, hb⟩
      replace b0 := keepr hb b0
      replace b1 := keepr hb b1
      replace r0 := r0.below hb
      replace rt := rt.below hb
      replace b2 := keepr hb b2
      replace ra := ra.below hb
      replace b3 := keepr hb b3
      have B7 := bl_step B6 hb
      clear hb B6
      have b0c0 := cf0 b0
      have b0c1 := cf1 b0
      have b0c2 := cf2 b0
      have b0c3 := cf3 b0
      have b0l := b0.lt
      go_wp2_with fail
      refine gen_calls (fun W => W.rowIs (w.heap.size) 26 4 (cf H V C ao m cap) ∧ W.rowIs (w.heap.size + 1) 28 8 (wnf R S y x 0 0 0 0) ∧ Wr W ao m N ∧ Wr W bt m NT ∧ W.rowIs (x1.heap.size) 26 4 (cf H V C bt m m) ∧ Wr W ba M X1 ∧ W.rowIs (x2.heap.size) 26 4 (cf OH OW C ba M M) ∧ Wr W bb M X2 ∧ W.rowIs (x3.heap.size) 26 4 (cf OH OW C bb M M) ∧ Below w.heap.size w W) ⟨b0.alloc _, b1.alloc _, r0.below (bl_alloc (Below.refl _ _) _), rt.below (bl_alloc (Below.refl _ _) _), b2.alloc _, ra.below (bl_alloc (Below.refl _ _) _), b3.alloc _, rb.below (bl_alloc (Below.refl _ _) _), cu_new _ _ _ _ _ _ _ _, bl_alloc B7 _⟩ ?_
      clear b0 b1 r0 rt b2 ra b3 rb b0c0 b0c1 b0c2 b0c3 b0l B7
      rintro Y3w ⟨b0, b1, r0, rt, b2, ra, b3, rb, b4, B8⟩
      refine (HC.out _ r0).mono ?_
      rintro e x4 ⟨rfl, hb⟩
      replace b0 := keepr hb b0
      replace b1 := keepr hb b1
      replace r0 := r0.below hb
      replace rt := rt.below hb
      replace b2 := keepr hb b2
      replace ra := ra.below hb
      replace b3 := keepr hb b3
      replace rb := rb.below hb
      replace b4 := keepr hb b4
      have B9 := bl_step B8 hb
      clear hb B8
      clear b0 r0
      have b2c0 := cf0 b2
      have b2c1 := cf1 b2
      have b2c2 := cf2 b2
      have b2c3 := cf3 b2
      have b2l := b2.lt
      obtain ⟨b1w0, b1w1, b1w2, b1w3, b1w4, b1w5, b1w6, b1w7⟩ := wnf_wn b1
      simp only [Nat.zero_add] at b1w1 b1w2 b1w3 b1w4 b1w5 b1w6 b1w7
      have b1l := b1.lt
      go_wp2_with fail
      refine (HNT.out _ _ rt).mono ?_
      rintro e x5 ⟨bd, rfl, rdd, hb⟩
      replace b1 := keepr hb b1
      replace rt := rt.below hb
      replace b2 := keepr hb b2
      replace ra := ra.below hb
      replace b3 := keepr hb b3
      replace rb := rb.below hb
      replace b4 := keepr hb b4
      have B10 := bl_step B9 hb
      clear hb B9 b2c0 b2c1 b2c2 b2c3 b2l b1w0 b1w1 b1w2 b1w3 b1w4 b1w5 b1w6 b1w7 b1l
      have b2c0 := cf0 b2
      have b2c1 := cf1 b2
      have b2c2 := cf2 b2
      have b2c3 := cf3 b2
      have b2l := b2.lt
      obtain ⟨b1w0, b1w1, b1w2, b1w3, b1w4, b1w5, b1w6, b1w7⟩ := wnf_wn b1
      simp only [Nat.zero_add] at b1w1 b1w2 b1w3 b1w4 b1w5 b1w6 b1w7
      have b1l := b1.lt
      go_wp2_with fail
      refine gen_calls (fun W => W.rowIs (w.heap.size + 1) 28 8 (wnf R S y x 0 0 0 0) ∧ Wr W bt m NT ∧ W.rowIs (x1.heap.size) 26 4 (cf H V C bt m m) ∧ Wr W ba M X1 ∧ W.rowIs (x2.heap.size) 26 4 (cf OH OW C ba M M) ∧ Wr W bb M X2 ∧ W.rowIs (x3.heap.size) 26 4 (cf OH OW C bb M M) ∧ Wr W bd M Y1 ∧ W.rowIs (x5.heap.size) 26 4 (cf OH OW C bd M M) ∧ Below w.heap.size w W) ⟨b1.alloc _, rt.below (bl_alloc (Below.refl _ _) _), b2.alloc _, ra.below (bl_alloc (Below.refl _ _) _), b3.alloc _, rb.below (bl_alloc (Below.refl _ _) _), b4.alloc _, rdd.below (bl_alloc (Below.refl _ _) _), cu_new _ _ _ _ _ _ _ _, bl_alloc B10 _⟩ ?_
      clear b1 rt b2 ra b3 rb b4 rdd b2c0 b2c1 b2c2 b2c3 b2l b1w0 b1w1 b1w2 b1w3 b1w4 b1w5 b1w6 b1w7 b1l B10
      rintro Y5w ⟨b1, rt, b2, ra, b3, rb, b4, rdd, b5, B11⟩
      refine (HXT.out _ _ rt).mono ?_
      rintro e x6 ⟨bx, rfl, rx, hb⟩
      replace b1 := keepr hb b1
      replace rt := rt.below hb
      replace b2 := keepr hb b2
      replace ra := ra.below hb
      replace b3 := keepr hb b3
      replace rb := rb.below hb
      replace b4 := keepr hb b4
      replace rdd := rdd.below hb
      replace b5 := keepr hb b5
      have B12 := bl_step B11 hb
      clear hb B11
      clear b2 b1 rt
      have b3c0 := cf0 b3
      have b3c1 := cf1 b3
      have b3c2 := cf2 b3
      have b3c3 := cf3 b3
      have b3l := b3.lt
      go_wp2_with fail
      refine gen_calls (fun W => Wr W ba M X1 ∧ W.rowIs (x2.heap.size) 26 4 (cf OH OW C ba M M) ∧ Wr W bb M X2 ∧ W.rowIs (x3.heap.size) 26 4 (cf OH OW C bb M M) ∧ Wr W bd M Y1 ∧ W.rowIs (x5.heap.size) 26 4 (cf OH OW C bd M M) ∧ Wr W bx M Y2 ∧ W.rowIs (x6.heap.size) 26 4 (cf OH OW C bx M M) ∧ Below w.heap.size w W) ⟨ra.below (bl_alloc (Below.refl _ _) _), b3.alloc _, rb.below (bl_alloc (Below.refl _ _) _), b4.alloc _, rdd.below (bl_alloc (Below.refl _ _) _), b5.alloc _, rx.below (bl_alloc (Below.refl _ _) _), cu_new _ _ _ _ _ _ _ _, bl_alloc B12 _⟩ ?_
      clear ra b3 rb b4 rdd b5 rx b3c0 b3c1 b3c2 b3c3 b3l B12
      rintro Y6w ⟨ra, b3, rb, b4, rdd, b5, rx, b6, B13⟩
      refine (HT1.out _ _ ra).mono ?_
      rintro e x7 ⟨by1, rfl, ry, hb⟩
      replace ra := ra.below hb
      replace b3 := keepr hb b3
      replace rb := rb.below hb
      replace b4 := keepr hb b4
      replace rdd := rdd.below hb
      replace b5 := keepr hb b5
      replace rx := rx.below hb
      replace b6 := keepr hb b6
      have B14 := bl_step B13 hb
      clear hb B13
      clear b3 ra
      have b4c0 := cf0 b4
      have b4c1 := cf1 b4
      have b4c2 := cf2 b4
      have b4c3 := cf3 b4
      have b4l := b4.lt
      go_wp2_with fail
      refine gen_calls (fun W => Wr W bb M X2 ∧ W.rowIs (x3.heap.size) 26 4 (cf OH OW C bb M M) ∧ Wr W bd M Y1 ∧ W.rowIs (x5.heap.size) 26 4 (cf OH OW C bd M M) ∧ Wr W bx M Y2 ∧ W.rowIs (x6.heap.size) 26 4 (cf OH OW C bx M M) ∧ Wr W by1 M Y1 ∧ W.rowIs (x7.heap.size) 26 4 (cf OH OW C by1 M M) ∧ Below w.heap.size w W) ⟨rb.below (bl_alloc (Below.refl _ _) _), b4.alloc _, rdd.below (bl_alloc (Below.refl _ _) _), b5.alloc _, rx.below (bl_alloc (Below.refl _ _) _), b6.alloc _, ry.below (bl_alloc (Below.refl _ _) _), cu_new _ _ _ _ _ _ _ _, bl_alloc B14 _⟩ ?_
      clear rb b4 rdd b5 rx b6 ry b4c0 b4c1 b4c2 b4c3 b4l B14
      rintro Y7w ⟨rb, b4, rdd, b5, rx, b6, ry, b7, B15⟩
      refine (HT2.out _ _ rb).mono ?_
      rintro e x8 ⟨bz, rfl, rz, hb⟩
      replace rb := rb.below hb
      replace b4 := keepr hb b4
      replace rdd := rdd.below hb
      replace b5 := keepr hb b5
      replace rx := rx.below hb
      replace b6 := keepr hb b6
      replace ry := ry.below hb
      replace b7 := keepr hb b7
      have B16 := bl_step B15 hb
      clear hb B15
      clear b4 rb
      have b5c0 := cf0 b5
      have b5c1 := cf1 b5
      have b5c2 := cf2 b5
      have b5c3 := cf3 b5
      have b5l := b5.lt
      have b7c0 := cf0 b7
      have b7c1 := cf1 b7
      have b7c2 := cf2 b7
      have b7c3 := cf3 b7
      have b7l := b7.lt
      go_wp2_with fail
      refine gen_calls (fun W => Wr W bd M Y1 ∧ W.rowIs (x5.heap.size) 26 4 (cf OH OW C bd M M) ∧ Wr W bx M Y2 ∧ W.rowIs (x6.heap.size) 26 4 (cf OH OW C bx M M) ∧ Wr W by1 M Y1 ∧ W.rowIs (x7.heap.size) 26 4 (cf OH OW C by1 M M) ∧ Wr W bz M Y2 ∧ W.rowIs (x8.heap.size) 26 4 (cf OH OW C bz M M) ∧ Below w.heap.size w W) ⟨rdd.below (bl_alloc (Below.refl _ _) _), b5.alloc _, rx.below (bl_alloc (Below.refl _ _) _), b6.alloc _, ry.below (bl_alloc (Below.refl _ _) _), b7.alloc _, rz.below (bl_alloc (Below.refl _ _) _), cu_new _ _ _ _ _ _ _ _, bl_alloc B16 _⟩ ?_
      clear rdd b5 rx b6 ry b7 rz b5c0 b5c1 b5c2 b5c3 b5l b7c0 b7c1 b7c2 b7c3 b7l B16
      rintro Y8w ⟨rdd, b5, rx, b6, ry, b7, rz, b8, B17⟩
      refine (cubes_same OH OW C M Y1 _ _ _ _ Y8w M63 rdd ry).mono ?_
      rintro e x9 ⟨rfl, hb⟩
      replace rdd := rdd.below hb
      replace b5 := keepr hb b5
      replace rx := rx.below hb
      replace b6 := keepr hb b6
      replace ry := ry.below hb
      replace b7 := keepr hb b7
      replace rz := rz.below hb
      replace b8 := keepr hb b8
      have B18 := bl_step B17 hb
      clear hb B17
      have b6c0 := cf0 b6
      have b6c1 := cf1 b6
      have b6c2 := cf2 b6
      have b6c3 := cf3 b6
      have b6l := b6.lt
      have b8c0 := cf0 b8
      have b8c1 := cf1 b8
      have b8c2 := cf2 b8
      have b8c3 := cf3 b8
      have b8l := b8.lt
      go_wp2_with fail
      refine (cubes_same OH OW C M Y2 _ _ _ _ x9 M63 rx rz).mono ?_
      rintro e x10 ⟨rfl, hb⟩
      replace rdd := rdd.below hb
      replace b5 := keepr hb b5
      replace rx := rx.below hb
      replace b6 := keepr hb b6
      replace ry := ry.below hb
      replace b7 := keepr hb b7
      replace rz := rz.below hb
      replace b8 := keepr hb b8
      have B19 := bl_step B18 hb
      clear hb B18 b6c0 b6c1 b6c2 b6c3 b6l b8c0 b8c1 b8c2 b8c3 b8l
      go_wp2_with fail
      go_ret
      exact ⟨rfl, B19⟩
    · have HX := hid1 (fun W r' => max_gen ao cap r s sy sx t l b q W qb hmc hcap r' k2)
      have HN := hid1 (fun W r' => min_gen ao cap r s sy sx t l b q W qb hmc hcap r' k2)
      have HXT := hid1 (fun bo W r' => max_gen bo m r s sy sx t l b q W qt (Nat.le_refl _) (Nat.le_trans qb.le (by decide)) r' k2)
      have HNT := hid1 (fun bo W r' => min_gen bo m r s sy sx t l b q W qt (Nat.le_refl _) (Nat.le_trans qb.le (by decide)) r' k2)
      generalize gE H V C r s sy sx t l b q = E at *
      generalize tN N C (H * V) = NT at *
      clear qb qt
      have b0c0 := cf0 b0
      have b0c1 := cf1 b0
      have b0c2 := cf2 b0
      have b0c3 := cf3 b0
      have b0l := b0.lt
      go_wp2_with fail
      refine (HT.out _ r0).mono ?_
      rintro e x1 ⟨bt, rfl, rt, hb⟩
      replace b0 := keepr hb b0
      replace b1 := keepr hb b1
      replace r0 := r0.below hb
      have B3 := bl_step B2 hb
      clear hb B2 b0c0 b0c1 b0c2 b0c3 b0l
      have b0c0 := cf0 b0
      have b0c1 := cf1 b0
      have b0c2 := cf2 b0
      have b0c3 := cf3 b0
      have b0l := b0.lt
      obtain ⟨b1w0, b1w1, b1w2, b1w3, b1w4, b1w5, b1w6, b1w7⟩ := wnf_wn b1
      simp only [Nat.zero_add] at b1w1 b1w2 b1w3 b1w4 b1w5 b1w6 b1w7
      have b1l := b1.lt
      go_wp2_with fail
      refine gen_calls (fun W => W.rowIs (w.heap.size) 26 4 (cf H V C ao m cap) ∧ W.rowIs (w.heap.size + 1) 28 8 (wnf r s sy sx t l b q) ∧ Wr W ao m N ∧ Wr W bt m NT ∧ W.rowIs (x1.heap.size) 26 4 (cf H V C bt m m) ∧ Below w.heap.size w W) ⟨b0.alloc _, b1.alloc _, r0.below (bl_alloc (Below.refl _ _) _), rt.below (bl_alloc (Below.refl _ _) _), cu_new _ _ _ _ _ _ _ _, bl_alloc B3 _⟩ ?_
      clear b0 b1 r0 rt b0c0 b0c1 b0c2 b0c3 b0l b1w0 b1w1 b1w2 b1w3 b1w4 b1w5 b1w6 b1w7 b1l B3
      rintro Y1w ⟨b0, b1, r0, rt, b2, B4⟩
      refine (HX.out _ r0).mono ?_
      rintro e x2 ⟨rfl, hb⟩
      replace b0 := keepr hb b0
      replace b1 := keepr hb b1
      replace r0 := r0.below hb
      replace rt := rt.below hb
      replace b2 := keepr hb b2
      have B5 := bl_step B4 hb
      clear hb B4
      have b0c0 := cf0 b0
      have b0c1 := cf1 b0
      have b0c2 := cf2 b0
      have b0c3 := cf3 b0
      have b0l := b0.lt
      obtain ⟨b1w0, b1w1, b1w2, b1w3, b1w4, b1w5, b1w6, b1w7⟩ := wnf_wn b1
      simp only [Nat.zero_add] at b1w1 b1w2 b1w3 b1w4 b1w5 b1w6 b1w7
      have b1l := b1.lt
      go_wp2_with fail
      refine gen_calls (fun W => W.rowIs (w.heap.size) 26 4 (cf H V C ao m cap) ∧ W.rowIs (w.heap.size + 1) 28 8 (wnf r s sy sx t l b q) ∧ Wr W ao m N ∧ Wr W bt m NT ∧ W.rowIs (x1.heap.size) 26 4 (cf H V C bt m m) ∧ W.rowIs (x2.heap.size) 26 4 (cf 0 0 0 none 0 0) ∧ Below w.heap.size w W) ⟨b0.alloc _, b1.alloc _, r0.below (bl_alloc (Below.refl _ _) _), rt.below (bl_alloc (Below.refl _ _) _), b2.alloc _, cu_new _ _ _ _ _ _ _ _, bl_alloc B5 _⟩ ?_
      clear b0 b1 r0 rt b2 b0c0 b0c1 b0c2 b0c3 b0l b1w0 b1w1 b1w2 b1w3 b1w4 b1w5 b1w6 b1w7 b1l B5
      rintro Y2w ⟨b0, b1, r0, rt, b2, b3, B6⟩
      refine (HN.out _ r0).mono ?_
      rintro e x3 ⟨rfl, hb⟩
      replace b0 := keepr hb b0
      replace b1 := keepr hb b1
      replace r0 := r0.below hb
      replace rt := rt.below hb
      replace b2 := keepr hb b2
      replace b3 := keepr hb b3
      have B7 := bl_step B6 hb
      clear hb B6
      have b0c0 := cf0 b0
      have b0c1 := cf1 b0
      have b0c2 := cf2 b0
      have b0c3 := cf3 b0
      have b0l := b0.lt
      go_wp2_with fail
      refine gen_calls (fun W => W.rowIs (w.heap.size) 26 4 (cf H V C ao m cap) ∧ W.rowIs (w.heap.size + 1) 28 8 (wnf r s sy sx t l b q) ∧ Wr W ao m N ∧ Wr W bt m NT ∧ W.rowIs (x1.heap.size) 26 4 (cf H V C bt m m) ∧ W.rowIs (x2.heap.size) 26 4 (cf 0 0 0 none 0 0) ∧ W.rowIs (x3.heap.size) 26 4 (cf 0 0 0 none 0 0) ∧ Below w.heap.size w W) ⟨b0.alloc _, b1.alloc _, r0.below (bl_alloc (Below.refl _ _) _), rt.below (bl_alloc (Below.refl _ _) _), b2.alloc _, b3.alloc _, cu_new _ _ _ _ _ _ _ _, bl_alloc B7 _⟩ ?_
      clear b0 b1 r0 rt b2 b3 b0c0 b0c1 b0c2 b0c3 b0l B7
      rintro Y3w ⟨b0, b1, r0, rt, b2, b3, b4, B8⟩
      refine (HC.out _ r0).mono ?_
      rintro e x4 ⟨rfl, hb⟩
      replace b0 := keepr hb b0
      replace b1 := keepr hb b1
      replace r0 := r0.below hb
      replace rt := rt.below hb
      replace b2 := keepr hb b2
      replace b3 := keepr hb b3
      replace b4 := keepr hb b4
      have B9 := bl_step B8 hb
      clear hb B8
      clear b0 r0
      have b2c0 := cf0 b2
      have b2c1 := cf1 b2
      have b2c2 := cf2 b2
      have b2c3 := cf3 b2
      have b2l := b2.lt
      obtain ⟨b1w0, b1w1, b1w2, b1w3, b1w4, b1w5, b1w6, b1w7⟩ := wnf_wn b1
      simp only [Nat.zero_add] at b1w1 b1w2 b1w3 b1w4 b1w5 b1w6 b1w7
      have b1l := b1.lt
      go_wp2_with fail
      refine (HNT.out _ _ rt).mono ?_
      rintro e x5 ⟨rfl, hb⟩
      replace b1 := keepr hb b1
      replace rt := rt.below hb
      replace b2 := keepr hb b2
      replace b3 := keepr hb b3
      replace b4 := keepr hb b4
      have B10 := bl_step B9 hb
      clear hb B9 b2c0 b2c1 b2c2 b2c3 b2l b1w0 b1w1 b1w2 b1w3 b1w4 b1w5 b1w6 b1w7 b1l
      have b2c0 := cf0 b2
      have b2c1 := cf1 b2
      have b2c2 := cf2 b2
      have b2c3 := cf3 b2
      have b2l := b2.lt
      obtain ⟨b1w0, b1w1, b1w2, b1w3, b1w4, b1w5, b1w6, b1w7⟩ := wnf_wn b1
      simp only [Nat.zero_add] at b1w1 b1w2 b1w3 b1w4 b1w5 b1w6 b1w7
      have b1l := b1.lt
      go_wp2_with fail
      refine gen_calls (fun W => W.rowIs (w.heap.size + 1) 28 8 (wnf r s sy sx t l b q) ∧ Wr W bt m NT ∧ W.rowIs (x1.heap.size) 26 4 (cf H V C bt m m) ∧ W.rowIs (x2.heap.size) 26 4 (cf 0 0 0 none 0 0) ∧ W.rowIs (x3.heap.size) 26 4 (cf 0 0 0 none 0 0) ∧ W.rowIs (x5.heap.size) 26 4 (cf 0 0 0 none 0 0) ∧ Below w.heap.size w W) ⟨b1.alloc _, rt.below (bl_alloc (Below.refl _ _) _), b2.alloc _, b3.alloc _, b4.alloc _, cu_new _ _ _ _ _ _ _ _, bl_alloc B10 _⟩ ?_
      clear b1 rt b2 b3 b4 b2c0 b2c1 b2c2 b2c3 b2l b1w0 b1w1 b1w2 b1w3 b1w4 b1w5 b1w6 b1w7 b1l B10
      rintro Y5w ⟨b1, rt, b2, b3, b4, b5, B11⟩
      refine (HXT.out _ _ rt).mono ?_
      rintro e x6 ⟨rfl, hb⟩
      replace b1 := keepr hb b1
      replace rt := rt.below hb
      replace b2 := keepr hb b2
      replace b3 := keepr hb b3
      replace b4 := keepr hb b4
      replace b5 := keepr hb b5
      have B12 := bl_step B11 hb
      clear hb B11
      clear b2 b1 rt b5
      have b3c0 := cf0 b3
      have b3c1 := cf1 b3
      have b3c2 := cf2 b3
      have b3c3 := cf3 b3
      have b3l := b3.lt
      have b4c0 := cf0 b4
      have b4c1 := cf1 b4
      have b4c2 := cf2 b4
      have b4c3 := cf3 b4
      have b4l := b4.lt
      go_wp2_with fail
      go_ret
      exact ⟨rfl, bl_alloc B12 _⟩
  · have HT := hid1 (fun W r' => turned_bad h v c ao m cap N W hmc hcap r' k1)
    have HX := hid1 (fun W r' => max_bad h v c ao m cap N r s sy sx t l b q W hmc hcap r' (by rw [poE_c k1]; exact k1))
    have HN := hid1 (fun W r' => min_bad h v c ao m cap N r s sy sx t l b q W hmc hcap r' (by rw [poE_c k1]; exact k1))
    rw [poE_c k1] at HX HN
    generalize cuk h v c m N = E at *
    have b0c0 := cf0 b0
    have b0c1 := cf1 b0
    have b0c2 := cf2 b0
    have b0c3 := cf3 b0
    have b0l := b0.lt
    go_wp2_with fail
    refine (HT.out _ r0).mono ?_
    rintro e x1 ⟨rfl, hb⟩
    replace b0 := keepr hb b0
    replace b1 := keepr hb b1
    replace r0 := r0.below hb
    have B3 := bl_step B2 hb
    clear hb B2 b0c0 b0c1 b0c2 b0c3 b0l
    have b0c0 := cf0 b0
    have b0c1 := cf1 b0
    have b0c2 := cf2 b0
    have b0c3 := cf3 b0
    have b0l := b0.lt
    obtain ⟨b1w0, b1w1, b1w2, b1w3, b1w4, b1w5, b1w6, b1w7⟩ := wnf_wn b1
    simp only [Nat.zero_add] at b1w1 b1w2 b1w3 b1w4 b1w5 b1w6 b1w7
    have b1l := b1.lt
    go_wp2_with fail
    refine gen_calls (fun W => W.rowIs (w.heap.size) 26 4 (cf h v c ao m cap) ∧ W.rowIs (w.heap.size + 1) 28 8 (wnf r s sy sx t l b q) ∧ Wr W ao m N ∧ W.rowIs (x1.heap.size) 26 4 (cf 0 0 0 none 0 0) ∧ Below w.heap.size w W) ⟨b0.alloc _, b1.alloc _, r0.below (bl_alloc (Below.refl _ _) _), cu_new _ _ _ _ _ _ _ _, bl_alloc B3 _⟩ ?_
    clear b0 b1 r0 b0c0 b0c1 b0c2 b0c3 b0l b1w0 b1w1 b1w2 b1w3 b1w4 b1w5 b1w6 b1w7 b1l B3
    rintro Y1w ⟨b0, b1, r0, b2, B4⟩
    refine (HX.out _ r0).mono ?_
    rintro e x2 ⟨rfl, hb⟩
    replace b0 := keepr hb b0
    replace b1 := keepr hb b1
    replace r0 := r0.below hb
    replace b2 := keepr hb b2
    have B5 := bl_step B4 hb
    clear hb B4
    have b0c0 := cf0 b0
    have b0c1 := cf1 b0
    have b0c2 := cf2 b0
    have b0c3 := cf3 b0
    have b0l := b0.lt
    obtain ⟨b1w0, b1w1, b1w2, b1w3, b1w4, b1w5, b1w6, b1w7⟩ := wnf_wn b1
    simp only [Nat.zero_add] at b1w1 b1w2 b1w3 b1w4 b1w5 b1w6 b1w7
    have b1l := b1.lt
    go_wp2_with fail
    refine gen_calls (fun W => W.rowIs (w.heap.size) 26 4 (cf h v c ao m cap) ∧ W.rowIs (w.heap.size + 1) 28 8 (wnf r s sy sx t l b q) ∧ Wr W ao m N ∧ W.rowIs (x1.heap.size) 26 4 (cf 0 0 0 none 0 0) ∧ W.rowIs (x2.heap.size) 26 4 (cf 0 0 0 none 0 0) ∧ Below w.heap.size w W) ⟨b0.alloc _, b1.alloc _, r0.below (bl_alloc (Below.refl _ _) _), b2.alloc _, cu_new _ _ _ _ _ _ _ _, bl_alloc B5 _⟩ ?_
    clear b0 b1 r0 b2 b0c0 b0c1 b0c2 b0c3 b0l b1w0 b1w1 b1w2 b1w3 b1w4 b1w5 b1w6 b1w7 b1l B5
    rintro Y2w ⟨b0, b1, r0, b2, b3, B6⟩
    refine (HN.out _ r0).mono ?_
    rintro e x3 ⟨rfl, hb⟩
    replace b0 := keepr hb b0
    replace b1 := keepr hb b1
    replace r0 := r0.below hb
    replace b2 := keepr hb b2
    replace b3 := keepr hb b3
    have B7 := bl_step B6 hb
    clear hb B6
    have b0c0 := cf0 b0
    have b0c1 := cf1 b0
    have b0c2 := cf2 b0
    have b0c3 := cf3 b0
    have b0l := b0.lt
    go_wp2_with fail
    refine gen_calls (fun W => W.rowIs (w.heap.size) 26 4 (cf h v c ao m cap) ∧ W.rowIs (w.heap.size + 1) 28 8 (wnf r s sy sx t l b q) ∧ Wr W ao m N ∧ W.rowIs (x1.heap.size) 26 4 (cf 0 0 0 none 0 0) ∧ W.rowIs (x2.heap.size) 26 4 (cf 0 0 0 none 0 0) ∧ W.rowIs (x3.heap.size) 26 4 (cf 0 0 0 none 0 0) ∧ Below w.heap.size w W) ⟨b0.alloc _, b1.alloc _, r0.below (bl_alloc (Below.refl _ _) _), b2.alloc _, b3.alloc _, cu_new _ _ _ _ _ _ _ _, bl_alloc B7 _⟩ ?_
    clear b0 b1 r0 b2 b3 b0c0 b0c1 b0c2 b0c3 b0l B7
    rintro Y3w ⟨b0, b1, r0, b2, b3, b4, B8⟩
    refine (HC.out _ r0).mono ?_
    rintro e x4 ⟨rfl, hb⟩
    replace b0 := keepr hb b0
    replace b1 := keepr hb b1
    replace r0 := r0.below hb
    replace b2 := keepr hb b2
    replace b3 := keepr hb b3
    replace b4 := keepr hb b4
    have B9 := bl_step B8 hb
    clear hb B8
    go_wp2_with fail
    go_ret
    exact ⟨rfl, B9⟩
end Go.Proofs.Ytlghmojjcfjibaa
namespace Go.Proofs.Ytlghmojjcfjibaa
open Go.ChangeShapes Go.WideShapes Go.ChangeAt Go.RowKit

set_option maxRecDepth 100000 in
theorem poolTurned_lifted (os : Os) (started : os.Started) (H : Type) (enc : TypeId × Value → H) :
    ReturnsInHanded {} Try.checked os 4 .any (Rows.poolTurnedSpec.pre6 enc Try.prog Try.f4 Rows.poolTurnedRow.domain false) (Rows.poolTurnedSpec.post enc Try.prog Try.f4 false true false false) := by
  refine returnsInHanded_of_change_sized (C := Try.checked) own started (by kernel_rfl) Try.func4
    (ChangeSpec.witness6 (enc := enc) (C := Try.checked) false ⟨#[], #[.agg #[.int .i64 0, .int .i64 0, .int .i64 0, .slice none 0 0], .agg #[.int .i64 0, .int .i64 0, .int .i64 0, .int .i64 0, .int .i64 0, .int .i64 0, .int .i64 0, .int .i64 0]], []⟩ 8 (by kernel_rfl) (by kernel_rfl) (by kernel_rfl) (by kernel_rfl)) ?_
  intro W base args ds gs before hval0 hW hcnd hsz _
  have hval : ∀ (j : Nat) t v, Try.f4.params[j]? = some t → args[j]? = some v → Value.okWide Try.prog W .any base t v := hval0
  have hW' := hW
  obtain ⟨p, q, hA0, hV, rfl, hfz, hnd⟩ := hW
  have hA : DataW.TrodAll enc Try.prog W 0 (fun _ => true) true Try.f4.params.toList args.toList ds p := hA0
  rw [Try.params4] at hA hval hsz
  obtain ⟨v0, vs0, d0, ds0, p0, q0, hargs, rfl, rfl, h0, r0⟩ := trodAll_cons hA
  obtain ⟨v1, vs1, d1, ds1, p1, q1, rfl, rfl, rfl, h1, r1⟩ := trodAll_cons r0
  obtain ⟨rfl, rfl, rfl⟩ := trodAll_nil r1
  obtain rfl : args = #[v0, v1] := by cases args; simp_all
  obtain ⟨rfl, rfl⟩ := trodVars_none hV
  have lt0 : ∀ x ∈ p0, x.block < W.heap.size := by obtain ⟨m, hm⟩ := h0; exact DataW.trod_lt m _ _ _ hm
  have k0 := h0
  have lt1 : ∀ x ∈ p1, x.block < W.heap.size := by obtain ⟨m, hm⟩ := h1; exact DataW.trod_lt m _ _ _ hm
  have k1 := h1
  obtain ⟨ca0, cb0, cc0, ao0, m0, c0, N0, rfl, rr0, hm0, hc0, hd0⟩ := open_cube (hval 0 26 v0 rfl rfl) h0 (fun n hn => by have := List.all_eq_true.1 hsz _ (DataW.weights_mem_each (j := 0) (t := 26) (d := d0) rfl rfl n hn); simpa using this)
  obtain ⟨wa1, wb1, wc1, wd1, we1, wf1, wg1, wh1, rfl⟩ := open_win (hval 1 28 v1 rfl rfl) h1
  clear hA0 hval0
  refine (poolTurned_any ca0 cb0 cc0 ao0 m0 c0 N0 wa1 wb1 wc1 wd1 we1 wf1 wg1 wh1 W hc0 hd0 rr0).mono fun e W' ⟨he, bel⟩ => ?_
  subst he
  exact ⟨_, rfl, _, _, _, [], _, [], hW', trodAll_mk1 (shut_bool Try.underlying4 _), (trodAll_cons_mk (Below.trod laidOut (by kernel_rfl) (of_decide_eq_true (by kernel_rfl)) k0 bel lt0) (trodAll_cons_mk (Below.trod laidOut (by kernel_rfl) (of_decide_eq_true (by kernel_rfl)) k1 bel lt1) trodAll_mk0)), rfl, bel.frame _, fun h => by cases h⟩

theorem poolTurned_holds : Rows.PoolTurnedSaid :=
  OpenClaim.holds_of_wide 4 Try.f4 rfl rfl rfl rfl rfl rfl rfl ⟨rfl, rfl, rfl, rfl, rfl⟩ rfl rfl rfl rfl rfl (by kernel_rfl) Try.func4 (by kernel_rfl)
    (of_decide_eq_true (by kernel_rfl)) (by unfold Func.isWrapper; first | (rw [if_pos (by decide +kernel)]; kernel_rfl) | (rw [if_neg (by decide +kernel)]; exact ⟨rfl, rfl⟩))
    (fun os started H enc _ => poolTurned_lifted os started H enc)
#print axioms poolTurned_holds
end Go.Proofs.Ytlghmojjcfjibaa
