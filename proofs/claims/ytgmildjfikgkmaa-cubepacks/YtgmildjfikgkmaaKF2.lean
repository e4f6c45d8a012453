/- PARAMETERS THAT ARE LISTS OF SHAPES, LISTS OF LISTS OF VALUES (plain rows). -/
import Derived.Test.YtgmildjfikgkmaaBP1
import Derived.Test.YtgmildjfikgkmaaKB6
import Derived.ChangeSlices
import Derived.Deep.Slices
namespace Go.Proofs.Ytgmildjfikgkmaa
open Go.ChangeShapes Go.WideShapes Go.ChangeAt Go.RowKit
set_option maxRecDepth 100000

theorem max_is : maxLen = 9223372036854775807 := by decide
theorem add_at (b o n : Nat) : Addr.add ⟨b, o, none⟩ n = ⟨b, o + n, none⟩ := by
  unfold Addr.add
  by_cases h : n = 0
  · subst h; rfl
  · rw [if_neg h]
theorem i8_of_wf {x : Int} (h : (Lit.int .i8 x).wf = true) : -128 ≤ x ∧ x ≤ 127 := by
  simp [Lit.wf, IntKind.min, IntKind.max, IntKind.signed, IntKind.bits] at h
  exact ⟨by omega, by omega⟩
theorem cells_int : Try.prog.cellsOf 3 = 1 := by kernel_rfl
theorem cells_is : Try.prog.cellsOf 22 = 1 := by kernel_rfl
theorem weightsAll_mem {H : Type} {P : Program} {e : TypeId} : ∀ {l : List (DataW H)} {d : DataW H}, d ∈ l → ∀ n ∈ d.weights P e, n ∈ DataW.weightsAll P e l
  | x :: l, d, hd, n, hn => by
    rw [DataW.weightsAll, List.mem_append]
    rcases List.mem_cons.mp hd with rfl | h
    · exact Or.inl hn
    · exact Or.inr (weightsAll_mem h n hn)
theorem fld {H : Type} {enc : TypeId × Value → H} {P : Program} {w : World} {base : Nat} {sp : Nat → Bool} {held : Bool} {t : TypeId} {fs : Array Field} {fuel : Nat} {cs : List Value} {x : DataW H × List MemPlace}
    (ht : P.underlying t = some (.struct fs)) (h : DataW.trod enc P w base sp held fuel t cs = some x) (i : Nat) (f : Field) (hi : fs[i]? = some f) :
    ∃ n y, DataW.trod enc P w base sp held n f.type ((cs.drop f.offset).take (P.cellsOf f.type)) = some y := by
  obtain ⟨xs, n, _, _, _, hxl, hf⟩ := DataW.trod_struct ht h
  have g := hf i f hi
  have hlt : i < xs.length := by
    rw [hxl]
    exact (Array.getElem?_eq_some_iff.1 hi).1
  rw [List.getElem?_eq_getElem hlt] at g
  exact ⟨n, _, g⟩
theorem fldI {H : Type} {enc : TypeId × Value → H} {P : Program} {w : World} {base : Nat} {sp : Nat → Bool} {held : Bool} {t : TypeId} {fs : Array Field} {fuel : Nat} {cs : List Value} {x : DataW H × List MemPlace}
    (ht : P.underlying t = some (.struct fs)) (h : DataW.trod enc P w base sp held fuel t cs = some x) (i : Nat) (f : Field) (hi : fs[i]? = some f) (hu : P.underlying f.type = some (.int .i64)) (hc : P.cellsOf f.type = 1) :
    ∃ z : Int, (cs.drop f.offset).take 1 = [.int .i64 z] := by
  obtain ⟨n, y, g⟩ := fld ht h i f hi
  rw [hc] at g
  obtain ⟨z, e, _⟩ := DataW.trod_int hu g
  exact ⟨z, e⟩
theorem cells_shp : Try.prog.cellsOf 31 = 3 := by kernel_rfl
theorem len3 {l : List Value} (h : l.length = 3) : ∃ a b c, l = [a, b, c] := by
  match l, h with
  | [a, b, c], _ => exact ⟨a, b, c, rfl⟩
theorem shape_cells {H : Type} {enc : TypeId × Value → H} {w : World} {base : Nat} {sp : Nat → Bool} {held : Bool} {fuel : Nat} {cs : List Value} {x : DataW H × List MemPlace}
    (h : DataW.trod enc Try.prog w base sp held fuel 31 cs = some x) : ∃ a b c : Int, cs = [.int .i64 a, .int .i64 b, .int .i64 c] := by
  have hl : cs.length = 3 := by
    obtain ⟨_, _, _, _, hlen, _, _⟩ := DataW.trod_struct Try.underlying31 h
    exact hlen.trans cells_shp
  obtain ⟨z0, e0⟩ := fldI Try.underlying31 h 0 _ rfl Try.underlying3 cells_int
  obtain ⟨z1, e1⟩ := fldI Try.underlying31 h 1 _ rfl Try.underlying3 cells_int
  obtain ⟨z2, e2⟩ := fldI Try.underlying31 h 2 _ rfl Try.underlying3 cells_int
  obtain ⟨a, b, c, rfl⟩ := len3 hl
  simp at e0 e1 e2
  subst e0 e1 e2
  exact ⟨z0, z1, z2, rfl⟩
theorem und_shps : Try.prog.underlying 41 = some (.slice 31) := by kernel_rfl
theorem open_list {H : Type} {enc : TypeId × Value → H} {W : World} {base : Nat} {t e : TypeId} {N : Nat} {v : Value} {d : DataW H} {p : List MemPlace} (ht : Try.prog.underlying t = some (.slice e)) (hN : Try.prog.cellsOf e = N) (hpos : 0 < N)
    (hv : Value.okWide Try.prog W .any base t v) (h : DataW.Trod enc Try.prog W 0 (fun _ => true) true t v d p) :
    ∃ (ao : Option Addr) (m cap : Nat), v = .slice ao m cap ∧ m ≤ 9223372036854775807 ∧ ∀ k, k < m → ∃ (g o n : Nat) (cs : List Value) (y : DataW H × List MemPlace), ao = some ⟨g, o, none⟩ ∧ DataW.trod enc Try.prog W 0 (fun _ => true) true n e cs = some y ∧ cs.length = N ∧
      ∀ j, j < N → W.cell? ⟨g, o + k * N + j, none⟩ = cs[j]? := by
  obtain ⟨a0, len, cap, rfl⟩ := okWide_slice ht hv
  obtain ⟨fuel, hf⟩ := h
  rcases Deep.open_slice ht hf with ⟨hc, hx⟩ | ⟨a, len', cap', mm, n, D, Pl, hc, _, hl, hm, hmm, hx, hcell⟩
  · simp [Value.cells] at hc
    obtain ⟨rfl, rfl, rfl⟩ := hc
    exact ⟨none, 0, 0, rfl, by omega, fun k hk => absurd hk (by omega)⟩
  · simp [Value.cells] at hc
    obtain ⟨rfl, rfl, rfl⟩ := hc
    simp only [if_true] at hmm
    refine ⟨some a, len, cap, rfl, by have := max_is; omega, fun k hk => ?_⟩
    obtain ⟨b, o, s⟩ := a
    obtain rfl : s = none := by
      obtain ⟨cs0, h0, _⟩ := hcell 0 (by omega)
      rw [hN] at h0
      obtain ⟨_, hlen, hc0⟩ := World.cells?_some h0
      have e0 := hc0 0 hpos
      rw [Deep.add_add, List.getElem?_eq_getElem (by omega)] at e0
      have := World.cell?_spot e0
      simpa [Addr.add] using this
    obtain ⟨cs, h1, h2⟩ := hcell k (by omega)
    rw [hN] at h1
    obtain ⟨_, hlen, hc1⟩ := World.cells?_some h1
    refine ⟨b, o, n, cs, _, rfl, h2, hlen, fun j hj => ?_⟩
    have := hc1 j hj
    rw [Deep.add_add, add_at, ← Nat.add_assoc] at this
    exact this
theorem open_shps {H : Type} {enc : TypeId × Value → H} {W : World} {base : Nat} {v : Value} {d : DataW H} {p : List MemPlace}
    (hv : Value.okWide Try.prog W .any base 41 v) (h : DataW.Trod enc Try.prog W 0 (fun _ => true) true 41 v d p) :
    ∃ (ao : Option Addr) (m cap : Nat), v = .slice ao m cap ∧ m ≤ 9223372036854775807 ∧ Lch W ao m := by
  obtain ⟨ao, m, cap, rfl, hm, hf⟩ := open_list und_shps cells_shp (by decide) hv h
  refine ⟨ao, m, cap, rfl, hm, fun k hk => ?_⟩
  obtain ⟨g, o, n, cs, y, rfl, ht, _, hc⟩ := hf k hk
  obtain ⟨a, b, c, rfl⟩ := shape_cells ht
  exact ⟨g, o, a, b, c, rfl, by simpa using hc 0 (by decide), by simpa using hc 1 (by decide), by simpa using hc 2 (by decide)⟩
section
variable {H : Type} {enc : TypeId × Value → H} {W : World} {fuel : Nat} {cs : List Value} {x : DataW H × List MemPlace}
theorem open_small (h : DataW.trod enc Try.prog W 0 (fun _ => true) true fuel 22 cs = some x) :
    ∃ (ao : Option Addr) (l : List Int) (cap : Nat), cs = [.slice ao l.length cap] ∧ l.length ≤ cap ∧ cap ≤ 9223372036854775807 ∧ (∀ y ∈ l, -128 ≤ y ∧ y ≤ 127) ∧ R8 W ao l ∧ (ao = none → cap = 0) ∧ (x.1 = .nil ∧ cap = 0 ∨ ∃ es sp, x.1 = .slice es sp ∧ es.length + sp.length = cap) := by
  rcases open_ints und_i8s Try.underlying52 cells_i8 h with ⟨hc, hx⟩ | ⟨a, len, cap, zs, hc, _, hl, hm, hzl, hx, hcell, hwf⟩
  · exact ⟨none, [], 0, hc, by simp, by omega, fun y hy => (by simp at hy), fun k hk => absurd hk (by simp), fun _ => rfl, .inl ⟨by rw [hx], rfl⟩⟩
  · simp only [if_true] at hzl
    have hmx := max_is
    have hlen : (zs.take len).length = len := by simp; omega
    obtain ⟨b, o, s⟩ := a
    have at_ : ∀ k, k < len → s = none ∧ W.cell? ⟨b, o + k, none⟩ = some (.int .i8 (ia (zs.take len) k)) := fun k hk => by
      have c := hcell k (by omega)
      have c0 := hcell 0 (by omega)
      have hs := World.cell?_spot c0
      simp [Addr.add] at hs
      subst hs
      rw [add_at] at c
      have e1 : ia (zs.take len) k = zs.getD k 0 := ia_take hk
      exact ⟨rfl, by rw [c, e1]⟩
    refine ⟨some ⟨b, o, s⟩, zs.take len, cap, by rw [hlen]; exact hc, by rw [hlen]; exact hl, by omega, fun y hy => i8_of_wf (hwf y (List.mem_of_mem_take hy)), fun k hk => ?_, fun e => (by cases e), .inr ⟨_, _, by rw [hx], by simp [lits]; omega⟩⟩
    obtain ⟨rfl, c⟩ := at_ k (by omega)
    exact ⟨b, o, rfl, c⟩
end
theorem und_i8l : Try.prog.underlying 42 = some (.slice 22) := by kernel_rfl
theorem open_l8 {H : Type} {enc : TypeId × Value → H} {W : World} {base : Nat} {v : Value} {d : DataW H} {p : List MemPlace}
    (hv : Value.okWide Try.prog W .any base 42 v) (h : DataW.Trod enc Try.prog W 0 (fun _ => true) true 42 v d p) (hz : ∀ n ∈ d.weights Try.prog 42, n ≤ reachBytes) :
    ∃ (ao : Option Addr) (m cap : Nat), v = .slice ao m cap ∧ m ≤ 9223372036854775807 ∧ L8 W ao m := by
  obtain ⟨a0, len, cap, rfl⟩ := okWide_slice und_i8l hv
  obtain ⟨fuel, hf⟩ := h
  rcases Deep.open_slice und_i8l hf with ⟨hc, hx⟩ | ⟨a, len', cap', mm, n, D, Pl, hc, _, hl, hm, hmm, hx, hcell⟩
  · simp [Value.cells] at hc
    obtain ⟨rfl, rfl, rfl⟩ := hc
    exact ⟨none, 0, 0, rfl, by simp, fun j hj => absurd hj (by simp)⟩
  · simp [Value.cells] at hc
    obtain ⟨rfl, rfl, rfl⟩ := hc
    simp only [if_true] at hmm
    have hmx := max_is
    have hd : d = .slice ((List.range len).map D) ((List.range (mm - len)).map fun j => D (len + j)) := congrArg Prod.fst hx
    obtain ⟨b, o, s⟩ := a
    refine ⟨some ⟨b, o, s⟩, len, cap, rfl, by omega, fun j hj => ?_⟩
    obtain ⟨cs1, h1, h2⟩ := hcell j (by omega)
    rw [cells_is] at h1
    obtain ⟨_, hlen, hc1⟩ := World.cells?_some h1
    have hzj : ∀ n ∈ (D j).weights Try.prog 22, n ≤ reachBytes := fun n hn => hz n (by
      rw [hd]
      simp only [DataW.weights, und_i8l]
      refine List.mem_cons_of_mem _ (List.mem_append.mpr (Or.inl ?_))
      exact weightsAll_mem (List.mem_map.mpr ⟨j, List.mem_range.mpr hj, rfl⟩) n hn)
    obtain ⟨ao, l, cp, rfl, q1, q2, q3, q4, q5, q6⟩ := open_small h2
    have hcp : cp ≤ 140737488351232 := by
      rcases q6 with ⟨_, rfl⟩ | ⟨es, sp, ex, rfl⟩
      · omega
      · have ex' : D j = .slice es sp := ex
        have w1 := hzj ((es.length + sp.length) * 1) (by
          rw [ex']
          simp only [DataW.weights, und_i8s, bytes_i8]
          exact List.mem_cons_self)
        rw [reach_is] at w1
        omega
    have e0 := hc1 0 (by decide)
    rw [Deep.add_add] at e0
    have hs : s = none := by
      obtain ⟨cs0, h0, _⟩ := hcell 0 (by omega)
      rw [cells_is] at h0
      obtain ⟨_, hlen0, hc0⟩ := World.cells?_some h0
      have e2 := hc0 0 (by decide)
      rw [Deep.add_add, List.getElem?_eq_getElem (by omega)] at e2
      have := World.cell?_spot e2
      simpa [Addr.add] using this
    subst hs
    rw [add_at] at e0
    exact ⟨b, o, ao, l.length, cp, l, rfl, by simpa using e0, rfl, by omega, by first | exact q4 | exact q3 | exact q2⟩
end Go.Proofs.Ytgmildjfikgkmaa
