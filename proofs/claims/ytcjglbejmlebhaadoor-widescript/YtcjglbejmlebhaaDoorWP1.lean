/- PARAMETERS THAT ARE LISTS OF WIDES, NUMBERS, TEXTS. -/
import Derived.Test.YtcjglbejmlebhaaDoorP0
import Derived.Test.YtcjglbejmlebhaaDoorWL1
import Derived.SliceStrings
namespace Go.Proofs.YtcjglbejmlebhaaDoor
open Go.ChangeShapes Go.WideShapes Go.ChangeAt Go.RowKit
set_option maxRecDepth 100000

theorem add_at (b o n : Nat) : Addr.add ⟨b, o, none⟩ n = ⟨b, o + n, none⟩ := by
  unfold Addr.add
  by_cases h : n = 0
  · subst h; rfl
  · rw [if_neg h]
theorem und_wides : Tryd.prog.underlying 22 = some (.slice 27) := by kernel_rfl
theorem und_i64s : Tryd.prog.underlying 23 = some (.slice 2) := by kernel_rfl
theorem cells_i64 : Tryd.prog.cellsOf 2 = 1 := by kernel_rfl
theorem max_is : maxLen = 9223372036854775807 := by decide
/-- A list at the cells of each element. -/
theorem open_list {H : Type} {enc : TypeId × Value → H} {W : World} {base : Nat} {t e : TypeId} {N : Nat} {v : Value} {d : DataW H} {p : List MemPlace} (ht : Tryd.prog.underlying t = some (.slice e)) (hN : Tryd.prog.cellsOf e = N) (hpos : 0 < N)
    (hv : Value.okWide Tryd.prog W .any base t v) (h : DataW.Trod enc Tryd.prog W 0 (fun _ => true) true t v d p) :
    ∃ (ao : Option Addr) (m cap : Nat), v = .slice ao m cap ∧ m ≤ 9223372036854775807 ∧ ∀ k, k < m → ∃ (g o n : Nat) (cs : List Value) (y : DataW H × List MemPlace), ao = some ⟨g, o, none⟩ ∧ DataW.trod enc Tryd.prog W 0 (fun _ => true) true n e cs = some y ∧ cs.length = N ∧
      ∀ j, j < N → W.cell? ⟨g, o + k * N + j, none⟩ = cs[j]? := by
  obtain ⟨a0, len, cap, rfl⟩ := okWide_slice ht hv
  obtain ⟨fuel, hf⟩ := h
  rcases Deep.open_slice ht hf with ⟨hc, hx⟩ | ⟨a, len', cap', mm, n, D, Pl, hc, _, hl, hm, hmm, hx, hcell⟩
  · simp [Value.cells] at hc
    obtain ⟨rfl, rfl, rfl⟩ := hc
    exact ⟨none, 0, 0, rfl, by omega, fun k hk => absurd hk (by omega)⟩
  · simp [Value.cells] at hc
    obtain ⟨rfl, rfl, rfl⟩ := hc
    simp only [if_true] at hmm
    refine ⟨some a, len, cap, rfl, by have := max_is; omega, fun k hk => ?_⟩
    obtain ⟨b, o, s⟩ := a
    obtain rfl : s = none := by
      obtain ⟨cs0, h0, _⟩ := hcell 0 (by omega)
      rw [hN] at h0
      obtain ⟨_, hlen, hc0⟩ := World.cells?_some h0
      have e0 := hc0 0 hpos
      rw [Deep.add_add, List.getElem?_eq_getElem (by omega)] at e0
      have := World.cell?_spot e0
      simpa [Addr.add] using this
    obtain ⟨cs, h1, h2⟩ := hcell k (by omega)
    rw [hN] at h1
    obtain ⟨_, hlen, hc1⟩ := World.cells?_some h1
    refine ⟨b, o, n, cs, _, rfl, h2, hlen, fun j hj => ?_⟩
    have := hc1 j hj
    rw [Deep.add_add, add_at, ← Nat.add_assoc] at this
    exact this
theorem fld {H : Type} {enc : TypeId × Value → H} {P : Program} {w : World} {base : Nat} {sp : Nat → Bool} {held : Bool} {t : TypeId} {fs : Array Field} {fuel : Nat} {cs : List Value} {x : DataW H × List MemPlace}
    (ht : P.underlying t = some (.struct fs)) (h : DataW.trod enc P w base sp held fuel t cs = some x) (i : Nat) (f : Field) (hi : fs[i]? = some f) :
    ∃ n y, DataW.trod enc P w base sp held n f.type ((cs.drop f.offset).take (P.cellsOf f.type)) = some y := by
  obtain ⟨xs, n, _, _, _, hxl, hf⟩ := DataW.trod_struct ht h
  have g := hf i f hi
  have hlt : i < xs.length := by
    rw [hxl]
    exact (Array.getElem?_eq_some_iff.1 hi).1
  rw [List.getElem?_eq_getElem hlt] at g
  exact ⟨n, _, g⟩
theorem len2 {l : List Value} (h : l.length = 2) : ∃ a b, l = [a, b] := by
  match l, h with
  | [a, b], _ => exact ⟨a, b, rfl⟩
theorem fldK {H : Type} {enc : TypeId × Value → H} {P : Program} {w : World} {base : Nat} {sp : Nat → Bool} {held : Bool} {t : TypeId} {fs : Array Field} {fuel : Nat} {cs : List Value} {x : DataW H × List MemPlace} {k : IntKind}
    (ht : P.underlying t = some (.struct fs)) (h : DataW.trod enc P w base sp held fuel t cs = some x) (i : Nat) (f : Field) (hi : fs[i]? = some f) (hu : P.underlying f.type = some (.int k)) (hc : P.cellsOf f.type = 1) :
    ∃ z : Int, (cs.drop f.offset).take 1 = [.int k z] ∧ (Lit.int k z).wf = true := by
  obtain ⟨n, y, g⟩ := fld ht h i f hi
  rw [hc] at g
  obtain ⟨z, e, _, wz⟩ := DataW.trod_int hu g
  exact ⟨z, e, wz⟩
theorem wide_cells {H : Type} {enc : TypeId × Value → H} {w : World} {base : Nat} {sp : Nat → Bool} {held : Bool} {fuel : Nat} {cs : List Value} {y : DataW H × List MemPlace}
    (h : DataW.trod enc Tryd.prog w base sp held fuel 27 cs = some y) : ∃ x : Int, Rng x ∧ cs = [.int .i64 (hiOf x), .int .u64 (loOf x)] := by
  have hl : cs.length = 2 := by
    obtain ⟨_, _, _, _, hlen, _, _⟩ := DataW.trod_struct Tryd.underlying27 h
    exact hlen.trans cells_wide
  obtain ⟨z0, e0, w0⟩ := fldK Tryd.underlying27 h 0 _ rfl Tryd.underlying2 cells_i64
  obtain ⟨z1, e1, w1⟩ := fldK Tryd.underlying27 h 1 _ rfl Tryd.underlying25 cells_u64
  obtain ⟨a, b, rfl⟩ := len2 hl
  simp at e0 e1
  subst e0 e1
  refine ⟨z0 * 18446744073709551616 + z1, rng_mk (i64_of_wf w0) (u64_of_wf w1), ?_⟩
  rw [hi_mk _ _ (u64_of_wf w1), lo_mk _ _ (u64_of_wf w1)]
theorem open_wides {H : Type} {enc : TypeId × Value → H} {W : World} {base : Nat} {v : Value} {d : DataW H} {p : List MemPlace}
    (hv : Value.okWide Tryd.prog W .any base 22 v) (h : DataW.Trod enc Tryd.prog W 0 (fun _ => true) true 22 v d p) :
    ∃ (ao : Option Addr) (m cap : Nat), v = .slice ao m cap ∧ m ≤ 9223372036854775807 ∧ Lwi W ao m := by
  obtain ⟨ao, m, cap, rfl, hm, hf⟩ := open_list und_wides cells_wide (by decide) hv h
  refine ⟨ao, m, cap, rfl, hm, fun k hk => ?_⟩
  obtain ⟨g, o, n, cs, y, rfl, ht, _, hc⟩ := hf k hk
  obtain ⟨x, hx, rfl⟩ := wide_cells ht
  exact ⟨g, o, x, rfl, hx, hc 0 (by decide), hc 1 (by decide)⟩
theorem open_i64s {H : Type} {enc : TypeId × Value → H} {W : World} {base : Nat} {v : Value} {d : DataW H} {p : List MemPlace}
    (hv : Value.okWide Tryd.prog W .any base 23 v) (h : DataW.Trod enc Tryd.prog W 0 (fun _ => true) true 23 v d p) :
    ∃ (ao : Option Addr) (m cap : Nat), v = .slice ao m cap ∧ m ≤ 9223372036854775807 ∧ Li6 W ao m := by
  obtain ⟨ao, m, cap, rfl, hm, hf⟩ := open_list und_i64s cells_i64 (by decide) hv h
  refine ⟨ao, m, cap, rfl, hm, fun k hk => ?_⟩
  obtain ⟨g, o, n, cs, y, rfl, ht, _, hc⟩ := hf k hk
  obtain ⟨x, rfl, _, wx⟩ := DataW.trod_int Tryd.underlying2 ht
  have c := hc 0 (by decide)
  rw [Nat.mul_one] at c
  exact ⟨g, o, x, rfl, i64_of_wf wx, c⟩
theorem und_strs : Tryd.prog.underlying 32 = some (.slice 9) := by kernel_rfl
theorem cells_string : Tryd.prog.cellsOf 9 = 1 := by kernel_rfl
theorem weightsAll_mem {H : Type} {P : Program} {e : TypeId} : ∀ {l : List (DataW H)} {d : DataW H}, d ∈ l → ∀ n ∈ d.weights P e, n ∈ DataW.weightsAll P e l
  | x :: l, d, hd, n, hn => by
    rw [DataW.weightsAll, List.mem_append]
    rcases List.mem_cons.mp hd with rfl | h
    · exact Or.inl hn
    · exact Or.inr (weightsAll_mem h n hn)
theorem open_strs {H : Type} {enc : TypeId × Value → H} {W : World} {base : Nat} {v : Value} {d : DataW H} {p : List MemPlace}
    (hv : Value.okWide Tryd.prog W .any base 32 v) (h : DataW.Trod enc Tryd.prog W 0 (fun _ => true) true 32 v d p) (hz : ∀ n ∈ d.weights Tryd.prog 32, n ≤ reachBytes) :
    ∃ (ao : Option Addr) (m cap : Nat), v = .slice ao m cap ∧ m ≤ 9223372036854775807 ∧ Lst W ao m := by
  obtain ⟨a0, len, cap, rfl⟩ := okWide_slice und_strs hv
  obtain ⟨fuel, hf⟩ := h
  rcases open_strings und_strs Tryd.underlying9 cells_string hf with ⟨hc, hx⟩ | ⟨a, len', cap', ss, hc, _, hl, hm, hss, hx, hcell, _⟩
  · simp [Value.cells] at hc
    obtain ⟨rfl, rfl, rfl⟩ := hc
    exact ⟨none, 0, 0, rfl, by omega, fun k hk => absurd hk (by omega)⟩
  · simp [Value.cells] at hc
    obtain ⟨rfl, rfl, rfl⟩ := hc
    simp only [if_true] at hss
    have hd : d = .slice (strs (ss.take len)) (strs (ss.drop len)) := congrArg Prod.fst hx
    refine ⟨some a, len, cap, rfl, by have := max_is; omega, fun k hk => ?_⟩
    have hk2 : k < ss.length := by omega
    have c := hcell k hk2
    obtain ⟨b, o, s⟩ := a
    obtain rfl : s = none := by
      have c0 := hcell 0 (by omega)
      have := World.cell?_spot c0
      simpa [Addr.add] using this
    rw [add_at] at c
    have e : ss.getD k ByteArray.empty = ss[k] := by simp [List.getD, hk2]
    rw [e] at c
    refine ⟨b, o, ss[k], rfl, ?_, c⟩
    have mem : (DataW.lit (.string ss[k].data.toList) : DataW H) ∈ strs (ss.take len) := by
      unfold strs
      refine List.mem_map.mpr ⟨ss[k], ?_, rfl⟩
      rw [List.mem_take_iff_getElem]
      exact ⟨k, by omega, rfl⟩
    have w1 := hz ss[k].data.toList.length (by
      rw [hd]
      simp only [DataW.weights, und_strs]
      refine List.mem_cons_of_mem _ (List.mem_append.mpr (Or.inl ?_))
      exact weightsAll_mem mem _ (by simp [DataW.weights]))
    have e2 : ss[k].size = ss[k].data.toList.length := rfl
    rw [e2]
    exact Nat.le_trans w1 (by decide)
end Go.Proofs.YtcjglbejmlebhaaDoor
