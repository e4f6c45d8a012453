/- PARAMETERS THAT ARE LISTS OF ROWS, with their sizes. -/
import Derived.Test.YtpinmfhabbcflabDoorDP1
import Derived.Test.YtpinmfhabbcflabDoorDS1
namespace Go.Proofs.YtpinmfhabbcflabDoor
open Go.ChangeShapes Go.WideShapes Go.ChangeAt Go.RowKit
set_option maxRecDepth 100000

theorem weightsAll_mem {H : Type} {P : Program} {e : TypeId} : ∀ {l : List (DataW H)} {d : DataW H}, d ∈ l → ∀ n ∈ d.weights P e, n ∈ DataW.weightsAll P e l
  | x :: l, d, hd, n, hn => by
    rw [DataW.weightsAll, List.mem_append]
    rcases List.mem_cons.mp hd with rfl | h
    · exact Or.inl hn
    · exact Or.inr (weightsAll_mem h n hn)
instance : Inhabited Bt := ⟨zb⟩
theorem und_rows : Tryd.prog.underlying 22 = some (.slice 33) := by kernel_rfl
theorem und_bitss : Tryd.prog.underlying 49 = some (.slice 31) := by kernel_rfl
section
variable {H : Type} {enc : TypeId × Value → H} {W : World} {fuel : Nat} {cs : List Value} {x : DataW H × List MemPlace}
theorem fldZ {t : TypeId} {fs : Array Field} (ht : Tryd.prog.underlying t = some (.struct fs)) (h : DataW.trod enc Tryd.prog W 0 (fun _ => true) true fuel t cs = some x) (hz : ∀ n ∈ x.1.weights Tryd.prog t, n ≤ reachBytes) (i : Nat) (f : Field) (hi : fs[i]? = some f) :
    ∃ n y, DataW.trod enc Tryd.prog W 0 (fun _ => true) true n f.type ((cs.drop f.offset).take (Tryd.prog.cellsOf f.type)) = some y ∧ ∀ m ∈ y.1.weights Tryd.prog f.type, m ≤ reachBytes := by
  obtain ⟨xs, n, _, ex, _, hxl, hf⟩ := DataW.trod_struct ht h
  have g := hf i f hi
  have hlt : i < xs.length := by
    rw [hxl]
    exact (Array.getElem?_eq_some_iff.1 hi).1
  rw [List.getElem?_eq_getElem hlt] at g
  refine ⟨n, _, g, fun m hm => hz m ?_⟩
  rw [ex]
  simp only [DataW.weights, ht]
  refine DataW.weights_mem_each (j := i) (t := f.type) (d := xs[i].1) ?_ ?_ _ hm
  · simp [hi]
  · rw [List.getElem?_map, List.getElem?_eq_getElem hlt]
    rfl
theorem open_wordsZ (h : DataW.trod enc Tryd.prog W 0 (fun _ => true) true fuel 29 cs = some x) (hz : ∀ n ∈ x.1.weights Tryd.prog 29, n ≤ reachBytes) :
    ∃ (ao : Option Addr) (m cap N : Nat), cs = [.slice ao m cap] ∧ (ao = none → cap = 0) ∧ m ≤ 17592186043904 ∧ N < 2 ^ (64 * m) ∧ ∀ k, k < m → ∃ g o, ao = some ⟨g, o, none⟩ ∧ W.cell? ⟨g, o + k, none⟩ = some (wf N k) := by
  obtain ⟨ao, m, cap, N, e, h1, h2, h3, h4⟩ := open_words h
  refine ⟨ao, m, cap, N, e, ?_, ?_, h3, h4⟩
  · rcases open_ints und_u64s Tryd.underlying55 cells_u64 h with ⟨hc, hx⟩ | ⟨a, len, cap', zs, hc, _⟩
    · rw [e] at hc
      simp at hc
      exact fun _ => hc.2.2
    · rw [e] at hc
      simp at hc
      intro hn
      rw [hn] at hc
      cases hc.1
  · rcases open_ints und_u64s Tryd.underlying55 cells_u64 h with ⟨hc, hx⟩ | ⟨a, len, cap', zs, hc, _, hl, hm, hzl, hx, _⟩
    · rw [e] at hc
      simp at hc
      omega
    · rw [e] at hc
      simp at hc
      simp only [if_true] at hzl
      have w1 := hz ((lits (H := H) .u64 (zs.take len)).length + (lits (H := H) .u64 (zs.drop len)).length |>.mul 8) (by
        rw [hx]
        simp only [DataW.weights, und_u64s, bytes_u64]
        exact List.mem_cons_self)
      rw [reach_is] at w1
      have e1 : (lits (H := H) .u64 (zs.take len)).length + (lits (H := H) .u64 (zs.drop len)).length = zs.length := by simp [lits]; omega
      rw [e1] at w1
      have w2 : zs.length * 8 ≤ 140737488351232 := w1
      omega
theorem open_bitsZ (h : DataW.trod enc Tryd.prog W 0 (fun _ => true) true fuel 31 cs = some x) (hz : ∀ n ∈ x.1.weights Tryd.prog 31, n ≤ reachBytes) :
    ∃ b : Bt, cs = [.int .i64 b.n, .slice b.ao b.m b.cap] ∧ Rz W b := by
  have hl : cs.length = 2 := by
    obtain ⟨_, _, _, _, hlen, _, _⟩ := DataW.trod_struct Tryd.underlying31 h
    exact hlen.trans cells_bits
  obtain ⟨_, y0, t0, _⟩ := fldZ Tryd.underlying31 h hz 0 _ rfl
  obtain ⟨_, y1, t1, z1⟩ := fldZ Tryd.underlying31 h hz 1 _ rfl
  replace t0 : DataW.trod enc Tryd.prog W 0 (fun _ => true) true _ 3 ((cs.drop 0).take (Tryd.prog.cellsOf 3)) = some y0 := t0
  replace t1 : DataW.trod enc Tryd.prog W 0 (fun _ => true) true _ 29 ((cs.drop 1).take (Tryd.prog.cellsOf 29)) = some y1 := t1
  rw [cells_int] at t0
  rw [cells_us] at t1
  obtain ⟨z, e0, _, _⟩ := DataW.trod_int Tryd.underlying3 t0
  obtain ⟨ao, m, cap, N, e1, h1, h2, h3, h4⟩ := open_wordsZ t1 z1
  match cs, hl with
  | [a, b], _ =>
    simp at e0 e1
    subst e0 e1
    exact ⟨⟨z, ao, m, cap, N⟩, rfl, ⟨h3, by show m ≤ _; omega, h4⟩, h1, h2⟩
theorem open_rowZ (h : DataW.trod enc Tryd.prog W 0 (fun _ => true) true fuel 33 cs = some x) (hz : ∀ n ∈ x.1.weights Tryd.prog 33, n ≤ reachBytes) :
    ∃ a b : Bt, cs = [.int .i64 a.n, .slice a.ao a.m a.cap, .int .i64 b.n, .slice b.ao b.m b.cap] ∧ Rz W a ∧ Rz W b := by
  have hl : cs.length = 4 := by
    obtain ⟨_, _, _, _, hlen, _, _⟩ := DataW.trod_struct Tryd.underlying33 h
    exact hlen.trans cells_row
  obtain ⟨_, y0, t0, z0⟩ := fldZ Tryd.underlying33 h hz 0 _ rfl
  obtain ⟨_, y1, t1, z1⟩ := fldZ Tryd.underlying33 h hz 1 _ rfl
  replace t0 : DataW.trod enc Tryd.prog W 0 (fun _ => true) true _ 31 ((cs.drop 0).take (Tryd.prog.cellsOf 31)) = some y0 := t0
  replace t1 : DataW.trod enc Tryd.prog W 0 (fun _ => true) true _ 31 ((cs.drop 2).take (Tryd.prog.cellsOf 31)) = some y1 := t1
  rw [cells_bits] at t0 t1
  obtain ⟨a, e0, ha⟩ := open_bitsZ t0 z0
  obtain ⟨b, e1, hb⟩ := open_bitsZ t1 z1
  match cs, hl with
  | [c0, c1, c2, c3], _ =>
    simp at e0 e1
    obtain ⟨rfl, rfl⟩ := e0
    obtain ⟨rfl, rfl⟩ := e1
    exact ⟨a, b, rfl, ha, hb⟩
end
theorem open_rows {H : Type} {enc : TypeId × Value → H} {W : World} {base : Nat} {v : Value} {d : DataW H} {p : List MemPlace}
    (hv : Value.okWide Tryd.prog W .any base 22 v) (h : DataW.Trod enc Tryd.prog W 0 (fun _ => true) true 22 v d p) (hz : ∀ n ∈ d.weights Tryd.prog 22, n ≤ reachBytes) :
    ∃ (ao : Option Addr) (l : List (Bt × Bt)) (cap : Nat), v = .slice ao l.length cap ∧ l.length ≤ 9223372036854775807 ∧ Lr W ao l := by
  obtain ⟨a0, len, cap, rfl⟩ := okWide_slice und_rows hv
  obtain ⟨fuel, hf⟩ := h
  rcases Deep.open_slice und_rows hf with ⟨hc, hx⟩ | ⟨a, len', cap', mm, n, D, Pl, hc, _, hl, hm, hmm, hx, hcell⟩
  · simp [Value.cells] at hc
    obtain ⟨rfl, rfl, rfl⟩ := hc
    exact ⟨none, [], 0, rfl, by simp, fun j hj => absurd hj (by simp)⟩
  · simp [Value.cells] at hc
    obtain ⟨rfl, rfl, rfl⟩ := hc
    simp only [if_true] at hmm
    have hmx := max_is
    have hd : d = .slice ((List.range len).map D) ((List.range (mm - len)).map fun j => D (len + j)) := congrArg Prod.fst hx
    obtain ⟨b, o, s⟩ := a
    have each : ∀ j, j < len → ∃ q : Bt × Bt, s = none ∧ Cr W b (o + j * 4) q.1 q.2 ∧ Rz W q.1 ∧ Rz W q.2 := fun j hj => by
      obtain ⟨cs1, h1, h2⟩ := hcell j (by omega)
      rw [cells_row] at h1
      obtain ⟨_, hlen, hc1⟩ := World.cells?_some h1
      have hzj : ∀ n ∈ (D j).weights Tryd.prog 33, n ≤ reachBytes := fun n hn => hz n (by
        rw [hd]
        simp only [DataW.weights, und_rows]
        refine List.mem_cons_of_mem _ (List.mem_append.mpr (Or.inl ?_))
        exact weightsAll_mem (List.mem_map.mpr ⟨j, List.mem_range.mpr hj, rfl⟩) n hn)
      obtain ⟨A, B, rfl, k1, k2⟩ := open_rowZ h2 hzj
      have e0 := hc1 0 (by decide)
      have e1 := hc1 1 (by decide)
      have e2 := hc1 2 (by decide)
      have e3 := hc1 3 (by decide)
      rw [Deep.add_add] at e0 e1 e2 e3
      have hs : s = none := by
        obtain ⟨cs0, h0, _⟩ := hcell 0 (by omega)
        rw [cells_row] at h0
        obtain ⟨_, hlen0, hc0⟩ := World.cells?_some h0
        have e2 := hc0 0 (by decide)
        rw [Deep.add_add, List.getElem?_eq_getElem (by omega)] at e2
        have := World.cell?_spot e2
        simpa [Addr.add] using this
      subst hs
      rw [add_at] at e0 e1 e2 e3
      exact ⟨(A, B), rfl, ⟨e0, e1, e2, e3⟩, k1, k2⟩
    obtain ⟨q, hq⟩ := Deep.choose_lt each
    obtain ⟨l, el⟩ : ∃ l : List (Bt × Bt), l = (List.range len).map q := ⟨_, rfl⟩
    have hll : l.length = len := by rw [el]; simp
    refine ⟨some ⟨b, o, s⟩, l, cap, by rw [hll], by rw [hll]; omega, fun j hj => ?_⟩
    have hjl : j < len := by omega
    have ej : l[j] = q j := by subst el; simp
    rw [ej]
    obtain ⟨rfl, k1, k2, k3⟩ := hq j hjl
    exact ⟨⟨b, o, rfl, k1⟩, k2, k3⟩
theorem open_bitss {H : Type} {enc : TypeId × Value → H} {W : World} {base : Nat} {v : Value} {d : DataW H} {p : List MemPlace}
    (hv : Value.okWide Tryd.prog W .any base 49 v) (h : DataW.Trod enc Tryd.prog W 0 (fun _ => true) true 49 v d p) (hz : ∀ n ∈ d.weights Tryd.prog 49, n ≤ reachBytes) :
    ∃ (ao : Option Addr) (l : List Bt) (cap : Nat), v = .slice ao l.length cap ∧ l.length ≤ 9223372036854775807 ∧ Lb W ao l := by
  obtain ⟨a0, len, cap, rfl⟩ := okWide_slice und_bitss hv
  obtain ⟨fuel, hf⟩ := h
  rcases Deep.open_slice und_bitss hf with ⟨hc, hx⟩ | ⟨a, len', cap', mm, n, D, Pl, hc, _, hl, hm, hmm, hx, hcell⟩
  · simp [Value.cells] at hc
    obtain ⟨rfl, rfl, rfl⟩ := hc
    exact ⟨none, [], 0, rfl, by simp, fun j hj => absurd hj (by simp)⟩
  · simp [Value.cells] at hc
    obtain ⟨rfl, rfl, rfl⟩ := hc
    simp only [if_true] at hmm
    have hmx := max_is
    have hd : d = .slice ((List.range len).map D) ((List.range (mm - len)).map fun j => D (len + j)) := congrArg Prod.fst hx
    obtain ⟨b, o, s⟩ := a
    have each : ∀ j, j < len → ∃ q : Bt, s = none ∧ Cb W b (o + j * 2) q ∧ Rz W q := fun j hj => by
      obtain ⟨cs1, h1, h2⟩ := hcell j (by omega)
      rw [cells_bits] at h1
      obtain ⟨_, hlen, hc1⟩ := World.cells?_some h1
      have hzj : ∀ n ∈ (D j).weights Tryd.prog 31, n ≤ reachBytes := fun n hn => hz n (by
        rw [hd]
        simp only [DataW.weights, und_bitss]
        refine List.mem_cons_of_mem _ (List.mem_append.mpr (Or.inl ?_))
        exact weightsAll_mem (List.mem_map.mpr ⟨j, List.mem_range.mpr hj, rfl⟩) n hn)
      obtain ⟨A, rfl, k1⟩ := open_bitsZ h2 hzj
      have e0 := hc1 0 (by decide)
      have e1 := hc1 1 (by decide)
      rw [Deep.add_add] at e0 e1
      have hs : s = none := by
        obtain ⟨cs0, h0, _⟩ := hcell 0 (by omega)
        rw [cells_bits] at h0
        obtain ⟨_, hlen0, hc0⟩ := World.cells?_some h0
        have e2 := hc0 0 (by decide)
        rw [Deep.add_add, List.getElem?_eq_getElem (by omega)] at e2
        have := World.cell?_spot e2
        simpa [Addr.add] using this
      subst hs
      rw [add_at] at e0 e1
      exact ⟨A, rfl, ⟨e0, e1⟩, k1⟩
    obtain ⟨q, hq⟩ := Deep.choose_lt each
    obtain ⟨l, el⟩ : ∃ l : List Bt, l = (List.range len).map q := ⟨_, rfl⟩
    have hll : l.length = len := by rw [el]; simp
    refine ⟨some ⟨b, o, s⟩, l, cap, by rw [hll], by rw [hll]; omega, fun j hj => ?_⟩
    have hjl : j < len := by omega
    have ej : l[j] = q j := by subst el; simp
    rw [ej]
    obtain ⟨rfl, k1, k2⟩ := hq j hjl
    exact ⟨⟨b, o, rfl, k1⟩, k2⟩
end Go.Proofs.YtpinmfhabbcflabDoor
