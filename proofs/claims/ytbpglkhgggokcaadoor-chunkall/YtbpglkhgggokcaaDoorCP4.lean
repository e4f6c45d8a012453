/- OPERATIONS ON CHUNKS, of lists that a machine may hold, opened. -/
import Derived.Test.YtbpglkhgggokcaaDoorCP1
import Derived.Test.YtbpglkhgggokcaaDoorCH15
import Derived.JoinedCond
namespace Go.Proofs.YtbpglkhgggokcaaDoor
open Go.ChangeShapes Go.WideShapes Go.ChangeAt Go.RowKit
set_option maxRecDepth 100000

theorem reach_isC : reachBytes = 140737488351232 := by decide
theorem bytes_u8C : Tryd.prog.bytesOf 5 = 1 := by kernel_rfl
theorem bytes_u8sC : Tryd.prog.bytesOf 25 = 24 := by kernel_rfl
theorem bytes_ckC : Tryd.prog.bytesOf 44 = 32 := by kernel_rfl
theorem bytes_opC : Tryd.prog.bytesOf 37 = 88 := by kernel_rfl
theorem weightsAll_mem {H : Type} {P : Program} {e : TypeId} : ∀ {l : List (DataW H)} {d : DataW H}, d ∈ l → ∀ n ∈ d.weights P e, n ∈ DataW.weightsAll P e l
  | x :: l, d, hd, n, hn => by
    rw [DataW.weightsAll, List.mem_append]
    rcases List.mem_cons.mp hd with rfl | h
    · exact Or.inl hn
    · exact Or.inr (weightsAll_mem h n hn)
theorem und_lists : Tryd.prog.underlying 26 = some (.slice 25) := by kernel_rfl
theorem und_ops : Tryd.prog.underlying 22 = some (.slice 37) := by kernel_rfl
theorem cells_op : Tryd.prog.cellsOf 37 = 5 := by kernel_rfl
theorem cells_int : Tryd.prog.cellsOf 3 = 1 := by kernel_rfl
theorem cells_ls : Tryd.prog.cellsOf 26 = 1 := by kernel_rfl
theorem cells_cs : Tryd.prog.cellsOf 27 = 1 := by kernel_rfl
section
variable {H : Type} {enc : TypeId × Value → H} {W : World} {fuel : Nat} {cs : List Value} {x : DataW H × List MemPlace}
theorem fldZ {t : TypeId} {fs : Array Field} (ht : Tryd.prog.underlying t = some (.struct fs)) (h : DataW.trod enc Tryd.prog W 0 (fun _ => true) true fuel t cs = some x) (hz : ∀ n ∈ x.1.weights Tryd.prog t, n ≤ reachBytes) (i : Nat) (f : Field) (hi : fs[i]? = some f) :
    ∃ n y, DataW.trod enc Tryd.prog W 0 (fun _ => true) true n f.type ((cs.drop f.offset).take (Tryd.prog.cellsOf f.type)) = some y ∧ ∀ m ∈ y.1.weights Tryd.prog f.type, m ≤ reachBytes := by
  obtain ⟨xs, n, _, ex, _, hxl, hf⟩ := DataW.trod_struct ht h
  have g := hf i f hi
  have hlt : i < xs.length := by
    rw [hxl]
    exact (Array.getElem?_eq_some_iff.1 hi).1
  rw [List.getElem?_eq_getElem hlt] at g
  refine ⟨n, _, g, fun m hm => hz m ?_⟩
  rw [ex]
  simp only [DataW.weights, ht]
  refine DataW.weights_mem_each (j := i) (t := f.type) (d := xs[i].1) ?_ ?_ _ hm
  · simp [hi]
  · rw [List.getElem?_map, List.getElem?_eq_getElem hlt]
    rfl
theorem open_bz (h : DataW.trod enc Tryd.prog W 0 (fun _ => true) true fuel 25 cs = some x) (hz : ∀ n ∈ x.1.weights Tryd.prog 25, n ≤ reachBytes) :
    ∃ (ao : Option Addr) (l : List Nat) (cap : Nat), cs = [.slice ao l.length cap] ∧ l.length ≤ 140737488351232 ∧ (l.length ≤ cap ∧ cap ≤ 9223372036854775807) ∧ By W ao l := by
  obtain ⟨ao, l, cap, e, h1, h2, h3⟩ := open_bs h
  refine ⟨ao, l, cap, e, ?_, ⟨h1, h2⟩, h3⟩
  rcases open_ints und_u8s Tryd.underlying5 cells_u8 h with ⟨hc, hx⟩ | ⟨a, len, cap', zs, hc, _, hl, hm, hzl, hx, _, _⟩
  · rw [e] at hc
    injection hc with hc
    injection hc with _ hc _
    omega
  · rw [e] at hc
    injection hc with hc
    injection hc with _ hc _
    simp only [if_true] at hzl
    have w1 := hz ((lits (H := H) .u8 (zs.take len)).length + (lits (H := H) .u8 (zs.drop len)).length |>.mul 1) (by
      rw [hx]
      simp only [DataW.weights, und_u8s, bytes_u8C]
      exact List.mem_cons_self)
    rw [reach_isC] at w1
    have e1 : (lits (H := H) .u8 (zs.take len)).length + (lits (H := H) .u8 (zs.drop len)).length = zs.length := by simp [lits]; omega
    rw [e1] at w1
    have w2 : zs.length * 1 ≤ 140737488351232 := w1
    omega
theorem open_lz (h : DataW.trod enc Tryd.prog W 0 (fun _ => true) true fuel 26 cs = some x) (hz : ∀ n ∈ x.1.weights Tryd.prog 26, n ≤ reachBytes) :
    ∃ (ao : Option Addr) (L : List (List Nat)) (cap : Nat), cs = [.slice ao L.length cap] ∧ L.length ≤ 5864062014634 ∧ (∀ l ∈ L, l.length ≤ 140737488351232) ∧ Bys W ao L := by
  rcases Deep.open_slice und_lists h with ⟨hc, hx⟩ | ⟨a, len, cap, mm, n, D, Pl, hc, _, hl, hm, hmm, hx, hcell⟩
  · exact ⟨none, [], 0, hc, by simp, by simp, fun j c hj => by simp at hj⟩
  · simp only [if_true] at hmm
    obtain ⟨b, o, s⟩ := a
    have hd : x.1 = .slice ((List.range len).map D) ((List.range (mm - len)).map fun j => D (len + j)) := congrArg Prod.fst hx
    have hb : len ≤ 5864062014634 := by
      have w1 := hz ((((List.range len).map D).length + ((List.range (mm - len)).map fun j => D (len + j)).length) * 24) (by
        rw [hd]
        simp only [DataW.weights, und_lists, bytes_u8sC]
        exact List.mem_cons_self)
      rw [reach_isC, List.length_map, List.length_map, List.length_range, List.length_range] at w1
      omega
    have each : ∀ j, j < len → ∃ q : Option Addr × List Nat × Nat, s = none ∧ W.cell? ⟨b, o + j, none⟩ = some (.slice q.1 q.2.1.length q.2.2) ∧ q.2.1.length ≤ 140737488351232 ∧ By W q.1 q.2.1 := fun j hj => by
      obtain ⟨cs1, h1, h2⟩ := hcell j (by omega)
      rw [cells_u8s] at h1
      obtain ⟨_, hlen, hc1⟩ := World.cells?_some h1
      have hbj : ∀ n ∈ (D j).weights Tryd.prog 25, n ≤ reachBytes := fun n hn => hz n (by
        rw [hd]
        simp only [DataW.weights, und_lists]
        refine List.mem_cons_of_mem _ (List.mem_append.mpr (Or.inl ?_))
        exact weightsAll_mem (List.mem_map.mpr ⟨j, List.mem_range.mpr hj, rfl⟩) n hn)
      obtain ⟨ao, l, cp, rfl, k1, _, k2⟩ := open_bz h2 hbj
      have e0 := hc1 0 (by decide)
      rw [Deep.add_add] at e0
      have hs : s = none := by
        obtain ⟨cs0, h0, _⟩ := hcell 0 (by omega)
        rw [cells_u8s] at h0
        obtain ⟨_, hlen0, hc0⟩ := World.cells?_some h0
        have e2 := hc0 0 (by decide)
        rw [Deep.add_add, List.getElem?_eq_getElem (by omega)] at e2
        have := World.cell?_spot e2
        simpa [Addr.add] using this
      subst hs
      rw [add_at, Nat.mul_one, Nat.add_zero] at e0
      exact ⟨(ao, l, cp), rfl, e0, k1, k2⟩
    obtain ⟨q, hq⟩ := Deep.choose_lt each
    obtain ⟨L, eL⟩ : ∃ L : List (List Nat), L = (List.range len).map fun j => (q j).2.1 := ⟨_, rfl⟩
    have hcl : L.length = len := by rw [eL]; simp
    refine ⟨some ⟨b, o, s⟩, L, cap, by rw [hcl]; exact hc, by rw [hcl]; exact hb, fun l hl => ?_, fun j l hj => ?_⟩
    · rw [eL] at hl
      obtain ⟨j, hj, rfl⟩ := List.mem_map.1 hl
      exact (hq j (List.mem_range.1 hj)).2.2.1
    · have hjl : j < len := by
        refine Classical.byContradiction fun hn => ?_
        rw [List.getElem?_eq_none (by rw [hcl]; omega)] at hj
        exact absurd hj (by simp)
      have el : l = (q j).2.1 := by
        rw [eL] at hj
        simp [hjl] at hj
        exact hj.symm
      subst el
      obtain ⟨rfl, k1, k2, k3⟩ := hq j hjl
      exact ⟨b, o, (q j).1, (q j).2.2, rfl, k1, k3⟩
theorem open_ckB (h : DataW.trod enc Tryd.prog W 0 (fun _ => true) true fuel 44 cs = some x) (hz : ∀ n ∈ x.1.weights Tryd.prog 44, n ≤ reachBytes) :
    ∃ (t : Nat) (ao : Option Addr) (l : List Nat) (cap : Nat), cs = [.int .u32 (t : Int), .slice ao l.length cap] ∧ t < 4294967296 ∧ l.length ≤ 140737488351232 ∧ By W ao l := by
  have hl : cs.length = 2 := by
    obtain ⟨_, _, _, _, hlen, _, _⟩ := DataW.trod_struct Tryd.underlying44 h
    exact hlen.trans cells_chunk
  obtain ⟨_, y0, t0, _⟩ := fldZ Tryd.underlying44 h hz 0 _ rfl
  obtain ⟨_, y1, t1, b1⟩ := fldZ Tryd.underlying44 h hz 1 _ rfl
  replace t0 : DataW.trod enc Tryd.prog W 0 (fun _ => true) true _ 30 ((cs.drop 0).take (Tryd.prog.cellsOf 30)) = some y0 := t0
  replace t1 : DataW.trod enc Tryd.prog W 0 (fun _ => true) true _ 25 ((cs.drop 1).take (Tryd.prog.cellsOf 25)) = some y1 := t1
  rw [cells_u32] at t0
  rw [cells_u8s] at t1
  obtain ⟨z, e0, _, wz⟩ := DataW.trod_int Tryd.underlying30 t0
  obtain ⟨n, rfl, bn⟩ := u32_of_wf wz
  obtain ⟨ao, l, cap, e1, h1, _, h3⟩ := open_bz t1 b1
  match cs, hl with
  | [a, b], _ =>
    simp at e0 e1
    subst e0 e1
    exact ⟨n, ao, l, cap, rfl, bn, h1, h3⟩
theorem open_cz (h : DataW.trod enc Tryd.prog W 0 (fun _ => true) true fuel 27 cs = some x) (hz : ∀ n ∈ x.1.weights Tryd.prog 27, n ≤ reachBytes) :
    ∃ (ao : Option Addr) (L : List Ck) (cap : Nat), cs = [.slice ao L.length cap] ∧ L.length ≤ 4398046510976 ∧ (∀ l ∈ L, l.2.length ≤ 140737488351232) ∧ Cw W ao L := by
  rcases Deep.open_slice und_chunks h with ⟨hc, hx⟩ | ⟨a, len, cap, mm, n, D, Pl, hc, _, hl, hm, hmm, hx, hcell⟩
  · exact ⟨none, [], 0, hc, by simp, by simp, fun j c hj => by simp at hj⟩
  · simp only [if_true] at hmm
    obtain ⟨b, o, s⟩ := a
    have hd : x.1 = .slice ((List.range len).map D) ((List.range (mm - len)).map fun j => D (len + j)) := congrArg Prod.fst hx
    have hb : len ≤ 4398046510976 := by
      have w1 := hz ((((List.range len).map D).length + ((List.range (mm - len)).map fun j => D (len + j)).length) * 32) (by
        rw [hd]
        simp only [DataW.weights, und_chunks, bytes_ckC]
        exact List.mem_cons_self)
      rw [reach_isC, List.length_map, List.length_map, List.length_range, List.length_range] at w1
      omega
    have each : ∀ j, j < len → ∃ q : Nat × Option Addr × List Nat × Nat, s = none ∧ W.cell? ⟨b, o + j * 2, none⟩ = some (.int .u32 (q.1 : Int)) ∧ W.cell? ⟨b, o + j * 2 + 1, none⟩ = some (.slice q.2.1 q.2.2.1.length q.2.2.2) ∧ q.1 < 4294967296 ∧ q.2.2.1.length ≤ 140737488351232 ∧ By W q.2.1 q.2.2.1 := fun j hj => by
      obtain ⟨cs1, h1, h2⟩ := hcell j (by omega)
      rw [cells_chunk] at h1
      obtain ⟨_, hlen, hc1⟩ := World.cells?_some h1
      have hbj : ∀ n ∈ (D j).weights Tryd.prog 44, n ≤ reachBytes := fun n hn => hz n (by
        rw [hd]
        simp only [DataW.weights, und_chunks]
        refine List.mem_cons_of_mem _ (List.mem_append.mpr (Or.inl ?_))
        exact weightsAll_mem (List.mem_map.mpr ⟨j, List.mem_range.mpr hj, rfl⟩) n hn)
      obtain ⟨t, ao, l, cp, rfl, k1, k2, k3⟩ := open_ckB h2 hbj
      have e0 := hc1 0 (by decide)
      have e1 := hc1 1 (by decide)
      rw [Deep.add_add] at e0 e1
      have hs : s = none := by
        obtain ⟨cs0, h0, _⟩ := hcell 0 (by omega)
        rw [cells_chunk] at h0
        obtain ⟨_, hlen0, hc0⟩ := World.cells?_some h0
        have e2 := hc0 0 (by decide)
        rw [Deep.add_add, List.getElem?_eq_getElem (by omega)] at e2
        have := World.cell?_spot e2
        simpa [Addr.add] using this
      subst hs
      rw [add_at] at e0 e1
      exact ⟨(t, ao, l, cp), rfl, e0, e1, k1, k2, k3⟩
    obtain ⟨q, hq⟩ := Deep.choose_lt each
    obtain ⟨L, eL⟩ : ∃ L : List Ck, L = (List.range len).map fun j => ((q j).1, (q j).2.2.1) := ⟨_, rfl⟩
    have hcl : L.length = len := by rw [eL]; simp
    refine ⟨some ⟨b, o, s⟩, L, cap, by rw [hcl]; exact hc, by rw [hcl]; exact hb, fun l hl => ?_, fun j l hj => ?_⟩
    · rw [eL] at hl
      obtain ⟨j, hj, rfl⟩ := List.mem_map.1 hl
      exact (hq j (List.mem_range.1 hj)).2.2.2.2.1
    · have hjl : j < len := by
        refine Classical.byContradiction fun hn => ?_
        rw [List.getElem?_eq_none (by rw [hcl]; omega)] at hj
        exact absurd hj (by simp)
      have el : l = ((q j).1, (q j).2.2.1) := by
        rw [eL] at hj
        simp [hjl] at hj
        exact hj.symm
      subst el
      obtain ⟨rfl, k1, k2, k3, k4, k5⟩ := hq j hjl
      exact ⟨b, o, (q j).2.1, (q j).2.2.2, rfl, k1, k2, k5, k3⟩
theorem by_lt {ao : Option Addr} {l : List Nat} (h : By W ao l) : ∀ p, ao = some p → l ≠ [] → ¬ W.heap.size ≤ p.block := fun p hp hl => by
  obtain ⟨g, o, x, e, _, c, _⟩ := h.at (k := 0) (by rcases l with _ | _ <;> simp_all)
  rw [hp] at e
  injection e with e
  subst e
  have := lt_of_cell c
  simp only
  omega
theorem len5 {l : List Value} (h : l.length = 5) : ∃ c0 c1 c2 c3 c4, l = [c0, c1, c2, c3, c4] := by
  match l, h with
  | [c0, c1, c2, c3, c4], _ => exact ⟨c0, c1, c2, c3, c4, rfl⟩
theorem open_op (h : DataW.trod enc Tryd.prog W 0 (fun _ => true) true fuel 37 cs = some x) (hz : ∀ n ∈ x.1.weights Tryd.prog 37, n ≤ reachBytes) :
    ∃ (o : Oq) (lo : Option Addr) (lc : Nat) (co : Option Addr) (cc : Nat) (bo : Option Addr) (bc : Nat),
      cs = [.int .i64 o.k, .slice lo o.L.length lc, .int .u32 (o.m : Int), .slice co o.cs.length cc, .slice bo o.l.length bc] ∧ Ow W (W.heap.size ≤ ·) o lo co bo bc := by
  have hl : cs.length = 5 := by
    obtain ⟨_, _, _, _, hlen, _, _⟩ := DataW.trod_struct Tryd.underlying37 h
    exact hlen.trans cells_op
  obtain ⟨f0, y0, t0, _⟩ := fldZ Tryd.underlying37 h hz 0 _ rfl
  obtain ⟨f1, y1, t1, b1⟩ := fldZ Tryd.underlying37 h hz 1 _ rfl
  obtain ⟨f2, y2, t2, b2⟩ := fldZ Tryd.underlying37 h hz 2 _ rfl
  obtain ⟨f3, y3, t3, b3⟩ := fldZ Tryd.underlying37 h hz 3 _ rfl
  obtain ⟨f4, y4, t4, b4⟩ := fldZ Tryd.underlying37 h hz 4 _ rfl
  replace t0 : DataW.trod enc Tryd.prog W 0 (fun _ => true) true f0 3 ((cs.drop 0).take (Tryd.prog.cellsOf 3)) = some y0 := t0
  replace t1 : DataW.trod enc Tryd.prog W 0 (fun _ => true) true f1 26 ((cs.drop 1).take (Tryd.prog.cellsOf 26)) = some y1 := t1
  replace t2 : DataW.trod enc Tryd.prog W 0 (fun _ => true) true f2 30 ((cs.drop 2).take (Tryd.prog.cellsOf 30)) = some y2 := t2
  replace t3 : DataW.trod enc Tryd.prog W 0 (fun _ => true) true f3 27 ((cs.drop 3).take (Tryd.prog.cellsOf 27)) = some y3 := t3
  replace t4 : DataW.trod enc Tryd.prog W 0 (fun _ => true) true f4 25 ((cs.drop 4).take (Tryd.prog.cellsOf 25)) = some y4 := t4
  rw [cells_int] at t0
  rw [cells_ls] at t1
  rw [cells_u32] at t2
  rw [cells_cs] at t3
  rw [cells_u8s] at t4
  obtain ⟨kd, e0, _, _⟩ := DataW.trod_int Tryd.underlying3 t0
  obtain ⟨lo, L, lc, e1, p1, p2, p3⟩ := open_lz t1 b1
  obtain ⟨z, e2, _, wz⟩ := DataW.trod_int Tryd.underlying30 t2
  obtain ⟨m, rfl, bm⟩ := u32_of_wf wz
  obtain ⟨co, C, cc, e3, q1, q2, q3⟩ := open_cz t3 b3
  obtain ⟨bo, l, bc, e4, r1, r2, r3⟩ := open_bz t4 b4
  obtain ⟨c0, c1, c2, c3, c4, rfl⟩ := len5 hl
  simp at e0 e1 e2 e3 e4
  subst e0 e1 e2 e3 e4
  refine ⟨⟨kd, L, m, C, l⟩, lo, lc, co, cc, bo, bc, rfl, ⟨fun j y hj => ?_, p1, p2, fun j y hj => ?_, q1, q2, r3, by_lt r3, r1, r2⟩⟩
  · obtain ⟨gl, ol, ao, c, e, k, hy⟩ := p3 j y hj
    exact ⟨gl, ol, ao, c, e, k, hy, by have := lt_of_cell k; omega, by_lt hy⟩
  · obtain ⟨gl, ol, ao, c, e, k0, k, hy, ht⟩ := q3 j y hj
    exact ⟨gl, ol, ao, c, e, k0, k, hy, ht, by have := lt_of_cell k; omega, by_lt hy⟩
end
theorem open_ops {H : Type} {enc : TypeId × Value → H} {W : World} {base : Nat} {v : Value} {d : DataW H} {p : List MemPlace}
    (hv : Value.okWide Tryd.prog W .any base 22 v) (h : DataW.Trod enc Tryd.prog W 0 (fun _ => true) true 22 v d p) (hz : ∀ n ∈ d.weights Tryd.prog 22, n ≤ reachBytes) :
    ∃ (ao : Option Addr) (K cap : Nat), v = .slice ao K cap ∧ K ≤ 1599289640355 ∧ Lop W ao K := by
  obtain ⟨a0, len, cap, rfl⟩ := okWide_slice und_ops hv
  obtain ⟨fuel, hf⟩ := h
  rcases Deep.open_slice und_ops hf with ⟨hc, hx⟩ | ⟨a, len', cap', mm, nn, D, Pl, hc, _, hl, hm, hmm, hx, hcell⟩
  · simp [Value.cells] at hc
    obtain ⟨rfl, rfl, rfl⟩ := hc
    exact ⟨none, 0, 0, rfl, by omega, fun i hi => absurd hi (by omega)⟩
  · simp [Value.cells] at hc
    obtain ⟨rfl, rfl, rfl⟩ := hc
    simp only [if_true] at hmm
    have hd : d = .slice ((List.range len).map D) ((List.range (mm - len)).map fun j => D (len + j)) := congrArg Prod.fst hx
    have hb : len ≤ 1599289640355 := by
      have w1 := hz ((((List.range len).map D).length + ((List.range (mm - len)).map fun j => D (len + j)).length) * 88) (by
        rw [hd]
        simp only [DataW.weights, und_ops, bytes_opC]
        exact List.mem_cons_self)
      rw [reach_isC, List.length_map, List.length_map, List.length_range, List.length_range] at w1
      omega
    refine ⟨some a, len, cap, rfl, hb, fun k hk => ?_⟩
    obtain ⟨b, o, s⟩ := a
    obtain rfl : s = none := by
      obtain ⟨cs0, h0, _⟩ := hcell 0 (by omega)
      rw [cells_op] at h0
      obtain ⟨_, hlen0, hc0⟩ := World.cells?_some h0
      have e2 := hc0 0 (by decide)
      rw [Deep.add_add, List.getElem?_eq_getElem (by omega)] at e2
      have := World.cell?_spot e2
      simpa [Addr.add] using this
    obtain ⟨cs, h1, h2⟩ := hcell k (by omega)
    rw [cells_op] at h1
    obtain ⟨_, hlen, hc1⟩ := World.cells?_some h1
    have hbk : ∀ n ∈ (D k).weights Tryd.prog 37, n ≤ reachBytes := fun n hn => hz n (by
      rw [hd]
      simp only [DataW.weights, und_ops]
      refine List.mem_cons_of_mem _ (List.mem_append.mpr (Or.inl ?_))
      exact weightsAll_mem (List.mem_map.mpr ⟨k, List.mem_range.mpr hk, rfl⟩) n hn)
    obtain ⟨q, lo, lc, co, cc, bo, bc, rfl, k1⟩ := open_op h2 hbk
    have cc' : ∀ j, j < 5 → W.cell? ⟨b, o + k * 5 + j, none⟩ = some (opf q.k lo q.L.length lc q.m co q.cs.length cc bo q.l.length bc j) := fun j hj => by
      have := hc1 j hj
      rw [Deep.add_add, add_at, ← Nat.add_assoc] at this
      rw [this]
      rcases (show j = 0 ∨ j = 1 ∨ j = 2 ∨ j = 3 ∨ j = 4 by omega) with rfl | rfl | rfl | rfl | rfl <;> rfl
    exact ⟨b, o, rfl, lt_of_cell (cc' 0 (by omega)), q, lo, lc, co, cc, bo, bc, cc', k1⟩
end Go.Proofs.YtbpglkhgggokcaaDoor
