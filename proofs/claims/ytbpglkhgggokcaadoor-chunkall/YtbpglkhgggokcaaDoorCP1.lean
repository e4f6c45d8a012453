/- PARAMETERS THAT ARE BYTES AND CHUNKS. -/
import Derived.Test.YtbpglkhgggokcaaDoorCP0
import Derived.Test.YtbpglkhgggokcaaDoorCD1
import Derived.ChangeSlices
namespace Go.Proofs.YtbpglkhgggokcaaDoor
open Go.ChangeShapes Go.WideShapes Go.ChangeAt Go.RowKit
set_option maxRecDepth 100000

theorem max_is : maxLen = 9223372036854775807 := by decide
theorem add_at (b o n : Nat) : Addr.add ⟨b, o, none⟩ n = ⟨b, o + n, none⟩ := by
  unfold Addr.add
  by_cases h : n = 0
  · subst h; rfl
  · rw [if_neg h]
theorem cells_u8 : Tryd.prog.cellsOf 5 = 1 := by kernel_rfl
theorem cells_u8s : Tryd.prog.cellsOf 25 = 1 := by kernel_rfl
theorem cells_chunk : Tryd.prog.cellsOf 44 = 2 := by kernel_rfl
section
variable {H : Type} {enc : TypeId × Value → H} {W : World} {fuel : Nat} {cs : List Value} {x : DataW H × List MemPlace}
theorem open_bs (h : DataW.trod enc Tryd.prog W 0 (fun _ => true) true fuel 25 cs = some x) :
    ∃ (ao : Option Addr) (l : List Nat) (cap : Nat), cs = [.slice ao l.length cap] ∧ l.length ≤ cap ∧ cap ≤ 9223372036854775807 ∧ By W ao l := by
  rcases open_ints und_u8s Tryd.underlying5 cells_u8 h with ⟨hc, hx⟩ | ⟨a, len, cap, zs, hc, _, hl, hm, hzl, hx, hcell, hwf⟩
  · exact ⟨none, [], 0, hc, by simp, by omega, By.nil _ _⟩
  · simp only [if_true] at hzl
    have hmx := max_is
    have hlen : ((zs.take len).map Int.toNat).length = len := by simp; omega
    refine ⟨some a, (zs.take len).map Int.toNat, cap, by rw [hlen]; exact hc, by rw [hlen]; exact hl, by omega, fun k y hk => ?_⟩
    have hkl : k < len := by
      refine Classical.byContradiction fun hn => ?_
      rw [List.getElem?_eq_none (by rw [hlen]; omega)] at hk
      exact absurd hk (by simp)
    have c := hcell k (by omega)
    have c0 := hcell 0 (by omega)
    have hs := World.cell?_spot c0
    obtain ⟨b, o, s⟩ := a
    simp [Addr.add] at hs
    subst hs
    rw [add_at] at c
    have hk2 : k < zs.length := by omega
    have e : zs.getD k 0 = zs[k] := by simp [List.getD, hk2]
    obtain ⟨n, en, bn⟩ := u8_of_wf (hwf _ (List.getElem_mem hk2))
    have ey : y = n := by
      simp [hkl, hk2] at hk
      omega
    subst ey
    exact ⟨b, o, rfl, by rw [c, e, en], bn⟩
theorem fld {t : TypeId} {fs : Array Field} (ht : Tryd.prog.underlying t = some (.struct fs)) (h : DataW.trod enc Tryd.prog W 0 (fun _ => true) true fuel t cs = some x) (i : Nat) (f : Field) (hi : fs[i]? = some f) :
    ∃ n y, DataW.trod enc Tryd.prog W 0 (fun _ => true) true n f.type ((cs.drop f.offset).take (Tryd.prog.cellsOf f.type)) = some y := by
  obtain ⟨xs, n, _, ex, _, hxl, hf⟩ := DataW.trod_struct ht h
  have g := hf i f hi
  have hlt : i < xs.length := by
    rw [hxl]
    exact (Array.getElem?_eq_some_iff.1 hi).1
  rw [List.getElem?_eq_getElem hlt] at g
  exact ⟨n, _, g⟩
theorem open_chunk (h : DataW.trod enc Tryd.prog W 0 (fun _ => true) true fuel 44 cs = some x) :
    ∃ (t : Nat) (ao : Option Addr) (l : List Nat) (cap : Nat), cs = [.int .u32 (t : Int), .slice ao l.length cap] ∧ t < 4294967296 ∧ l.length ≤ cap ∧ cap ≤ 9223372036854775807 ∧ By W ao l := by
  have hl : cs.length = 2 := by
    obtain ⟨_, _, _, _, hlen, _, _⟩ := DataW.trod_struct Tryd.underlying44 h
    exact hlen.trans cells_chunk
  obtain ⟨_, y0, t0⟩ := fld Tryd.underlying44 h 0 _ rfl
  obtain ⟨_, y1, t1⟩ := fld Tryd.underlying44 h 1 _ rfl
  replace t0 : DataW.trod enc Tryd.prog W 0 (fun _ => true) true _ 30 ((cs.drop 0).take (Tryd.prog.cellsOf 30)) = some y0 := t0
  replace t1 : DataW.trod enc Tryd.prog W 0 (fun _ => true) true _ 25 ((cs.drop 1).take (Tryd.prog.cellsOf 25)) = some y1 := t1
  rw [cells_u32] at t0
  rw [cells_u8s] at t1
  obtain ⟨z, e0, _, wz⟩ := DataW.trod_int Tryd.underlying30 t0
  obtain ⟨n, rfl, bn⟩ := u32_of_wf wz
  obtain ⟨ao, l, cap, e1, h1, h2, h3⟩ := open_bs t1
  match cs, hl with
  | [a, b], _ =>
    simp at e0 e1
    subst e0 e1
    exact ⟨n, ao, l, cap, rfl, bn, h1, h2, h3⟩
end
theorem open_u8s {H : Type} {enc : TypeId × Value → H} {W : World} {base : Nat} {v : Value} {d : DataW H} {p : List MemPlace}
    (hv : Value.okWide Tryd.prog W .any base 25 v) (h : DataW.Trod enc Tryd.prog W 0 (fun _ => true) true 25 v d p) :
    ∃ (ao : Option Addr) (l : List Nat) (cap : Nat), v = .slice ao l.length cap ∧ (l.length ≤ cap ∧ cap ≤ 9223372036854775807) ∧ By W ao l := by
  obtain ⟨a0, len, cap, rfl⟩ := okWide_slice und_u8s hv
  obtain ⟨fuel, hf⟩ := h
  obtain ⟨ao, l, cp, e, h1, h2, h3⟩ := open_bs hf
  simp [Value.cells] at e
  obtain ⟨rfl, rfl, rfl⟩ := e
  exact ⟨_, l, _, rfl, ⟨h1, h2⟩, h3⟩
theorem open_chunks {H : Type} {enc : TypeId × Value → H} {W : World} {base : Nat} {v : Value} {d : DataW H} {p : List MemPlace}
    (hv : Value.okWide Tryd.prog W .any base 27 v) (h : DataW.Trod enc Tryd.prog W 0 (fun _ => true) true 27 v d p) :
    ∃ (ao : Option Addr) (cs : List Ck) (cap : Nat), v = .slice ao cs.length cap ∧ cs.length ≤ 9223372036854775807 ∧ (Cw W ao cs ∧ Caps W ao cs.length) := by
  obtain ⟨a0, len, cap, rfl⟩ := okWide_slice und_chunks hv
  obtain ⟨fuel, hf⟩ := h
  rcases Deep.open_slice und_chunks hf with ⟨hc, hx⟩ | ⟨a, len', cap', mm, n, D, Pl, hc, _, hl, hm, hmm, hx, hcell⟩
  · simp [Value.cells] at hc
    obtain ⟨rfl, rfl, rfl⟩ := hc
    exact ⟨none, [], 0, rfl, by simp, fun j c hj => by simp at hj, fun gl ol j ao m cap e hj => by simp at hj⟩
  · simp [Value.cells] at hc
    obtain ⟨rfl, rfl, rfl⟩ := hc
    simp only [if_true] at hmm
    have hmx := max_is
    obtain ⟨b, o, s⟩ := a
    have each : ∀ j, j < len → ∃ q : Nat × Option Addr × List Nat × Nat, s = none ∧ W.cell? ⟨b, o + j * 2, none⟩ = some (.int .u32 (q.1 : Int)) ∧ W.cell? ⟨b, o + j * 2 + 1, none⟩ = some (.slice q.2.1 q.2.2.1.length q.2.2.2) ∧ q.1 < 4294967296 ∧ q.2.2.1.length ≤ q.2.2.2 ∧ By W q.2.1 q.2.2.1 := fun j hj => by
      obtain ⟨cs1, h1, h2⟩ := hcell j (by omega)
      rw [cells_chunk] at h1
      obtain ⟨_, hlen, hc1⟩ := World.cells?_some h1
      obtain ⟨t, ao, l, cp, rfl, k1, k2, k3, k4⟩ := open_chunk h2
      have e0 := hc1 0 (by decide)
      have e1 := hc1 1 (by decide)
      rw [Deep.add_add] at e0 e1
      have hs : s = none := by
        obtain ⟨cs0, h0, _⟩ := hcell 0 (by omega)
        rw [cells_chunk] at h0
        obtain ⟨_, hlen0, hc0⟩ := World.cells?_some h0
        have e2 := hc0 0 (by decide)
        rw [Deep.add_add, List.getElem?_eq_getElem (by omega)] at e2
        have := World.cell?_spot e2
        simpa [Addr.add] using this
      subst hs
      rw [add_at] at e0 e1
      exact ⟨(t, ao, l, cp), rfl, e0, e1, k1, k2, k4⟩
    obtain ⟨q, hq⟩ := Deep.choose_lt each
    obtain ⟨cs, ecs⟩ : ∃ cs : List Ck, cs = (List.range len).map fun j => ((q j).1, (q j).2.2.1) := ⟨_, rfl⟩
    have hcl : cs.length = len := by rw [ecs]; simp
    have at_ : ∀ j c, cs[j]? = some c → j < len ∧ c = ((q j).1, (q j).2.2.1) := fun j c hj => by
      have hjl : j < len := by
        refine Classical.byContradiction fun hn => ?_
        rw [List.getElem?_eq_none (by rw [hcl]; omega)] at hj
        exact absurd hj (by simp)
      rw [ecs] at hj
      simp [hjl] at hj
      exact ⟨hjl, hj.symm⟩
    refine ⟨some ⟨b, o, s⟩, cs, cap, by rw [hcl], by rw [hcl]; omega, fun j c hj => ?_, fun gl ol j ao m cp e hj hcx => ?_⟩
    · obtain ⟨hjl, rfl⟩ := at_ j c hj
      obtain ⟨rfl, k1, k2, k3, k4, k5⟩ := hq j hjl
      exact ⟨b, o, (q j).2.1, (q j).2.2.2, rfl, k1, k2, k5, k3⟩
    · rw [hcl] at hj
      obtain ⟨rfl, k1, k2, k3, k4, k5⟩ := hq j hj
      injection e with e
      injection e with e1 e2
      subst e1 e2
      rw [k2] at hcx
      injection hcx with hcx
      injection hcx with h1 h2 h3
      subst h1 h2 h3
      exact k4
end Go.Proofs.YtbpglkhgggokcaaDoor
