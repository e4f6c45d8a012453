/- PARAMETERS THAT ARE LISTS OF LISTS OF SMALL NUMBERS, with their sizes. -/
import Derived.Test.YtpinmfhabbcflabDoorDP2
namespace Go.Proofs.YtpinmfhabbcflabDoor
open Go.ChangeShapes Go.WideShapes Go.ChangeAt Go.RowKit
set_option maxRecDepth 100000

/-- A list of small numbers: what it holds, where it lies. -/
structure Sl where
  l : List Int
  ao : Option Addr
  cap : Nat
instance : Inhabited Sl := ⟨⟨[], none, 0⟩⟩
/-- It lies there, within a machine's reach. -/
def So (w : World) (s : Sl) : Prop := s.l.length ≤ s.cap ∧ s.cap ≤ 140737488351232 ∧ (∀ y ∈ s.l, -128 ≤ y ∧ y ≤ 127) ∧ (s.ao = none → s.cap = 0) ∧ R8 w s.ao s.l
theorem So.below {w w' : World} {s : Sl} (h : So w s) (hb : Below w.heap.size w w') : So w' s := ⟨h.1, h.2.1, h.2.2.1, h.2.2.2.1, h.2.2.2.2.below hb⟩
def Lsm (w : World) (ao : Option Addr) (l : List Sl) : Prop := ∀ i (h : i < l.length), (∃ g o, ao = some ⟨g, o, none⟩ ∧ w.cell? ⟨g, o + i, none⟩ = some (.slice l[i].ao l[i].l.length l[i].cap)) ∧ So w l[i]
theorem und_i8l : Tryd.prog.underlying 23 = some (.slice 37) := by kernel_rfl
theorem open_smallZ {H : Type} {enc : TypeId × Value → H} {W : World} {fuel : Nat} {cs : List Value} {x : DataW H × List MemPlace} (h : DataW.trod enc Tryd.prog W 0 (fun _ => true) true fuel 37 cs = some x) (hz : ∀ n ∈ x.1.weights Tryd.prog 37, n ≤ reachBytes) :
    ∃ s : Sl, cs = [.slice s.ao s.l.length s.cap] ∧ So W s := by
  obtain ⟨ao, l, cap, e, h1, h2, h3, h4, h5, h6⟩ := open_small h
  refine ⟨⟨l, ao, cap⟩, e, h1, ?_, h3, h5, h4⟩
  show cap ≤ _
  rcases h6 with ⟨_, rfl⟩ | ⟨es, sp, ex, rfl⟩
  · omega
  · have w1 := hz ((es.length + sp.length) * 1) (by
      rw [ex]
      simp only [DataW.weights, und_i8s, bytes_i8]
      exact List.mem_cons_self)
    rw [reach_is] at w1
    omega
theorem open_i8l {H : Type} {enc : TypeId × Value → H} {W : World} {base : Nat} {v : Value} {d : DataW H} {p : List MemPlace}
    (hv : Value.okWide Tryd.prog W .any base 23 v) (h : DataW.Trod enc Tryd.prog W 0 (fun _ => true) true 23 v d p) (hz : ∀ n ∈ d.weights Tryd.prog 23, n ≤ reachBytes) :
    ∃ (ao : Option Addr) (l : List Sl) (cap : Nat), v = .slice ao l.length cap ∧ l.length ≤ 9223372036854775807 ∧ Lsm W ao l := by
  obtain ⟨a0, len, cap, rfl⟩ := okWide_slice und_i8l hv
  obtain ⟨fuel, hf⟩ := h
  rcases Deep.open_slice und_i8l hf with ⟨hc, hx⟩ | ⟨a, len', cap', mm, n, D, Pl, hc, _, hl, hm, hmm, hx, hcell⟩
  · simp [Value.cells] at hc
    obtain ⟨rfl, rfl, rfl⟩ := hc
    exact ⟨none, [], 0, rfl, by simp, fun j hj => absurd hj (by simp)⟩
  · simp [Value.cells] at hc
    obtain ⟨rfl, rfl, rfl⟩ := hc
    simp only [if_true] at hmm
    have hmx := max_is
    have hd : d = .slice ((List.range len).map D) ((List.range (mm - len)).map fun j => D (len + j)) := congrArg Prod.fst hx
    obtain ⟨b, o, s⟩ := a
    have each : ∀ j, j < len → ∃ q : Sl, s = none ∧ W.cell? ⟨b, o + j, none⟩ = some (.slice q.ao q.l.length q.cap) ∧ So W q := fun j hj => by
      obtain ⟨cs1, h1, h2⟩ := hcell j (by omega)
      rw [cells_is] at h1
      obtain ⟨_, hlen, hc1⟩ := World.cells?_some h1
      have hzj : ∀ n ∈ (D j).weights Tryd.prog 37, n ≤ reachBytes := fun n hn => hz n (by
        rw [hd]
        simp only [DataW.weights, und_i8l]
        refine List.mem_cons_of_mem _ (List.mem_append.mpr (Or.inl ?_))
        exact weightsAll_mem (List.mem_map.mpr ⟨j, List.mem_range.mpr hj, rfl⟩) n hn)
      obtain ⟨A, rfl, k1⟩ := open_smallZ h2 hzj
      have e0 := hc1 0 (by decide)
      rw [Deep.add_add] at e0
      have hs : s = none := by
        obtain ⟨cs0, h0, _⟩ := hcell 0 (by omega)
        rw [cells_is] at h0
        obtain ⟨_, hlen0, hc0⟩ := World.cells?_some h0
        have e2 := hc0 0 (by decide)
        rw [Deep.add_add, List.getElem?_eq_getElem (by omega)] at e2
        have := World.cell?_spot e2
        simpa [Addr.add] using this
      subst hs
      rw [add_at] at e0
      exact ⟨A, rfl, by simpa using e0, k1⟩
    obtain ⟨q, hq⟩ := Deep.choose_lt each
    obtain ⟨l, el⟩ : ∃ l : List Sl, l = (List.range len).map q := ⟨_, rfl⟩
    have hll : l.length = len := by rw [el]; simp
    refine ⟨some ⟨b, o, s⟩, l, cap, by rw [hll], by rw [hll]; omega, fun j hj => ?_⟩
    have hjl : j < len := by omega
    have ej : l[j] = q j := by subst el; simp
    rw [ej]
    obtain ⟨rfl, k1, k2⟩ := hq j hjl
    exact ⟨⟨b, o, rfl, k1⟩, k2⟩
theorem open_bitsvZ {H : Type} {enc : TypeId × Value → H} {W : World} {base : Nat} {v : Value} {d : DataW H} {p : List MemPlace}
    (hv : Value.okWide Tryd.prog W .any base 31 v) (h : DataW.Trod enc Tryd.prog W 0 (fun _ => true) true 31 v d p) (hz : ∀ n ∈ d.weights Tryd.prog 31, n ≤ reachBytes) : ∃ b : Bt, v = b.v ∧ Rz W b := by
  obtain ⟨cs, rfl, _⟩ := okWide_struct Tryd.underlying31 hv
  obtain ⟨fuel, hf⟩ := h
  obtain ⟨b, e, hb⟩ := open_bitsZ hf hz
  refine ⟨b, ?_, hb⟩
  simp [Value.cells] at e
  obtain ⟨l⟩ := cs
  simp at e
  subst e
  rfl
theorem open_rowvZ {H : Type} {enc : TypeId × Value → H} {W : World} {base : Nat} {v : Value} {d : DataW H} {p : List MemPlace}
    (hv : Value.okWide Tryd.prog W .any base 33 v) (h : DataW.Trod enc Tryd.prog W 0 (fun _ => true) true 33 v d p) (hz : ∀ n ∈ d.weights Tryd.prog 33, n ≤ reachBytes) : ∃ a b : Bt, v = rwv a b ∧ Rz W a ∧ Rz W b := by
  obtain ⟨cs, rfl, _⟩ := okWide_struct Tryd.underlying33 hv
  obtain ⟨fuel, hf⟩ := h
  obtain ⟨a, b, e, ha, hb⟩ := open_rowZ hf hz
  refine ⟨a, b, ?_, ha, hb⟩
  simp [Value.cells] at e
  obtain ⟨l⟩ := cs
  simp at e
  subst e
  rfl
end Go.Proofs.YtpinmfhabbcflabDoor
