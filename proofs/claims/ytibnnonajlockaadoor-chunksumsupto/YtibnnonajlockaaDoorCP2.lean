/- PARAMETERS OF A BULK THAT IS BOUNDED: lists of bytes. -/
import Derived.Test.YtibnnonajlockaaDoorCP1
import Derived.Test.YtibnnonajlockaaDoorCS1
namespace Go.Proofs.YtibnnonajlockaaDoor
open Go.ChangeShapes Go.WideShapes Go.ChangeAt Go.RowKit
set_option maxRecDepth 100000

theorem bk_pos {H : Type} (d : DataW H) : 0 < Rows.uptoBulk d := by
  rcases d with l | _ | _ | _ | _ | _ | _ | _
  · rcases l <;> simp [Rows.uptoBulk]
  all_goals simp [Rows.uptoBulk]
theorem bk_len {H : Type} : ∀ l : List (DataW H), l.length ≤ Rows.uptoBulkAll l
  | [] => by simp [Rows.uptoBulkAll]
  | d :: l => by
    have h1 := bk_pos d
    have h2 := bk_len l
    simp only [Rows.uptoBulkAll, List.length_cons]
    omega
theorem und_lists : Tryd.prog.underlying 22 = some (.slice 23) := by kernel_rfl
theorem bk_cat {H : Type} {D : Nat → DataW H} {q : Nat → List Nat} : ∀ {xs : List Nat}, (∀ j ∈ xs, (q j).length ≤ Rows.uptoBulk (D j)) → (cat (xs.map q)).length ≤ Rows.uptoBulkAll (xs.map D)
  | [], _ => by simp [cat, Rows.uptoBulkAll]
  | j :: xs, h => by
    have e : cat ((j :: xs).map q) = q j ++ cat (xs.map q) := rfl
    have h1 := h j (List.mem_cons_self ..)
    have h2 := bk_cat (D := D) (q := q) (xs := xs) fun i hi => h i (List.mem_cons_of_mem _ hi)
    rw [e, List.length_append]
    simp only [List.map_cons, Rows.uptoBulkAll]
    omega
section
variable {H : Type} {enc : TypeId × Value → H} {W : World} {fuel : Nat} {cs : List Value} {x : DataW H × List MemPlace}
theorem open_bz (h : DataW.trod enc Tryd.prog W 0 (fun _ => true) true fuel 23 cs = some x) :
    ∃ (ao : Option Addr) (l : List Nat) (cap : Nat), cs = [.slice ao l.length cap] ∧ l.length ≤ Rows.uptoBulk x.1 ∧ By W ao l := by
  obtain ⟨ao, l, cap, e, h1, h2, h3⟩ := open_bs h
  refine ⟨ao, l, cap, e, ?_, h3⟩
  rcases open_ints und_u8s Tryd.underlying5 cells_u8 h with ⟨hc, hx⟩ | ⟨a, len, cap', zs, hc, _, hl, hm, hzl, hx, _, _⟩
  · rw [e] at hc
    injection hc with hc
    injection hc with _ hc _
    omega
  · rw [e] at hc
    injection hc with hc
    injection hc with _ hc _
    simp only [if_true] at hzl
    rw [hx]
    simp only [Rows.uptoBulk]
    have h1 := bk_len (lits (H := H) .u8 (zs.take len))
    have e : (lits (H := H) .u8 (zs.take len)).length = len := by simp [lits]; omega
    rw [e] at h1
    omega
end
theorem open_bytesU {H : Type} {enc : TypeId × Value → H} {W : World} {base : Nat} {v : Value} {d : DataW H} {p : List MemPlace}
    (hv : Value.okWide Tryd.prog W .any base 23 v) (h : DataW.Trod enc Tryd.prog W 0 (fun _ => true) true 23 v d p) (hz : Rows.uptoBulk d ≤ 1048576) :
    ∃ (ao : Option Addr) (l : List Nat) (cap : Nat), v = .slice ao l.length cap ∧ l.length ≤ 1048576 ∧ By W ao l := by
  obtain ⟨a0, len, cap, rfl⟩ := okWide_slice und_u8s hv
  obtain ⟨fuel, hf⟩ := h
  obtain ⟨ao, l, cp, e, h1, h3⟩ := open_bz hf
  simp [Value.cells] at e
  obtain ⟨rfl, rfl, rfl⟩ := e
  exact ⟨_, l, _, rfl, Nat.le_trans h1 hz, h3⟩
theorem open_listsU {H : Type} {enc : TypeId × Value → H} {W : World} {base : Nat} {v : Value} {d : DataW H} {p : List MemPlace}
    (hv : Value.okWide Tryd.prog W .any base 22 v) (h : DataW.Trod enc Tryd.prog W 0 (fun _ => true) true 22 v d p) (hz : Rows.uptoBulk d ≤ 1048576) :
    ∃ (ao : Option Addr) (L : List (List Nat)) (cap : Nat), v = .slice ao L.length cap ∧ (L.length ≤ 1048576 ∧ L.length ≤ cap ∧ (cat L).length ≤ 1048576) ∧ Bys W ao L := by
  obtain ⟨a0, len, cap, rfl⟩ := okWide_slice und_lists hv
  obtain ⟨fuel, hf⟩ := h
  rcases Deep.open_slice und_lists hf with ⟨hc, hx⟩ | ⟨a, len', cap', mm, n, D, Pl, hc, _, hl, hm, hmm, hx, hcell⟩
  · simp [Value.cells] at hc
    obtain ⟨rfl, rfl, rfl⟩ := hc
    exact ⟨none, [], 0, rfl, ⟨by simp, by simp, by simp [cat]⟩, fun j c hj => by simp at hj⟩
  · simp [Value.cells] at hc
    obtain ⟨rfl, rfl, rfl⟩ := hc
    simp only [if_true] at hmm
    obtain ⟨b, o, s⟩ := a
    have hd : d = .slice ((List.range len).map D) ((List.range (mm - len)).map fun j => D (len + j)) := congrArg Prod.fst hx
    rw [hd] at hz
    simp only [Rows.uptoBulk] at hz
    have hb : len ≤ 1048576 := by
      have h1 := bk_len ((List.range len).map D)
      rw [List.length_map, List.length_range] at h1
      omega
    have each : ∀ j, j < len → ∃ q : Option Addr × List Nat × Nat, s = none ∧ W.cell? ⟨b, o + j, none⟩ = some (.slice q.1 q.2.1.length q.2.2) ∧ q.2.1.length ≤ Rows.uptoBulk (D j) ∧ By W q.1 q.2.1 := fun j hj => by
      obtain ⟨cs1, h1, h2⟩ := hcell j (by omega)
      rw [cells_u8s] at h1
      obtain ⟨_, hlen, hc1⟩ := World.cells?_some h1
      obtain ⟨ao, l, cp, rfl, k1, k2⟩ := open_bz h2
      have e0 := hc1 0 (by decide)
      rw [Deep.add_add] at e0
      have hs : s = none := by
        obtain ⟨cs0, h0, _⟩ := hcell 0 (by omega)
        rw [cells_u8s] at h0
        obtain ⟨_, hlen0, hc0⟩ := World.cells?_some h0
        have e2 := hc0 0 (by decide)
        rw [Deep.add_add, List.getElem?_eq_getElem (by omega)] at e2
        have := World.cell?_spot e2
        simpa [Addr.add] using this
      subst hs
      rw [add_at, Nat.mul_one, Nat.add_zero] at e0
      exact ⟨(ao, l, cp), rfl, e0, k1, k2⟩
    obtain ⟨q, hq⟩ := Deep.choose_lt each
    obtain ⟨L, eL⟩ : ∃ L : List (List Nat), L = (List.range len).map fun j => (q j).2.1 := ⟨_, rfl⟩
    have hcl : L.length = len := by rw [eL]; simp
    have hcat : (cat L).length ≤ 1048576 := by
      have h1 := bk_cat (D := D) (q := fun j => (q j).2.1) (xs := List.range len) fun j hj => (hq j (List.mem_range.1 hj)).2.2.1
      rw [← eL] at h1
      omega
    refine ⟨some ⟨b, o, s⟩, L, cap, by rw [hcl], ⟨by rw [hcl]; exact hb, by rw [hcl]; exact hl, hcat⟩, fun j l hj => ?_⟩
    have hjl : j < len := by
      refine Classical.byContradiction fun hn => ?_
      rw [List.getElem?_eq_none (by rw [hcl]; omega)] at hj
      exact absurd hj (by simp)
    have el : l = (q j).2.1 := by
      rw [eL] at hj
      simp [hjl] at hj
      exact hj.symm
    subst el
    obtain ⟨rfl, k1, k2, k3⟩ := hq j hjl
    exact ⟨b, o, (q j).1, (q j).2.2, rfl, k1, k3⟩
end Go.Proofs.YtibnnonajlockaaDoor
