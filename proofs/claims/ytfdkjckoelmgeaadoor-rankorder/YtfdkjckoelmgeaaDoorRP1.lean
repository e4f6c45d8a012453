/- RANK: bytes and numbers as parameters. -/
import Derived.Test.YtfdkjckoelmgeaaDoorRP0
import Derived.Test.YtfdkjckoelmgeaaDoorRC2
namespace Go.Proofs.YtfdkjckoelmgeaaDoor
open Go.ChangeShapes Go.WideShapes Go.ChangeAt Go.RowKit

theorem add_atO (b o n : Nat) : Addr.add ⟨b, o, none⟩ n = ⟨b, o + n, none⟩ := by
  unfold Addr.add
  by_cases h : n = 0
  · subst h; rfl
  · rw [if_neg h]
theorem max_isO : maxLen = 9223372036854775807 := by decide
theorem u8_of_wfO {x : Int} (h : (Lit.int .u8 x).wf = true) : 0 ≤ x ∧ x < 256 := by
  simp [Lit.wf, IntKind.min, IntKind.max, IntKind.signed, IntKind.bits] at h
  exact ⟨by omega, by omega⟩
theorem cells_u8O : Tryd.prog.cellsOf 5 = 1 := by kernel_rfl
theorem und_u8sO : Tryd.prog.underlying 45 = some (.slice 5) := by kernel_rfl
theorem und_i64sO : Tryd.prog.underlying 22 = some (.slice 2) := by kernel_rfl
set_option maxRecDepth 100000 in
/-- A list of numbers of one kind. -/
theorem open_nums {H : Type} {enc : TypeId × Value → H} {W : World} {base : Nat} {t e : TypeId} {K : IntKind} {v : Value} {d : DataW H} {p : List MemPlace} (ht : Tryd.prog.underlying t = some (.slice e)) (he : Tryd.prog.underlying e = some (.int K)) (hN : Tryd.prog.cellsOf e = 1)
    (hv : Value.okWide Tryd.prog W .any base t v) (h : DataW.Trod enc Tryd.prog W 0 (fun _ => true) true t v d p) :
    ∃ (ao : Option Addr) (m cap : Nat) (f : Nat → Int), v = .slice ao m cap ∧ m ≤ cap ∧ cap ≤ 9223372036854775807 ∧ ∀ k, k < m → (Lit.int K (f k)).wf = true ∧ ∃ g o, ao = some ⟨g, o, none⟩ ∧ W.cell? ⟨g, o + k, none⟩ = some (.int K (f k)) := by
  obtain ⟨a0, len, cap, rfl⟩ := okWide_slice ht hv
  obtain ⟨fuel, hf⟩ := h
  rcases open_ints ht he hN hf with ⟨hc, hx⟩ | ⟨a, len', cap', zs, hc, _, hl, hm, hzl, hx, hcell, hwf⟩
  · simp [Value.cells] at hc
    obtain ⟨rfl, rfl, rfl⟩ := hc
    exact ⟨none, 0, 0, fun _ => 0, rfl, by omega, by omega, fun k hk => absurd hk (by omega)⟩
  · simp [Value.cells] at hc
    obtain ⟨rfl, rfl, rfl⟩ := hc
    simp only [if_true] at hzl
    have hmx := max_isO
    refine ⟨some a, len, cap, fun k => zs.getD k 0, rfl, by omega, by omega, fun k hk => ?_⟩
    obtain ⟨b, o, s⟩ := a
    have c := hcell k (by omega)
    have c0 := hcell 0 (by omega)
    have hs := World.cell?_spot c0
    simp [Addr.add] at hs
    subst hs
    rw [add_atO] at c
    have hk' : k < zs.length := by omega
    have e1 : zs.getD k 0 = zs[k] := by simp [List.getD, hk']
    refine ⟨?_, b, o, rfl, ?_⟩
    · dsimp only
      rw [e1]
      exact hwf zs[k] (List.getElem_mem hk')
    · exact c
set_option maxRecDepth 100000 in
theorem open_u8sR {H : Type} {enc : TypeId × Value → H} {W : World} {base : Nat} {v : Value} {d : DataW H} {p : List MemPlace}
    (hv : Value.okWide Tryd.prog W .any base 45 v) (h : DataW.Trod enc Tryd.prog W 0 (fun _ => true) true 45 v d p) :
    ∃ (ao : Option Addr) (m cap : Nat) (f : Nat → Nat), v = .slice ao m cap ∧ m ≤ cap ∧ cap ≤ 9223372036854775807 ∧ By8 W ao m f := by
  obtain ⟨ao, m, cap, f, e, h1, h2, h3⟩ := open_nums und_u8sO Tryd.underlying5 cells_u8O hv h
  refine ⟨ao, m, cap, fun k => (f k).toNat, e, h1, h2, fun k hk => ?_⟩
  obtain ⟨a, g, o, e1, c⟩ := h3 k hk
  have hb := u8_of_wfO a
  refine ⟨show (f k).toNat < 256 by omega, g, o, e1, ?_⟩
  rw [c, Int.toNat_of_nonneg hb.1]
set_option maxRecDepth 100000 in
theorem open_i64R {H : Type} {enc : TypeId × Value → H} {W : World} {base : Nat} {v : Value} {d : DataW H} {p : List MemPlace}
    (hv : Value.okWide Tryd.prog W .any base 22 v) (h : DataW.Trod enc Tryd.prog W 0 (fun _ => true) true 22 v d p) :
    ∃ (ao : Option Addr) (l : List Int) (cap : Nat), v = .slice ao l.length cap ∧ l.length ≤ cap ∧ cap ≤ 9223372036854775807 ∧ Nm W ao l := by
  obtain ⟨ao, m, cap, f, e, h1, h2, h3⟩ := open_nums und_i64sO Tryd.underlying2 cells_i64 hv h
  have hl : ((List.range m).map f).length = m := by simp
  refine ⟨ao, (List.range m).map f, cap, by rw [hl]; exact e, by rw [hl]; exact h1, h2, fun k x hk => ?_⟩
  have hkm : k < m := by have := (List.getElem?_eq_some_iff.1 hk).1; rwa [hl] at this
  obtain ⟨_, g, o, e1, c⟩ := h3 k hkm
  refine ⟨g, o, e1, ?_⟩
  rw [c]
  simp [hkm] at hk
  rw [hk]
end Go.Proofs.YtfdkjckoelmgeaaDoor
