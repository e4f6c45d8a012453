/- PARAMETERS THAT ARE LISTS OF LISTS OF BYTES. -/
import Derived.Test.YtakoicolffkbmaaGF0
import Derived.Test.YtakoicolffkbmaaGT2
import Derived.ChangeSlices
import Derived.Deep.Slices
namespace Go.Proofs.Ytakoicolffkbmaa
open Go.ChangeShapes Go.WideShapes Go.ChangeAt Go.RowKit
set_option maxRecDepth 100000

theorem max_isg : maxLen = 9223372036854775807 := by decide
theorem add_atg (b o n : Nat) : Addr.add ⟨b, o, none⟩ n = ⟨b, o + n, none⟩ := by
  unfold Addr.add
  by_cases h : n = 0
  · subst h; rfl
  · rw [if_neg h]
theorem u8_of_wf {x : Int} (h : (Lit.int .u8 x).wf = true) : 0 ≤ x ∧ x < 256 := by
  simp [Lit.wf, IntKind.min, IntKind.max, IntKind.signed, IntKind.bits] at h
  exact ⟨by omega, by omega⟩
theorem cells_u8 : Try.prog.cellsOf 5 = 1 := by kernel_rfl
theorem cells_u8s : Try.prog.cellsOf 78 = 1 := by kernel_rfl
theorem und_u8l : Try.prog.underlying 36 = some (.slice 78) := by kernel_rfl
theorem open_by {H : Type} {enc : TypeId × Value → H} {W : World} {fuel : Nat} {cs : List Value} {x : DataW H × List MemPlace} (h : DataW.trod enc Try.prog W 0 (fun _ => true) true fuel 78 cs = some x) :
    ∃ (ai : Option Addr) (mi ci : Nat), cs = [.slice ai mi ci] ∧ mi ≤ 9223372036854775807 ∧ ∀ j, j < mi → ∃ g' o' x : Nat, ai = some ⟨g', o', none⟩ ∧ x < 256 ∧ W.cell? ⟨g', o' + j, none⟩ = some (.int .u8 (x : Int)) := by
  rcases open_ints und_u8s Try.underlying5 cells_u8 h with ⟨hc, hx⟩ | ⟨a, len, cap, zs, hc, _, hl, hm, hzl, hx, hcell, hwf⟩
  · exact ⟨none, 0, 0, hc, by omega, fun k hk => absurd hk (by omega)⟩
  · simp only [if_true] at hzl
    have hmx := max_isg
    obtain ⟨b, o, s⟩ := a
    refine ⟨some ⟨b, o, s⟩, len, cap, hc, by omega, fun k hk => ?_⟩
    have c := hcell k (by omega)
    have c0 := hcell 0 (by omega)
    have hs := World.cell?_spot c0
    simp [Addr.add] at hs
    subst hs
    rw [add_atg] at c
    have hk' : k < zs.length := by omega
    have e1 : zs.getD k 0 = zs[k] := by simp [List.getD, hk']
    have hw := u8_of_wf (hwf zs[k] (List.getElem_mem hk'))
    refine ⟨b, o, (zs[k]).toNat, rfl, by omega, ?_⟩
    rw [c, e1]
    congr 2
    omega
theorem open_u8l {H : Type} {enc : TypeId × Value → H} {W : World} {base : Nat} {v : Value} {d : DataW H} {p : List MemPlace}
    (hv : Value.okWide Try.prog W .any base 36 v) (h : DataW.Trod enc Try.prog W 0 (fun _ => true) true 36 v d p) :
    ∃ (ao : Option Addr) (n cap : Nat), v = .slice ao n cap ∧ Lby W ao n := by
  obtain ⟨a0, len, cap, rfl⟩ := okWide_slice und_u8l hv
  obtain ⟨fuel, hf⟩ := h
  rcases Deep.open_slice und_u8l hf with ⟨hc, hx⟩ | ⟨a, len', cap', mm, n, D, Pl, hc, _, hl, hm, hmm, hx, hcell⟩
  · simp [Value.cells] at hc
    obtain ⟨rfl, rfl, rfl⟩ := hc
    exact ⟨none, 0, 0, rfl, fun j hj => absurd hj (by omega)⟩
  · simp [Value.cells] at hc
    obtain ⟨rfl, rfl, rfl⟩ := hc
    simp only [if_true] at hmm
    obtain ⟨b, o, s⟩ := a
    refine ⟨some ⟨b, o, s⟩, len, cap, rfl, fun j hj => ?_⟩
    obtain ⟨cs1, h1, h2⟩ := hcell j (by omega)
    rw [cells_u8s] at h1
    obtain ⟨_, hlen, hc1⟩ := World.cells?_some h1
    obtain ⟨ai, mi, ci, rfl, k1, k2⟩ := open_by h2
    have e0 := hc1 0 (by decide)
    rw [Deep.add_add] at e0
    have hs : s = none := by
      obtain ⟨cs0, h0, _⟩ := hcell 0 (by omega)
      rw [cells_u8s] at h0
      obtain ⟨_, hlen0, hc0⟩ := World.cells?_some h0
      have e2 := hc0 0 (by decide)
      rw [Deep.add_add, List.getElem?_eq_getElem (by omega)] at e2
      have := World.cell?_spot e2
      simpa [Addr.add] using this
    subst hs
    rw [add_atg] at e0
    exact ⟨b, o, ai, mi, ci, rfl, by simpa using e0, k1, k2⟩
end Go.Proofs.Ytakoicolffkbmaa
