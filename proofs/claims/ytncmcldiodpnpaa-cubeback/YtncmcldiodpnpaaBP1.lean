/- PARAMETERS THAT ARE LISTS OF SMALL NUMBERS. -/
import Derived.Test.YtncmcldiodpnpaaBP0
import Derived.Test.YtncmcldiodpnpaaBW12
import Derived.ChangeSlices
namespace Go.Proofs.Ytncmcldiodpnpaa
open Go.ChangeShapes Go.WideShapes Go.ChangeAt Go.RowKit

theorem reach_is : reachBytes = 140737488351232 := by decide
theorem cells_i8 : Try.prog.cellsOf 52 = 1 := by kernel_rfl
theorem bytes_i8 : Try.prog.bytesOf 52 = 1 := by kernel_rfl
theorem open_i8 {H : Type} {enc : TypeId × Value → H} {W : World} {base : Nat} {v : Value} {d : DataW H} {p : List MemPlace}
    (hv : Value.okWide Try.prog W .any base 22 v) (h : DataW.Trod enc Try.prog W 0 (fun _ => true) true 22 v d p) :
    ∃ (ao : Option Addr) (l : List Int) (cap : Nat), v = .slice ao l.length cap ∧ l.length ≤ cap ∧ (ao = none → l.length = 0 ∧ cap = 0) ∧ R8 W ao l ∧
      ((d = .nil ∧ cap = 0) ∨ ∃ es sp, d = .slice es sp ∧ es.length + sp.length = cap) := by
  obtain ⟨a0, len, cap, rfl⟩ := okWide_slice und_i8s hv
  obtain ⟨fuel, hf⟩ := h
  rcases open_ints und_i8s Try.underlying52 cells_i8 hf with ⟨hc, hx⟩ | ⟨a, len', cap', zs, hc, _, hl, _, hz, hx, hcell, _⟩
  · simp [Value.cells] at hc
    obtain ⟨rfl, rfl, rfl⟩ := hc
    simp only [Prod.mk.injEq] at hx
    exact ⟨none, [], 0, rfl, Nat.le_refl _, fun _ => ⟨rfl, rfl⟩, fun k hk => absurd hk (by simp), .inl ⟨hx.1, rfl⟩⟩
  · simp [Value.cells] at hc
    obtain ⟨rfl, rfl, rfl⟩ := hc
    simp only [if_true] at hz
    simp only [Prod.mk.injEq] at hx
    have hlen : (zs.take len).length = len := by simp; omega
    refine ⟨some a, zs.take len, cap, by rw [hlen], by rw [hlen]; exact hl, fun e => (by cases e), ?_, .inr ⟨_, _, hx.1, by simp [lits]; omega⟩⟩
    intro k hk
    rw [hlen] at hk
    have c := hcell k (by omega)
    have c0 := hcell 0 (by omega)
    have hs := World.cell?_spot c0
    obtain ⟨b, o, s⟩ := a
    simp [Addr.add] at hs
    subst hs
    refine ⟨b, o, rfl, ?_⟩
    have e1 : ia (zs.take len) k = zs.getD k 0 := ia_take hk
    rw [e1, ← c]
    by_cases h0 : k = 0
    · subst h0; rfl
    · simp [Addr.add, h0]
end Go.Proofs.Ytncmcldiodpnpaa
