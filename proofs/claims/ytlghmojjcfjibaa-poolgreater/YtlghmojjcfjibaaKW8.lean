/- PACKAGE cube: a list's copy; At, Turn. -/
import Derived.Test.YtlghmojjcfjibaaKW7
import Derived.Deep.DeepAppendWide
import Derived.Laws.AppendOwnNone
import Derived.Laws.OwnMore
namespace Go.Proofs.Ytlghmojjcfjibaa
open Go.RowKit Go.Shelf

/-- The words of a number, as a list. -/
def wl (N m : Nat) : List Value := (List.range m).map (wf N)
theorem wl_len (N m : Nat) : (wl N m).length = m := by simp [wl]
theorem wl_get {N m j : Nat} {u : Value} (h : (wl N m)[j]? = some u) : j < m ∧ u = wf N j := by
  unfold wl at h
  rw [List.getElem?_map] at h
  by_cases hj : j < m
  · rw [List.getElem?_range hj] at h
    simp at h
    exact ⟨hj, h.symm⟩
  · rw [List.getElem?_eq_none (by simpa using hj)] at h
    cases h
theorem wl_at {N m j : Nat} (h : j < m) : (wl N m)[j]? = some (wf N j) := by
  unfold wl
  rw [List.getElem?_map, List.getElem?_range h]; rfl
end Go.Proofs.Ytlghmojjcfjibaa
