/- BitsWhole. -/
import Derived.Test.YtmbhapegdbajpaaBW10
import Derived.Test.YtmbhapegdbajpaaBM5
import Derived.Deep.AppendLies
namespace Go.Proofs.Ytmbhapegdbajpaa
open Go.RowKit

set_option maxHeartbeats 800000 in
set_option maxRecDepth 100000 in
/-- Another number of words. -/
def rowL (f : Nat → Value) (m : Nat) : List Value := (List.range m).map f
theorem rowL_len (f : Nat → Value) (m : Nat) : (rowL f m).length = m * 1 := by simp [rowL]
theorem rowL_get {f : Nat → Value} {m j : Nat} {u : Value} (h : (rowL f m)[j]? = some u) : j < m ∧ u = f j := by
  unfold rowL at h
  rw [List.getElem?_map, Option.map_eq_some_iff] at h
  obtain ⟨x, hx, rfl⟩ := h
  obtain ⟨h1, h2⟩ := List.getElem?_eq_some_iff.1 hx
  simp at h1 h2
  subst h2
  exact ⟨h1, rfl⟩
theorem rowL_at {f : Nat → Value} {m j : Nat} (h : j < m) (v : Value) : (rowL f m ++ [v])[j]? = some (f j) := by
  rw [List.getElem?_append_left (by simpa [rowL] using h)]
  simp [rowL, h]
theorem rowL_last (f : Nat → Value) (m : Nat) (v : Value) : (rowL f m ++ [v])[m]? = some v := by
  rw [List.getElem?_append_right (by simp [rowL])]
  simp [rowL]
theorem rowL_wf {N m : Nat} : ∀ u ∈ rowL (wf N) m, u.oneCell' = true := by
  intro u hu
  obtain ⟨j, hj, e⟩ := List.getElem_of_mem hu
  obtain ⟨_, rfl⟩ := rowL_get (List.getElem?_eq_some_iff.2 ⟨hj, e⟩)
  rfl
/-- An own row, as a row of cells. -/
theorem own_row {w : World} {base e : Nat} {v : Value} {n : Nat} {xs : List Value} (h : w.ownsRow base e 1 v n xs) (hn : 0 < n) :
    ∃ g cap f, v = .slice (some ⟨g, 0, none⟩) n cap ∧ base ≤ g ∧ n ≤ cap ∧ cap ≤ maxLen ∧ w.rowIs g e cap f ∧ ∀ k, k < n → xs[k]? = some (f k) := by
  rcases h.2 with ⟨_, h0⟩ | ⟨g, cap, cur, hv, hb, hg, h4, h5, h6, h7⟩
  · omega
  · refine ⟨g, cap, fun k => cur[k]?.getD undef, hv, hb, h4, h5, ⟨cur, hg, by omega, fun i hi => ?_⟩, fun k hk => ?_⟩
    · simp [Array.getElem?_eq_getElem (show i < cur.size by omega)]
    · rw [← h7, Nat.mul_one, List.getElem?_take_of_lt hk]
      simp [Array.getElem?_eq_getElem (show k < cur.size by omega)]

end Go.Proofs.Ytmbhapegdbajpaa
