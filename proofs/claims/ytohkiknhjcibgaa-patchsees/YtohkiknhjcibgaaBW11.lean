/- BitsWhole. -/
import Derived.Test.YtohkiknhjcibgaaBW10
import Derived.Test.YtohkiknhjcibgaaBM5
import Derived.Deep.AppendLies
namespace Go.Proofs.Ytohkiknhjcibgaa
open Go.RowKit

theorem info_i8 : (Try.prog.info? 50).map (fun i => (i.zero, i.size, i.bytes)) = some (some (.int .i8 0), 1, 1) := by kernel_rfl
theorem und_i8s : Try.prog.underlying 69 = some (.slice 50) := by kernel_rfl
set_option maxHeartbeats 800000 in
set_option maxRecDepth 100000 in
/-- Another number of words. -/
theorem check_words (n : Nat) (ao : Option Addr) (m cap : Nat) (w : World) (h1 : n ≤ 16777216) (_ : m ≤ 9223372036854775807) (h : m ≠ nw n) :
    Calls Try.prog 42 #[rv n ao m cap] w fun e w' => e = .returned (.int .i64 20) ∧ Below w.heap.size w w' := by
  have hb := nw_bd h1
  have i0 : (0 : Int) ≤ (n : Int) := by omega
  have i1 : (n : Int) ≤ 16777216 := by omega
  go_enter Try.func42, Try.ntmps42
  go_wp2
  go_quiet ((go_at_call 55; exact Calls.quiet_of_same (wordsFor_any _ (by omega) _)))
  go_wp2
  go_ret
  exact ⟨rfl, bl_drewN (bl_alloc (Below.refl _ _) _) _⟩
theorem r8_zero {w : World} {g K : Nat} (h : w.rowIs g 50 K (fun _ => .int .i8 0)) : R8 w (some ⟨g, 0, none⟩) (List.replicate K 0) := by
  intro k hk
  have hk' : k < K := by simpa using hk
  exact ⟨g, 0, rfl, by rw [Nat.zero_add, ia_rep]; exact h.cell hk'⟩

def rowL (f : Nat → Value) (m : Nat) : List Value := (List.range m).map f
theorem rowL_len (f : Nat → Value) (m : Nat) : (rowL f m).length = m * 1 := by simp [rowL]
theorem rowL_get {f : Nat → Value} {m j : Nat} {u : Value} (h : (rowL f m)[j]? = some u) : j < m ∧ u = f j := by
  unfold rowL at h
  rw [List.getElem?_map, Option.map_eq_some_iff] at h
  obtain ⟨x, hx, rfl⟩ := h
  obtain ⟨h1, h2⟩ := List.getElem?_eq_some_iff.1 hx
  simp at h1 h2
  subst h2
  exact ⟨h1, rfl⟩
theorem rowL_at {f : Nat → Value} {m j : Nat} (h : j < m) (v : Value) : (rowL f m ++ [v])[j]? = some (f j) := by
  rw [List.getElem?_append_left (by simpa [rowL] using h)]
  simp [rowL, h]
theorem rowL_last (f : Nat → Value) (m : Nat) (v : Value) : (rowL f m ++ [v])[m]? = some v := by
  rw [List.getElem?_append_right (by simp [rowL])]
  simp [rowL]
theorem rowL_wf {N m : Nat} : ∀ u ∈ rowL (wf N) m, u.oneCell' = true := by
  intro u hu
  obtain ⟨j, hj, e⟩ := List.getElem_of_mem hu
  obtain ⟨_, rfl⟩ := rowL_get (List.getElem?_eq_some_iff.2 ⟨hj, e⟩)
  rfl
/-- An own row, as a row of cells. -/
theorem own_row {w : World} {base e : Nat} {v : Value} {n : Nat} {xs : List Value} (h : w.ownsRow base e 1 v n xs) (hn : 0 < n) :
    ∃ g cap f, v = .slice (some ⟨g, 0, none⟩) n cap ∧ base ≤ g ∧ n ≤ cap ∧ cap ≤ maxLen ∧ w.rowIs g e cap f ∧ ∀ k, k < n → xs[k]? = some (f k) := by
  rcases h.2 with ⟨_, h0⟩ | ⟨g, cap, cur, hv, hb, hg, h4, h5, h6, h7⟩
  · omega
  · refine ⟨g, cap, fun k => cur[k]?.getD undef, hv, hb, h4, h5, ⟨cur, hg, by omega, fun i hi => ?_⟩, fun k hk => ?_⟩
    · simp [Array.getElem?_eq_getElem (show i < cur.size by omega)]
    · rw [← h7, Nat.mul_one, List.getElem?_take_of_lt hk]
      simp [Array.getElem?_eq_getElem (show k < cur.size by omega)]

end Go.Proofs.Ytohkiknhjcibgaa
