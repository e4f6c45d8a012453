/- PACKAGE cube: a list's copy; At, Turn. -/
import Derived.Test.YtohkiknhjcibgaaKW7
import Derived.Deep.DeepAppendWide
import Derived.Laws.AppendOwnNone
import Derived.Laws.OwnMore
namespace Go.Proofs.Ytohkiknhjcibgaa
open Go.RowKit Go.Shelf

/-- The words of a number, as a list. -/
def wl (N m : Nat) : List Value := (List.range m).map (wf N)
theorem wl_len (N m : Nat) : (wl N m).length = m := by simp [wl]
theorem wl_get {N m j : Nat} {u : Value} (h : (wl N m)[j]? = some u) : j < m ∧ u = wf N j := by
  unfold wl at h
  rw [List.getElem?_map] at h
  by_cases hj : j < m
  · rw [List.getElem?_range hj] at h
    simp at h
    exact ⟨hj, h.symm⟩
  · rw [List.getElem?_eq_none (by simpa using hj)] at h
    cases h
theorem wl_at {N m j : Nat} (h : j < m) : (wl N m)[j]? = some (wf N j) := by
  unfold wl
  rw [List.getElem?_map, List.getElem?_range h]; rfl
set_option maxHeartbeats 800000 in
set_option maxRecDepth 100000 in
theorem clone_any (g o m cap N : Nat) (w : World) (h0 : 0 < m) (h1 : m ≤ 1073741824) (rd : Wr w (some ⟨g, o, none⟩) m N) :
    Calls Try.prog 53 #[.slice (some ⟨g, o, none⟩) m cap] w fun e w' => ∃ G K, e = .returned (.slice (some ⟨G, 0, none⟩) m K) ∧ w.heap.size ≤ G ∧ m ≤ K ∧ K ≤ 9223372036854775807 ∧ w'.ownsRow w.heap.size 41 1 (.slice (some ⟨G, 0, none⟩) m K) m (wl N m) ∧ Wr w' (some ⟨G, 0, none⟩) m N ∧ Below w.heap.size w w' := by
  obtain ⟨i0, hi, hz0, hz1, hz2⟩ := info_parts info_u64
  have RD := hid1 rd
  clear rd
  have hnil : ∀ w, (binOp .eql 26 (.slice (some ⟨g, o, none⟩) m cap) (.slice none 0 0)).run Try.prog w = .ok (.bool false) w := fun w => Go.Lib.run_eql_slice_nil w 26 41 (some ⟨g, o, none⟩) m cap 0 0 und_u64s
  go_enter Try.func53, Try.ntmps53
  have hempty : (w.alloc (.cells #[] 41)).ownsRow w.heap.size 41 1 (.slice (some ⟨w.heap.size, 0, none⟩) 0 0) 0 [] :=
    ⟨rfl, .inr ⟨w.heap.size, 0, #[], rfl, Nat.le_refl _, World.alloc_heap_new _ _, Nat.le_refl _, by unfold maxLen; omega, rfl, rfl⟩⟩
  have RD1 := RD.out.below (bl_alloc (Below.refl _ _) (.cells #[] 41))
  have hnews : ∀ j u, (wl N m)[j]? = some u → (w.alloc (.cells #[] 41)).cell? ((⟨g, o, none⟩ : Addr).add j) = some u := by
    intro j u hu
    obtain ⟨hj, rfl⟩ := wl_get hu
    obtain ⟨g', o', e, c⟩ := RD1.2 j hj
    cases e
    by_cases e : j = 0
    · subst e; simpa [Addr.add] using c
    · simpa [Addr.add, e] using c
  have HE := hid1 hempty
  have HN := hid1 hnews
  clear hempty hnews RD1
  go_wp2_with (at_builtin; refine wpList_append_own (w.alloc (.cells #[] 41)) rfl _ _ _ rfl w.heap.size 41 i0 (.int .u64 0) 1 8 und_u64s hi hz0 hz1 hz2 rfl (by decide) (.slice (some ⟨w.heap.size, 0, none⟩) 0 0) 0 [] (by go_simp) HE.out ⟨g, o, none⟩ m cap (wl N m) (by go_simp) (by rw [wl_len]; omega) HN.out (fun u hu => by unfold wl at hu; obtain ⟨k, _, rfl⟩ := List.mem_map.1 hu; rfl) (by unfold maxLen; omega) (by omega) (by simp) ?_; intro v' w' k1 k2 k3)
  rw [Nat.zero_add, List.nil_append] at k1
  go_ret
  rcases k1.2 with ⟨_, e0⟩ | ⟨G, K, cur, rfl, hG, hb, hK, hK2, _, _⟩
  · omega
  · refine ⟨G, K, rfl, hG, hK, by unfold maxLen at hK2; omega, k1, ⟨RD.out.1, fun k hk => ⟨G, 0, rfl, ?_⟩⟩, (bl_alloc (Below.refl _ _) _).grown k2 (by simp) (fun j e => by cases e; exact Nat.le_refl _)⟩
    rw [Nat.zero_add, k1.cellAt k (by omega), wl_at hk]
end Go.Proofs.Ytohkiknhjcibgaa
