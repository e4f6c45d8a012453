/- heddlelaw24: begun. -/
import Derived.Test.YtfdkjckoelmgeaaDoorRE1
import Derived.Test.YtfdkjckoelmgeaaDoorRS2
namespace Go.Proofs.YtfdkjckoelmgeaaDoor
open Go.RowKit Go.Sort

theorem own_rkm {w : World} {base : Nat} {v : Value} {L : List (Int × Int)} (h : w.ownsRow base 30 2 v L.length (flr L)) : ∃ ao cap, v = .slice ao L.length cap ∧ Rkm w ao L := by
  rcases h.2 with ⟨rfl, h0⟩ | ⟨g, cap, cur, rfl, _⟩
  · refine ⟨none, 0, by rw [h0], fun j p hj => ?_⟩
    rw [List.eq_nil_of_length_eq_zero h0] at hj
    simp at hj
  · refine ⟨_, cap, rfl, fun j p hj => ⟨g, 0, rfl, ?_⟩⟩
    obtain ⟨a1, a2⟩ := flr_at hj
    have c1 := h.cells (g := g) rfl _ _ a1
    have c2 := h.cells (g := g) rfl _ _ a2
    have e0 : ∀ t, (⟨g, 0, none⟩ : Addr).add t = ⟨g, t, none⟩ := fun t => by rcases t with _ | t <;> simp [Addr.add]
    rw [e0] at c1 c2
    rw [Nat.zero_add]
    exact ⟨c1, c2⟩
theorem cell_new {w : World} {c : Array Value} {t j : Nat} {v : Value} (h : c[j]? = some v) : (w.alloc (.cells c t)).cell? ⟨w.heap.size, j, none⟩ = some v := by
  rw [cell_of_row _ _ _ _ _ _ (blkn w (.cells c t))]
  exact h
theorem nm_alloc (w : World) (l : List Int) : Nm (w.alloc (.cells (i64s l).toArray 2)) (some ⟨w.heap.size, 0, none⟩) l := fun j x hj => by
  refine ⟨w.heap.size, 0, rfl, ?_⟩
  rw [Nat.zero_add]
  exact cell_new (by simp [i64s, hj])
theorem tn_two (w : World) (r s : List Int) : Tn (((w.alloc (.cells (i64s r).toArray 2)).alloc (.cells (i64s s).toArray 2)).alloc (.cells #[.slice (some ⟨w.heap.size, 0, none⟩) r.length r.length, .slice (some ⟨w.heap.size + 1, 0, none⟩) s.length s.length] 22)) (some ⟨w.heap.size + 2, 0, none⟩) [r, s] := by
  have n1 := ((nm_alloc w r).below (bl_alloc (Below.refl _ _) (.cells (i64s s).toArray 2))).below (bl_alloc (Below.refl _ _) (.cells #[.slice (some ⟨w.heap.size, 0, none⟩) r.length r.length, .slice (some ⟨w.heap.size + 1, 0, none⟩) s.length s.length] 22))
  have n2 := (nm_alloc (w.alloc (.cells (i64s r).toArray 2)) s).below (bl_alloc (Below.refl _ _) (.cells #[.slice (some ⟨w.heap.size, 0, none⟩) r.length r.length, .slice (some ⟨w.heap.size + 1, 0, none⟩) s.length s.length] 22))
  rw [World.size_alloc] at n2
  have c := fun j v => cell_new (w := (w.alloc (.cells (i64s r).toArray 2)).alloc (.cells (i64s s).toArray 2)) (c := #[.slice (some ⟨w.heap.size, 0, none⟩) r.length r.length, .slice (some ⟨w.heap.size + 1, 0, none⟩) s.length s.length]) (t := 22) (j := j) (v := v)
  rw [World.size_alloc, World.size_alloc] at c
  intro i x hx
  rcases i with _ | _ | i
  · simp at hx; subst hx
    exact ⟨_, 0, _, _, rfl, c 0 _ rfl, n1⟩
  · simp at hx; subst hx
    exact ⟨_, 0, _, _, rfl, c 1 _ rfl, n2⟩
  · simp at hx
theorem shw_ex : shw [[3, 1], [0, 2]] = [51, 32, 49, 10, 48, 32, 50, 10, 53, 47, 54, 10] := by decide +kernel
theorem cnt_ex : cnt [[3, 1], [0, 2]] = some 6 := by decide
theorem tp_ex : tp [3, 7, 7, -1] 3 = [(1, 7), (2, 7), (0, 3)] := by unfold tp; rw [srt_ex]; rfl
theorem aE_ex : aE (List.replicate 2 (List.replicate 2 0)) 1 0 = 0 := by decide
theorem ad_ex : ad (List.replicate 2 (List.replicate 2 0)) 1 0 = [[0, 0], [1, 0]] := by decide
end Go.Proofs.YtfdkjckoelmgeaaDoor
