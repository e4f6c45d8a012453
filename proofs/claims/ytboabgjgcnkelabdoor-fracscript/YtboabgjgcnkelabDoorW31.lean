import Derived.Test.YtboabgjgcnkelabDoorW30
namespace Go.Proofs.YtboabgjgcnkelabDoor
open Go.RowKit Go.Shelf
attribute [local go_sem ↓] Go.wp_at_zero Go.wp_at_succ

theorem own_below {w w' : World} {base : Nat} {e : TypeId} {size : Nat} {v : Value} {n : Nat} {xs : List Value} (h : w.ownsRow base e size v n xs) (hb : Below w.heap.size w w') : w'.ownsRow base e size v n xs :=
  h.kept (row := none) ⟨hb.os, hb.tape, hb.output, hb.size, fun k hk _ => hb.block k hk⟩ (by cases v.ownBlock <;> simp)
theorem own_four {w : World} {base : Nat} {v : Value} {ds : List Int} {k : Nat} (h : w.ownsRow base 3 1 v (k + 1) (ivs ds)) : ∃ g cap, v = .slice (some ⟨g, 0, none⟩) (k + 1) cap ∧ ∀ j u, (ivs ds)[j]? = some u → w.cell? ((⟨g, 0, none⟩ : Addr).add j) = some u := by
  rcases h.2 with ⟨_, h2⟩ | ⟨g, cap, _, h1, _⟩
  · omega
  · exact ⟨g, cap, h1, h.cells (by rw [h1]; rfl)⟩
theorem ivs_one (ds : List Int) : ∀ u ∈ ivs ds, u.oneCell' = true := by
  intro u hu
  simp only [ivs, List.mem_map] at hu
  obtain ⟨d, _, rfl⟩ := hu
  rfl
theorem ivs_app (a b : List Int) : ivs (a ++ b) = ivs a ++ ivs b := by simp [ivs]
theorem wide_dg (l h : Int) : Dg (dgs l 4 ++ dgs h 4) := by
  intro x hx
  rcases List.mem_append.1 hx with hx | hx
  · exact dgs_dg l 4 x hx
  · exact dgs_dg h 4 x hx
theorem wide_digits {l h : Int} (hl : U64 l) (hh : U64 h) : val (dgs l 4 ++ dgs h 4) = h * 18446744073709551616 + l := by
  rw [val_app, dgs_len, dgs_four hl, dgs_four hh]; omega
