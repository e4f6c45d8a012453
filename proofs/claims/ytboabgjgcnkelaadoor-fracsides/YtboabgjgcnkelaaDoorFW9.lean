/- NORMS MADE OF FOUR FRACTIONS: what the regions that make them want; small. -/
import Derived.Test.YtboabgjgcnkelaaDoorFW7
import Derived.Deep.DeepCutAuto
namespace Go.Proofs.YtboabgjgcnkelaaDoor
open Go.RowKit Go.Shelf
attribute [local go_sem ↓] Go.wp_at_zero Go.wp_at_succ

/-- A norm's cells, which may be written. -/
def Ny (w : World) (b : Nat) (gn gd bn bd mn md sn sd : Int) : Prop := Nm w b gn gd bn bd mn md sn sd ∧ ∀ o, w.frozen? ⟨b, o, none⟩ = false
theorem Ny.keep {w w' : World} {b : Nat} {gn gd bn bd mn md sn sd : Int} (h : Ny w b gn gd bn bd mn md sn sd) (hb : Below w.heap.size w w') : Ny w' b gn gd bn bd mn md sn sd :=
  ⟨h.1.keep hb, fun o => keepf hb (lt_of_cell h.1.1) (h.2 o)⟩
theorem ny_new {W : World} {t : TypeId} {g : Nat} {gn gd bn bd mn md sn sd : Int} (hg : W.heap.size = g) : Ny (W.alloc (.cells #[.int .i64 gn, .int .i64 gd, .int .i64 bn, .int .i64 bd, .int .i64 mn, .int .i64 md, .int .i64 sn, .int .i64 sd] t)) g gn gd bn bd mn md sn sd := by
  subst hg
  exact ⟨⟨by simp [go_sem], by simp [go_sem], by simp [go_sem], by simp [go_sem], by simp [go_sem], by simp [go_sem], by simp [go_sem], by simp [go_sem]⟩, fun o => by simp [go_sem]⟩
theorem ny_n0 {W w' : World} {t : TypeId} (hb : Below (W.alloc (.cells #[.int .i64 0, .int .i64 0, .int .i64 0, .int .i64 0, .int .i64 0, .int .i64 0, .int .i64 0, .int .i64 0] t)).heap.size (W.alloc (.cells #[.int .i64 0, .int .i64 0, .int .i64 0, .int .i64 0, .int .i64 0, .int .i64 0, .int .i64 0, .int .i64 0] t)) w') : Ny w' W.heap.size 0 0 0 0 0 0 0 0 := Ny.keep (ny_new rfl) hb
theorem ny_n1 {W w' : World} {t : TypeId} (hb : Below (W.drew.alloc (.cells #[.int .i64 0, .int .i64 0, .int .i64 0, .int .i64 0, .int .i64 0, .int .i64 0, .int .i64 0, .int .i64 0] t)).heap.size (W.drew.alloc (.cells #[.int .i64 0, .int .i64 0, .int .i64 0, .int .i64 0, .int .i64 0, .int .i64 0, .int .i64 0, .int .i64 0] t)) w') : Ny w' W.heap.size 0 0 0 0 0 0 0 0 := Ny.keep (ny_new (W := W.drew) rfl) hb
theorem ny_n2 {W w' : World} {t : TypeId} (hb : Below (W.alloc (.cells #[.int .i64 0, .int .i64 0, .int .i64 0, .int .i64 0, .int .i64 0, .int .i64 0, .int .i64 0, .int .i64 0] t)).drew.heap.size (W.alloc (.cells #[.int .i64 0, .int .i64 0, .int .i64 0, .int .i64 0, .int .i64 0, .int .i64 0, .int .i64 0, .int .i64 0] t)).drew w') : Ny w' W.heap.size 0 0 0 0 0 0 0 0 :=
  Ny.keep (Ny.keep (ny_new rfl) (Below.drew (Below.refl _ _))) hb
set_option maxRecDepth 100000 in
theorem ny_set {W : World} {g : Nat} {gn gd bn bd mn md sn sd : Int} (h : Ny W g 0 0 0 0 0 0 0 0) : Ny ((((((((W.setCell ⟨g, 0, none⟩ (.int .i64 gn)).setCell ⟨g, 1, none⟩ (.int .i64 gd)).setCell ⟨g, 2, none⟩ (.int .i64 bn)).setCell ⟨g, 3, none⟩ (.int .i64 bd)).setCell ⟨g, 4, none⟩ (.int .i64 mn)).setCell ⟨g, 5, none⟩ (.int .i64 md)).setCell ⟨g, 6, none⟩ (.int .i64 sn)).setCell ⟨g, 7, none⟩ (.int .i64 sd)) g gn gd bn bd mn md sn sd := by
  obtain ⟨⟨n0, n1, n2, n3, n4, n5, n6, n7⟩, nf⟩ := h
  have z := lt_of_cell n0
  exact ⟨⟨by simp [go_sem, *], by simp [go_sem, *], by simp [go_sem, *], by simp [go_sem, *], by simp [go_sem, *], by simp [go_sem, *], by simp [go_sem, *], by simp [go_sem, *]⟩, fun o => by simp [go_sem, *]⟩
theorem ny_set6 {W : World} {g : Nat} {gn gd bn bd mn md sn sd v : Int} (h : Ny W g gn gd bn bd mn md sn sd) : Ny (W.setCell ⟨g, 6, none⟩ (.int .i64 v)) g gn gd bn bd mn md v sd := by
  obtain ⟨⟨n0, n1, n2, n3, n4, n5, n6, n7⟩, nf⟩ := h
  have z := lt_of_cell n0
  exact ⟨⟨by simp [go_sem, *], by simp [go_sem, *], by simp [go_sem, *], by simp [go_sem, *], by simp [go_sem, *], by simp [go_sem, *], by simp [go_sem, *], by simp [go_sem, *]⟩, fun o => by simp [go_sem, *]⟩
theorem nm8 {W X : World} {b : Nat} {gn gd bn bd mn md sn sd : Int} (h : Nm W b gn gd bn bd mn md sn sd) (hb : Below W.heap.size W X) : X.cell? ⟨b, 0, none⟩ = some (.int .i64 gn) ∧ X.cell? ⟨b, 1, none⟩ = some (.int .i64 gd) ∧ X.cell? ⟨b, 2, none⟩ = some (.int .i64 bn) ∧ X.cell? ⟨b, 3, none⟩ = some (.int .i64 bd) ∧ X.cell? ⟨b, 4, none⟩ = some (.int .i64 mn) ∧ X.cell? ⟨b, 5, none⟩ = some (.int .i64 md) ∧ X.cell? ⟨b, 6, none⟩ = some (.int .i64 sn) ∧ X.cell? ⟨b, 7, none⟩ = some (.int .i64 sd) := h.keep hb
/-- A small fraction made of any. -/
def smN (n : Int) : Int := n.tmod 1000
def smD (d : Int) : Int := (if d.tmod 30 < 0 then -d.tmod 30 else d.tmod 30) + 1
theorem small_bd (n d : Int) : -999 ≤ smN n ∧ smN n ≤ 999 ∧ 1 ≤ smD d ∧ smD d ≤ 30 := by
  have h1 := tmod_rng n (k := 1000) (by decide)
  have h2 := tmod_rng d (k := 30) (by decide)
  unfold smN smD
  split <;> omega
set_option maxRecDepth 100000 in
theorem small_any (n d : Int) (w : World) :
    Calls Tryd.prog 12 #[fr n d] w fun e w' => e = .returned (fr (smN n) (smD d)) ∧ Below w.heap.size w w' := by
  have h1 := tmod_rng n (k := 1000) (by decide)
  have h2 := tmod_rng d (k := 30) (by decide)
  unfold smN smD
  obtain ⟨a, ea⟩ : ∃ a, n.tmod 1000 = a := ⟨_, rfl⟩
  obtain ⟨b, eb⟩ : ∃ b, d.tmod 30 = b := ⟨_, rfl⟩
  rw [ea] at h1 ⊢
  rw [eb] at h2 ⊢
  obtain ⟨h1a, h1b⟩ := h1
  obtain ⟨h2a, h2b⟩ := h2
  by_cases h : b < 0
  · rw [if_pos h]
    go_enter Tryd.func12, Tryd.ntmps12
    go_wp2
    simp [bodyPost, results, Tryd.results12, go_sem, *]
    repeat (first | exact Below.refl _ _ | refine bl_alloc ?_ _ | refine Below.drew ?_ | refine bl_drewN ?_ _ | refine bl_set ?_ (by omega) _ | refine bl_step ?_ (by assumption))
  · rw [if_neg h]
    go_enter Tryd.func12, Tryd.ntmps12
    go_wp2
    simp [bodyPost, results, Tryd.results12, go_sem, *]
    repeat (first | exact Below.refl _ _ | refine bl_alloc ?_ _ | refine Below.drew ?_ | refine bl_drewN ?_ _ | refine bl_set ?_ (by omega) _ | refine bl_step ?_ (by assumption))
end Go.Proofs.YtboabgjgcnkelaaDoor
