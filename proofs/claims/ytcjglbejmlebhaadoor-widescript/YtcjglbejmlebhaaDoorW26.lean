import Derived.Test.YtcjglbejmlebhaaDoorW25
import Derived.Deep.RegionHeld3
namespace Go.Proofs.YtcjglbejmlebhaaDoor
open Go.RowKit Go.Shelf
attribute [local go_sem ↓] Go.wp_at_zero Go.wp_at_succ

/-- Three blocks of two cells each, made one after the other. -/
theorem three (w : World) (a0 a1 b0 b1 c0 c1 : Value) (t : TypeId) :
    (((w.alloc (.cells #[a0, a1] t)).alloc (.cells #[b0, b1] t)).alloc (.cells #[c0, c1] t)).cell? ⟨w.heap.size, 0, none⟩ = some a0
    ∧ (((w.alloc (.cells #[a0, a1] t)).alloc (.cells #[b0, b1] t)).alloc (.cells #[c0, c1] t)).cell? ⟨w.heap.size, 1, none⟩ = some a1
    ∧ (((w.alloc (.cells #[a0, a1] t)).alloc (.cells #[b0, b1] t)).alloc (.cells #[c0, c1] t)).cell? ⟨w.heap.size + 1, 0, none⟩ = some b0
    ∧ (((w.alloc (.cells #[a0, a1] t)).alloc (.cells #[b0, b1] t)).alloc (.cells #[c0, c1] t)).cell? ⟨w.heap.size + 1, 1, none⟩ = some b1
    ∧ (((w.alloc (.cells #[a0, a1] t)).alloc (.cells #[b0, b1] t)).alloc (.cells #[c0, c1] t)).cell? ⟨w.heap.size + 2, 0, none⟩ = some c0
    ∧ (((w.alloc (.cells #[a0, a1] t)).alloc (.cells #[b0, b1] t)).alloc (.cells #[c0, c1] t)).cell? ⟨w.heap.size + 2, 1, none⟩ = some c1
    ∧ (((w.alloc (.cells #[a0, a1] t)).alloc (.cells #[b0, b1] t)).alloc (.cells #[c0, c1] t)).frozen? ⟨w.heap.size + 2, 0, none⟩ = false
    ∧ (((w.alloc (.cells #[a0, a1] t)).alloc (.cells #[b0, b1] t)).alloc (.cells #[c0, c1] t)).frozen? ⟨w.heap.size + 2, 1, none⟩ = false := by
  refine ⟨keepc (W := w.alloc _) (bl_alloc (bl_alloc (Below.refl _ _) _) _) (new0' w _ _ _), keepc (W := w.alloc _) (bl_alloc (bl_alloc (Below.refl _ _) _) _) (new1' w _ _ _), ?_, ?_, ?_, ?_, ?_, ?_⟩
  · simpa using keepc (W := (w.alloc (.cells #[a0, a1] t)).alloc (.cells #[b0, b1] t)) (bl_alloc (Below.refl _ _) (.cells #[c0, c1] t)) (new0' (w.alloc (.cells #[a0, a1] t)) _ _ _)
  · simpa using keepc (W := (w.alloc (.cells #[a0, a1] t)).alloc (.cells #[b0, b1] t)) (bl_alloc (Below.refl _ _) (.cells #[c0, c1] t)) (new1' (w.alloc (.cells #[a0, a1] t)) _ _ _)
  · simpa using new0' ((w.alloc (.cells #[a0, a1] t)).alloc (.cells #[b0, b1] t)) c0 c1 t
  · simpa using new1' ((w.alloc (.cells #[a0, a1] t)).alloc (.cells #[b0, b1] t)) c0 c1 t
  · simpa using newf' ((w.alloc (.cells #[a0, a1] t)).alloc (.cells #[b0, b1] t)) c0 c1 t 0
  · simpa using newf' ((w.alloc (.cells #[a0, a1] t)).alloc (.cells #[b0, b1] t)) c0 c1 t 1

set_option maxHeartbeats 3200000 in
set_option maxRecDepth 100000 in
theorem add_same (m n : Int) (x y : Value) (w : World) (hx : Bg w x m) (hy : Bg w y n) (hm : (m.natAbs : Int) < 65536 ^ 40) (hn : (n.natAbs : Int) < 65536 ^ 40) (hs : decide (m < 0) = decide (n < 0)) :
    Calls Tryd.prog 46 #[x, y] w fun e w' => ∃ z, e = .returned z ∧ Bg w' z (m + n) ∧ Below w.heap.size w w' := by
  obtain ⟨va, a, rfl, ra, da, ta, ea⟩ := hx
  obtain ⟨vb, b, rfl, rb, db, tb, eb⟩ := hy
  have la : a.length ≤ 40 := len_le da ta (by rw [ea]; exact hm)
  have lb : b.length ≤ 40 := len_le db tb (by rw [eb]; exact hn)
  obtain ⟨ao, ca, rfl, -⟩ := ra.parts
  obtain ⟨bo, cb, rfl, -⟩ := rb.parts
  have HA := hid1 ra
  have HB := hid1 rb
  have DA := hid1 da
  have DB := hid1 db
  have TA := hid1 ta
  have TB := hid1 tb
  have EA := hid1 ea
  have EB := hid1 eb
  clear ra rb da db ta tb ea eb hm hn
  have S1 : Hid (0 < m + n → decide (m < 0) = false) := hid1 (by intro h; by_cases h1 : m < 0 <;> by_cases h2 : n < 0 <;> simp_all <;> omega)
  have S2 : Hid (m + n < 0 → decide (m < 0) = true) := hid1 (by intro h; by_cases h1 : m < 0 <;> by_cases h2 : n < 0 <;> simp_all <;> omega)
  have S3 : Hid (((m + n).natAbs : Int) = (m.natAbs : Int) + n.natAbs) := hid1 (by by_cases h1 : m < 0 <;> by_cases h2 : n < 0 <;> simp_all <;> omega)
  generalize decide (m < 0) = s at *
  generalize decide (n < 0) = t at *
  subst hs
  go_enter Tryd.func46, Tryd.ntmps46
  go_wp2_with fail
  refine gen_world (fun W' => Below w.heap.size w W' ∧ W'.cell? ⟨w.heap.size, 0, none⟩ = some (.bool s) ∧ W'.cell? ⟨w.heap.size, 1, none⟩ = some (.slice ao a.length ca) ∧ W'.cell? ⟨w.heap.size + 1, 0, none⟩ = some (.bool s) ∧ W'.cell? ⟨w.heap.size + 1, 1, none⟩ = some (.slice bo b.length cb) ∧ W'.cell? ⟨w.heap.size + 2, 0, none⟩ = some (.bool false) ∧ W'.cell? ⟨w.heap.size + 2, 1, none⟩ = some (.slice none 0 0) ∧ W'.frozen? ⟨w.heap.size + 2, 0, none⟩ = false ∧ W'.frozen? ⟨w.heap.size + 2, 1, none⟩ = false) ⟨by repeat (first | exact Below.refl _ _ | refine bl_alloc ?_ _ | refine Below.drew ?_ | refine bl_drewN ?_ _ | refine bl_set ?_ (by omega) _ | refine bl_step ?_ (by assumption)), three w _ _ _ _ _ _ _⟩ ?_
  rintro W ⟨B, n0, n1, n2, n3, r0, r1, f0, f1⟩
  have zr := lt_of_cell r0
  go_region_held3 (fun X => X.cell? ⟨w.heap.size, 0, none⟩ = some (.bool s) ∧ X.cell? ⟨w.heap.size, 1, none⟩ = some (.slice ao a.length ca) ∧ X.cell? ⟨w.heap.size + 1, 0, none⟩ = some (.bool s) ∧ X.cell? ⟨w.heap.size + 1, 1, none⟩ = some (.slice bo b.length cb)) (((try dsimp only); first | (simp [go_sem, *]; done) | exact ⟨keepc (W := W) (by repeat (first | exact Below.refl _ _ | refine bl_alloc ?_ _ | refine Below.drew ?_ | refine bl_drewN ?_ _ | refine bl_set ?_ (by omega) _ | refine bl_step ?_ (by assumption))) n0, keepc (W := W) (by repeat (first | exact Below.refl _ _ | refine bl_alloc ?_ _ | refine Below.drew ?_ | refine bl_drewN ?_ _ | refine bl_set ?_ (by omega) _ | refine bl_step ?_ (by assumption))) n1, keepc (W := W) (by repeat (first | exact Below.refl _ _ | refine bl_alloc ?_ _ | refine Below.drew ?_ | refine bl_drewN ?_ _ | refine bl_set ?_ (by omega) _ | refine bl_step ?_ (by assumption))) n2, keepc (W := W) (by repeat (first | exact Below.refl _ _ | refine bl_alloc ?_ _ | refine Below.drew ?_ | refine bl_drewN ?_ _ | refine bl_set ?_ (by omega) _ | refine bl_step ?_ (by assumption))) n3⟩))
    (first
      | (go_at_call 74; refine (plus_digits a b _ _ _ (HA.out.below (bl_step B (by repeat (first | exact Below.refl _ _ | refine bl_alloc ?_ _ | refine Below.drew ?_ | refine bl_drewN ?_ _ | refine bl_set ?_ (by omega) _ | refine bl_step ?_ (by assumption))))) (HB.out.below (bl_step B (by repeat (first | exact Below.refl _ _ | refine bl_alloc ?_ _ | refine Below.drew ?_ | refine bl_drewN ?_ _ | refine bl_set ?_ (by omega) _ | refine bl_step ?_ (by assumption))))) DA.out DB.out (by omega) (by omega)).mono ?_; rintro e w1 ⟨v1, rfl, ds, o1, d1, e1, l1, hb1⟩; obtain ⟨ao1, cap1, rfl, -⟩ := (Rd.own o1).parts; have O1 := hid1 (Rd.own o1); have D1 := hid1 d1; have E1 := hid1 e1; clear o1 d1 e1 l1)
      | (go_at_call 51; refine (trim_num (m + n) s _ ds _ (O1.out.below (by repeat (first | exact Below.refl _ _ | refine bl_alloc ?_ _ | refine Below.drew ?_ | refine bl_drewN ?_ _ | refine bl_set ?_ (by omega) _ | refine bl_step ?_ (by assumption)))) D1.out (by rw [E1.out, EA.out, EB.out, S3.out]) S1.out S2.out).mono ?_; rintro e w2 ⟨y, s2, ao2, m2, cap2, rfl, rfl, hy, hb2⟩; have HY := hid1 hy; clear hy; have hb : Below W.heap.size W w2 := (by repeat (first | exact Below.refl _ _ | refine bl_alloc ?_ _ | refine Below.drew ?_ | refine bl_drewN ?_ _ | refine bl_set ?_ (by omega) _ | refine bl_step ?_ (by assumption))); have p0 := keepc hb n0; have p1 := keepc hb n1; have p2 := keepc hb n2; have p3 := keepc hb n3; have q0 := keepc hb r0; have q1 := keepc hb r1; have g0 := keepf hb zr f0; have g1 := keepf hb zr f1; have hBB : Hid (Below w.heap.size w w2) := hid1 (bl_step B hb)))
  go_wp2_with fail
  simp [bodyPost, results, Tryd.results46, go_sem, q0, q1]
  exact big_ret HY.out hBB.out (by omega) ⟨_, q0⟩ _ _

