import Derived.Test.YtcjglbejmlebhaaDoorW27
namespace Go.Proofs.YtcjglbejmlebhaaDoor
open Go.RowKit Go.Shelf
attribute [local go_sem ↓] Go.wp_at_zero Go.wp_at_succ

theorem Bg.form {w : World} {x : Value} {n : Int} (h : Bg w x n) : ∃ s ao m cap, x = .agg #[.bool s, .slice ao m cap] := by
  obtain ⟨v, ds, rfl, r, _⟩ := h
  obtain ⟨ao, cap, rfl, _⟩ := r.parts
  exact ⟨_, ao, _, cap, rfl⟩

set_option maxHeartbeats 3200000 in
set_option maxRecDepth 100000 in
theorem rsub_any (m n : Int) (x y : Value) (w : World) (hx : Bg w x m) (hy : Bg w y n) (hm : (m.natAbs : Int) < 65536 ^ 40) (hn : (n.natAbs : Int) < 65536 ^ 40) :
    Calls Tryd.prog 49 #[x, y] w fun e w' => ∃ z, e = .returned z ∧ Bg w' z (m - n) ∧ Below w.heap.size w w' := by
  have HX := hid1 hx
  have HY := hid1 hy
  have HM := hid1 hm
  have HN : Hid (((-n).natAbs : Int) < 65536 ^ 40) := hid1 ((congrArg (fun k : Nat => (k : Int) < 65536 ^ 40) (Int.natAbs_neg n)).mpr hn)
  clear hm hn
  obtain ⟨s, ao, la, ca, rfl⟩ := hx.form
  obtain ⟨t, bo, lb, cb, rfl⟩ := hy.form
  clear hx hy
  go_enter Tryd.func49, Tryd.ntmps49
  go_wp2_with fail
  refine gen_world (fun W' => Below w.heap.size w W' ∧ W'.cell? ⟨w.heap.size, 0, none⟩ = some (.bool s) ∧ W'.cell? ⟨w.heap.size, 1, none⟩ = some (.slice ao la ca) ∧ W'.cell? ⟨w.heap.size + 1, 0, none⟩ = some (.bool t) ∧ W'.cell? ⟨w.heap.size + 1, 1, none⟩ = some (.slice bo lb cb) ∧ W'.cell? ⟨w.heap.size + 2, 0, none⟩ = some (.bool false) ∧ W'.cell? ⟨w.heap.size + 2, 1, none⟩ = some (.slice none 0 0) ∧ W'.frozen? ⟨w.heap.size + 2, 0, none⟩ = false ∧ W'.frozen? ⟨w.heap.size + 2, 1, none⟩ = false) ⟨by repeat (first | exact Below.refl _ _ | refine bl_alloc ?_ _ | refine Below.drew ?_ | refine bl_drewN ?_ _ | refine bl_set ?_ (by omega) _ | refine bl_step ?_ (by assumption)), three w _ _ _ _ _ _ _⟩ ?_
  rintro W ⟨B, n0, n1, n2, n3, r0, r1, f0, f1⟩
  have zr := lt_of_cell r0
  go_region_held3 (fun X => X.cell? ⟨w.heap.size, 0, none⟩ = some (.bool s) ∧ X.cell? ⟨w.heap.size, 1, none⟩ = some (.slice ao la ca) ∧ X.cell? ⟨w.heap.size + 1, 0, none⟩ = some (.bool t) ∧ X.cell? ⟨w.heap.size + 1, 1, none⟩ = some (.slice bo lb cb)) (((try dsimp only); first | (simp [go_sem, *]; done) | exact ⟨keepc (W := W) (by repeat (first | exact Below.refl _ _ | refine bl_alloc ?_ _ | refine Below.drew ?_ | refine bl_drewN ?_ _ | refine bl_set ?_ (by omega) _ | refine bl_step ?_ (by assumption))) n0, keepc (W := W) (by repeat (first | exact Below.refl _ _ | refine bl_alloc ?_ _ | refine Below.drew ?_ | refine bl_drewN ?_ _ | refine bl_set ?_ (by omega) _ | refine bl_step ?_ (by assumption))) n1, keepc (W := W) (by repeat (first | exact Below.refl _ _ | refine bl_alloc ?_ _ | refine Below.drew ?_ | refine bl_drewN ?_ _ | refine bl_set ?_ (by omega) _ | refine bl_step ?_ (by assumption))) n2, keepc (W := W) (by repeat (first | exact Below.refl _ _ | refine bl_alloc ?_ _ | refine Below.drew ?_ | refine bl_drewN ?_ _ | refine bl_set ?_ (by omega) _ | refine bl_step ?_ (by assumption))) n3⟩))
    (first
      | (go_at_call 36; refine (rneg_any n _ _ (HY.out.below (bl_step B (by repeat (first | exact Below.refl _ _ | refine bl_alloc ?_ _ | refine Below.drew ?_ | refine bl_drewN ?_ _ | refine bl_set ?_ (by omega) _ | refine bl_step ?_ (by assumption)))))).mono ?_; rintro e w1 ⟨y1, rfl, hy1, hb1⟩; have HY1 := hid1 hy1; clear hy1)
      | (go_at_call 46; refine (radd_any m (-n) _ _ _ (HX.out.below (bl_step B (by repeat (first | exact Below.refl _ _ | refine bl_alloc ?_ _ | refine Below.drew ?_ | refine bl_drewN ?_ _ | refine bl_set ?_ (by omega) _ | refine bl_step ?_ (by assumption))))) (HY1.out.below (by repeat (first | exact Below.refl _ _ | refine bl_alloc ?_ _ | refine Below.drew ?_ | refine bl_drewN ?_ _ | refine bl_set ?_ (by omega) _ | refine bl_step ?_ (by assumption)))) HM.out HN.out).mono ?_; rintro e w2 ⟨z, rfl, hz, hb2⟩; have HZ := hid1 hz; obtain ⟨s2, ao2, m2, cap2, rfl⟩ := hz.form; clear hz; have hb : Below W.heap.size W w2 := (by repeat (first | exact Below.refl _ _ | refine bl_alloc ?_ _ | refine Below.drew ?_ | refine bl_drewN ?_ _ | refine bl_set ?_ (by omega) _ | refine bl_step ?_ (by assumption))); have p0 := keepc hb n0; have p1 := keepc hb n1; have p2 := keepc hb n2; have p3 := keepc hb n3; have q0 := keepc hb r0; have q1 := keepc hb r1; have g0 := keepf hb zr f0; have g1 := keepf hb zr f1; have hBB : Hid (Below w.heap.size w w2) := hid1 (bl_step B hb)))
  go_wp2_with fail
  simp [bodyPost, results, Tryd.results49, go_sem, q0, q1]
  rw [Int.sub_eq_add_neg]
  exact big_ret HZ.out hBB.out (by omega) ⟨_, q0⟩ _ _

def sgnOf (d : Int) : Int := if d = 0 then 0 else if d < 0 then -1 else 1
set_option maxHeartbeats 1600000 in
set_option maxRecDepth 100000 in
theorem rcmp_any (m n : Int) (x y : Value) (w : World) (hx : Bg w x m) (hy : Bg w y n) (hm : (m.natAbs : Int) < 65536 ^ 40) (hn : (n.natAbs : Int) < 65536 ^ 40) (d : Int) (hd : m - n = d) :
    Calls Tryd.prog 23 #[x, y] w fun e w' => e = .returned (.int .i64 (sgnOf d)) ∧ Below w.heap.size w w' := by
  have HX := hid1 hx
  have HY := hid1 hy
  have HM := hid1 hm
  have HN := hid1 hn
  clear hm hn
  obtain ⟨s, ao, la, ca, rfl⟩ := hx.form
  obtain ⟨t, bo, lb, cb, rfl⟩ := hy.form
  clear hx hy
  go_enter Tryd.func23, Tryd.ntmps23
  go_wp2_with fail
  refine (rsub_any m n _ _ _ (HX.out.below (by repeat (first | exact Below.refl _ _ | refine bl_alloc ?_ _ | refine Below.drew ?_ | refine bl_drewN ?_ _ | refine bl_set ?_ (by omega) _ | refine bl_step ?_ (by assumption)))) (HY.out.below (by repeat (first | exact Below.refl _ _ | refine bl_alloc ?_ _ | refine Below.drew ?_ | refine bl_drewN ?_ _ | refine bl_set ?_ (by omega) _ | refine bl_step ?_ (by assumption)))) HM.out HN.out).mono ?_
  rintro e w1 ⟨z, rfl, hz, hb1⟩
  have hB : Hid (Below w.heap.size w w1) := hid1 (by repeat (first | exact Below.refl _ _ | refine bl_alloc ?_ _ | refine Below.drew ?_ | refine bl_drewN ?_ _ | refine bl_set ?_ (by omega) _ | refine bl_step ?_ (by assumption)))
  clear hb1
  rw [hd] at hz
  clear hd HX HY HM HN
  obtain ⟨v, ds, rfl, r, dg, tr, ev⟩ := hz
  obtain ⟨ao2, cap2, rfl, -⟩ := r.parts
  have hv := val_zero dg tr
  clear r dg tr
  rcases Int.lt_trichotomy d 0 with h0 | h0 | h0
  · have h1 : ¬ ds = [] := fun e => by have := hv.2 e; omega
    have h2 : ¬ (ds.length : Int) = 0 := by
      intro e
      exact h1 (List.eq_nil_of_length_eq_zero (by omega))
    have H1 : Hid (sgnOf d = -1) := hid1 (by unfold sgnOf; rw [if_neg (by omega), if_pos h0])
    clear hv ev h1
    have h3 : decide (d < 0) = true := decide_eq_true h0
    rw [h3]
    clear h0 h3
    go_wp2
    go_ret
    exact ⟨by rw [H1.out]; rfl, by have hB := hB.out; repeat (first | exact Below.refl _ _ | refine bl_alloc ?_ _ | refine Below.drew ?_ | refine bl_drewN ?_ _ | refine bl_set ?_ (by omega) _ | refine bl_step ?_ (by assumption))⟩
  · subst h0
    have h1 : ds = [] := hv.1 (by rw [ev]; rfl)
    subst h1
    clear hv ev
    go_wp2
    go_ret
    exact ⟨rfl, by have hB := hB.out; repeat (first | exact Below.refl _ _ | refine bl_alloc ?_ _ | refine Below.drew ?_ | refine bl_drewN ?_ _ | refine bl_set ?_ (by omega) _ | refine bl_step ?_ (by assumption))⟩
  · have h1 : ¬ ds = [] := fun e => by have := hv.2 e; omega
    have h2 : ¬ (ds.length : Int) = 0 := by
      intro e
      exact h1 (List.eq_nil_of_length_eq_zero (by omega))
    have H1 : Hid (sgnOf d = 1) := hid1 (by unfold sgnOf; rw [if_neg (by omega), if_neg (by omega)])
    clear hv ev h1
    have h3 : decide (d < 0) = false := decide_eq_false (by omega)
    rw [h3]
    clear h0 h3
    go_wp2
    go_ret
    exact ⟨by rw [H1.out]; rfl, by have hB := hB.out; repeat (first | exact Below.refl _ _ | refine bl_alloc ?_ _ | refine Below.drew ?_ | refine bl_drewN ?_ _ | refine bl_set ?_ (by omega) _ | refine bl_step ?_ (by assumption))⟩
