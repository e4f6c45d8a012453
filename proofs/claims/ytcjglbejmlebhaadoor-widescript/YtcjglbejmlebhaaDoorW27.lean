import Derived.Test.YtcjglbejmlebhaaDoorW26
namespace Go.Proofs.YtcjglbejmlebhaaDoor
open Go.RowKit Go.Shelf
attribute [local go_sem ↓] Go.wp_at_zero Go.wp_at_succ

set_option maxHeartbeats 3200000 in
set_option maxRecDepth 100000 in
theorem add_ge (m n : Int) (x y : Value) (w : World) (hx : Bg w x m) (hy : Bg w y n) (hm : (m.natAbs : Int) < 65536 ^ 40) (hn : (n.natAbs : Int) < 65536 ^ 40) (hs : decide (m < 0) = !decide (n < 0)) (hle : n.natAbs ≤ m.natAbs) :
    Calls Tryd.prog 46 #[x, y] w fun e w' => ∃ z, e = .returned z ∧ Bg w' z (m + n) ∧ Below w.heap.size w w' := by
  obtain ⟨va, a, rfl, ra, da, ta, ea⟩ := hx
  obtain ⟨vb, b, rfl, rb, db, tb, eb⟩ := hy
  have la : a.length ≤ 40 := len_le da ta (by rw [ea]; exact hm)
  have lb : b.length ≤ 40 := len_le db tb (by rw [eb]; exact hn)
  obtain ⟨ao, ca, rfl, -⟩ := ra.parts
  obtain ⟨bo, cb, rfl, -⟩ := rb.parts
  have HA := hid1 ra
  have HB := hid1 rb
  have DA := hid1 da
  have DB := hid1 db
  have TA := hid1 ta
  have TB := hid1 tb
  have EA := hid1 ea
  have EB := hid1 eb
  clear ra rb da db ta tb ea eb hm hn
  have S1 : Hid (0 < m + n → decide (m < 0) = false) := hid1 (by intro h; by_cases h1 : m < 0 <;> by_cases h2 : n < 0 <;> simp_all <;> omega)
  have S2 : Hid (m + n < 0 → decide (m < 0) = true) := hid1 (by intro h; by_cases h1 : m < 0 <;> by_cases h2 : n < 0 <;> simp_all <;> omega)
  have S3 : Hid (((m + n).natAbs : Int) = (m.natAbs : Int) - n.natAbs) := hid1 (by by_cases h1 : m < 0 <;> by_cases h2 : n < 0 <;> simp_all <;> omega)
  have L1 : b.length ≤ a.length := by
    rcases Nat.lt_or_ge a.length b.length with h | h
    · exfalso; have := cmp_len DA.out DB.out TB.out h; rw [EA.out, EB.out] at this; omega
    · exact h
  have V1 := hid1 (owe_end DA.out DB.out (by rw [EA.out, EB.out]; omega) L1).2
  have hst : decide (m < 0) = !decide (n < 0) := hs
  have HC : Hid ((val b ≤ val a) = True) := hid1 (by rw [EA.out, EB.out]; simp; omega)
  generalize decide (m < 0) = s at *
  generalize decide (n < 0) = t at *
  clear hs L1
  subst hst
  go_enter Tryd.func46, Tryd.ntmps46
  go_wp2_with fail
  refine (compare_any a b _ _ _ (HA.out.below (bl_alloc (bl_alloc (bl_alloc (Below.refl _ _) _) _) _)) (HB.out.below (bl_alloc (bl_alloc (bl_alloc (Below.refl _ _) _) _) _)) DA.out DB.out TA.out TB.out (by omega) (by omega)).mono ?_
  rintro e w1 ⟨r, rfl, hr, hb1⟩
  rw [HC.out] at hr
  have hr' : 0 ≤ r := by simpa using hr
  clear hr
  obtain ⟨c0, c1, c2, c3, c4, c5, c6, c7⟩ := three w (.bool (!t)) (.slice ao a.length ca) (.bool t) (.slice bo b.length cb) (.bool false) (.slice none 0 0) 44
  have z4 := lt_of_cell c4
  have k0 := keepc hb1 c0; have k1 := keepc hb1 c1; have k2 := keepc hb1 c2; have k3 := keepc hb1 c3; have k4 := keepc hb1 c4; have k5 := keepc hb1 c5; have k6 := keepf hb1 z4 c6; have k7 := keepf hb1 z4 c7
  have hB : Hid (Below w.heap.size w w1) := hid1 (bl_step (bl_alloc (bl_alloc (bl_alloc (Below.refl _ _) _) _) _) hb1)
  clear c0 c1 c2 c3 c4 c5 c6 c7 z4 hb1
  go_wp2_with fail
  refine gen_world (fun W' => Below w.heap.size w W' ∧ W'.cell? ⟨w.heap.size, 0, none⟩ = some (.bool (!t)) ∧ W'.cell? ⟨w.heap.size, 1, none⟩ = some (.slice ao a.length ca) ∧ W'.cell? ⟨w.heap.size + 1, 0, none⟩ = some (.bool t) ∧ W'.cell? ⟨w.heap.size + 1, 1, none⟩ = some (.slice bo b.length cb) ∧ W'.cell? ⟨w.heap.size + 2, 0, none⟩ = some (.bool false) ∧ W'.cell? ⟨w.heap.size + 2, 1, none⟩ = some (.slice none 0 0) ∧ W'.frozen? ⟨w.heap.size + 2, 0, none⟩ = false ∧ W'.frozen? ⟨w.heap.size + 2, 1, none⟩ = false) ⟨by repeat (first | exact hB.out | refine Below.drew ?_ | refine bl_drewN ?_ _), by first | (simp [go_sem, *]; done) | assumption, by first | (simp [go_sem, *]; done) | assumption, by first | (simp [go_sem, *]; done) | assumption, by first | (simp [go_sem, *]; done) | assumption, by first | (simp [go_sem, *]; done) | assumption, by first | (simp [go_sem, *]; done) | assumption, by first | (simp [go_sem, *]; done) | assumption, by first | (simp [go_sem, *]; done) | assumption⟩ ?_
  clear k0 k1 k2 k3 k4 k5 k6 k7 hB
  rintro W ⟨B, n0, n1, n2, n3, r0, r1, f0, f1⟩
  have zr := lt_of_cell r0
  go_region_held3 (fun X => X.cell? ⟨w.heap.size, 0, none⟩ = some (.bool (!t)) ∧ X.cell? ⟨w.heap.size, 1, none⟩ = some (.slice ao a.length ca) ∧ X.cell? ⟨w.heap.size + 1, 0, none⟩ = some (.bool t) ∧ X.cell? ⟨w.heap.size + 1, 1, none⟩ = some (.slice bo b.length cb)) (((try dsimp only); first | (simp [go_sem, *]; done) | exact ⟨keepc (W := W) (by repeat (first | exact Below.refl _ _ | refine bl_alloc ?_ _ | refine Below.drew ?_ | refine bl_drewN ?_ _ | refine bl_set ?_ (by omega) _ | refine bl_step ?_ (by assumption))) n0, keepc (W := W) (by repeat (first | exact Below.refl _ _ | refine bl_alloc ?_ _ | refine Below.drew ?_ | refine bl_drewN ?_ _ | refine bl_set ?_ (by omega) _ | refine bl_step ?_ (by assumption))) n1, keepc (W := W) (by repeat (first | exact Below.refl _ _ | refine bl_alloc ?_ _ | refine Below.drew ?_ | refine bl_drewN ?_ _ | refine bl_set ?_ (by omega) _ | refine bl_step ?_ (by assumption))) n2, keepc (W := W) (by repeat (first | exact Below.refl _ _ | refine bl_alloc ?_ _ | refine Below.drew ?_ | refine bl_drewN ?_ _ | refine bl_set ?_ (by omega) _ | refine bl_step ?_ (by assumption))) n3⟩))
    (first
      | (go_at_call 76; refine (minus_any a b _ _ _ (HA.out.below (bl_step B (by repeat (first | exact Below.refl _ _ | refine bl_alloc ?_ _ | refine Below.drew ?_ | refine bl_drewN ?_ _ | refine bl_set ?_ (by omega) _ | refine bl_step ?_ (by assumption))))) (HB.out.below (bl_step B (by repeat (first | exact Below.refl _ _ | refine bl_alloc ?_ _ | refine Below.drew ?_ | refine bl_drewN ?_ _ | refine bl_set ?_ (by omega) _ | refine bl_step ?_ (by assumption))))) DA.out DB.out (by omega)).mono ?_; rintro e w2 ⟨v1, rfl, o1, hb2⟩; obtain ⟨ao1, cap1, rfl, -⟩ := (Rd.own o1).parts; have O1 := hid1 (Rd.own o1); clear o1)
      | (go_at_call 51; refine (trim_num (m + n) (!t) _ (mrow a b a.length) _ (O1.out.below (by repeat (first | exact Below.refl _ _ | refine bl_alloc ?_ _ | refine Below.drew ?_ | refine bl_drewN ?_ _ | refine bl_set ?_ (by omega) _ | refine bl_step ?_ (by assumption)))) (mrow_dg DA.out DB.out _) (by rw [V1.out, EA.out, EB.out, S3.out]) S1.out S2.out).mono ?_; rintro e w3 ⟨y, s2, ao2, m2, cap2, rfl, rfl, hy, hb3⟩; have HY := hid1 hy; clear hy; have hb : Below W.heap.size W w3 := (by repeat (first | exact Below.refl _ _ | refine bl_alloc ?_ _ | refine Below.drew ?_ | refine bl_drewN ?_ _ | refine bl_set ?_ (by omega) _ | refine bl_step ?_ (by assumption))); have p0 := keepc hb n0; have p1 := keepc hb n1; have p2 := keepc hb n2; have p3 := keepc hb n3; have q0 := keepc hb r0; have q1 := keepc hb r1; have g0 := keepf hb zr f0; have g1 := keepf hb zr f1; have hBB : Hid (Below w.heap.size w w3) := hid1 (bl_step B hb)))
  go_wp2_with fail
  simp [bodyPost, results, Tryd.results46, go_sem, q0, q1]
  exact big_ret HY.out hBB.out (by omega) ⟨_, q0⟩ _ _

set_option maxHeartbeats 3200000 in
set_option maxRecDepth 100000 in
theorem add_lt (m n : Int) (x y : Value) (w : World) (hx : Bg w x m) (hy : Bg w y n) (hm : (m.natAbs : Int) < 65536 ^ 40) (hn : (n.natAbs : Int) < 65536 ^ 40) (hs : decide (m < 0) = !decide (n < 0)) (hle : m.natAbs < n.natAbs) :
    Calls Tryd.prog 46 #[x, y] w fun e w' => ∃ z, e = .returned z ∧ Bg w' z (m + n) ∧ Below w.heap.size w w' := by
  obtain ⟨va, a, rfl, ra, da, ta, ea⟩ := hx
  obtain ⟨vb, b, rfl, rb, db, tb, eb⟩ := hy
  have la : a.length ≤ 40 := len_le da ta (by rw [ea]; exact hm)
  have lb : b.length ≤ 40 := len_le db tb (by rw [eb]; exact hn)
  obtain ⟨ao, ca, rfl, -⟩ := ra.parts
  obtain ⟨bo, cb, rfl, -⟩ := rb.parts
  have HA := hid1 ra
  have HB := hid1 rb
  have DA := hid1 da
  have DB := hid1 db
  have TA := hid1 ta
  have TB := hid1 tb
  have EA := hid1 ea
  have EB := hid1 eb
  clear ra rb da db ta tb ea eb hm hn
  have S1 : Hid (0 < m + n → decide (n < 0) = false) := hid1 (by intro h; by_cases h1 : m < 0 <;> by_cases h2 : n < 0 <;> simp_all <;> omega)
  have S2 : Hid (m + n < 0 → decide (n < 0) = true) := hid1 (by intro h; by_cases h1 : m < 0 <;> by_cases h2 : n < 0 <;> simp_all <;> omega)
  have S3 : Hid (((m + n).natAbs : Int) = (n.natAbs : Int) - m.natAbs) := hid1 (by by_cases h1 : m < 0 <;> by_cases h2 : n < 0 <;> simp_all <;> omega)
  have L1 : a.length ≤ b.length := by
    rcases Nat.lt_or_ge b.length a.length with h | h
    · exfalso; have := cmp_len DB.out DA.out TA.out h; rw [EA.out, EB.out] at this; omega
    · exact h
  have V1 := hid1 (owe_end DB.out DA.out (by rw [EA.out, EB.out]; omega) L1).2
  have hst : decide (m < 0) = !decide (n < 0) := hs
  have HC : Hid ((val b ≤ val a) = False) := hid1 (by rw [EA.out, EB.out]; simp; omega)
  generalize decide (m < 0) = s at *
  generalize decide (n < 0) = t at *
  clear hs L1
  subst hst
  go_enter Tryd.func46, Tryd.ntmps46
  go_wp2_with fail
  refine (compare_any a b _ _ _ (HA.out.below (bl_alloc (bl_alloc (bl_alloc (Below.refl _ _) _) _) _)) (HB.out.below (bl_alloc (bl_alloc (bl_alloc (Below.refl _ _) _) _) _)) DA.out DB.out TA.out TB.out (by omega) (by omega)).mono ?_
  rintro e w1 ⟨r, rfl, hr, hb1⟩
  rw [HC.out] at hr
  have hr' : ¬ 0 ≤ r := by simpa using hr
  clear hr
  obtain ⟨c0, c1, c2, c3, c4, c5, c6, c7⟩ := three w (.bool (!t)) (.slice ao a.length ca) (.bool t) (.slice bo b.length cb) (.bool false) (.slice none 0 0) 44
  have z4 := lt_of_cell c4
  have k0 := keepc hb1 c0; have k1 := keepc hb1 c1; have k2 := keepc hb1 c2; have k3 := keepc hb1 c3; have k4 := keepc hb1 c4; have k5 := keepc hb1 c5; have k6 := keepf hb1 z4 c6; have k7 := keepf hb1 z4 c7
  have hB : Hid (Below w.heap.size w w1) := hid1 (bl_step (bl_alloc (bl_alloc (bl_alloc (Below.refl _ _) _) _) _) hb1)
  clear c0 c1 c2 c3 c4 c5 c6 c7 z4 hb1
  go_wp2_with fail
  refine gen_world (fun W' => Below w.heap.size w W' ∧ W'.cell? ⟨w.heap.size, 0, none⟩ = some (.bool (!t)) ∧ W'.cell? ⟨w.heap.size, 1, none⟩ = some (.slice ao a.length ca) ∧ W'.cell? ⟨w.heap.size + 1, 0, none⟩ = some (.bool t) ∧ W'.cell? ⟨w.heap.size + 1, 1, none⟩ = some (.slice bo b.length cb) ∧ W'.cell? ⟨w.heap.size + 2, 0, none⟩ = some (.bool false) ∧ W'.cell? ⟨w.heap.size + 2, 1, none⟩ = some (.slice none 0 0) ∧ W'.frozen? ⟨w.heap.size + 2, 0, none⟩ = false ∧ W'.frozen? ⟨w.heap.size + 2, 1, none⟩ = false) ⟨by repeat (first | exact hB.out | refine Below.drew ?_ | refine bl_drewN ?_ _), by first | (simp [go_sem, *]; done) | assumption, by first | (simp [go_sem, *]; done) | assumption, by first | (simp [go_sem, *]; done) | assumption, by first | (simp [go_sem, *]; done) | assumption, by first | (simp [go_sem, *]; done) | assumption, by first | (simp [go_sem, *]; done) | assumption, by first | (simp [go_sem, *]; done) | assumption, by first | (simp [go_sem, *]; done) | assumption⟩ ?_
  clear k0 k1 k2 k3 k4 k5 k6 k7 hB
  rintro W ⟨B, n0, n1, n2, n3, r0, r1, f0, f1⟩
  have zr := lt_of_cell r0
  go_region_held3 (fun X => X.cell? ⟨w.heap.size, 0, none⟩ = some (.bool (!t)) ∧ X.cell? ⟨w.heap.size, 1, none⟩ = some (.slice ao a.length ca) ∧ X.cell? ⟨w.heap.size + 1, 0, none⟩ = some (.bool t) ∧ X.cell? ⟨w.heap.size + 1, 1, none⟩ = some (.slice bo b.length cb)) (((try dsimp only); first | (simp [go_sem, *]; done) | exact ⟨keepc (W := W) (by repeat (first | exact Below.refl _ _ | refine bl_alloc ?_ _ | refine Below.drew ?_ | refine bl_drewN ?_ _ | refine bl_set ?_ (by omega) _ | refine bl_step ?_ (by assumption))) n0, keepc (W := W) (by repeat (first | exact Below.refl _ _ | refine bl_alloc ?_ _ | refine Below.drew ?_ | refine bl_drewN ?_ _ | refine bl_set ?_ (by omega) _ | refine bl_step ?_ (by assumption))) n1, keepc (W := W) (by repeat (first | exact Below.refl _ _ | refine bl_alloc ?_ _ | refine Below.drew ?_ | refine bl_drewN ?_ _ | refine bl_set ?_ (by omega) _ | refine bl_step ?_ (by assumption))) n2, keepc (W := W) (by repeat (first | exact Below.refl _ _ | refine bl_alloc ?_ _ | refine Below.drew ?_ | refine bl_drewN ?_ _ | refine bl_set ?_ (by omega) _ | refine bl_step ?_ (by assumption))) n3⟩))
    (first
      | (go_at_call 76; refine (minus_any b a _ _ _ (HB.out.below (bl_step B (by repeat (first | exact Below.refl _ _ | refine bl_alloc ?_ _ | refine Below.drew ?_ | refine bl_drewN ?_ _ | refine bl_set ?_ (by omega) _ | refine bl_step ?_ (by assumption))))) (HA.out.below (bl_step B (by repeat (first | exact Below.refl _ _ | refine bl_alloc ?_ _ | refine Below.drew ?_ | refine bl_drewN ?_ _ | refine bl_set ?_ (by omega) _ | refine bl_step ?_ (by assumption))))) DB.out DA.out (by omega)).mono ?_; rintro e w2 ⟨v1, rfl, o1, hb2⟩; obtain ⟨ao1, cap1, rfl, -⟩ := (Rd.own o1).parts; have O1 := hid1 (Rd.own o1); clear o1)
      | (go_at_call 51; refine (trim_num (m + n) t _ (mrow b a b.length) _ (O1.out.below (by repeat (first | exact Below.refl _ _ | refine bl_alloc ?_ _ | refine Below.drew ?_ | refine bl_drewN ?_ _ | refine bl_set ?_ (by omega) _ | refine bl_step ?_ (by assumption)))) (mrow_dg DB.out DA.out _) (by rw [V1.out, EA.out, EB.out, S3.out]) S1.out S2.out).mono ?_; rintro e w3 ⟨y, s2, ao2, m2, cap2, rfl, rfl, hy, hb3⟩; have HY := hid1 hy; clear hy; have hb : Below W.heap.size W w3 := (by repeat (first | exact Below.refl _ _ | refine bl_alloc ?_ _ | refine Below.drew ?_ | refine bl_drewN ?_ _ | refine bl_set ?_ (by omega) _ | refine bl_step ?_ (by assumption))); have p0 := keepc hb n0; have p1 := keepc hb n1; have p2 := keepc hb n2; have p3 := keepc hb n3; have q0 := keepc hb r0; have q1 := keepc hb r1; have g0 := keepf hb zr f0; have g1 := keepf hb zr f1; have hBB : Hid (Below w.heap.size w w3) := hid1 (bl_step B hb)))
  go_wp2_with fail
  simp [bodyPost, results, Tryd.results46, go_sem, q0, q1]
  exact big_ret HY.out hBB.out (by omega) ⟨_, q0⟩ _ _

theorem radd_any (m n : Int) (x y : Value) (w : World) (hx : Bg w x m) (hy : Bg w y n) (hm : (m.natAbs : Int) < 65536 ^ 40) (hn : (n.natAbs : Int) < 65536 ^ 40) :
    Calls Tryd.prog 46 #[x, y] w fun e w' => ∃ z, e = .returned z ∧ Bg w' z (m + n) ∧ Below w.heap.size w w' := by
  by_cases hs : decide (m < 0) = decide (n < 0)
  · exact add_same m n x y w hx hy hm hn hs
  · have hs' : decide (m < 0) = !decide (n < 0) := by
      cases h1 : decide (m < 0) <;> cases h2 : decide (n < 0) <;> simp_all
    by_cases hle : n.natAbs ≤ m.natAbs
    · exact add_ge m n x y w hx hy hm hn hs' hle
    · exact add_lt m n x y w hx hy hm hn hs' (by omega)
