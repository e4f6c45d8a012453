import Derived.Test.YtffhbfdbahdhoabQAFoldScript
import Derived.Deep.RegionHeld3
namespace Go.Proofs.Ytffhbfdbahdhoab.Wd
open Go.RowKit Go.Shelf

/-- The value x is the number n in this world: its sign, its digits, none too many. -/
def Bg (w : World) (x : Value) (n : Int) : Prop :=
  ∃ v ds, x = .agg #[.bool (decide (n < 0)), v] ∧ Rd w v ds ∧ Dg ds ∧ Tr ds ∧ val ds = (n.natAbs : Int)
theorem Bg.below {w w' : World} {x : Value} {n : Int} (h : Bg w x n) (hb : Below w.heap.size w w') : Bg w' x n := by
  obtain ⟨v, ds, h1, h2, h3, h4, h5⟩ := h
  exact ⟨v, ds, h1, h2.below hb, h3, h4, h5⟩
theorem val_zero {ds : List Int} (hd : Dg ds) (ht : Tr ds) : val ds = 0 ↔ ds = [] := by
  constructor
  · intro h
    rcases Nat.eq_zero_or_pos ds.length with h0 | h0
    · exact List.eq_nil_of_length_eq_zero h0
    · have h1 : Dg ([] : List Int) := fun _ h => by simp at h
      have := cmp_len h1 hd ht h0
      simp only [val] at this
      omega
  · intro h; rw [h]; rfl
/-- A number that is small has few digits. -/
theorem len_le {ds : List Int} (hd : Dg ds) (ht : Tr ds) {k : Nat} (h : val ds < 65536 ^ k) : ds.length ≤ k := by
  rcases Nat.lt_or_ge k ds.length with h1 | h1
  · exfalso
    rcases ht with rfl | h2
    · simp at h1
    · have h3 := dat_bd hd (ds.length - 1)
      have h4 := val_take ds (ds.length - 1)
      rw [show ds.length - 1 + 1 = ds.length by omega, List.take_length] at h4
      have h5 := val_nonneg (take_dg hd (ds.length - 1))
      have h6 : (65536 : Int) ^ (ds.length - 1) * 1 ≤ 65536 ^ (ds.length - 1) * dat ds (ds.length - 1) := Int.mul_le_mul_of_nonneg_left (by omega) (Int.le_of_lt (pow_pos' _))
      have h7 : (65536 : Int) ^ k ≤ 65536 ^ (ds.length - 1) := pow_le_pow' (by omega)
      omega
  · exact h1
/-- What trim hands out is the number. -/
theorem trim_bg {w : World} {v : Value} {ds : List Int} {s : Bool} {n : Int} (r : Rd w v (trimL ds)) (hd : Dg ds) (hv : val ds = (n.natAbs : Int)) (hs : 0 < n → s = false) (hs' : n < 0 → s = true) : Bg w (bv (s && !(trimL ds).isEmpty) v) n := by
  have h1 := trimL_dg hd
  have h2 := trimL_tr ds
  have h3 : val (trimL ds) = (n.natAbs : Int) := by rw [trimL_val, hv]
  refine ⟨v, trimL ds, ?_, r, h1, h2, h3⟩
  have h4 := val_zero h1 h2
  rcases Int.lt_trichotomy n 0 with h | h | h
  · have h5 : ¬ trimL ds = [] := fun e => by have := h4.2 e; omega
    have h6 : (trimL ds).isEmpty = false := by simpa using h5
    simp [bv, hs' h, h6, h]
  · have h5 : trimL ds = [] := h4.1 (by rw [h3, h]; rfl)
    simp [bv, h5, h]
  · have h5 := hs h
    simp [bv, h5]; omega

theorem trim_num (n : Int) (s : Bool) (v : Value) (ds : List Int) (w : World) (r : Rd w v ds) (hd : Dg ds) (hv : val ds = (n.natAbs : Int)) (hs : 0 < n → s = false) (hs' : n < 0 → s = true) :
    Calls Try.prog 57 #[.agg #[.bool s, v]] w fun e w' => ∃ x b ao m cap, e = .returned x ∧ x = .agg #[.bool b, .slice ao m cap] ∧ Bg w' x n ∧ Below w.heap.size w w' := by
  refine (trim_any s v ds w r).mono ?_
  rintro e w' ⟨v', rfl, r', hb⟩
  obtain ⟨ao, cap, rfl, _⟩ := r'.parts
  exact ⟨_, _, ao, _, cap, rfl, rfl, trim_bg r' hd hv hs hs', hb⟩

theorem Rd.set {w : World} {v x : Value} {ds : List Int} {b o : Nat} (h : Rd w v ds) (hb : ∃ s, w.cell? ⟨b, 0, none⟩ = some (.bool s)) : Rd (w.setCell ⟨b, o, none⟩ x) v ds := by
  rcases h with h | ⟨g, cap, h1, h2, h3, h4, h5⟩
  · exact .inl h
  · refine .inr ⟨g, cap, h1, h2, h3, by simpa using h4, fun k d hk => ?_⟩
    have hne : g ≠ b := by
      intro e
      obtain ⟨s, hs⟩ := hb
      have h0 : 0 < ds.length := Nat.lt_of_le_of_lt (Nat.zero_le k) (List.getElem?_eq_some_iff.1 hk).1
      have := h5 0 _ (dat_of h0)
      rw [e, hs] at this
      simp at this
    have := h5 k d hk
    have hne' : ¬ b = g := fun e => hne e.symm
    first | (simp [go_sem, this]; done) | simp [go_sem, hne', this]
theorem Bg.set {w : World} {x y : Value} {n : Int} {b o : Nat} (h : Bg w x n) (hb : ∃ s, w.cell? ⟨b, 0, none⟩ = some (.bool s)) : Bg (w.setCell ⟨b, o, none⟩ y) x n := by
  obtain ⟨v, ds, h1, h2, h3, h4, h5⟩ := h
  exact ⟨v, ds, h1, h2.set hb, h3, h4, h5⟩

/-- The answer's two cells are written, and the number stands. -/
theorem big_ret {w w1 : World} {b : Nat} {y : Value} {n : Int} (h : Bg w1 y n) (hB : Below w.heap.size w w1) (hb : w.heap.size ≤ b) (c : ∃ s, w1.cell? ⟨b, 0, none⟩ = some (.bool s)) (s' : Bool) (v' : Value) :
    Bg ((w1.setCell ⟨b, 0, none⟩ (.bool s')).setCell ⟨b, 1, none⟩ v') y n ∧ Below w.heap.size w ((w1.setCell ⟨b, 0, none⟩ (.bool s')).setCell ⟨b, 1, none⟩ v') := by
  refine ⟨(h.set c).set ?_, bl_set (bl_set hB hb _) hb _⟩
  obtain ⟨s, c⟩ := c
  exact ⟨s', by simp [go_sem, c]⟩

set_option maxHeartbeats 1600000 in
set_option maxRecDepth 100000 in
theorem rneg_any (n : Int) (x : Value) (w : World) (h : Bg w x n) :
    Calls Try.prog 56 #[x] w fun e w' => ∃ y, e = .returned y ∧ Bg w' y (-n) ∧ Below w.heap.size w w' := by
  obtain ⟨v, ds, rfl, h2, h3, h4, h5⟩ := h
  obtain ⟨ao, cap, rfl, _⟩ := h2.parts
  have H2 := hid1 h2
  have H3 := hid1 h3
  have H5 := hid1 h5
  clear h2 h3 h4 h5
  go_enter Try.func56, Try.ntmps56
  go_wp2_with fail
  refine (trim_num (-n) (!decide (n < 0)) _ ds _ (H2.out.below (bl_alloc (bl_alloc (Below.refl _ _) _) _)) H3.out (by rw [H5.out]; omega) (by simp) (by simp; omega)).mono ?_
  rintro e w1 ⟨y, b, ao', m, cap', rfl, rfl, hy, hb1⟩
  have HY := hid1 hy
  clear hy
  have c2 := keepc hb1 (new0' (w.alloc (.cells #[.bool (decide (n < 0)), .slice ao ds.length cap] 76)) (.bool false) (.slice none 0 0) 76)
  have c3 := keepc hb1 (new1' (w.alloc (.cells #[.bool (decide (n < 0)), .slice ao ds.length cap] 76)) (.bool false) (.slice none 0 0) 76)
  have f2 := keepf hb1 (newlt' _ _) (newf' (w.alloc (.cells #[.bool (decide (n < 0)), .slice ao ds.length cap] 76)) (.bool false) (.slice none 0 0) 76 0)
  have f3 := keepf hb1 (newlt' _ _) (newf' (w.alloc (.cells #[.bool (decide (n < 0)), .slice ao ds.length cap] 76)) (.bool false) (.slice none 0 0) 76 1)
  have hB : Hid (Below w.heap.size w w1) := hid1 (bl_step (bl_alloc (bl_alloc (Below.refl _ _) _) _) hb1)
  have hz := hb1.size
  simp at hz c2 c3 f2 f3
  clear hb1
  go_wp2
  simp [bodyPost, results, Try.results56, go_sem, c2, c3]
  exact big_ret HY.out hB.out (by omega) ⟨_, c2⟩ _ _
end Go.Proofs.Ytffhbfdbahdhoab.Wd
namespace Go.Proofs.Ytffhbfdbahdhoab.Wd
open Go.RowKit Go.Shelf
attribute [local go_sem ↓] Go.wp_at_zero Go.wp_at_succ

/-- Three blocks of two cells each, made one after the other. -/
theorem three (w : World) (a0 a1 b0 b1 c0 c1 : Value) (t : TypeId) :
    (((w.alloc (.cells #[a0, a1] t)).alloc (.cells #[b0, b1] t)).alloc (.cells #[c0, c1] t)).cell? ⟨w.heap.size, 0, none⟩ = some a0
    ∧ (((w.alloc (.cells #[a0, a1] t)).alloc (.cells #[b0, b1] t)).alloc (.cells #[c0, c1] t)).cell? ⟨w.heap.size, 1, none⟩ = some a1
    ∧ (((w.alloc (.cells #[a0, a1] t)).alloc (.cells #[b0, b1] t)).alloc (.cells #[c0, c1] t)).cell? ⟨w.heap.size + 1, 0, none⟩ = some b0
    ∧ (((w.alloc (.cells #[a0, a1] t)).alloc (.cells #[b0, b1] t)).alloc (.cells #[c0, c1] t)).cell? ⟨w.heap.size + 1, 1, none⟩ = some b1
    ∧ (((w.alloc (.cells #[a0, a1] t)).alloc (.cells #[b0, b1] t)).alloc (.cells #[c0, c1] t)).cell? ⟨w.heap.size + 2, 0, none⟩ = some c0
    ∧ (((w.alloc (.cells #[a0, a1] t)).alloc (.cells #[b0, b1] t)).alloc (.cells #[c0, c1] t)).cell? ⟨w.heap.size + 2, 1, none⟩ = some c1
    ∧ (((w.alloc (.cells #[a0, a1] t)).alloc (.cells #[b0, b1] t)).alloc (.cells #[c0, c1] t)).frozen? ⟨w.heap.size + 2, 0, none⟩ = false
    ∧ (((w.alloc (.cells #[a0, a1] t)).alloc (.cells #[b0, b1] t)).alloc (.cells #[c0, c1] t)).frozen? ⟨w.heap.size + 2, 1, none⟩ = false := by
  refine ⟨keepc (W := w.alloc _) (bl_alloc (bl_alloc (Below.refl _ _) _) _) (new0' w _ _ _), keepc (W := w.alloc _) (bl_alloc (bl_alloc (Below.refl _ _) _) _) (new1' w _ _ _), ?_, ?_, ?_, ?_, ?_, ?_⟩
  · simpa using keepc (W := (w.alloc (.cells #[a0, a1] t)).alloc (.cells #[b0, b1] t)) (bl_alloc (Below.refl _ _) (.cells #[c0, c1] t)) (new0' (w.alloc (.cells #[a0, a1] t)) _ _ _)
  · simpa using keepc (W := (w.alloc (.cells #[a0, a1] t)).alloc (.cells #[b0, b1] t)) (bl_alloc (Below.refl _ _) (.cells #[c0, c1] t)) (new1' (w.alloc (.cells #[a0, a1] t)) _ _ _)
  · simpa using new0' ((w.alloc (.cells #[a0, a1] t)).alloc (.cells #[b0, b1] t)) c0 c1 t
  · simpa using new1' ((w.alloc (.cells #[a0, a1] t)).alloc (.cells #[b0, b1] t)) c0 c1 t
  · simpa using newf' ((w.alloc (.cells #[a0, a1] t)).alloc (.cells #[b0, b1] t)) c0 c1 t 0
  · simpa using newf' ((w.alloc (.cells #[a0, a1] t)).alloc (.cells #[b0, b1] t)) c0 c1 t 1

set_option maxHeartbeats 3200000 in
set_option maxRecDepth 100000 in
theorem add_same (m n : Int) (x y : Value) (w : World) (hx : Bg w x m) (hy : Bg w y n) (hm : (m.natAbs : Int) < 65536 ^ 40) (hn : (n.natAbs : Int) < 65536 ^ 40) (hs : decide (m < 0) = decide (n < 0)) :
    Calls Try.prog 45 #[x, y] w fun e w' => ∃ z, e = .returned z ∧ Bg w' z (m + n) ∧ Below w.heap.size w w' := by
  obtain ⟨va, a, rfl, ra, da, ta, ea⟩ := hx
  obtain ⟨vb, b, rfl, rb, db, tb, eb⟩ := hy
  have la : a.length ≤ 40 := len_le da ta (by rw [ea]; exact hm)
  have lb : b.length ≤ 40 := len_le db tb (by rw [eb]; exact hn)
  obtain ⟨ao, ca, rfl, -⟩ := ra.parts
  obtain ⟨bo, cb, rfl, -⟩ := rb.parts
  have HA := hid1 ra
  have HB := hid1 rb
  have DA := hid1 da
  have DB := hid1 db
  have TA := hid1 ta
  have TB := hid1 tb
  have EA := hid1 ea
  have EB := hid1 eb
  clear ra rb da db ta tb ea eb hm hn
  have S1 : Hid (0 < m + n → decide (m < 0) = false) := hid1 (by intro h; by_cases h1 : m < 0 <;> by_cases h2 : n < 0 <;> simp_all <;> omega)
  have S2 : Hid (m + n < 0 → decide (m < 0) = true) := hid1 (by intro h; by_cases h1 : m < 0 <;> by_cases h2 : n < 0 <;> simp_all <;> omega)
  have S3 : Hid (((m + n).natAbs : Int) = (m.natAbs : Int) + n.natAbs) := hid1 (by by_cases h1 : m < 0 <;> by_cases h2 : n < 0 <;> simp_all <;> omega)
  generalize decide (m < 0) = s at *
  generalize decide (n < 0) = t at *
  subst hs
  go_enter Try.func45, Try.ntmps45
  go_wp2_with fail
  refine gen_world (fun W' => Below w.heap.size w W' ∧ W'.cell? ⟨w.heap.size, 0, none⟩ = some (.bool s) ∧ W'.cell? ⟨w.heap.size, 1, none⟩ = some (.slice ao a.length ca) ∧ W'.cell? ⟨w.heap.size + 1, 0, none⟩ = some (.bool s) ∧ W'.cell? ⟨w.heap.size + 1, 1, none⟩ = some (.slice bo b.length cb) ∧ W'.cell? ⟨w.heap.size + 2, 0, none⟩ = some (.bool false) ∧ W'.cell? ⟨w.heap.size + 2, 1, none⟩ = some (.slice none 0 0) ∧ W'.frozen? ⟨w.heap.size + 2, 0, none⟩ = false ∧ W'.frozen? ⟨w.heap.size + 2, 1, none⟩ = false) ⟨by repeat (first | exact Below.refl _ _ | refine bl_alloc ?_ _ | refine Below.drew ?_ | refine bl_drewN ?_ _ | refine bl_set ?_ (by omega) _ | refine bl_step ?_ (by assumption)), three w _ _ _ _ _ _ _⟩ ?_
  rintro W ⟨B, n0, n1, n2, n3, r0, r1, f0, f1⟩
  have zr := lt_of_cell r0
  go_region_held3 (fun X => X.cell? ⟨w.heap.size, 0, none⟩ = some (.bool s) ∧ X.cell? ⟨w.heap.size, 1, none⟩ = some (.slice ao a.length ca) ∧ X.cell? ⟨w.heap.size + 1, 0, none⟩ = some (.bool s) ∧ X.cell? ⟨w.heap.size + 1, 1, none⟩ = some (.slice bo b.length cb)) (((try dsimp only); first | (simp [go_sem, *]; done) | exact ⟨keepc (W := W) (by repeat (first | exact Below.refl _ _ | refine bl_alloc ?_ _ | refine Below.drew ?_ | refine bl_drewN ?_ _ | refine bl_set ?_ (by omega) _ | refine bl_step ?_ (by assumption))) n0, keepc (W := W) (by repeat (first | exact Below.refl _ _ | refine bl_alloc ?_ _ | refine Below.drew ?_ | refine bl_drewN ?_ _ | refine bl_set ?_ (by omega) _ | refine bl_step ?_ (by assumption))) n1, keepc (W := W) (by repeat (first | exact Below.refl _ _ | refine bl_alloc ?_ _ | refine Below.drew ?_ | refine bl_drewN ?_ _ | refine bl_set ?_ (by omega) _ | refine bl_step ?_ (by assumption))) n2, keepc (W := W) (by repeat (first | exact Below.refl _ _ | refine bl_alloc ?_ _ | refine Below.drew ?_ | refine bl_drewN ?_ _ | refine bl_set ?_ (by omega) _ | refine bl_step ?_ (by assumption))) n3⟩))
    (first
      | (go_at_call 59; refine (plus_digits a b _ _ _ (HA.out.below (bl_step B (by repeat (first | exact Below.refl _ _ | refine bl_alloc ?_ _ | refine Below.drew ?_ | refine bl_drewN ?_ _ | refine bl_set ?_ (by omega) _ | refine bl_step ?_ (by assumption))))) (HB.out.below (bl_step B (by repeat (first | exact Below.refl _ _ | refine bl_alloc ?_ _ | refine Below.drew ?_ | refine bl_drewN ?_ _ | refine bl_set ?_ (by omega) _ | refine bl_step ?_ (by assumption))))) DA.out DB.out (by omega) (by omega)).mono ?_; rintro e w1 ⟨v1, rfl, ds, o1, d1, e1, l1, hb1⟩; obtain ⟨ao1, cap1, rfl, -⟩ := (Rd.own o1).parts; have O1 := hid1 (Rd.own o1); have D1 := hid1 d1; have E1 := hid1 e1; clear o1 d1 e1 l1)
      | (go_at_call 57; refine (trim_num (m + n) s _ ds _ (O1.out.below (by repeat (first | exact Below.refl _ _ | refine bl_alloc ?_ _ | refine Below.drew ?_ | refine bl_drewN ?_ _ | refine bl_set ?_ (by omega) _ | refine bl_step ?_ (by assumption)))) D1.out (by rw [E1.out, EA.out, EB.out, S3.out]) S1.out S2.out).mono ?_; rintro e w2 ⟨y, s2, ao2, m2, cap2, rfl, rfl, hy, hb2⟩; have HY := hid1 hy; clear hy; have hb : Below W.heap.size W w2 := (by repeat (first | exact Below.refl _ _ | refine bl_alloc ?_ _ | refine Below.drew ?_ | refine bl_drewN ?_ _ | refine bl_set ?_ (by omega) _ | refine bl_step ?_ (by assumption))); have p0 := keepc hb n0; have p1 := keepc hb n1; have p2 := keepc hb n2; have p3 := keepc hb n3; have q0 := keepc hb r0; have q1 := keepc hb r1; have g0 := keepf hb zr f0; have g1 := keepf hb zr f1; have hBB : Hid (Below w.heap.size w w2) := hid1 (bl_step B hb)))
  go_wp2_with fail
  simp [bodyPost, results, Try.results45, go_sem, q0, q1]
  exact big_ret HY.out hBB.out (by omega) ⟨_, q0⟩ _ _
end Go.Proofs.Ytffhbfdbahdhoab.Wd
namespace Go.Proofs.Ytffhbfdbahdhoab.Wd
open Go.RowKit Go.Shelf
attribute [local go_sem ↓] Go.wp_at_zero Go.wp_at_succ

set_option maxHeartbeats 3200000 in
set_option maxRecDepth 100000 in
theorem add_ge (m n : Int) (x y : Value) (w : World) (hx : Bg w x m) (hy : Bg w y n) (hm : (m.natAbs : Int) < 65536 ^ 40) (hn : (n.natAbs : Int) < 65536 ^ 40) (hs : decide (m < 0) = !decide (n < 0)) (hle : n.natAbs ≤ m.natAbs) :
    Calls Try.prog 45 #[x, y] w fun e w' => ∃ z, e = .returned z ∧ Bg w' z (m + n) ∧ Below w.heap.size w w' := by
  obtain ⟨va, a, rfl, ra, da, ta, ea⟩ := hx
  obtain ⟨vb, b, rfl, rb, db, tb, eb⟩ := hy
  have la : a.length ≤ 40 := len_le da ta (by rw [ea]; exact hm)
  have lb : b.length ≤ 40 := len_le db tb (by rw [eb]; exact hn)
  obtain ⟨ao, ca, rfl, -⟩ := ra.parts
  obtain ⟨bo, cb, rfl, -⟩ := rb.parts
  have HA := hid1 ra
  have HB := hid1 rb
  have DA := hid1 da
  have DB := hid1 db
  have TA := hid1 ta
  have TB := hid1 tb
  have EA := hid1 ea
  have EB := hid1 eb
  clear ra rb da db ta tb ea eb hm hn
  have S1 : Hid (0 < m + n → decide (m < 0) = false) := hid1 (by intro h; by_cases h1 : m < 0 <;> by_cases h2 : n < 0 <;> simp_all <;> omega)
  have S2 : Hid (m + n < 0 → decide (m < 0) = true) := hid1 (by intro h; by_cases h1 : m < 0 <;> by_cases h2 : n < 0 <;> simp_all <;> omega)
  have S3 : Hid (((m + n).natAbs : Int) = (m.natAbs : Int) - n.natAbs) := hid1 (by by_cases h1 : m < 0 <;> by_cases h2 : n < 0 <;> simp_all <;> omega)
  have L1 : b.length ≤ a.length := by
    rcases Nat.lt_or_ge a.length b.length with h | h
    · exfalso; have := cmp_len DA.out DB.out TB.out h; rw [EA.out, EB.out] at this; omega
    · exact h
  have V1 := hid1 (owe_end DA.out DB.out (by rw [EA.out, EB.out]; omega) L1).2
  have hst : decide (m < 0) = !decide (n < 0) := hs
  have HC : Hid ((val b ≤ val a) = True) := hid1 (by rw [EA.out, EB.out]; simp; omega)
  generalize decide (m < 0) = s at *
  generalize decide (n < 0) = t at *
  clear hs L1
  subst hst
  go_enter Try.func45, Try.ntmps45
  go_wp2_with fail
  refine (compare_any a b _ _ _ (HA.out.below (bl_alloc (bl_alloc (bl_alloc (Below.refl _ _) _) _) _)) (HB.out.below (bl_alloc (bl_alloc (bl_alloc (Below.refl _ _) _) _) _)) DA.out DB.out TA.out TB.out (by omega) (by omega)).mono ?_
  rintro e w1 ⟨r, rfl, hr, hb1⟩
  rw [HC.out] at hr
  have hr' : 0 ≤ r := by simpa using hr
  clear hr
  obtain ⟨c0, c1, c2, c3, c4, c5, c6, c7⟩ := three w (.bool (!t)) (.slice ao a.length ca) (.bool t) (.slice bo b.length cb) (.bool false) (.slice none 0 0) 76
  have z4 := lt_of_cell c4
  have k0 := keepc hb1 c0; have k1 := keepc hb1 c1; have k2 := keepc hb1 c2; have k3 := keepc hb1 c3; have k4 := keepc hb1 c4; have k5 := keepc hb1 c5; have k6 := keepf hb1 z4 c6; have k7 := keepf hb1 z4 c7
  have hB : Hid (Below w.heap.size w w1) := hid1 (bl_step (bl_alloc (bl_alloc (bl_alloc (Below.refl _ _) _) _) _) hb1)
  clear c0 c1 c2 c3 c4 c5 c6 c7 z4 hb1
  go_wp2_with fail
  refine gen_world (fun W' => Below w.heap.size w W' ∧ W'.cell? ⟨w.heap.size, 0, none⟩ = some (.bool (!t)) ∧ W'.cell? ⟨w.heap.size, 1, none⟩ = some (.slice ao a.length ca) ∧ W'.cell? ⟨w.heap.size + 1, 0, none⟩ = some (.bool t) ∧ W'.cell? ⟨w.heap.size + 1, 1, none⟩ = some (.slice bo b.length cb) ∧ W'.cell? ⟨w.heap.size + 2, 0, none⟩ = some (.bool false) ∧ W'.cell? ⟨w.heap.size + 2, 1, none⟩ = some (.slice none 0 0) ∧ W'.frozen? ⟨w.heap.size + 2, 0, none⟩ = false ∧ W'.frozen? ⟨w.heap.size + 2, 1, none⟩ = false) ⟨by repeat (first | exact hB.out | refine Below.drew ?_ | refine bl_drewN ?_ _), by first | (simp [go_sem, *]; done) | assumption, by first | (simp [go_sem, *]; done) | assumption, by first | (simp [go_sem, *]; done) | assumption, by first | (simp [go_sem, *]; done) | assumption, by first | (simp [go_sem, *]; done) | assumption, by first | (simp [go_sem, *]; done) | assumption, by first | (simp [go_sem, *]; done) | assumption, by first | (simp [go_sem, *]; done) | assumption⟩ ?_
  clear k0 k1 k2 k3 k4 k5 k6 k7 hB
  rintro W ⟨B, n0, n1, n2, n3, r0, r1, f0, f1⟩
  have zr := lt_of_cell r0
  go_region_held3 (fun X => X.cell? ⟨w.heap.size, 0, none⟩ = some (.bool (!t)) ∧ X.cell? ⟨w.heap.size, 1, none⟩ = some (.slice ao a.length ca) ∧ X.cell? ⟨w.heap.size + 1, 0, none⟩ = some (.bool t) ∧ X.cell? ⟨w.heap.size + 1, 1, none⟩ = some (.slice bo b.length cb)) (((try dsimp only); first | (simp [go_sem, *]; done) | exact ⟨keepc (W := W) (by repeat (first | exact Below.refl _ _ | refine bl_alloc ?_ _ | refine Below.drew ?_ | refine bl_drewN ?_ _ | refine bl_set ?_ (by omega) _ | refine bl_step ?_ (by assumption))) n0, keepc (W := W) (by repeat (first | exact Below.refl _ _ | refine bl_alloc ?_ _ | refine Below.drew ?_ | refine bl_drewN ?_ _ | refine bl_set ?_ (by omega) _ | refine bl_step ?_ (by assumption))) n1, keepc (W := W) (by repeat (first | exact Below.refl _ _ | refine bl_alloc ?_ _ | refine Below.drew ?_ | refine bl_drewN ?_ _ | refine bl_set ?_ (by omega) _ | refine bl_step ?_ (by assumption))) n2, keepc (W := W) (by repeat (first | exact Below.refl _ _ | refine bl_alloc ?_ _ | refine Below.drew ?_ | refine bl_drewN ?_ _ | refine bl_set ?_ (by omega) _ | refine bl_step ?_ (by assumption))) n3⟩))
    (first
      | (go_at_call 61; refine (minus_any a b _ _ _ (HA.out.below (bl_step B (by repeat (first | exact Below.refl _ _ | refine bl_alloc ?_ _ | refine Below.drew ?_ | refine bl_drewN ?_ _ | refine bl_set ?_ (by omega) _ | refine bl_step ?_ (by assumption))))) (HB.out.below (bl_step B (by repeat (first | exact Below.refl _ _ | refine bl_alloc ?_ _ | refine Below.drew ?_ | refine bl_drewN ?_ _ | refine bl_set ?_ (by omega) _ | refine bl_step ?_ (by assumption))))) DA.out DB.out (by omega)).mono ?_; rintro e w2 ⟨v1, rfl, o1, hb2⟩; obtain ⟨ao1, cap1, rfl, -⟩ := (Rd.own o1).parts; have O1 := hid1 (Rd.own o1); clear o1)
      | (go_at_call 57; refine (trim_num (m + n) (!t) _ (mrow a b a.length) _ (O1.out.below (by repeat (first | exact Below.refl _ _ | refine bl_alloc ?_ _ | refine Below.drew ?_ | refine bl_drewN ?_ _ | refine bl_set ?_ (by omega) _ | refine bl_step ?_ (by assumption)))) (mrow_dg DA.out DB.out _) (by rw [V1.out, EA.out, EB.out, S3.out]) S1.out S2.out).mono ?_; rintro e w3 ⟨y, s2, ao2, m2, cap2, rfl, rfl, hy, hb3⟩; have HY := hid1 hy; clear hy; have hb : Below W.heap.size W w3 := (by repeat (first | exact Below.refl _ _ | refine bl_alloc ?_ _ | refine Below.drew ?_ | refine bl_drewN ?_ _ | refine bl_set ?_ (by omega) _ | refine bl_step ?_ (by assumption))); have p0 := keepc hb n0; have p1 := keepc hb n1; have p2 := keepc hb n2; have p3 := keepc hb n3; have q0 := keepc hb r0; have q1 := keepc hb r1; have g0 := keepf hb zr f0; have g1 := keepf hb zr f1; have hBB : Hid (Below w.heap.size w w3) := hid1 (bl_step B hb)))
  go_wp2_with fail
  simp [bodyPost, results, Try.results45, go_sem, q0, q1]
  exact big_ret HY.out hBB.out (by omega) ⟨_, q0⟩ _ _

set_option maxHeartbeats 3200000 in
set_option maxRecDepth 100000 in
theorem add_lt (m n : Int) (x y : Value) (w : World) (hx : Bg w x m) (hy : Bg w y n) (hm : (m.natAbs : Int) < 65536 ^ 40) (hn : (n.natAbs : Int) < 65536 ^ 40) (hs : decide (m < 0) = !decide (n < 0)) (hle : m.natAbs < n.natAbs) :
    Calls Try.prog 45 #[x, y] w fun e w' => ∃ z, e = .returned z ∧ Bg w' z (m + n) ∧ Below w.heap.size w w' := by
  obtain ⟨va, a, rfl, ra, da, ta, ea⟩ := hx
  obtain ⟨vb, b, rfl, rb, db, tb, eb⟩ := hy
  have la : a.length ≤ 40 := len_le da ta (by rw [ea]; exact hm)
  have lb : b.length ≤ 40 := len_le db tb (by rw [eb]; exact hn)
  obtain ⟨ao, ca, rfl, -⟩ := ra.parts
  obtain ⟨bo, cb, rfl, -⟩ := rb.parts
  have HA := hid1 ra
  have HB := hid1 rb
  have DA := hid1 da
  have DB := hid1 db
  have TA := hid1 ta
  have TB := hid1 tb
  have EA := hid1 ea
  have EB := hid1 eb
  clear ra rb da db ta tb ea eb hm hn
  have S1 : Hid (0 < m + n → decide (n < 0) = false) := hid1 (by intro h; by_cases h1 : m < 0 <;> by_cases h2 : n < 0 <;> simp_all <;> omega)
  have S2 : Hid (m + n < 0 → decide (n < 0) = true) := hid1 (by intro h; by_cases h1 : m < 0 <;> by_cases h2 : n < 0 <;> simp_all <;> omega)
  have S3 : Hid (((m + n).natAbs : Int) = (n.natAbs : Int) - m.natAbs) := hid1 (by by_cases h1 : m < 0 <;> by_cases h2 : n < 0 <;> simp_all <;> omega)
  have L1 : a.length ≤ b.length := by
    rcases Nat.lt_or_ge b.length a.length with h | h
    · exfalso; have := cmp_len DB.out DA.out TA.out h; rw [EA.out, EB.out] at this; omega
    · exact h
  have V1 := hid1 (owe_end DB.out DA.out (by rw [EA.out, EB.out]; omega) L1).2
  have hst : decide (m < 0) = !decide (n < 0) := hs
  have HC : Hid ((val b ≤ val a) = False) := hid1 (by rw [EA.out, EB.out]; simp; omega)
  generalize decide (m < 0) = s at *
  generalize decide (n < 0) = t at *
  clear hs L1
  subst hst
  go_enter Try.func45, Try.ntmps45
  go_wp2_with fail
  refine (compare_any a b _ _ _ (HA.out.below (bl_alloc (bl_alloc (bl_alloc (Below.refl _ _) _) _) _)) (HB.out.below (bl_alloc (bl_alloc (bl_alloc (Below.refl _ _) _) _) _)) DA.out DB.out TA.out TB.out (by omega) (by omega)).mono ?_
  rintro e w1 ⟨r, rfl, hr, hb1⟩
  rw [HC.out] at hr
  have hr' : ¬ 0 ≤ r := by simpa using hr
  clear hr
  obtain ⟨c0, c1, c2, c3, c4, c5, c6, c7⟩ := three w (.bool (!t)) (.slice ao a.length ca) (.bool t) (.slice bo b.length cb) (.bool false) (.slice none 0 0) 76
  have z4 := lt_of_cell c4
  have k0 := keepc hb1 c0; have k1 := keepc hb1 c1; have k2 := keepc hb1 c2; have k3 := keepc hb1 c3; have k4 := keepc hb1 c4; have k5 := keepc hb1 c5; have k6 := keepf hb1 z4 c6; have k7 := keepf hb1 z4 c7
  have hB : Hid (Below w.heap.size w w1) := hid1 (bl_step (bl_alloc (bl_alloc (bl_alloc (Below.refl _ _) _) _) _) hb1)
  clear c0 c1 c2 c3 c4 c5 c6 c7 z4 hb1
  go_wp2_with fail
  refine gen_world (fun W' => Below w.heap.size w W' ∧ W'.cell? ⟨w.heap.size, 0, none⟩ = some (.bool (!t)) ∧ W'.cell? ⟨w.heap.size, 1, none⟩ = some (.slice ao a.length ca) ∧ W'.cell? ⟨w.heap.size + 1, 0, none⟩ = some (.bool t) ∧ W'.cell? ⟨w.heap.size + 1, 1, none⟩ = some (.slice bo b.length cb) ∧ W'.cell? ⟨w.heap.size + 2, 0, none⟩ = some (.bool false) ∧ W'.cell? ⟨w.heap.size + 2, 1, none⟩ = some (.slice none 0 0) ∧ W'.frozen? ⟨w.heap.size + 2, 0, none⟩ = false ∧ W'.frozen? ⟨w.heap.size + 2, 1, none⟩ = false) ⟨by repeat (first | exact hB.out | refine Below.drew ?_ | refine bl_drewN ?_ _), by first | (simp [go_sem, *]; done) | assumption, by first | (simp [go_sem, *]; done) | assumption, by first | (simp [go_sem, *]; done) | assumption, by first | (simp [go_sem, *]; done) | assumption, by first | (simp [go_sem, *]; done) | assumption, by first | (simp [go_sem, *]; done) | assumption, by first | (simp [go_sem, *]; done) | assumption, by first | (simp [go_sem, *]; done) | assumption⟩ ?_
  clear k0 k1 k2 k3 k4 k5 k6 k7 hB
  rintro W ⟨B, n0, n1, n2, n3, r0, r1, f0, f1⟩
  have zr := lt_of_cell r0
  go_region_held3 (fun X => X.cell? ⟨w.heap.size, 0, none⟩ = some (.bool (!t)) ∧ X.cell? ⟨w.heap.size, 1, none⟩ = some (.slice ao a.length ca) ∧ X.cell? ⟨w.heap.size + 1, 0, none⟩ = some (.bool t) ∧ X.cell? ⟨w.heap.size + 1, 1, none⟩ = some (.slice bo b.length cb)) (((try dsimp only); first | (simp [go_sem, *]; done) | exact ⟨keepc (W := W) (by repeat (first | exact Below.refl _ _ | refine bl_alloc ?_ _ | refine Below.drew ?_ | refine bl_drewN ?_ _ | refine bl_set ?_ (by omega) _ | refine bl_step ?_ (by assumption))) n0, keepc (W := W) (by repeat (first | exact Below.refl _ _ | refine bl_alloc ?_ _ | refine Below.drew ?_ | refine bl_drewN ?_ _ | refine bl_set ?_ (by omega) _ | refine bl_step ?_ (by assumption))) n1, keepc (W := W) (by repeat (first | exact Below.refl _ _ | refine bl_alloc ?_ _ | refine Below.drew ?_ | refine bl_drewN ?_ _ | refine bl_set ?_ (by omega) _ | refine bl_step ?_ (by assumption))) n2, keepc (W := W) (by repeat (first | exact Below.refl _ _ | refine bl_alloc ?_ _ | refine Below.drew ?_ | refine bl_drewN ?_ _ | refine bl_set ?_ (by omega) _ | refine bl_step ?_ (by assumption))) n3⟩))
    (first
      | (go_at_call 61; refine (minus_any b a _ _ _ (HB.out.below (bl_step B (by repeat (first | exact Below.refl _ _ | refine bl_alloc ?_ _ | refine Below.drew ?_ | refine bl_drewN ?_ _ | refine bl_set ?_ (by omega) _ | refine bl_step ?_ (by assumption))))) (HA.out.below (bl_step B (by repeat (first | exact Below.refl _ _ | refine bl_alloc ?_ _ | refine Below.drew ?_ | refine bl_drewN ?_ _ | refine bl_set ?_ (by omega) _ | refine bl_step ?_ (by assumption))))) DB.out DA.out (by omega)).mono ?_; rintro e w2 ⟨v1, rfl, o1, hb2⟩; obtain ⟨ao1, cap1, rfl, -⟩ := (Rd.own o1).parts; have O1 := hid1 (Rd.own o1); clear o1)
      | (go_at_call 57; refine (trim_num (m + n) t _ (mrow b a b.length) _ (O1.out.below (by repeat (first | exact Below.refl _ _ | refine bl_alloc ?_ _ | refine Below.drew ?_ | refine bl_drewN ?_ _ | refine bl_set ?_ (by omega) _ | refine bl_step ?_ (by assumption)))) (mrow_dg DB.out DA.out _) (by rw [V1.out, EA.out, EB.out, S3.out]) S1.out S2.out).mono ?_; rintro e w3 ⟨y, s2, ao2, m2, cap2, rfl, rfl, hy, hb3⟩; have HY := hid1 hy; clear hy; have hb : Below W.heap.size W w3 := (by repeat (first | exact Below.refl _ _ | refine bl_alloc ?_ _ | refine Below.drew ?_ | refine bl_drewN ?_ _ | refine bl_set ?_ (by omega) _ | refine bl_step ?_ (by assumption))); have p0 := keepc hb n0; have p1 := keepc hb n1; have p2 := keepc hb n2; have p3 := keepc hb n3; have q0 := keepc hb r0; have q1 := keepc hb r1; have g0 := keepf hb zr f0; have g1 := keepf hb zr f1; have hBB : Hid (Below w.heap.size w w3) := hid1 (bl_step B hb)))
  go_wp2_with fail
  simp [bodyPost, results, Try.results45, go_sem, q0, q1]
  exact big_ret HY.out hBB.out (by omega) ⟨_, q0⟩ _ _

theorem radd_any (m n : Int) (x y : Value) (w : World) (hx : Bg w x m) (hy : Bg w y n) (hm : (m.natAbs : Int) < 65536 ^ 40) (hn : (n.natAbs : Int) < 65536 ^ 40) :
    Calls Try.prog 45 #[x, y] w fun e w' => ∃ z, e = .returned z ∧ Bg w' z (m + n) ∧ Below w.heap.size w w' := by
  by_cases hs : decide (m < 0) = decide (n < 0)
  · exact add_same m n x y w hx hy hm hn hs
  · have hs' : decide (m < 0) = !decide (n < 0) := by
      cases h1 : decide (m < 0) <;> cases h2 : decide (n < 0) <;> simp_all
    by_cases hle : n.natAbs ≤ m.natAbs
    · exact add_ge m n x y w hx hy hm hn hs' hle
    · exact add_lt m n x y w hx hy hm hn hs' (by omega)
end Go.Proofs.Ytffhbfdbahdhoab.Wd
namespace Go.Proofs.Ytffhbfdbahdhoab.Wd
open Go.RowKit Go.Shelf
attribute [local go_sem ↓] Go.wp_at_zero Go.wp_at_succ

theorem Bg.form {w : World} {x : Value} {n : Int} (h : Bg w x n) : ∃ s ao m cap, x = .agg #[.bool s, .slice ao m cap] := by
  obtain ⟨v, ds, rfl, r, _⟩ := h
  obtain ⟨ao, cap, rfl, _⟩ := r.parts
  exact ⟨_, ao, _, cap, rfl⟩

set_option maxHeartbeats 3200000 in
set_option maxRecDepth 100000 in
theorem rsub_any (m n : Int) (x y : Value) (w : World) (hx : Bg w x m) (hy : Bg w y n) (hm : (m.natAbs : Int) < 65536 ^ 40) (hn : (n.natAbs : Int) < 65536 ^ 40) :
    Calls Try.prog 40 #[x, y] w fun e w' => ∃ z, e = .returned z ∧ Bg w' z (m - n) ∧ Below w.heap.size w w' := by
  have HX := hid1 hx
  have HY := hid1 hy
  have HM := hid1 hm
  have HN : Hid (((-n).natAbs : Int) < 65536 ^ 40) := hid1 ((congrArg (fun k : Nat => (k : Int) < 65536 ^ 40) (Int.natAbs_neg n)).mpr hn)
  clear hm hn
  obtain ⟨s, ao, la, ca, rfl⟩ := hx.form
  obtain ⟨t, bo, lb, cb, rfl⟩ := hy.form
  clear hx hy
  go_enter Try.func40, Try.ntmps40
  go_wp2_with fail
  refine gen_world (fun W' => Below w.heap.size w W' ∧ W'.cell? ⟨w.heap.size, 0, none⟩ = some (.bool s) ∧ W'.cell? ⟨w.heap.size, 1, none⟩ = some (.slice ao la ca) ∧ W'.cell? ⟨w.heap.size + 1, 0, none⟩ = some (.bool t) ∧ W'.cell? ⟨w.heap.size + 1, 1, none⟩ = some (.slice bo lb cb) ∧ W'.cell? ⟨w.heap.size + 2, 0, none⟩ = some (.bool false) ∧ W'.cell? ⟨w.heap.size + 2, 1, none⟩ = some (.slice none 0 0) ∧ W'.frozen? ⟨w.heap.size + 2, 0, none⟩ = false ∧ W'.frozen? ⟨w.heap.size + 2, 1, none⟩ = false) ⟨by repeat (first | exact Below.refl _ _ | refine bl_alloc ?_ _ | refine Below.drew ?_ | refine bl_drewN ?_ _ | refine bl_set ?_ (by omega) _ | refine bl_step ?_ (by assumption)), three w _ _ _ _ _ _ _⟩ ?_
  rintro W ⟨B, n0, n1, n2, n3, r0, r1, f0, f1⟩
  have zr := lt_of_cell r0
  go_region_held3 (fun X => X.cell? ⟨w.heap.size, 0, none⟩ = some (.bool s) ∧ X.cell? ⟨w.heap.size, 1, none⟩ = some (.slice ao la ca) ∧ X.cell? ⟨w.heap.size + 1, 0, none⟩ = some (.bool t) ∧ X.cell? ⟨w.heap.size + 1, 1, none⟩ = some (.slice bo lb cb)) (((try dsimp only); first | (simp [go_sem, *]; done) | exact ⟨keepc (W := W) (by repeat (first | exact Below.refl _ _ | refine bl_alloc ?_ _ | refine Below.drew ?_ | refine bl_drewN ?_ _ | refine bl_set ?_ (by omega) _ | refine bl_step ?_ (by assumption))) n0, keepc (W := W) (by repeat (first | exact Below.refl _ _ | refine bl_alloc ?_ _ | refine Below.drew ?_ | refine bl_drewN ?_ _ | refine bl_set ?_ (by omega) _ | refine bl_step ?_ (by assumption))) n1, keepc (W := W) (by repeat (first | exact Below.refl _ _ | refine bl_alloc ?_ _ | refine Below.drew ?_ | refine bl_drewN ?_ _ | refine bl_set ?_ (by omega) _ | refine bl_step ?_ (by assumption))) n2, keepc (W := W) (by repeat (first | exact Below.refl _ _ | refine bl_alloc ?_ _ | refine Below.drew ?_ | refine bl_drewN ?_ _ | refine bl_set ?_ (by omega) _ | refine bl_step ?_ (by assumption))) n3⟩))
    (first
      | (go_at_call 56; refine (rneg_any n _ _ (HY.out.below (bl_step B (by repeat (first | exact Below.refl _ _ | refine bl_alloc ?_ _ | refine Below.drew ?_ | refine bl_drewN ?_ _ | refine bl_set ?_ (by omega) _ | refine bl_step ?_ (by assumption)))))).mono ?_; rintro e w1 ⟨y1, rfl, hy1, hb1⟩; have HY1 := hid1 hy1; clear hy1)
      | (go_at_call 45; refine (radd_any m (-n) _ _ _ (HX.out.below (bl_step B (by repeat (first | exact Below.refl _ _ | refine bl_alloc ?_ _ | refine Below.drew ?_ | refine bl_drewN ?_ _ | refine bl_set ?_ (by omega) _ | refine bl_step ?_ (by assumption))))) (HY1.out.below (by repeat (first | exact Below.refl _ _ | refine bl_alloc ?_ _ | refine Below.drew ?_ | refine bl_drewN ?_ _ | refine bl_set ?_ (by omega) _ | refine bl_step ?_ (by assumption)))) HM.out HN.out).mono ?_; rintro e w2 ⟨z, rfl, hz, hb2⟩; have HZ := hid1 hz; obtain ⟨s2, ao2, m2, cap2, rfl⟩ := hz.form; clear hz; have hb : Below W.heap.size W w2 := (by repeat (first | exact Below.refl _ _ | refine bl_alloc ?_ _ | refine Below.drew ?_ | refine bl_drewN ?_ _ | refine bl_set ?_ (by omega) _ | refine bl_step ?_ (by assumption))); have p0 := keepc hb n0; have p1 := keepc hb n1; have p2 := keepc hb n2; have p3 := keepc hb n3; have q0 := keepc hb r0; have q1 := keepc hb r1; have g0 := keepf hb zr f0; have g1 := keepf hb zr f1; have hBB : Hid (Below w.heap.size w w2) := hid1 (bl_step B hb)))
  go_wp2_with fail
  simp [bodyPost, results, Try.results40, go_sem, q0, q1]
  rw [Int.sub_eq_add_neg]
  exact big_ret HZ.out hBB.out (by omega) ⟨_, q0⟩ _ _

def sgnOf (d : Int) : Int := if d = 0 then 0 else if d < 0 then -1 else 1
set_option maxHeartbeats 1600000 in
set_option maxRecDepth 100000 in
theorem rcmp_any (m n : Int) (x y : Value) (w : World) (hx : Bg w x m) (hy : Bg w y n) (hm : (m.natAbs : Int) < 65536 ^ 40) (hn : (n.natAbs : Int) < 65536 ^ 40) (d : Int) (hd : m - n = d) :
    Calls Try.prog 44 #[x, y] w fun e w' => e = .returned (.int .i64 (sgnOf d)) ∧ Below w.heap.size w w' := by
  have HX := hid1 hx
  have HY := hid1 hy
  have HM := hid1 hm
  have HN := hid1 hn
  clear hm hn
  obtain ⟨s, ao, la, ca, rfl⟩ := hx.form
  obtain ⟨t, bo, lb, cb, rfl⟩ := hy.form
  clear hx hy
  go_enter Try.func44, Try.ntmps44
  go_wp2_with fail
  refine (rsub_any m n _ _ _ (HX.out.below (by repeat (first | exact Below.refl _ _ | refine bl_alloc ?_ _ | refine Below.drew ?_ | refine bl_drewN ?_ _ | refine bl_set ?_ (by omega) _ | refine bl_step ?_ (by assumption)))) (HY.out.below (by repeat (first | exact Below.refl _ _ | refine bl_alloc ?_ _ | refine Below.drew ?_ | refine bl_drewN ?_ _ | refine bl_set ?_ (by omega) _ | refine bl_step ?_ (by assumption)))) HM.out HN.out).mono ?_
  rintro e w1 ⟨z, rfl, hz, hb1⟩
  have hB : Hid (Below w.heap.size w w1) := hid1 (by repeat (first | exact Below.refl _ _ | refine bl_alloc ?_ _ | refine Below.drew ?_ | refine bl_drewN ?_ _ | refine bl_set ?_ (by omega) _ | refine bl_step ?_ (by assumption)))
  clear hb1
  rw [hd] at hz
  clear hd HX HY HM HN
  obtain ⟨v, ds, rfl, r, dg, tr, ev⟩ := hz
  obtain ⟨ao2, cap2, rfl, -⟩ := r.parts
  have hv := val_zero dg tr
  clear r dg tr
  rcases Int.lt_trichotomy d 0 with h0 | h0 | h0
  · have h1 : ¬ ds = [] := fun e => by have := hv.2 e; omega
    have h2 : ¬ (ds.length : Int) = 0 := by
      intro e
      exact h1 (List.eq_nil_of_length_eq_zero (by omega))
    have H1 : Hid (sgnOf d = -1) := hid1 (by unfold sgnOf; rw [if_neg (by omega), if_pos h0])
    clear hv ev h1
    have h3 : decide (d < 0) = true := decide_eq_true h0
    rw [h3]
    clear h0 h3
    go_wp2
    go_ret
    exact ⟨by rw [H1.out]; rfl, by have hB := hB.out; repeat (first | exact Below.refl _ _ | refine bl_alloc ?_ _ | refine Below.drew ?_ | refine bl_drewN ?_ _ | refine bl_set ?_ (by omega) _ | refine bl_step ?_ (by assumption))⟩
  · subst h0
    have h1 : ds = [] := hv.1 (by rw [ev]; rfl)
    subst h1
    clear hv ev
    go_wp2
    go_ret
    exact ⟨rfl, by have hB := hB.out; repeat (first | exact Below.refl _ _ | refine bl_alloc ?_ _ | refine Below.drew ?_ | refine bl_drewN ?_ _ | refine bl_set ?_ (by omega) _ | refine bl_step ?_ (by assumption))⟩
  · have h1 : ¬ ds = [] := fun e => by have := hv.2 e; omega
    have h2 : ¬ (ds.length : Int) = 0 := by
      intro e
      exact h1 (List.eq_nil_of_length_eq_zero (by omega))
    have H1 : Hid (sgnOf d = 1) := hid1 (by unfold sgnOf; rw [if_neg (by omega), if_neg (by omega)])
    clear hv ev h1
    have h3 : decide (d < 0) = false := decide_eq_false (by omega)
    rw [h3]
    clear h0 h3
    go_wp2
    go_ret
    exact ⟨by rw [H1.out]; rfl, by have hB := hB.out; repeat (first | exact Below.refl _ _ | refine bl_alloc ?_ _ | refine Below.drew ?_ | refine bl_drewN ?_ _ | refine bl_set ?_ (by omega) _ | refine bl_step ?_ (by assumption))⟩
end Go.Proofs.Ytffhbfdbahdhoab.Wd
namespace Go.Proofs.Ytffhbfdbahdhoab.Wd
open Go.RowKit Go.Shelf
attribute [local go_sem ↓] Go.wp_at_zero Go.wp_at_succ

theorem dgs_dg (n : Int) : ∀ k, Dg (dgs n k)
  | 0 => fun _ h => by simp [dgs] at h
  | k + 1 => (dgs_dg n k).snoc (by omega)
theorem dgs_val (n : Int) : ∀ k, val (dgs n k) + 65536 ^ k * shr n k = n
  | 0 => by simp [dgs, shr, val]
  | k + 1 => by
    have ih := dgs_val n k
    simp only [dgs, shr, val_app, dgs_len, val, Int.pow_succ]
    generalize shr n k = s at *
    generalize (65536 : Int) ^ k = p at *
    have e : s % 65536 + 65536 * (s / 65536) = s := Int.emod_add_mul_ediv s 65536
    have e2 : p * (s % 65536) + p * 65536 * (s / 65536) = p * s := by
      rw [Int.mul_assoc, ← Int.mul_add, e]
    have e4 : s % 65536 + 65536 * 0 = s % 65536 := by omega
    rw [e4]; omega
theorem dgs_four {n : Int} (h : U64 n) : val (dgs n 4) = n := by
  have h1 := dgs_val n 4
  have h2 : shr n 4 = 0 := by
    obtain ⟨a, b⟩ := h
    simp only [shr]; omega
  rw [h2] at h1; omega

set_option maxHeartbeats 1600000 in
set_option maxRecDepth 100000 in
theorem rint_nn (n : Int) (h : I64 n) (h0 : 0 ≤ n) (w : World) :
    Calls Try.prog 42 #[.int .i64 n] w fun e w' => ∃ z, e = .returned z ∧ Bg w' z n ∧ Below w.heap.size w w' := by
  obtain ⟨a1, a2⟩ := h
  have hu : U64 n := ⟨by omega, by omega⟩
  have h1 : ¬ n < 0 := by omega
  have HU := hid1 hu
  clear hu
  go_enter Try.func42, Try.ntmps42
  go_wp2_with fail
  refine (digits_any n HU.out _).mono ?_
  rintro e w1 ⟨v, rfl, o1, hb1⟩
  obtain ⟨ao1, cap1, rfl, -⟩ := (Rd.own o1).parts
  have O1 := hid1 (Rd.own o1)
  clear o1
  have c2 := keepc hb1 (new0' w (.bool false) (.slice none 0 0) 76)
  have c3 := keepc hb1 (new1' w (.bool false) (.slice none 0 0) 76)
  have f2 := keepf hb1 (newlt' _ _) (newf' w (.bool false) (.slice none 0 0) 76 0)
  have f3 := keepf hb1 (newlt' _ _) (newf' w (.bool false) (.slice none 0 0) 76 1)
  have hB : Hid (Below w.heap.size w w1) := hid1 (bl_step (bl_alloc (Below.refl _ _) _) hb1)
  clear hb1
  go_wp2_with fail
  refine (trim_num n false _ (dgs n 4) _ O1.out (dgs_dg n 4) (by rw [dgs_four HU.out]; omega) (fun _ => rfl) (fun h => by omega)).mono ?_
  rintro e w2 ⟨y, s2, ao2, m2, cap2, rfl, rfl, hy, hb2⟩
  have HY := hid1 hy
  clear hy
  have q2 := keepc hb2 c2; have q3 := keepc hb2 c3
  have g2 := keepf hb2 (lt_of_cell c2) f2; have g3 := keepf hb2 (lt_of_cell c2) f3
  have hBB : Hid (Below w.heap.size w w2) := hid1 (bl_step hB.out hb2)
  clear hb2 c2 c3 f2 f3
  go_wp2_with fail
  simp [bodyPost, results, Try.results42, go_sem, q2, q3]
  exact big_ret HY.out hBB.out (by omega) ⟨_, q2⟩ _ _

set_option maxHeartbeats 1600000 in
set_option maxRecDepth 100000 in
theorem rint_neg (n : Int) (h : I64 n) (h0 : n < 0) (w : World) :
    Calls Try.prog 42 #[.int .i64 n] w fun e w' => ∃ z, e = .returned z ∧ Bg w' z n ∧ Below w.heap.size w w' := by
  obtain ⟨a1, a2⟩ := h
  have hu : U64 (-n) := ⟨by omega, by omega⟩
  have HU := hid1 hu
  clear hu
  go_enter Try.func42, Try.ntmps42
  go_wp2_with fail
  rw [show -(n + 1) + 1 = -n by omega]
  refine (digits_any (-n) HU.out _).mono ?_
  rintro e w1 ⟨v, rfl, o1, hb1⟩
  obtain ⟨ao1, cap1, rfl, -⟩ := (Rd.own o1).parts
  have O1 := hid1 (Rd.own o1)
  clear o1
  have c2 := keepc hb1 (new0' w (.bool false) (.slice none 0 0) 76)
  have c3 := keepc hb1 (new1' w (.bool false) (.slice none 0 0) 76)
  have f2 := keepf hb1 (newlt' _ _) (newf' w (.bool false) (.slice none 0 0) 76 0)
  have f3 := keepf hb1 (newlt' _ _) (newf' w (.bool false) (.slice none 0 0) 76 1)
  have hB : Hid (Below w.heap.size w w1) := hid1 (bl_step (bl_alloc (Below.refl _ _) _) hb1)
  clear hb1
  go_wp2_with fail
  refine (trim_num n true _ (dgs (-n) 4) _ O1.out (dgs_dg (-n) 4) (by rw [dgs_four HU.out]; omega) (fun h => by omega) (fun _ => rfl)).mono ?_
  rintro e w2 ⟨y, s2, ao2, m2, cap2, rfl, rfl, hy, hb2⟩
  have HY := hid1 hy
  clear hy
  have q2 := keepc hb2 c2; have q3 := keepc hb2 c3
  have g2 := keepf hb2 (lt_of_cell c2) f2; have g3 := keepf hb2 (lt_of_cell c2) f3
  have hBB : Hid (Below w.heap.size w w2) := hid1 (bl_step hB.out hb2)
  clear hb2 c2 c3 f2 f3
  go_wp2_with fail
  simp [bodyPost, results, Try.results42, go_sem, q2, q3]
  exact big_ret HY.out hBB.out (by omega) ⟨_, q2⟩ _ _
theorem rint_any (n : Int) (h : I64 n) (w : World) :
    Calls Try.prog 42 #[.int .i64 n] w fun e w' => ∃ z, e = .returned z ∧ Bg w' z n ∧ Below w.heap.size w w' := by
  by_cases h0 : n < 0
  · exact rint_neg n h h0 w
  · exact rint_nn n h (by omega) w
end Go.Proofs.Ytffhbfdbahdhoab.Wd
namespace Go.Proofs.Ytffhbfdbahdhoab.Wd
open Go.RowKit Go.Shelf
attribute [local go_sem ↓] Go.wp_at_zero Go.wp_at_succ

theorem own_form {w : World} {base : Nat} {e : TypeId} {v : Value} {n : Nat} {xs : List Value} (h : w.ownsRow base e 1 v n xs) : ∃ ao cap, v = .slice ao n cap := by
  rcases h.2 with ⟨h1, h2⟩ | ⟨g, cap, _, h1, _⟩
  · subst h2; exact ⟨none, 0, h1⟩
  · exact ⟨_, cap, h1⟩
theorem grown_keep {W w3 : World} {row : Option Nat} (hg : W.grownBy w3 row) {b : Nat} (hb : b < W.heap.size) (hne : some b ≠ row) (o : Nat) : w3.cell? ⟨b, o, none⟩ = W.cell? ⟨b, o, none⟩ ∧ w3.frozen? ⟨b, o, none⟩ = W.frozen? ⟨b, o, none⟩ :=
  ⟨World.cell?_of_block (a := ⟨b, o, none⟩) (hg.block b hb hne), World.frozen?_of_block (a := ⟨b, o, none⟩) (hg.block b hb hne)⟩
def noughts (k : Nat) : List Int := List.replicate k 0
theorem noughts_snoc (k : Nat) : noughts (k + 1) = noughts k ++ [0] := by simp [noughts, List.replicate_succ']
/-- What power keeps while it appends: the answer's block, the number's block, the row. -/
def Pw (w wr : World) (ao : Option Addr) (k cap : Nat) (ds : List Int) : Prop :=
  wr.ownsRow (w.heap.size + 2) 3 1 (.slice ao k cap) k (ivs ds) ∧ wr.cell? ⟨w.heap.size + 1, 0, none⟩ = some (.bool false) ∧ wr.cell? ⟨w.heap.size + 1, 1, none⟩ = some (.slice ao k cap) ∧ wr.cell? ⟨w.heap.size, 0, none⟩ = some (.bool false) ∧ wr.cell? ⟨w.heap.size, 1, none⟩ = some (.slice none 0 0) ∧ wr.frozen? ⟨w.heap.size, 0, none⟩ = false ∧ wr.frozen? ⟨w.heap.size, 1, none⟩ = false ∧ wr.frozen? ⟨w.heap.size + 1, 1, none⟩ = false ∧ Below w.heap.size w wr ∧ w.heap.size + 2 ≤ wr.heap.size
theorem Pw.append {w wr w3 : World} {ao : Option Addr} {k cap : Nat} {ds : List Int} {o : Obj} {v' : Value} {d : Int} (h : Pw w wr ao k cap ds) (hown' : w3.ownsRow (w.heap.size + 2) 3 1 v' (k + 1) (ivs ds ++ [.int .i64 d])) (hg : (wr.alloc o).grownBy w3 (Value.slice ao k cap).ownBlock) :
    ∃ ao' cap', v' = .slice ao' (k + 1) cap' ∧ w3.cell? ⟨w.heap.size + 1, 1, none⟩ = some (.slice ao k cap) ∧ w3.frozen? ⟨w.heap.size + 1, 1, none⟩ = false ∧ (w3.cell? ⟨w.heap.size + 1, 0, none⟩ = some (.bool false) ∧ w3.cell? ⟨w.heap.size, 0, none⟩ = some (.bool false) ∧ w3.cell? ⟨w.heap.size, 1, none⟩ = some (.slice none 0 0) ∧ w3.frozen? ⟨w.heap.size, 0, none⟩ = false ∧ w3.frozen? ⟨w.heap.size, 1, none⟩ = false) ∧ Pw w (w3.setCell ⟨w.heap.size + 1, 1, none⟩ (.slice ao' (k + 1) cap')) ao' (k + 1) cap' (ds ++ [d]) := by
  obtain ⟨ho, c0, c1, r0, r1, f0, f1, f2, hB, hz⟩ := h
  obtain ⟨ao', cap', rfl⟩ := own_form hown'
  have hne : ∀ b, b < w.heap.size + 2 → some b ≠ (Value.slice ao k cap).ownBlock := fun b hb e => by have := (ho.lt b e.symm).1; omega
  have hzz : (wr.alloc o).heap.size = wr.heap.size + 1 := by simp
  have K : ∀ b off, b < w.heap.size + 2 → w3.cell? ⟨b, off, none⟩ = wr.cell? ⟨b, off, none⟩ ∧ w3.frozen? ⟨b, off, none⟩ = wr.frozen? ⟨b, off, none⟩ := fun b off hb => by
    obtain ⟨e1, e2⟩ := grown_keep hg (b := b) (by omega) (hne b hb) off
    have hb' := bl_alloc (Below.refl wr.heap.size wr) o
    obtain ⟨e3, e4⟩ := bcell hb'
    exact ⟨e1.trans (e3 b off (by omega)), e2.trans (e4 b off (by omega))⟩
  have hsz : w.heap.size + 2 ≤ w3.heap.size := by have := hg.size; omega
  have k0 := (K (w.heap.size + 1) 0 (by omega)).1.trans c0
  have k1 := (K (w.heap.size + 1) 1 (by omega)).1.trans c1
  have k2 := (K w.heap.size 0 (by omega)).1.trans r0
  have k3 := (K w.heap.size 1 (by omega)).1.trans r1
  have k4 := (K w.heap.size 0 (by omega)).2.trans f0
  have k5 := (K w.heap.size 1 (by omega)).2.trans f1
  have k6 := (K (w.heap.size + 1) 1 (by omega)).2.trans f2
  refine ⟨ao', cap', rfl, k1, k6, ⟨k0, k2, k3, k4, k5⟩, ?_⟩
  refine ⟨by rw [ivs_snoc]; exact ownsRow_setCell_below hown' (by simp) _, by simp [go_sem, k0], by simp [go_sem, k1], by simp [go_sem, k2], by simp [go_sem, k3], by simp [go_sem, k4], by simp [go_sem, k5], by simp [go_sem, k6], ?_, by simpa using hsz⟩
  refine bl_set ?_ (by omega) _
  exact (hB.alloc hB.size o).grown hg (by omega) (fun q hq => by have := (ho.lt q hq).1; omega)

theorem pow_digits : val (noughts 8 ++ [1]) = 340282366920938463463374607431768211456 := by decide
theorem pow_dg : Dg (noughts 8 ++ [1]) := by unfold Dg; decide
theorem pow_tr : Tr (noughts 8 ++ [1]) := by unfold Tr; right; decide
end Go.Proofs.Ytffhbfdbahdhoab.Wd
namespace Go.Proofs.Ytffhbfdbahdhoab.Wd
open Go.RowKit Go.Shelf
attribute [local go_sem ↓] Go.wp_at_zero Go.wp_at_succ

theorem own_below {w w' : World} {base : Nat} {e : TypeId} {size : Nat} {v : Value} {n : Nat} {xs : List Value} (h : w.ownsRow base e size v n xs) (hb : Below w.heap.size w w') : w'.ownsRow base e size v n xs :=
  h.kept (row := none) ⟨hb.os, hb.tape, hb.output, hb.size, fun k hk _ => hb.block k hk⟩ (by cases v.ownBlock <;> simp)
theorem own_four {w : World} {base : Nat} {v : Value} {ds : List Int} {k : Nat} (h : w.ownsRow base 3 1 v (k + 1) (ivs ds)) : ∃ g cap, v = .slice (some ⟨g, 0, none⟩) (k + 1) cap ∧ ∀ j u, (ivs ds)[j]? = some u → w.cell? ((⟨g, 0, none⟩ : Addr).add j) = some u := by
  rcases h.2 with ⟨_, h2⟩ | ⟨g, cap, _, h1, _⟩
  · omega
  · exact ⟨g, cap, h1, h.cells (by rw [h1]; rfl)⟩
theorem ivs_one (ds : List Int) : ∀ u ∈ ivs ds, u.oneCell' = true := by
  intro u hu
  simp only [ivs, List.mem_map] at hu
  obtain ⟨d, _, rfl⟩ := hu
  rfl
theorem ivs_app (a b : List Int) : ivs (a ++ b) = ivs a ++ ivs b := by simp [ivs]
theorem wide_dg (l h : Int) : Dg (dgs l 4 ++ dgs h 4) := by
  intro x hx
  rcases List.mem_append.1 hx with hx | hx
  · exact dgs_dg l 4 x hx
  · exact dgs_dg h 4 x hx
theorem wide_digits {l h : Int} (hl : U64 l) (hh : U64 h) : val (dgs l 4 ++ dgs h 4) = h * 18446744073709551616 + l := by
  rw [val_app, dgs_len, dgs_four hl, dgs_four hh]; omega
end Go.Proofs.Ytffhbfdbahdhoab.Wd
namespace Go.Proofs.Ytffhbfdbahdhoab.Wd
open Go.RowKit Go.Shelf
attribute [local go_sem ↓] Go.wp_at_zero Go.wp_at_succ

theorem big_bd {m : Int} (h : -(65536 ^ 16 : Nat) < m ∧ m < (65536 ^ 16 : Nat)) : (m.natAbs : Int) < 65536 ^ 40 := by
  have h1 : (m.natAbs : Int) < ((65536 ^ 16 : Nat) : Int) := by
    generalize (65536 ^ 16 : Nat) = p at *
    omega
  exact Int.lt_of_lt_of_le h1 (by decide)

theorem kps {X : World} {g r : Nat} {u v p q : Value} (a : X.cell? ⟨g, 0, none⟩ = some u) (b : X.cell? ⟨g, 1, none⟩ = some v) (hne : g ≠ r) :
    ((X.setCell ⟨r, 0, none⟩ p).setCell ⟨r, 1, none⟩ q).cell? ⟨g, 0, none⟩ = some u ∧ ((X.setCell ⟨r, 0, none⟩ p).setCell ⟨r, 1, none⟩ q).cell? ⟨g, 1, none⟩ = some v := by
  refine ⟨?_, ?_⟩ <;> simp [go_sem, *]
theorem kpb {W w' : World} {g : Nat} {u v : Value} (hb : Below W.heap.size W w') (a : W.cell? ⟨g, 0, none⟩ = some u) (b : W.cell? ⟨g, 1, none⟩ = some v) : w'.cell? ⟨g, 0, none⟩ = some u ∧ w'.cell? ⟨g, 1, none⟩ = some v := ⟨keepc hb a, keepc hb b⟩
end Go.Proofs.Ytffhbfdbahdhoab.Wd
namespace Go.Proofs.Ytffhbfdbahdhoab.Wd
open Go.RowKit Go.Shelf

/-- One digit times all: the carry ahead of place k, and the digits up to it. -/
def mcr (x : Int) (b : List Int) : Nat → Int
  | 0 => 0
  | k + 1 => (mcr x b k + x * dat b k) / 65536
def mrw (x : Int) (b : List Int) : Nat → List Int
  | 0 => []
  | k + 1 => mrw x b k ++ [(mcr x b k + x * dat b k) % 65536]
theorem mrw_len (x : Int) (b : List Int) : ∀ k, (mrw x b k).length = k
  | 0 => rfl
  | k + 1 => by simp [mrw, mrw_len x b k]
theorem mrw_dg (x : Int) (b : List Int) : ∀ k, Dg (mrw x b k)
  | 0 => fun _ h => by simp [mrw] at h
  | k + 1 => (mrw_dg x b k).snoc (by omega)
theorem dig_mul {x y : Int} (hx : 0 ≤ x ∧ x < 65536) (hy : 0 ≤ y ∧ y < 65536) : 0 ≤ x * y ∧ x * y ≤ 4294836225 := by
  constructor
  · exact Int.mul_nonneg hx.1 hy.1
  · have := Int.mul_le_mul (show x ≤ 65535 by omega) (show y ≤ 65535 by omega) hy.1 (by decide)
    omega
theorem mcr_bd {x : Int} {b : List Int} (hx : 0 ≤ x ∧ x < 65536) (hb : Dg b) : ∀ k, 0 ≤ mcr x b k ∧ mcr x b k < 65536
  | 0 => by simp [mcr]
  | k + 1 => by
    have := mcr_bd hx hb k
    have := dig_mul hx (dat_bd hb k)
    simp only [mcr]; omega
theorem mrw_val (x : Int) (b : List Int) : ∀ k, val (mrw x b k) + 65536 ^ k * mcr x b k = x * val (b.take k)
  | 0 => by simp [mrw, mcr, val]
  | k + 1 => by
    have ih := mrw_val x b k
    rw [val_take]
    simp only [mrw, mcr, val_app, mrw_len, val, Int.pow_succ]
    generalize hs : mcr x b k + x * dat b k = s
    generalize (65536 : Int) ^ k = p at *
    have e : s % 65536 + 65536 * (s / 65536) = s := Int.emod_add_mul_ediv s 65536
    have e2 : p * (s % 65536) + p * 65536 * (s / 65536) = p * s := by
      rw [Int.mul_assoc, ← Int.mul_add, e]
    have e3 : p * s = p * mcr x b k + p * (x * dat b k) := by rw [← hs, Int.mul_add]
    have e4 : s % 65536 + 65536 * 0 = s % 65536 := by omega
    have e5 : x * (val (b.take k) + p * dat b k) = x * val (b.take k) + p * (x * dat b k) := by
      rw [Int.mul_add, ← Int.mul_assoc, ← Int.mul_assoc, Int.mul_comm x p]
    rw [e4, e5]; omega
theorem noughts_val : ∀ k, val (noughts k) = 0
  | 0 => rfl
  | k + 1 => by rw [noughts_snoc, val_app, noughts_val k]; simp [val]
theorem noughts_len (k : Nat) : (noughts k).length = k := by simp [noughts]
theorem noughts_dg (k : Nat) : Dg (noughts k) := by
  intro d h
  simp [noughts] at h
  omega
/-- A whole row: noughts, digits, the last carry. -/
def wrow (x : Int) (b : List Int) (i : Nat) : List Int := noughts i ++ mrw x b b.length ++ [mcr x b b.length]
theorem wrow_len (x : Int) (b : List Int) (i : Nat) : (wrow x b i).length = i + b.length + 1 := by
  simp [wrow, noughts_len, mrw_len]; omega
theorem wrow_dg {x : Int} {b : List Int} (hx : 0 ≤ x ∧ x < 65536) (hb : Dg b) (i : Nat) : Dg (wrow x b i) := by
  refine Dg.snoc ?_ (mcr_bd hx hb _)
  intro d h
  rcases List.mem_append.1 h with h | h
  · exact noughts_dg i d h
  · exact mrw_dg x b _ d h
theorem wrow_val (x : Int) (b : List Int) (i : Nat) : val (wrow x b i) = 65536 ^ i * (x * val b) := by
  have h := mrw_val x b b.length
  rw [List.take_length] at h
  unfold wrow
  rw [List.append_assoc, val_app, noughts_val, noughts_len, val_app, mrw_len]
  have e : val [mcr x b b.length] = mcr x b b.length := by simp [val]
  rw [e, h]; omega
theorem mul_next {a b : List Int} {i : Nat} {s : Int} (hs : s = val (a.take i) * val b) : s + 65536 ^ i * (dat a i * val b) = val (a.take (i + 1)) * val b := by
  rw [val_take, Int.add_mul, hs, Int.mul_assoc]
end Go.Proofs.Ytffhbfdbahdhoab.Wd
namespace Go.Proofs.Ytffhbfdbahdhoab.Wd
open Go.RowKit Go.Shelf
attribute [local go_sem ↓] Go.wp_at_zero Go.wp_at_succ

/-- The three blocks of Mul. -/
def Mb (w W : World) (s t : Bool) (ao bo : Option Addr) (la lb ca cb : Nat) : Prop :=
  W.cell? ⟨w.heap.size, 0, none⟩ = some (.bool s) ∧ W.cell? ⟨w.heap.size, 1, none⟩ = some (.slice ao la ca) ∧ W.cell? ⟨w.heap.size + 1, 0, none⟩ = some (.bool t) ∧ W.cell? ⟨w.heap.size + 1, 1, none⟩ = some (.slice bo lb cb) ∧ W.cell? ⟨w.heap.size + 2, 0, none⟩ = some (.bool false) ∧ W.cell? ⟨w.heap.size + 2, 1, none⟩ = some (.slice none 0 0) ∧ W.frozen? ⟨w.heap.size + 2, 0, none⟩ = false ∧ W.frozen? ⟨w.heap.size + 2, 1, none⟩ = false
theorem Mb.keep {w W W' : World} {s t : Bool} {ao bo : Option Addr} {la lb ca cb : Nat} (h : Mb w W s t ao bo la lb ca cb) (hb : Below W.heap.size W W') : Mb w W' s t ao bo la lb ca cb := by
  obtain ⟨h0, h1, h2, h3, h4, h5, h6, h7⟩ := h
  have lt := lt_of_cell h4
  exact ⟨keepc hb h0, keepc hb h1, keepc hb h2, keepc hb h3, keepc hb h4, keepc hb h5, keepf hb lt h6, keepf hb lt h7⟩
theorem mb_new (w : World) (s t : Bool) (ao bo : Option Addr) (la lb ca cb : Nat) (T1 T2 T3 : TypeId) :
    Mb w (((w.alloc (.cells #[.bool s, .slice ao la ca] T1)).alloc (.cells #[.bool t, .slice bo lb cb] T2)).alloc (.cells #[.bool false, .slice none 0 0] T3)) s t ao bo la lb ca cb := by
  refine ⟨?_, ?_, ?_, ?_, ?_, ?_, ?_, ?_⟩ <;> simp [go_sem]
set_option maxHeartbeats 6400000 in
set_option maxRecDepth 100000 in
theorem mul_digits (a b : List Int) (s t : Bool) (va vb : Value) (N : Int) (w : World) (ra : Rd w va a) (rb : Rd w vb b) (ha : Dg a) (hb : Dg b) (la : a.length ≤ 16) (lb : b.length ≤ 16)
    (hN : val a * val b = (N.natAbs : Int)) (hs : 0 < N → (!s == t) = false) (hs' : N < 0 → (!s == t) = true) :
    Calls Try.prog 43 #[.agg #[.bool s, va], .agg #[.bool t, vb]] w fun e w' => ∃ z, e = .returned z ∧ Bg w' z N ∧ Below w.heap.size w w' := by
  obtain ⟨i0, hi, hz0, hz1, hz2⟩ := info_parts info_int
  obtain ⟨ao, ca, rfl, rda⟩ := ra.parts
  obtain ⟨bo, cb, rfl, rdb⟩ := rb.parts
  have HA := hid1 ha
  have HB := hid1 hb
  have RA := hid1 rda
  have RB := hid1 rdb
  have HN := hid1 hN
  have HS := hid1 (And.intro hs hs')
  clear ha hb rda rdb ra rb hN hs hs'
  go_enter Try.func43, Try.ntmps43
  go_wp2_with fail
  go_loopw [5, 6] (fun dv iv wr => ∃ (i : Nat) (ds : List Int), i ≤ a.length ∧ iv = .int .i64 i ∧ Rd wr dv ds ∧ Dg ds ∧ val ds = val (a.take i) * val b ∧ ds.length ≤ i + b.length + 1 ∧ Below w.heap.size w wr ∧ Mb w wr s t ao bo a.length b.length ca cb) (fun _ iv _ => a.length - (intOf iv).toNat)
  case atStart => exact ⟨0, [], Nat.zero_le _, rfl, .inl ⟨rfl, rfl⟩, fun _ h => by simp at h, by simp [val], by simp, by repeat (first | exact Below.refl _ _ | refine bl_alloc ?_ _ | refine Below.drew ?_ | refine bl_drewN ?_ _ | refine bl_set ?_ (by omega) _ | refine bl_step ?_ (by assumption)), mb_new _ _ _ _ _ _ _ _ _ _ _ _⟩
  case round =>
    rename World => V
    obtain ⟨i, ds, hi1, rfl, rd, dd, hv, hl, hnx, mb⟩ := hrel
    have hsize := hnx.size
    have RD := hid1 rd
    have DD := hid1 dd
    have HV := hid1 hv
    have MB := hid1 mb
    obtain ⟨do_, dc, rfl, _⟩ := rd.parts
    clear rd dd hv
    have ii0 : (0 : Int) ≤ (i : Int) := by omega
    obtain ⟨m0, m1, m2, m3, m4, m5, m6, m7⟩ := mb
    by_cases hlt : i < a.length
    · have ii : (i : Int) < (a.length : Int) := by omega
      go_wp2_with fail
      go_loopw [7, 8] (fun rv kv wq => ∃ (j : Nat), j ≤ i ∧ kv = .int .i64 j ∧ wq.ownsRow V.heap.size 3 1 rv j (ivs (noughts j)) ∧ Below V.heap.size V wq) (fun _ kv _ => i - (intOf kv).toNat)
      case atStart => exact ⟨0, Nat.zero_le _, rfl, World.ownsRow_nil _ _ _ _, Below.refl _ _⟩
      case round =>
        rename World => wq
        obtain ⟨j, hj, rfl, hown, hq⟩ := hrel
        have hsq := hq.size
        obtain ⟨ro, rc, rfl⟩ := own_form hown
        clear m0 m1 m2 m3 m4 m5 m6 m7
        by_cases hlj : j < i
        · go_wp2_with (first | (at_builtin; refine wpList_append_own _ rfl _ _ 74 rfl V.heap.size 3 i0 (.int .i64 0) 1 8 und_ints hi hz0 hz1 hz2 rfl (by decide) _ _ _ rfl (hown.alloc _) ⟨wq.heap.size, 0, none⟩ 1 1 [.int .i64 0] rfl rfl (cell_one_new _ _ _) (fun x hx => by simp at hx; subst hx; rfl) (by unfold maxLen; omega) (by omega) (by simp; omega) ?_; intro v' w3 hown' hgrow3 hnil3))
          exact ⟨⟨j + 1, by omega, by go_num, by rw [noughts_snoc, ivs_snoc]; exact hown', (hq.alloc hsq _).grown hgrow3 (by simp; omega) (fun q hq => (hown.lt q hq).1)⟩, by simp [intOf]; omega⟩
        · have hji : i = j := by omega
          subst hji
          go_wp2_with fail
          go_loopw [7, 9, 10] (fun rv cv kv wz => ∃ (k : Nat), k ≤ b.length ∧ cv = .int .i64 (mcr (dat a i) b k) ∧ kv = .int .i64 k ∧ wz.ownsRow V.heap.size 3 1 rv (i + k) (ivs (noughts i ++ mrw (dat a i) b k)) ∧ Below V.heap.size V wz) (fun _ _ kv _ => b.length - (intOf kv).toNat)
          case atStart => exact ⟨0, Nat.zero_le _, rfl, rfl, by simpa [mrw] using hown, hq⟩
          case round =>
            clear hown hq hsq
            rename World => wz
            obtain ⟨k, hk, rfl, rfl, hown, hz⟩ := hrel
            have hsz := hz.size
            obtain ⟨ro', rc', rfl⟩ := own_form hown
            obtain ⟨m0, m1, m2, m3, m4, m5, m6, m7⟩ := MB.out.keep hz
            have kk0 : (0 : Int) ≤ (k : Int) := by omega
            obtain ⟨d1, d2⟩ := dat_bd HA.out i
            obtain ⟨o1, o2⟩ := mcr_bd ⟨d1, d2⟩ HB.out k
            by_cases hlk : k < b.length
            · have kk : (k : Int) < (b.length : Int) := by omega
              obtain ⟨ga, rfl, xa⟩ := RA.out i hlt
              obtain ⟨gb, rfl, xb⟩ := RB.out k hlk
              replace xa := keepc (bl_step hnx hz) xa
              replace xb := keepc (bl_step hnx hz) xb
              obtain ⟨d3, d4⟩ := dat_bd HB.out k
              have e1 : mrw (dat a i) b (k + 1) = mrw (dat a i) b k ++ [(mcr (dat a i) b k + dat a i * dat b k) % 65536] := rfl
              have e2 : mcr (dat a i) b (k + 1) = (mcr (dat a i) b k + dat a i * dat b k) / 65536 := rfl
              have H3 := hid1 e2
              have H4 := hid1 e1
              clear e1 e2
              obtain ⟨p1, p2⟩ := dig_mul ⟨d1, d2⟩ ⟨d3, d4⟩
              generalize mcr (dat a i) b k = o at *
              generalize dat b k = y at *
              generalize mrw (dat a i) b k = rw_ at *
              generalize dat a i = x at *
              have f1 : wrap64 (x * y) = x * y := by unfold wrap64; omega
              have f2 : wrap64 (o + x * y) = o + x * y := by unfold wrap64; omega
              have f3 : 0 ≤ o + x * y := by omega
              have f4 : o + x * y ≤ 9223372036854775807 := by omega
              go_wp2_with fail
              go_quiet (fail)
              go_wp2_with (first | (at_builtin; refine wpList_append_own _ rfl _ _ 74 rfl V.heap.size 3 i0 (.int .i64 0) 1 8 und_ints hi hz0 hz1 hz2 rfl (by decide) _ _ _ rfl ((own_below hown (bl_drewN (Below.refl _ _) _)).alloc _) ⟨wz.heap.size, 0, none⟩ 1 1 [.int .i64 ((o + x * y) % 65536)] rfl rfl (cell_one_new _ _ _) (fun x hx => by simp at hx; subst hx; rfl) (by unfold maxLen; omega) (by omega) (by simp; omega) ?_; intro v' w3 hown' hgrow3 hnil3))
              exact ⟨⟨k + 1, by omega, by rw [H3.out], by go_num, by rw [H4.out, ← List.append_assoc, ivs_snoc]; exact hown', ((bl_drewN hz _).alloc hsz _).grown hgrow3 (by simp; omega) (fun q hq => (hown.lt q hq).1)⟩, by simp [intOf]; omega⟩
            · have hkb : b.length = k := by omega
              subst hkb
              have ew : noughts i ++ mrw (dat a i) b b.length ++ [mcr (dat a i) b b.length] = wrow (dat a i) b i := rfl
              have EW := hid1 ew
              clear ew
              have DW := hid1 (wrow_dg ⟨d1, d2⟩ HB.out i)
              have VW := hid1 (wrow_val (dat a i) b i)
              have LW := wrow_len (dat a i) b i
              generalize mcr (dat a i) b b.length = o at *
              generalize mrw (dat a i) b b.length = rw_ at *
              generalize wrow (dat a i) b i = W_ at *
              go_wp2_with (first | (at_builtin; refine wpList_append_own _ rfl _ _ 74 rfl V.heap.size 3 i0 (.int .i64 0) 1 8 und_ints hi hz0 hz1 hz2 rfl (by decide) _ _ _ rfl (hown.alloc _) ⟨wz.heap.size, 0, none⟩ 1 1 [.int .i64 o] rfl rfl (cell_one_new _ _ _) (fun x hx => by simp at hx; subst hx; rfl) (by unfold maxLen; omega) (by omega) (by simp; omega) ?_; intro v' w3 hown' hgrow3 hnil3))
              have hB3 : Below V.heap.size V w3 := (hz.alloc hsz _).grown hgrow3 (by simp; omega) (fun q hq => (hown.lt q hq).1)
              have RW : Rd w3 v' W_ := Rd.own (base := V.heap.size) (n := i + b.length + 1) (by rw [← EW.out, ivs_snoc]; exact hown')
              have HB3 := hid1 hB3
              clear hgrow3 hnil3 hown'
              refine (plus_digits ds W_ _ _ _ (RD.out.below HB3.out) RW DD.out DW.out (by omega) (by omega)).mono ?_
              rintro e w4 ⟨v4, rfl, ds4, own4, dg4, val4, len4, hb4⟩
              have G4 := hid1 (And.intro own4 (And.intro dg4 (And.intro val4 (And.intro len4 hb4))))
              obtain ⟨o4, c4, rfl⟩ := own_form own4
              clear own4 dg4 val4 len4 hb4 RW
              go_wp2_with fail
              obtain ⟨own4, dg4, val4, len4, hb4⟩ := G4.out
              have B4 := bl_step hB3 hb4
              exact ⟨⟨i + 1, ds4, by omega, by go_num, Rd.own own4, dg4, by rw [val4, VW.out]; exact mul_next HV.out, by unfold top at len4; omega, bl_step hnx B4, MB.out.keep B4⟩, by simp [intOf]; omega⟩
    · have hia : a.length = i := by omega
      subst hia
      have hv : val ds = (N.natAbs : Int) := by
        have := HV.out
        rw [List.take_length] at this
        rw [this]; exact HN.out
      have HV2 := hid1 hv
      clear hv
      go_wp2_with fail
      refine (trim_num N _ _ ds _ RD.out DD.out HV2.out HS.out.1 HS.out.2).mono ?_
      rintro e w5 ⟨y5, s5, ao5, l5, cap5, rfl, rfl, hy5, hb5⟩
      have HY5 := hid1 hy5
      clear hy5 m0 m1 m2 m3 m4 m5 m6 m7
      obtain ⟨-, -, -, -, m4, m5, m6, m7⟩ := MB.out.keep hb5
      have hBB := hid1 (bl_step hnx hb5)
      clear hb5
      go_wp2_with fail
      simp [bodyPost, results, Try.results43, go_sem, m4, m5]
      exact big_ret HY5.out hBB.out (by omega) ⟨_, m4⟩ _ _
theorem rmul_any (m n : Int) (x y : Value) (w : World) (hx : Bg w x m) (hy : Bg w y n) (hm : (m.natAbs : Int) < 65536 ^ 16) (hn : (n.natAbs : Int) < 65536 ^ 16) :
    Calls Try.prog 43 #[x, y] w fun e w' => ∃ z, e = .returned z ∧ Bg w' z (m * n) ∧ Below w.heap.size w w' := by
  obtain ⟨va, a, rfl, ra, da, ta, ea⟩ := hx
  obtain ⟨vb, b, rfl, rb, db, tb, eb⟩ := hy
  have la : a.length ≤ 16 := len_le da ta (by rw [ea]; exact hm)
  have lb : b.length ≤ 16 := len_le db tb (by rw [eb]; exact hn)
  refine mul_digits a b _ _ va vb (m * n) w ra rb da db la lb (by rw [ea, eb, Int.natAbs_mul]; simp) (fun h => ?_) (fun h => ?_)
  · rcases Int.lt_trichotomy m 0 with h1 | h1 | h1
    · have h2 : n < 0 := by
        rcases Int.lt_trichotomy n 0 with h2 | h2 | h2
        · exact h2
        · subst h2; simp at h
        · have := Int.mul_neg_of_neg_of_pos h1 h2; omega
      simp [h1, h2]
    · subst h1; simp at h
    · have h2 : 0 < n := by
        rcases Int.lt_trichotomy n 0 with h2 | h2 | h2
        · have := Int.mul_neg_of_pos_of_neg h1 h2; omega
        · subst h2; simp at h
        · exact h2
      have h3 : ¬ m < 0 := by omega
      have h4 : ¬ n < 0 := by omega
      simp [h3, h4]
  · rcases Int.lt_trichotomy m 0 with h1 | h1 | h1
    · have h2 : 0 < n := by
        rcases Int.lt_trichotomy n 0 with h2 | h2 | h2
        · have := Int.mul_pos_of_neg_of_neg h1 h2; omega
        · subst h2; simp at h
        · exact h2
      have h4 : ¬ n < 0 := by omega
      simp [h1, h4]
    · subst h1; simp at h
    · have h2 : n < 0 := by
        rcases Int.lt_trichotomy n 0 with h2 | h2 | h2
        · exact h2
        · subst h2; simp at h
        · have := Int.mul_pos h1 h2; omega
      have h3 : ¬ m < 0 := by omega
      simp [h3, h2]
end Go.Proofs.Ytffhbfdbahdhoab.Wd
