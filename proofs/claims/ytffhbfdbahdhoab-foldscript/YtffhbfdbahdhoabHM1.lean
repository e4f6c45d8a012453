/-
  FOLD: PLAIN MATHEMATICS: thresholds, what they say, where a norm turns about. No Go in sight.
-/
import Derived.Test.YtffhbfdbahdhoabM11
import Derived.Test.YtffhbfdbahdhoabFM3
namespace Go.Proofs.Ytffhbfdbahdhoab
open Wd

/-- What a threshold says of a sum. -/
def plT (m t x : Int) : Bool := decide (m = 3 ∨ (m = 1 ∧ t ≤ x) ∨ (m = 2 ∧ x ≤ t))
/-- A threshold that may be. -/
def okT (m t : Int) : Prop := (m = 1 ∧ -2147483647 < t ∧ t ≤ 2147483647) ∨ (m = 2 ∧ -2147483647 ≤ t ∧ t < 2147483647) ∨ ((m = 3 ∨ m = 4) ∧ t = 0)
instance (m t : Int) : Decidable (okT m t) := by unfold okT; infer_instance
def ckT (m t : Int) : Int := if okT m t then 0 else 191
theorem ckT_ok {m t : Int} (h : okT m t) : ckT m t = 0 := if_pos h
theorem ckT_no {m t : Int} (h : ¬ okT m t) : ckT m t = 191 := if_neg h
theorem plT_3 (t x : Int) : plT 3 t x = true := by simp [plT]
theorem plT_1 (t x : Int) : plT 1 t x = decide (t ≤ x) := by simp [plT]
theorem plT_2 (t x : Int) : plT 2 t x = decide (x ≤ t) := by simp [plT]
theorem plT_no {m t x : Int} (h1 : m ≠ 1) (h2 : m ≠ 2) (h3 : m ≠ 3) : plT m t x = false := by simp [plT, h1, h2, h3]
/-- What is left of a threshold, by a reach. -/
def stM (m t lo hi : Int) : Int := if plT m t lo = plT m t hi then (if plT m t lo = true then 3 else 4) else m
def stT (m t lo hi : Int) : Int := if plT m t lo = plT m t hi then 0 else t
theorem st_yes {m t lo hi : Int} (h : plT m t lo = true) (k : plT m t hi = true) : stM m t lo hi = 3 ∧ stT m t lo hi = 0 := by simp [stM, stT, h, k]
theorem st_no {m t lo hi : Int} (h : plT m t lo = false) (k : plT m t hi = false) : stM m t lo hi = 4 ∧ stT m t lo hi = 0 := by simp [stM, stT, h, k]
theorem st_up {m t lo hi : Int} (h : plT m t lo = false) (k : plT m t hi = true) : stM m t lo hi = m ∧ stT m t lo hi = t := by simp [stM, stT, h, k]
theorem st_dn {m t lo hi : Int} (h : plT m t lo = true) (k : plT m t hi = false) : stM m t lo hi = m ∧ stT m t lo hi = t := by simp [stM, stT, h, k]
def trE (m t lo hi : Int) : Int := if okT m t then (if -2147483647 ≤ lo ∧ hi ≤ 2147483647 ∧ lo ≤ hi then 0 else 1) else 191
def trM (m t lo hi : Int) : Int := if trE m t lo hi = 0 then stM m t lo hi else 0
def trT (m t lo hi : Int) : Int := if trE m t lo hi = 0 then stT m t lo hi else 0
/-- The norm of a threshold. -/
def gT (m : Int) : Int := if m = 1 then 1 else if m = 2 then -1 else 0
def bT (m : Int) : Int := if m = 4 then -1 else 0
def nT (m t y : Int) : Int := if okT m t then y else 0
/-- Where a norm turns about. -/
def pP (gn gd bn bd mn md sn sd : Int) : Int := mn * gn * bd * sd + -1 * bn * sn * gd * md
def cuN (a : Int) : Int := if 2147483648 < a then 2147483648 else if a < -2147483648 then -2147483648 else a
def c4 (gn md bd sd p : Int) : Int := ceilN (ceilN (ceilN (ceilN p gn) md) bd) sd
def f4 (gn md bd sd p : Int) : Int := floorN (floorN (floorN (floorN p gn) md) bd) sd
def haM (gn bn : Int) : Int := if 0 < gn then 1 else if gn < 0 then 2 else if 0 ≤ bn then 3 else 4
def haT (gn gd bn bd mn md sn sd : Int) : Int := if 0 < gn then cuN (c4 gn md bd sd (pP gn gd bn bd mn md sn sd)) else if gn < 0 then cuN (f4 gn md bd sd (pP gn gd bn bd mn md sn sd)) else 0
def foM (gn gd bn bd mn md sn sd : Int) : Int := stM (haM gn bn) (haT gn gd bn bd mn md sn sd) (-2147483647) 2147483647
def foT (gn gd bn bd mn md sn sd : Int) : Int := stT (haM gn bn) (haT gn gd bn bd mn md sn sd) (-2147483647) 2147483647
/-- The threshold that a norm has. -/
def FoP (gn gd bn bd mn md sn sd m t : Int) : Prop := okT m t ∧ ∀ x, Sm x → plT m t x = decide (0 ≤ nv gn gd bn bd mn md sn sd x)

/-- Rounded quotients: what they are at most. -/
theorem round_bd {a b A : Int} (h0 : b ≠ 0) (h1 : -A ≤ a) (h2 : a ≤ A) : (-A - 1 ≤ floorN a b ∧ floorN a b ≤ A + 1) ∧ (-A - 1 ≤ ceilN a b ∧ ceilN a b ≤ A + 1) := by
  obtain ⟨Q, R, d, q0, r0, r1, e, hd, hs, hn⟩ := round_sizes (a := a) h0
  have bB : 0 < absN b := absN_pos h0
  have hQ : 1 * Q ≤ absN b * Q := Int.mul_le_mul_of_nonneg_right (by omega) q0
  have hA : absN a ≤ A := by unfold absN; split <;> omega
  by_cases h : (a < 0 ↔ b < 0)
  · rw [(hs h).1, (hs h).2]; rcases hd with ⟨_, rfl⟩ | ⟨_, rfl⟩ <;> omega
  · rw [(hn h).1, (hn h).2]; rcases hd with ⟨_, rfl⟩ | ⟨_, rfl⟩ <;> omega
def Bg5 (a : Int) : Prop := -42535295865117307932921825928971026432 ≤ a ∧ a < 42535295865117307932921825928971026432
theorem ceil_le {a b : Int} (x : Int) (ha : Bg5 a) (hb : I64 b) (h0 : 0 < b) : ceilN a b ≤ x ↔ a ≤ b * x := by
  obtain ⟨q, r, l, e1, e2, -, e4, p, -, hl, -⟩ := floors_math ha hb (by omega)
  rw [e2]
  obtain ⟨l0, l1⟩ := p h0
  constructor
  · intro h
    have k : b * r ≤ b * x := Int.mul_le_mul_of_nonneg_left h (by omega)
    rcases hl with ⟨z, rfl⟩ | ⟨z, rfl⟩
    · rw [Int.mul_comm b r] at k; omega
    · rw [Int.mul_comm b (q + 1), Int.add_mul] at k; omega
  · intro h
    rcases Int.lt_or_le x r with k | k
    · exfalso
      rcases hl with ⟨z, rfl⟩ | ⟨z, rfl⟩
      · have k2 : b * (x + 1) ≤ b * r := Int.mul_le_mul_of_nonneg_left (by omega) (by omega)
        rw [Int.mul_add, Int.mul_comm b r] at k2; omega
      · have k2 : b * x ≤ b * q := Int.mul_le_mul_of_nonneg_left (by omega) (by omega)
        rw [Int.mul_comm b q] at k2; omega
    · exact k
theorem le_floor {a b : Int} (x : Int) (ha : Bg5 a) (hb : I64 b) (h0 : 0 < b) : x ≤ floorN a b ↔ b * x ≤ a := by
  obtain ⟨q, r, l, e1, e2, -, e4, p, -, -, -⟩ := floors_math ha hb (by omega)
  rw [e1]
  obtain ⟨l0, l1⟩ := p h0
  constructor
  · intro h
    have k : b * x ≤ b * q := Int.mul_le_mul_of_nonneg_left h (by omega)
    rw [Int.mul_comm b q] at k; omega
  · intro h
    rcases Int.lt_or_le q x with k | k
    · exfalso
      have k2 : b * (q + 1) ≤ b * x := Int.mul_le_mul_of_nonneg_left (by omega) (by omega)
      rw [Int.mul_add, Int.mul_comm b q] at k2; omega
    · exact k
theorem le_floor_neg {a b : Int} (x : Int) (ha : Bg5 a) (hb : I64 b) (h0 : b < 0) : x ≤ floorN a b ↔ a ≤ b * x := by
  obtain ⟨q, r, l, e1, e2, -, e4, -, p, -, -⟩ := floors_math ha hb (by omega)
  rw [e1]
  obtain ⟨l0, l1⟩ := p h0
  constructor
  · intro h
    have k : -b * x ≤ -b * q := Int.mul_le_mul_of_nonneg_left h (by omega)
    rw [Int.neg_mul, Int.neg_mul, Int.mul_comm b q] at k; omega
  · intro h
    rcases Int.lt_or_le q x with k | k
    · exfalso
      have k2 : -b * (q + 1) ≤ -b * x := Int.mul_le_mul_of_nonneg_left (by omega) (by omega)
      rw [Int.neg_mul, Int.neg_mul, Int.mul_add, Int.mul_comm b q] at k2; omega
    · exact k
theorem nv_is (gn gd bn bd mn md sn sd x : Int) : nv gn gd bn bd mn md sn sd x = gn * (md * (bd * (sd * x))) - pP gn gd bn bd mn md sn sd := by
  unfold nv pP
  grind
/-- Both products' bounds. -/
theorem mean_bd {gn gd bn bd mn md sn sd : Int} (hg : Fr gn gd) (hb : Fr bn bd) (hm : Fr mn md) (hs : Fr sn sd) :
    (-4611686014132420609 ≤ mn * gn ∧ mn * gn ≤ 4611686014132420609) ∧ (-4835703274155290872733695 - 5 ≤ mn * gn * bd ∧ mn * gn * bd ≤ 4835703274155290872733700) ∧
    (-5070602396336660000000000000000 ≤ mn * gn * bd * sd ∧ mn * gn * bd * sd ≤ 5070602396336660000000000000000) := by
  obtain ⟨_, _, g1, g2⟩ := hg
  obtain ⟨b1, b2, _, _⟩ := hb
  obtain ⟨_, _, m1, m2⟩ := hm
  obtain ⟨s1, s2, _, _⟩ := hs
  have k1 := bd_mul (A := 2147483647) (B := 2147483647) ⟨m1, m2⟩ ⟨g1, g2⟩
  have k2 := bd_mul (B := 1048576) k1 (b := bd) ⟨by omega, b2⟩
  have k3 := bd_mul (B := 1048576) k2 (b := sd) ⟨by omega, s2⟩
  refine ⟨⟨by omega, by omega⟩, ⟨by omega, by omega⟩, by omega, by omega⟩
theorem shift_bd {gn gd bn bd mn md sn sd : Int} (hg : Fr gn gd) (hb : Fr bn bd) (hm : Fr mn md) (hs : Fr sn sd) :
    (-2147483647 ≤ -1 * bn ∧ -1 * bn ≤ 2147483647) ∧ (-4611686014132420609 ≤ -1 * bn * sn ∧ -1 * bn * sn ≤ 4611686014132420609) ∧ (-4835703274155290872733700 ≤ -1 * bn * sn * gd ∧ -1 * bn * sn * gd ≤ 4835703274155290872733700) ∧
    (-5070602396336660000000000000000 ≤ -1 * bn * sn * gd * md ∧ -1 * bn * sn * gd * md ≤ 5070602396336660000000000000000) := by
  obtain ⟨g1, g2, _, _⟩ := hg
  obtain ⟨_, _, b1, b2⟩ := hb
  obtain ⟨m1, m2, _, _⟩ := hm
  obtain ⟨_, _, s1, s2⟩ := hs
  have k0 : -2147483647 ≤ -1 * bn ∧ -1 * bn ≤ 2147483647 := ⟨by omega, by omega⟩
  have k1 := bd_mul (A := 2147483647) (B := 2147483647) k0 ⟨s1, s2⟩
  have k2 := bd_mul (B := 1048576) k1 (b := gd) ⟨by omega, g2⟩
  have k3 := bd_mul (B := 1048576) k2 (b := md) ⟨by omega, m2⟩
  refine ⟨k0, ⟨by omega, by omega⟩, ⟨by omega, by omega⟩, by omega, by omega⟩
theorem pP_bd {gn gd bn bd mn md sn sd : Int} (hg : Fr gn gd) (hb : Fr bn bd) (hm : Fr mn md) (hs : Fr sn sd) :
    -10141204792673320000000000000000 ≤ pP gn gd bn bd mn md sn sd ∧ pP gn gd bn bd mn md sn sd ≤ 10141204792673320000000000000000 := by
  have h1 := (mean_bd hg hb hm hs).2.2
  have h2 := (shift_bd hg hb hm hs).2.2.2
  unfold pP
  omega
theorem i64_den {n d : Int} (h : Fr n d) : I64 d ∧ 0 < d := by obtain ⟨a, b, _, _⟩ := h; exact ⟨⟨by omega, by omega⟩, by omega⟩
theorem i64_num {n d : Int} (h : Fr n d) : I64 n := by obtain ⟨_, _, a, b⟩ := h; exact ⟨by omega, by omega⟩
/-- Where the ceilings come to. -/
theorem c4_le {gn gd bn bd mn md sn sd p : Int} (hg : Fr gn gd) (hb : Fr bn bd) (hm : Fr mn md) (hs : Fr sn sd) (h0 : 0 < gn) (h1 : -10141204792673320000000000000000 ≤ p) (h2 : p ≤ 10141204792673320000000000000000) (x : Int) :
    c4 gn md bd sd p ≤ x ↔ p ≤ gn * (md * (bd * (sd * x))) := by
  have e1 := (round_bd (b := gn) (by omega) h1 h2).2
  have e2 := (round_bd (a := ceilN p gn) (b := md) (A := 10141204792673320000000000000001) (by have := hm.1; omega) (by omega) (by omega)).2
  have e3 := (round_bd (a := ceilN (ceilN p gn) md) (b := bd) (A := 10141204792673320000000000000002) (by have := hb.1; omega) (by omega) (by omega)).2
  unfold c4
  rw [ceil_le _ ⟨by omega, by omega⟩ (i64_den hs).1 (i64_den hs).2, ceil_le _ ⟨by omega, by omega⟩ (i64_den hb).1 (i64_den hb).2, ceil_le _ ⟨by omega, by omega⟩ (i64_den hm).1 (i64_den hm).2, ceil_le _ ⟨by omega, by omega⟩ (i64_num hg) h0]
theorem le_f4 {gn gd bn bd mn md sn sd p : Int} (hg : Fr gn gd) (hb : Fr bn bd) (hm : Fr mn md) (hs : Fr sn sd) (h0 : gn < 0) (h1 : -10141204792673320000000000000000 ≤ p) (h2 : p ≤ 10141204792673320000000000000000) (x : Int) :
    x ≤ f4 gn md bd sd p ↔ p ≤ gn * (md * (bd * (sd * x))) := by
  have e1 := (round_bd (b := gn) (by omega) h1 h2).1
  have e2 := (round_bd (a := floorN p gn) (b := md) (A := 10141204792673320000000000000001) (by have := hm.1; omega) (by omega) (by omega)).1
  have e3 := (round_bd (a := floorN (floorN p gn) md) (b := bd) (A := 10141204792673320000000000000002) (by have := hb.1; omega) (by omega) (by omega)).1
  unfold f4
  rw [le_floor _ ⟨by omega, by omega⟩ (i64_den hs).1 (i64_den hs).2, le_floor _ ⟨by omega, by omega⟩ (i64_den hb).1 (i64_den hb).2, le_floor _ ⟨by omega, by omega⟩ (i64_den hm).1 (i64_den hm).2, le_floor_neg _ ⟨by omega, by omega⟩ (i64_num hg) h0]
theorem cu_le {a x : Int} (hx : Sm x) : cuN a ≤ x ↔ a ≤ x := by unfold cuN; unfold Sm at hx; split <;> (try split) <;> omega
theorem le_cu {a x : Int} (hx : Sm x) : x ≤ cuN a ↔ x ≤ a := by unfold cuN; unfold Sm at hx; split <;> (try split) <;> omega
theorem cu_bd (a : Int) : -2147483648 ≤ cuN a ∧ cuN a ≤ 2147483648 := by unfold cuN; split <;> (try split) <;> omega
/-- What half answers says of every sum what the norm says. -/
theorem ha_says {gn gd bn bd mn md sn sd : Int} (hg : Fr gn gd) (hb : Fr bn bd) (hm : Fr mn md) (hs : Fr sn sd) (s1 : 1 ≤ sn) (x : Int) (hx : Sm x) :
    plT (haM gn bn) (haT gn gd bn bd mn md sn sd) x = decide (0 ≤ nv gn gd bn bd mn md sn sd x) := by
  obtain ⟨p1, p2⟩ := pP_bd hg hb hm hs
  unfold haM haT
  by_cases g1 : 0 < gn
  · rw [if_pos g1, if_pos g1, plT_1, decide_eq_decide, cu_le hx, c4_le hg hb hm hs g1 p1 p2, nv_is]; omega
  · rw [if_neg g1, if_neg g1]
    by_cases g2 : gn < 0
    · rw [if_pos g2, if_pos g2, plT_2, decide_eq_decide, le_cu hx, le_f4 hg hb hm hs g2 p1 p2, nv_is]; omega
    · rw [if_neg g2, if_neg g2]
      have g0 : gn = 0 := by omega
      have hf := nv_flat (gn := gn) (gd := gd) (bn := bn) (bd := bd) (mn := mn) (md := md) (sn := sn) (sd := sd) (x := x) hg.1 hm.1 s1 (by rw [g0, Int.zero_mul])
      by_cases hb0 : 0 ≤ bn
      · rw [if_pos hb0, plT_3, decide_eq_true (hf.2 hb0)]
      · rw [if_neg hb0, plT_no (by omega) (by omega) (by omega)]
        exact (decide_eq_false (fun h => hb0 (hf.1 h))).symm
/-- What is settled over all sums may be, and says the same. -/
theorem st_says {m t lo hi : Int} (h1 : m = 1 ∨ m = 2 ∨ ((m = 3 ∨ m = 4) ∧ t = 0)) (x : Int) (h2 : lo ≤ x) (h3 : x ≤ hi) : plT (stM m t lo hi) (stT m t lo hi) x = plT m t x := by
  have key : plT m t lo = plT m t hi → plT m t x = plT m t lo := by
    intro h
    rcases h1 with rfl | rfl | ⟨rfl | rfl, rfl⟩
    · simp only [plT_1, decide_eq_decide] at h ⊢; omega
    · simp only [plT_2, decide_eq_decide] at h ⊢; omega
    · rw [plT_3, plT_3]
    · rw [plT_no (by omega) (by omega) (by omega), plT_no (by omega) (by omega) (by omega)]
  unfold stM stT
  by_cases h : plT m t lo = plT m t hi
  · rw [if_pos h, if_pos h, key h]
    cases e : plT m t lo
    · rw [if_neg (by decide), plT_no (by omega) (by omega) (by omega)]
    · rw [if_pos rfl, plT_3]
  · rw [if_neg h, if_neg h]
theorem st_ok {m t : Int} (h1 : m = 1 ∨ m = 2 ∨ ((m = 3 ∨ m = 4) ∧ t = 0)) : okT (stM m t (-2147483647) 2147483647) (stT m t (-2147483647) 2147483647) := by
  unfold stM stT
  by_cases h : plT m t (-2147483647) = plT m t 2147483647
  · rw [if_pos h, if_pos h]
    split
    · exact .inr (.inr ⟨.inl rfl, rfl⟩)
    · exact .inr (.inr ⟨.inr rfl, rfl⟩)
  · rw [if_neg h, if_neg h]
    rcases h1 with rfl | rfl | ⟨rfl | rfl, rfl⟩
    · simp only [plT_1, decide_eq_decide] at h; unfold okT; omega
    · simp only [plT_2, decide_eq_decide] at h; unfold okT; omega
    · exact absurd (by rw [plT_3, plT_3]) h
    · exact absurd (by rw [plT_no (by omega) (by omega) (by omega), plT_no (by omega) (by omega) (by omega)]) h
theorem ha_form (gn gd bn bd mn md sn sd : Int) : haM gn bn = 1 ∨ haM gn bn = 2 ∨ ((haM gn bn = 3 ∨ haM gn bn = 4) ∧ haT gn gd bn bd mn md sn sd = 0) := by
  unfold haM haT
  by_cases g1 : 0 < gn
  · rw [if_pos g1]; exact .inl rfl
  · rw [if_neg g1, if_neg g1]
    by_cases g2 : gn < 0
    · rw [if_pos g2]; exact .inr (.inl rfl)
    · rw [if_neg g2, if_neg g2]
      by_cases hb0 : 0 ≤ bn
      · rw [if_pos hb0]; exact .inr (.inr ⟨.inl rfl, rfl⟩)
      · rw [if_neg hb0]; exact .inr (.inr ⟨.inr rfl, rfl⟩)
theorem fo_ok {gn gd bn bd mn md sn sd : Int} (hg : Fr gn gd) (hb : Fr bn bd) (hm : Fr mn md) (hs : Fr sn sd) (s1 : 1 ≤ sn) : FoP gn gd bn bd mn md sn sd (foM gn gd bn bd mn md sn sd) (foT gn gd bn bd mn md sn sd) := by
  refine ⟨st_ok (ha_form ..), fun x hx => ?_⟩
  rw [← ha_says hg hb hm hs s1 x hx]
  exact st_says (ha_form ..) x hx.1 hx.2
/-- There is just one. -/
theorem ok_one {m t k u : Int} (h1 : okT m t) (h2 : okT k u) (h : plT m t (-2147483647) = plT k u (-2147483647)) (h' : plT m t 2147483647 = plT k u 2147483647) (h3 : Sm t → plT m t t = plT k u t) (h4 : Sm u → plT m t u = plT k u u) : m = k ∧ t = u := by
  unfold Sm at h3 h4
  unfold okT at h1 h2
  simp only [plT, decide_eq_decide] at h h' h3 h4
  rcases h1 with ⟨rfl, a1, a2⟩ | ⟨rfl, a1, a2⟩ | ⟨rfl | rfl, rfl⟩ <;> rcases h2 with ⟨rfl, b1, b2⟩ | ⟨rfl, b1, b2⟩ | ⟨rfl | rfl, rfl⟩ <;> omega
theorem FoP.one {gn gd bn bd mn md sn sd m t k u : Int} (h1 : FoP gn gd bn bd mn md sn sd m t) (h2 : FoP gn gd bn bd mn md sn sd k u) : m = k ∧ t = u := by
  have e : ∀ x, Sm x → plT m t x = plT k u x := fun x hx => (h1.2 x hx).trans (h2.2 x hx).symm
  exact ok_one h1.1 h2.1 (e _ ⟨by omega, by omega⟩) (e _ ⟨by omega, by omega⟩) (e t) (e u)
end Go.Proofs.Ytffhbfdbahdhoab
