/-
  LEAST NUMBERS BY TRIAL: plain mathematics. No Go in sight.
-/
import Derived.Test.YtffhbfdbahdhoabFM1
namespace Go.Proofs.Ytffhbfdbahdhoab.Wd

/-- No number from 2 up to below p divides both. -/
def NC (n d p : Int) : Prop := ∀ q, 2 ≤ q → q < p → ¬ (q ∣ n ∧ q ∣ d)
def ND (r p : Int) : Prop := ∀ q, 2 ≤ q → q < p → ¬ q ∣ r
theorem nc_two (n d : Int) : NC n d 2 := fun q h1 h2 => by omega
theorem nd_two (r : Int) : ND r 2 := fun q h1 h2 => by omega
theorem nc_next {n d p : Int} (h : NC n d p) (k : ¬ (p ∣ d ∧ p ∣ n)) : NC n d (p + 1) := by
  intro q h1 h2 h3
  by_cases e : q = p
  · subst e; exact k ⟨h3.2, h3.1⟩
  · exact h q h1 (by omega) h3
theorem nd_next {r p : Int} (h : ND r p) (k : ¬ p ∣ r) : ND r (p + 1) := by
  intro q h1 h2 h3
  by_cases e : q = p
  · subst e; exact k h3
  · exact h q h1 (by omega) h3
theorem nc_div {n d p x : Int} (h : NC n d p) (h1 : x ∣ n) (h2 : x ∣ d) : NC (n / x) (d / x) p := by
  intro q a b c
  exact h q a b ⟨Int.dvd_trans c.1 (Int.ediv_dvd_of_dvd h1), Int.dvd_trans c.2 (Int.ediv_dvd_of_dvd h2)⟩
theorem nd_div {r p x : Int} (h : ND r p) (h1 : x ∣ r) : ND (r / x) p := by
  intro q a b c
  exact h q a b (Int.dvd_trans c (Int.ediv_dvd_of_dvd h1))
theorem worth_div {n d n0 d0 x : Int} (hx : 0 < x) (h1 : x ∣ n) (h2 : x ∣ d) (h : n * d0 = n0 * d) : n / x * d0 = n0 * (d / x) := by
  obtain ⟨a, rfl⟩ := h1
  obtain ⟨b, rfl⟩ := h2
  rw [Int.mul_ediv_cancel_left _ (by omega), Int.mul_ediv_cancel_left _ (by omega)]
  have : x * (a * d0) = x * (n0 * b) := by rw [← Int.mul_assoc, h, Int.mul_left_comm]
  exact Int.eq_of_mul_eq_mul_left (by omega) this
theorem div_bd {d p : Int} (hd : 0 < d) (hp : 2 ≤ p) (h : p ∣ d) : 0 < d / p ∧ d / p < d := by
  obtain ⟨a, rfl⟩ := h
  rw [Int.mul_ediv_cancel_left _ (by omega)]
  have ha : 0 < a := by
    rcases Int.lt_trichotomy a 0 with k | k | k
    · have := Int.mul_neg_of_pos_of_neg (show 0 < p by omega) k; omega
    · subst k; omega
    · exact k
  refine ⟨ha, ?_⟩
  have := Int.mul_le_mul_of_nonneg_right (a := 2) (b := p) (c := a) hp (by omega)
  omega
theorem gd_dvd_n (n d : Int) : gd n d ∣ n := Int.gcd_dvd_left n d
theorem gd_dvd_d (n d : Int) : gd n d ∣ d := Int.gcd_dvd_right n d
theorem dvd_gd {q n d : Int} (h1 : q ∣ n) (h2 : q ∣ d) : q ∣ gd n d := Int.dvd_coe_gcd h1 h2
theorem sq_le {a b : Int} (h0 : 0 ≤ a) (h : a ≤ b) : a * a ≤ b * b := Int.mul_le_mul h h h0 (by omega)
/-- What divides both is as great as its square is above d. -/
theorem nc_sq {n d p q : Int} (h : NC n d p) (hp : d < p * p) (hp0 : 0 ≤ p) (hq : 2 ≤ q) (h1 : q ∣ n) (h2 : q ∣ d) : d < q * q := by
  have : p ≤ q := by
    rcases Int.lt_or_le q p with k | k
    · exact absurd ⟨h1, h2⟩ (h q hq k)
    · exact k
  have := sq_le hp0 this
  omega
/-- The greatest that divides both has no divisors of its own. -/
theorem gd_prime {n d p x : Int} (hd : 0 < d) (h : NC n d p) (hp : d < p * p) (hp0 : 0 ≤ p) (hx : x ∣ gd n d) (hx2 : 2 ≤ x) : x = gd n d := by
  obtain ⟨y, e⟩ := hx
  have g := gd_pos (n := n) hd
  have y0 : 0 < y := by
    rcases Int.lt_trichotomy y 0 with k | k | k
    · have := Int.mul_neg_of_pos_of_neg (show 0 < x by omega) k; omega
    · subst k; omega
    · exact k
  by_cases hy : y = 1
  · subst hy; omega
  · exfalso
    have x1 : x ∣ gd n d := ⟨y, e⟩
    have y1 : y ∣ gd n d := ⟨x, by rw [e, Int.mul_comm]⟩
    have a := nc_sq h hp hp0 hx2 (Int.dvd_trans x1 (gd_dvd_n n d)) (Int.dvd_trans x1 (gd_dvd_d n d))
    have b := nc_sq h hp hp0 (show 2 ≤ y by omega) (Int.dvd_trans y1 (gd_dvd_n n d)) (Int.dvd_trans y1 (gd_dvd_d n d))
    have c := gd_le (n := n) hd
    have k1 : d * d < (x * x) * (y * y) := Int.mul_lt_mul a (by omega) hd (by omega)
    have k2 : (x * x) * (y * y) = gd n d * gd n d := by rw [e]; ac_rfl
    have k3 := sq_le (by omega) c
    omega
/-- Dividing the rest keeps what divides both. -/
theorem rest_keep {n d p x r : Int} (hd : 0 < d) (h : NC n d p) (hp : d < p * p) (hp0 : 0 ≤ p) (hrd : r ≤ d) (hx : 2 ≤ x) (hxr : x ∣ r) (hxx : x * x ≤ r)
    (hg : 2 ≤ gd n d → gd n d ∣ r) : 2 ≤ gd n d → gd n d ∣ r / x := by
  intro g2
  obtain ⟨t, e⟩ := hg g2
  have gs := nc_sq h hp hp0 g2 (gd_dvd_n n d) (gd_dvd_d n d)
  have xl : x < gd n d := by
    rcases Int.lt_or_le x (gd n d) with k | k
    · exact k
    · have := sq_le (by omega) k; omega
  have cop : Int.gcd x (gd n d) = 1 := by
    have d1 : (Int.gcd x (gd n d) : Int) ∣ gd n d := Int.gcd_dvd_right _ _
    have d2 : (Int.gcd x (gd n d) : Int) ∣ x := Int.gcd_dvd_left _ _
    have pos := Int.gcd_pos_of_ne_zero_left (a := x) (gd n d) (by omega)
    rcases Nat.lt_or_ge (Int.gcd x (gd n d)) 2 with k | k
    · omega
    · have := gd_prime hd h hp hp0 d1 (by omega)
      have := Int.le_of_dvd (by omega) d2
      omega
  obtain ⟨s, es⟩ := cop_dvd cop (show x ∣ gd n d * t by rw [← e]; exact hxr)
  refine ⟨s, ?_⟩
  rw [e, es, Int.mul_left_comm, Int.mul_ediv_cancel_left _ (by omega)]
/-- Behind both loops: the rest is what divides both, or nothing does. -/
theorem rest_end {n d r k : Int} (hd : 0 < d) (hr : 0 < r) (hk : r < k * k) (hk0 : 2 ≤ k) (hn : ND r k)
    (hg : 2 ≤ gd n d → gd n d ∣ r) : (2 ≤ gd n d → r = gd n d) ∧ (1 < r → r ∣ n → r ∣ d → r = gd n d) := by
  have g := gd_pos (n := n) hd
  have first : 2 ≤ gd n d → r = gd n d := by
    intro g2
    obtain ⟨t, e⟩ := hg g2
    have t0 : 0 < t := by
      rcases Int.lt_trichotomy t 0 with q | q | q
      · have := Int.mul_neg_of_pos_of_neg g q; omega
      · subst q; omega
      · exact q
    by_cases t1 : t = 1
    · subst t1; omega
    · exfalso
      have a : k ≤ gd n d := by
        rcases Int.lt_or_le (gd n d) k with q | q
        · exact absurd ⟨t, e⟩ (hn _ g2 q)
        · exact q
      have b : k ≤ t := by
        rcases Int.lt_or_le t k with q | q
        · exact absurd ⟨gd n d, by rw [e, Int.mul_comm]⟩ (hn t (by omega) q)
        · exact q
      have := Int.mul_le_mul a b (by omega) (by omega)
      omega
  refine ⟨first, ?_⟩
  intro r1 rn' rd'
  have := Int.le_of_dvd g (dvd_gd rn' rd')
  exact first (by omega)
/-- The whole: least numbers. -/
theorem ref_red {n d r k n0 d0 : Int} (hd0 : 0 < d0) (hd : 0 < d) (hw : n * d0 = n0 * d) (hr : 0 < r) (hk : r < k * k) (hk0 : 2 ≤ k) (hn : ND r k)
    (hg : 2 ≤ gd n d → gd n d ∣ r) :
    (1 < r ∧ r ∣ n ∧ r ∣ d → n / r = rn n0 d0 ∧ d / r = rd n0 d0) ∧ (¬ (1 < r ∧ r ∣ n ∧ r ∣ d) → n = rn n0 d0 ∧ d = rd n0 d0) := by
  have g := gd_pos (n := n) hd
  obtain ⟨f1, f2⟩ := rest_end hd hr hk hk0 hn hg
  have same := red_same hd0 hd hw
  constructor
  · rintro ⟨a, b, c⟩
    have e := f2 a b c
    rw [e]; exact same
  · intro no
    have g1 : gd n d = 1 := by
      rcases Int.lt_or_le (gd n d) 2 with q | q
      · omega
      · exfalso; have e := f1 q; exact no ⟨by omega, by rw [e]; exact gd_dvd_n n d, by rw [e]; exact gd_dvd_d n d⟩
    have s := red_self hd g1
    exact ⟨s.1 ▸ same.1, s.2 ▸ same.2⟩
theorem tmod_dvd {n d : Int} : (n.tmod d == 0) = decide (d ∣ n) := by
  by_cases h : d ∣ n
  · rw [Int.tmod_eq_zero_of_dvd h, decide_eq_true h]; rfl
  · rw [decide_eq_false h]; exact beq_eq_false_iff_ne.mpr (fun e => h (Int.dvd_of_tmod_eq_zero e))
end Go.Proofs.Ytffhbfdbahdhoab.Wd
