/-
  LEAST NUMBERS: plain mathematics. No Go in sight.
-/
import Derived.Test.YtffhbfdbahdhoabM2
namespace Go.Proofs.Ytffhbfdbahdhoab.Wd

def gd (n d : Int) : Int := (Int.gcd n d : Int)
def rn (n d : Int) : Int := n / gd n d
def rd (n d : Int) : Int := d / gd n d
theorem gd_zero {b : Int} (h : 0 ≤ b) : gd 0 b = b := by unfold gd; rw [Int.gcd_zero_left]; omega
theorem gd_neg (a b : Int) : gd (-a) b = gd a b := by unfold gd; rw [Int.gcd_comm, Int.gcd_neg, Int.gcd_comm]
theorem gd_step (a b : Int) : gd (b.tmod a) a = gd a b := by
  unfold gd
  have e : b.tmod a + a * (b.tdiv a) = b := Int.tmod_add_mul_tdiv b a
  have h : Int.gcd a (b.tmod a + a * (b.tdiv a)) = Int.gcd a (b.tmod a) := Int.gcd_add_mul_left_right ..
  rw [e] at h
  rw [h, Int.gcd_comm]
theorem gd_pos {n d : Int} (h : 0 < d) : 0 < gd n d := by
  unfold gd
  have := Int.gcd_pos_of_ne_zero_right n (b := d) (by omega)
  omega
theorem gd_le {n d : Int} (h : 0 < d) : gd n d ≤ d := by unfold gd; exact Int.gcd_le_right n h
theorem gd_n (n d : Int) : gd n d * rn n d = n := by unfold rn gd; exact Int.mul_ediv_cancel' (Int.gcd_dvd_left n d)
theorem gd_d (n d : Int) : gd n d * rd n d = d := by unfold rd gd; exact Int.mul_ediv_cancel' (Int.gcd_dvd_right n d)
theorem rd_pos {n d : Int} (h : 0 < d) : 0 < rd n d := by
  have g := gd_pos (n := n) h
  have e := gd_d n d
  rcases Int.lt_trichotomy (rd n d) 0 with k | k | k
  · have := Int.mul_neg_of_pos_of_neg g k; omega
  · rw [k] at e; omega
  · exact k
theorem rd_le {n d : Int} (h : 0 < d) : rd n d ≤ d := by
  have g := gd_pos (n := n) h
  have e := gd_d n d
  have k := rd_pos (n := n) h
  have := Int.mul_le_mul_of_nonneg_right (a := 1) (b := gd n d) (c := rd n d) (by omega) (by omega)
  omega
theorem rn_bd {n d B : Int} (h : 0 < d) (h1 : -B ≤ n) (h2 : n ≤ B) : -B ≤ rn n d ∧ rn n d ≤ B := by
  have g := gd_pos (n := n) h
  have e := gd_n n d
  rcases Int.lt_trichotomy (rn n d) 0 with k | k | k
  · have := Int.mul_le_mul_of_nonneg_right (a := 1) (b := gd n d) (c := -rn n d) (by omega) (by omega)
    rw [Int.one_mul, Int.mul_neg, e] at this
    omega
  · omega
  · have := Int.mul_le_mul_of_nonneg_right (a := 1) (b := gd n d) (c := rn n d) (by omega) (by omega)
    omega
theorem red_cop {n d : Int} (h : 0 < d) : gd (rn n d) (rd n d) = 1 := by
  have g := gd_pos (n := n) h
  have e : gd n d = gd n d * gd (rn n d) (rd n d) := by
    have k := Int.gcd_mul_left (gd n d) (rn n d) (rd n d)
    rw [gd_n, gd_d] at k
    have : (gd n d).natAbs = Int.gcd n d := rfl
    rw [this] at k
    have k2 := congrArg Int.ofNat k
    exact k2.trans (Int.natCast_mul _ _)
  have e2 : gd n d * 1 = gd n d * gd (rn n d) (rd n d) := by rw [← e]; omega
  exact (Int.eq_of_mul_eq_mul_left (by omega) e2).symm
theorem cop_dvd {k m n : Int} (h : Int.gcd k m = 1) (h2 : k ∣ m * n) : k ∣ n := by
  have a : Nat.Coprime k.natAbs m.natAbs := h
  have b : k.natAbs ∣ m.natAbs * n.natAbs := by rw [← Int.natAbs_mul]; exact Int.natAbs_dvd_natAbs.mpr h2
  exact Int.natAbs_dvd_natAbs.mp (Nat.Coprime.dvd_of_dvd_mul_left a b)
/-- Two pairs without a divisor in common that are worth the same are the same. -/
theorem cop_uniq {p q r s : Int} (h : p * s = r * q) (c1 : gd p q = 1) (c2 : gd r s = 1) (hq : 0 < q) (hs : 0 < s) : p = r ∧ q = s := by
  have c1' : Int.gcd q p = 1 := by rw [Int.gcd_comm]; unfold gd at c1; omega
  have c2' : Int.gcd s r = 1 := by rw [Int.gcd_comm]; unfold gd at c2; omega
  have d1 : q ∣ s := by
    have : q ∣ p * s := ⟨r, by rw [h, Int.mul_comm]⟩
    exact cop_dvd c1' this
  have d2 : s ∣ q := by
    have : s ∣ r * q := ⟨p, by rw [← h, Int.mul_comm]⟩
    exact cop_dvd c2' this
  have e : q = s := by
    have l1 := Int.le_of_dvd hs d1
    have l2 := Int.le_of_dvd hq d2
    omega
  subst e
  exact ⟨Int.eq_of_mul_eq_mul_right (by omega) h, rfl⟩
/-- So least numbers are known by two things. -/
theorem red_uniq {n d p q : Int} (hd : 0 < d) (hq : 0 < q) (c : gd p q = 1) (h : p * d = n * q) : p = rn n d ∧ q = rd n d := by
  refine cop_uniq ?_ c (red_cop hd) hq (rd_pos hd)
  have e1 := gd_n n d
  have e2 := gd_d n d
  have g := gd_pos (n := n) hd
  have : gd n d * (p * rd n d) = gd n d * (rn n d * q) := by
    rw [← Int.mul_assoc, Int.mul_comm (gd n d) p, Int.mul_assoc, e2, h, ← Int.mul_assoc, e1]
  exact Int.eq_of_mul_eq_mul_left (by omega) this
theorem red_self {n d : Int} (hd : 0 < d) (c : gd n d = 1) : rn n d = n ∧ rd n d = d := by
  have := red_uniq (n := n) hd hd c rfl
  exact ⟨this.1.symm, this.2.symm⟩
theorem red_same {n d p q : Int} (hd : 0 < d) (hq : 0 < q) (h : p * d = n * q) : rn p q = rn n d ∧ rd p q = rd n d := by
  refine red_uniq hd (rd_pos hq) (red_cop hq) ?_
  have e1 := gd_n p q
  have e2 := gd_d p q
  have g := gd_pos (n := p) hq
  have : gd p q * (rn p q * d) = gd p q * (n * rd p q) := by
    rw [← Int.mul_assoc, e1, h, Int.mul_left_comm, e2]
  exact Int.eq_of_mul_eq_mul_left (by omega) this
theorem red_times {n d k : Int} (hd : 0 < d) (hk : 0 < k) : rn (n * k) (d * k) = rn n d ∧ rd (n * k) (d * k) = rd n d :=
  red_same hd (Int.mul_pos hd hk) (by rw [Int.mul_assoc, Int.mul_comm k d])
theorem cmp_scale {x y k : Int} (hk : 0 < k) : cmpN (k * x) (k * y) = cmpN x y := by
  unfold cmpN
  by_cases h : x < y
  · rw [if_pos h, if_pos (Int.mul_lt_mul_of_pos_left h hk)]
  · by_cases h2 : x = y
    · subst h2; simp
    · have : y < x := by omega
      have := Int.mul_lt_mul_of_pos_left this hk
      rw [if_neg h, if_neg h2, if_neg (by omega), if_neg (by omega)]
/-- The order crosswise is that of the least numbers. -/
theorem cmp_red {n d p q : Int} (hd : 0 < d) (hq : 0 < q) : cmpN (rn n d * rd p q) (rn p q * rd n d) = cmpN (n * q) (p * d) := by
  have a1 := gd_n n d; have a2 := gd_d n d; have b1 := gd_n p q; have b2 := gd_d p q
  have g := gd_pos (n := n) hd; have g' := gd_pos (n := p) hq
  rw [← cmp_scale (k := gd n d * gd p q) (Int.mul_pos g g')]
  have e1 : gd n d * gd p q * (rn n d * rd p q) = n * q := by
    calc gd n d * gd p q * (rn n d * rd p q) = (gd n d * rn n d) * (gd p q * rd p q) := by ac_rfl
      _ = n * q := by rw [a1, b2]
  have e2 : gd n d * gd p q * (rn p q * rd n d) = p * d := by
    calc gd n d * gd p q * (rn p q * rd n d) = (gd p q * rn p q) * (gd n d * rd n d) := by ac_rfl
      _ = p * d := by rw [b1, a2]
  rw [e1, e2]
theorem same_iff {n d p q : Int} (hd : 0 < d) (hq : 0 < q) : n * q = p * d ↔ rn n d = rn p q ∧ rd n d = rd p q := by
  constructor
  · intro h; exact red_same hq hd h
  · rintro ⟨h1, h2⟩
    have e1 := gd_n n d; have e2 := gd_d n d; have e3 := gd_n p q; have e4 := gd_d p q
    calc n * q = (gd n d * rn n d) * (gd p q * rd p q) := by rw [e1, e4]
      _ = (gd p q * rn p q) * (gd n d * rd n d) := by rw [h1, h2]; ac_rfl
      _ = p * d := by rw [e3, e2]
theorem tdiv_gd_n (n d : Int) : n.tdiv (gd n d) = rn n d := by unfold rn; exact Int.tdiv_eq_ediv_of_dvd (Int.gcd_dvd_left n d)
theorem tdiv_gd_d (n d : Int) : d.tdiv (gd n d) = rd n d := by unfold rd; exact Int.tdiv_eq_ediv_of_dvd (Int.gcd_dvd_right n d)
end Go.Proofs.Ytffhbfdbahdhoab.Wd
