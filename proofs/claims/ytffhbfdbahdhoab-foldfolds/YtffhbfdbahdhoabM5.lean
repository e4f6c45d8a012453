/-
  PLAIN MATHEMATICS: the long division of two words by one, by halves of words.
-/
import Derived.Test.YtffhbfdbahdhoabM4
namespace Go.Proofs.Ytffhbfdbahdhoab.Wd
open Go.RowKit

/-- What holds at the head of either loop: y = y1 * B + y0 divides U * B + d, U below y; the trial digit Q, its rest R. -/
structure Trial (U y y1 y0 d Q R : Int) : Prop where
  split : y = y1 * 4294967296 + y0
  y1pos : 0 < y1
  y0lo : 0 ≤ y0
  y0hi : y0 < 4294967296
  dlo : 0 ≤ d
  dhi : d < 4294967296
  ulo : 0 ≤ U
  uhi : U < y
  sum : Q * y1 + R = U
  rlo : 0 ≤ R
  top : (U * 4294967296 + d) / y ≤ Q

theorem Trial.ypos {U y y1 y0 d Q R : Int} (t : Trial U y y1 y0 d Q R) : 0 < y := by
  have := t.ulo; have := t.uhi; omega
/-- The trial digit times the divisor. -/
theorem Trial.prod {U y y1 y0 d Q R : Int} (t : Trial U y y1 y0 d Q R) : Q * y = U * 4294967296 - R * 4294967296 + Q * y0 := by
  have h := t.sum
  rw [t.split, Int.mul_add, ← h, Int.add_mul, Int.mul_assoc]; omega
theorem Trial.more {U y y1 y0 d Q R : Int} (t : Trial U y y1 y0 d Q R) (h : 4294967296 ≤ Q ∨ 4294967296 * R + d < Q * y0) : (U * 4294967296 + d) / y ≤ Q - 1 := by
  have hy := t.ypos
  have hd := t.dhi; have hu := t.uhi
  have k : U * 4294967296 + d < Q * y := by
    rcases h with h | h
    · have h1 : 4294967296 * y ≤ Q * y := Int.mul_le_mul_of_nonneg_right h (by omega)
      omega
    · rw [t.prod]; omega
  have := (Int.ediv_lt_iff_lt_mul hy).2 k
  omega
theorem Trial.done {U y y1 y0 d Q R : Int} (t : Trial U y y1 y0 d Q R) (h : Q * y0 ≤ 4294967296 * R + d) : Q = (U * 4294967296 + d) / y := by
  have hy := t.ypos
  have k : Q * y ≤ U * 4294967296 + d := by rw [t.prod]; omega
  have h1 := (Int.le_ediv_iff_mul_le hy).2 k
  have h2 := t.top
  omega
theorem Trial.qlo {U y y1 y0 d Q R : Int} (t : Trial U y y1 y0 d Q R) : 0 ≤ Q := by
  have hy := t.ypos
  have h1 := t.top
  have h2 : 0 ≤ (U * 4294967296 + d) / y := Int.ediv_nonneg (by have := t.ulo; have := t.dlo; omega) (by omega)
  omega
/-- Behind a step that ends by the break. -/
theorem Trial.far {U y y1 y0 d Q R : Int} (t : Trial U y y1 y0 d Q R) (h : 4294967296 ≤ R) : Q = (U * 4294967296 + d) / y := by
  refine t.done ?_
  have hq : Q < 4294967296 := by
    refine Int.not_le.1 fun hq => ?_
    have h1 : 4294967296 * y1 ≤ Q * y1 := Int.mul_le_mul_of_nonneg_right hq (by have := t.y1pos; omega)
    have h2 := t.sum; have h3 := t.uhi; have h4 := t.split; have h5 := t.y0hi
    omega
  have h0 := t.qlo
  have h1 : Q * y0 ≤ 4294967296 * 4294967296 := Int.mul_le_mul (by omega) (by have := t.y0hi; omega) t.y0lo (by decide)
  have := t.dlo
  omega
theorem Trial.step {U y y1 y0 d Q R : Int} (t : Trial U y y1 y0 d Q R) (h : 4294967296 ≤ Q ∨ 4294967296 * R + d < Q * y0) : Trial U y y1 y0 d (Q - 1) (R + y1) :=
  { t with sum := by have := t.sum; rw [Int.sub_mul]; omega, rlo := by have := t.rlo; have := t.y1pos; omega, top := t.more h }
/-- The first trial: the quotient by the upper half alone is never too small. -/
theorem Trial.start {U y y1 y0 d : Int} (s : y = y1 * 4294967296 + y0) (a : 0 < y1) (b : 0 ≤ y0) (c : y0 < 4294967296) (e : 0 ≤ d) (f : d < 4294967296) (g : 0 ≤ U) (i : U < y) : Trial U y y1 y0 d (U / y1) (U - U / y1 * y1) := by
  have hy : 0 < y := by omega
  have h1 : 0 ≤ U - U / y1 * y1 := by have := Int.ediv_mul_le U (show y1 ≠ 0 by omega); omega
  have h2 : U < (U / y1 + 1) * y1 := Int.lt_ediv_add_one_mul_self U a
  have h3 : 0 ≤ U / y1 := Int.ediv_nonneg g (by omega)
  refine ⟨s, a, b, c, e, f, g, i, by omega, h1, ?_⟩
  have k : U * 4294967296 + d < (U / y1 + 1) * y := by
    have h4 : (U / y1 + 1) * y = (U / y1 + 1) * y1 * 4294967296 + (U / y1 + 1) * y0 := by rw [s, Int.mul_add, Int.mul_assoc]
    have h5 : 0 ≤ (U / y1 + 1) * y0 := Int.mul_nonneg (by omega) b
    omega
  have := (Int.ediv_lt_iff_lt_mul hy).2 k
  omega
theorem Trial.quot_lt {U y y1 y0 d : Int} (t : Trial U y y1 y0 d (U / y1) (U - U / y1 * y1)) (h : y < 18446744073709551616) : U / y1 < 18446744073709551616 := by
  have h1 := Int.ediv_le_self y1 t.ulo
  have := t.uhi
  omega
theorem Trial.rest0 {U y y1 y0 d : Int} (t : Trial U y y1 y0 d (U / y1) (U - U / y1 * y1)) (h : y < 18446744073709551616) : IntKind.u64.wrap (U - IntKind.u64.wrap (U / y1 * y1)) = U - U / y1 * y1 := by
  have h1 := t.rlo; have h2 := t.uhi; have h3 := t.ulo
  have h4 : 0 ≤ U / y1 * y1 := Int.mul_nonneg t.qlo (by have := t.y1pos; omega)
  simp only [IntKind.wrap_u64]; omega
theorem Trial.rest_lt {U y y1 y0 d : Int} (t : Trial U y y1 y0 d (U / y1) (U - U / y1 * y1)) (h : y1 ≤ 4294967296) : U - U / y1 * y1 < 4294967296 := by
  have h2 : U < (U / y1 + 1) * y1 := Int.lt_ediv_add_one_mul_self U t.y1pos
  rw [Int.add_mul] at h2
  omega
theorem Trial.small1 {U y y1 y0 d Q R : Int} (t : Trial U y y1 y0 d Q R) (h : Q < 4294967296) : IntKind.u64.wrap (Q * y0) = Q * y0 := by
  have h1 : 0 ≤ Q * y0 := Int.mul_nonneg t.qlo t.y0lo
  have h2 : Q * y0 ≤ 4294967295 * 4294967295 := Int.mul_le_mul (by omega) (by have := t.y0hi; omega) t.y0lo (by decide)
  rw [IntKind.wrap_u64]; omega
theorem Trial.small2 {U y y1 y0 d Q R : Int} (t : Trial U y y1 y0 d Q R) (h : R < 4294967296) : IntKind.u64.wrap (IntKind.u64.wrap (4294967296 * R) + d) = 4294967296 * R + d := by
  have h1 := t.rlo; have h2 := t.dlo; have h3 := t.dhi
  simp only [IntKind.wrap_u64]; omega
theorem Trial.small3 {U y y1 y0 d Q R : Int} (t : Trial U y y1 y0 d Q R) (h : R < 4294967296) : IntKind.u64.wrap (4294967296 * R + d) = 4294967296 * R + d := by
  have h1 := t.rlo; have h2 := t.dlo; have h3 := t.dhi
  simp only [IntKind.wrap_u64]; omega
theorem fin_wrap {h l y q1 q0 : Int} (hh : U64 h) (hl : U64 l) (hlt : h < y) (hy : 0 < y) (e : q1 * 4294967296 + q0 = (h * 18446744073709551616 + l) / y) :
    IntKind.u64.wrap (IntKind.u64.wrap (q1 * 4294967296) + q0) = (h * 18446744073709551616 + l) / y := by
  obtain ⟨a, b⟩ := hh; obtain ⟨c, d⟩ := hl
  have h1 : 0 ≤ (h * 18446744073709551616 + l) / y := Int.ediv_nonneg (by omega) (by omega)
  have h2 : (h * 18446744073709551616 + l) / y < 18446744073709551616 := (Int.ediv_lt_iff_lt_mul hy).2 (by omega)
  simp only [IntKind.wrap_u64]; omega
theorem fin_wrap2 {h l y q1 q0 : Int} (hh : U64 h) (hl : U64 l) (hlt : h < y) (hy : 0 < y) (e : q1 * 4294967296 + q0 = (h * 18446744073709551616 + l) / y) :
    IntKind.u64.wrap (q1 * 4294967296 + q0) = (h * 18446744073709551616 + l) / y := by
  obtain ⟨a, b⟩ := hh; obtain ⟨c, d⟩ := hl
  have h1 : 0 ≤ (h * 18446744073709551616 + l) / y := Int.ediv_nonneg (by omega) (by omega)
  have h2 : (h * 18446744073709551616 + l) / y < 18446744073709551616 := (Int.ediv_lt_iff_lt_mul hy).2 (by omega)
  simp only [IntKind.wrap_u64]; omega
theorem rest_wrap {U y d Q : Int} (hy : 0 < y) (hy2 : y < 18446744073709551616) (h : Q = (U * 4294967296 + d) / y) :
    IntKind.u64.wrap (IntKind.u64.wrap (IntKind.u64.wrap (U * 4294967296) + d) - IntKind.u64.wrap (Q * y)) = (U * 4294967296 + d) % y := by
  have h1 := Int.emod_nonneg (U * 4294967296 + d) (show y ≠ 0 by omega)
  have h2 := Int.emod_lt_of_pos (U * 4294967296 + d) hy
  have h3 := Int.mul_ediv_add_emod (U * 4294967296 + d) y
  rw [← h, Int.mul_comm] at h3
  simp only [IntKind.wrap_u64]
  omega
theorem div_final {N y P U D d1 d0 q1 q0 U1 U2 : Int} (hP : 0 < P) (hy : 0 < y) (hN : N * P = U * 18446744073709551616 + D) (hD : D = d1 * 4294967296 + d0)
    (h1 : q1 = (U * 4294967296 + d1) / (y * P)) (h2 : U1 = (U * 4294967296 + d1) % (y * P)) (h3 : q0 = (U1 * 4294967296 + d0) / (y * P)) (h4 : U2 = (U1 * 4294967296 + d0) % (y * P)) :
    q1 * 4294967296 + q0 = N / y ∧ U2 / P = N % y := by
  have hY : 0 < y * P := Int.mul_pos hy hP
  have e1 := Int.mul_ediv_add_emod (U * 4294967296 + d1) (y * P)
  have e2 := Int.mul_ediv_add_emod (U1 * 4294967296 + d0) (y * P)
  rw [← h1, ← h2] at e1
  rw [← h3, ← h4] at e2
  have b1 : 0 ≤ U2 := by rw [h4]; exact Int.emod_nonneg _ (by omega)
  have b2 : U2 < y * P := by rw [h4]; exact Int.emod_lt_of_pos _ hY
  have e3 : P * N = P * (y * (q1 * 4294967296 + q0)) + U2 := by
    have k1 : P * (y * (q1 * 4294967296 + q0)) = y * P * q1 * 4294967296 + y * P * q0 := by
      rw [Int.mul_add, Int.mul_add, ← Int.mul_assoc, ← Int.mul_assoc, ← Int.mul_assoc, Int.mul_comm P y]
    rw [k1, Int.mul_comm P N]
    omega
  have e4 : U2 = P * (N - y * (q1 * 4294967296 + q0)) := by rw [Int.mul_sub]; omega
  have r1 : 0 ≤ N - y * (q1 * 4294967296 + q0) := by
    refine Int.not_lt.1 fun h => ?_
    have : P * (N - y * (q1 * 4294967296 + q0)) < 0 := Int.mul_neg_of_pos_of_neg hP h
    omega
  have r2 : N - y * (q1 * 4294967296 + q0) < y := by
    refine Int.lt_of_mul_lt_mul_left (a := P) ?_ (by omega)
    rw [← e4, Int.mul_comm P y]; exact b2
  have u := (Int.ediv_emod_unique (a := N) (r := N - y * (q1 * 4294967296 + q0)) (q := q1 * 4294967296 + q0) hy).2 ⟨by omega, r1, r2⟩
  refine ⟨u.1.symm, ?_⟩
  rw [u.2, e4, Int.mul_ediv_cancel_left _ (by omega)]
theorem and_half {D : Int} (h : U64 D) : bits .and .u64 D 4294967295 = D % 4294967296 := by
  obtain ⟨a, b⟩ := h
  obtain ⟨k, rfl⟩ := Int.eq_ofNat_of_zero_le a
  have h := u64_and_nat k 4294967295 (by omega) (by omega)
  have e : k &&& 4294967295 = k % 4294967296 := Nat.and_two_pow_sub_one_eq_mod k 32
  rw [e] at h
  exact h
theorem or_high (A b : Int) (s : Nat) (hA : 0 ≤ A) (hb : 0 ≤ b) (hb2 : b < 2 ^ s) (hs : A * 2 ^ s + b < 18446744073709551616) : bits .or .u64 (A * 2 ^ s) b = A * 2 ^ s + b := by
  obtain ⟨k, rfl⟩ := Int.eq_ofNat_of_zero_le hA
  obtain ⟨m, rfl⟩ := Int.eq_ofNat_of_zero_le hb
  have c1 : ((k * 2 ^ s : Nat) : Int) = (k : Int) * 2 ^ s := by simp
  rw [← c1] at hs ⊢
  have hm : m < 2 ^ s := by exact_mod_cast hb2
  have h := u64_or_nat (k * 2 ^ s) m (by omega) (by omega)
  rw [h, ← Nat.shiftLeft_eq, ← Nat.shiftLeft_add_eq_or_of_lt hm, Nat.shiftLeft_eq]
  simp
theorem two_split {s : Nat} (hs : s ≤ 63) : (2 : Int) ^ s * 2 ^ (64 - s) = 18446744073709551616 := by
  rw [← Int.pow_add]
  have : s + (64 - s) = 64 := by omega
  rw [this]; rfl
theorem two_pos (s : Nat) : (0 : Int) < 2 ^ s := Int.pow_pos (by decide)
theorem shift_in {l : Int} {s : Nat} (hs : s ≤ 63) (hl : U64 l) : l / 2 ^ (64 - s) = l * 2 ^ s / 18446744073709551616 ∧ 0 ≤ l / 2 ^ (64 - s) ∧ l / 2 ^ (64 - s) < 2 ^ s := by
  have e : l / 2 ^ (64 - s) = l * 2 ^ s / 18446744073709551616 := by
    rw [← two_split hs, Int.mul_comm l, Int.mul_ediv_mul_of_pos _ _ (two_pos s)]
  refine ⟨e, Int.ediv_nonneg hl.1 (Int.le_of_lt (two_pos _)), ?_⟩
  refine (Int.ediv_lt_iff_lt_mul (two_pos _)).2 ?_
  rw [two_split hs]; exact hl.2
theorem div_end {N y Y U D d1 d0 q1 q0 V V2 : Int} {s : Nat} (e : Y = y * 2 ^ s) (h2 : N * 2 ^ s = U * 18446744073709551616 + D) (h3 : D = d1 * 4294967296 + d0)
    (g1 : q1 = (U * 4294967296 + d1) / Y) (g2 : V = (U * 4294967296 + d1) % Y) (g3 : q0 = (V * 4294967296 + d0) / Y) (g4 : V2 = (V * 4294967296 + d0) % Y) (hy : 0 < y) :
    q1 * 4294967296 + q0 = N / y ∧ V2 / 2 ^ s = N % y := by
  subst e; exact div_final (two_pos s) hy h2 h3 g1 g2 g3 g4
theorem parted_math {n y : Int} (h0 : 0 < y) :
    hiOf n / y = hiOf (n / y) ∧ (hiOf n % y * 18446744073709551616 + loOf n) / y = loOf (n / y) ∧ (hiOf n % y * 18446744073709551616 + loOf n) % y = n % y := by
  have hl := lo_u64 n
  have r1 := Int.emod_nonneg (hiOf n) (show y ≠ 0 by omega)
  have r2 := Int.emod_lt_of_pos (hiOf n) h0
  have e := Int.mul_ediv_add_emod (hiOf n) y
  have e2 := hilo n
  obtain ⟨l1, l2⟩ := hl
  have q1 : 0 ≤ (hiOf n % y * 18446744073709551616 + loOf n) / y := Int.ediv_nonneg (by omega) (by omega)
  have q2 : (hiOf n % y * 18446744073709551616 + loOf n) / y < 18446744073709551616 := (Int.ediv_lt_iff_lt_mul h0).2 (by omega)
  have m1 := Int.mul_ediv_add_emod (hiOf n % y * 18446744073709551616 + loOf n) y
  have m2 := Int.emod_nonneg (hiOf n % y * 18446744073709551616 + loOf n) (show y ≠ 0 by omega)
  have m3 := Int.emod_lt_of_pos (hiOf n % y * 18446744073709551616 + loOf n) h0
  have u := (Int.ediv_emod_unique (a := n) (r := (hiOf n % y * 18446744073709551616 + loOf n) % y) (q := hiOf n / y * 18446744073709551616 + (hiOf n % y * 18446744073709551616 + loOf n) / y) h0).2 ⟨by
    rw [Int.mul_add, ← Int.mul_assoc]; omega, m2, m3⟩
  refine ⟨?_, ?_, u.2.symm⟩
  · rw [u.1]; exact (hi_mk _ _ ⟨q1, q2⟩).symm
  · rw [u.1]; exact (lo_mk _ _ ⟨q1, q2⟩).symm
theorem rest_u64 {x y : Int} (hy : U64 y) (h0 : 0 < y) : U64 (x % y) := ⟨Int.emod_nonneg _ (by omega), Int.lt_trans (Int.emod_lt_of_pos _ h0) hy.2⟩
end Go.Proofs.Ytffhbfdbahdhoab.Wd
