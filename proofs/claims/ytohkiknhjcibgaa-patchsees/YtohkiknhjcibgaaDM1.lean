/- SUMS BY COUNTING BITS: plain mathematics. -/
import Derived.Test.YtohkiknhjcibgaaBM9
namespace Go.Proofs.Ytohkiknhjcibgaa

/-- One place: 1 where both agree, -1 where not, 0 where it does not count. -/
def tm (c a b : Bool) : Int := if c then (if a == b then 1 else -1) else 0
/-- The sum over the places below n. -/
def tq (C A B : Nat) : Nat → Int
  | 0 => 0
  | n + 1 => tq C A B n + tm (C.testBit n) (A.testBit n) (B.testBit n)
theorem tq_congr {C A B C' A' B' : Nat} : ∀ n, (∀ i, i < n → C.testBit i = C'.testBit i ∧ A.testBit i = A'.testBit i ∧ B.testBit i = B'.testBit i) → tq C A B n = tq C' A' B' n
  | 0, _ => rfl
  | n + 1, h => by
    obtain ⟨h1, h2, h3⟩ := h n (by omega)
    simp only [tq]; rw [tq_congr n (fun i hi => h i (by omega)), h1, h2, h3]
theorem tq_add (C A B a : Nat) : ∀ b, tq C A B (a + b) = tq C A B a + tq (C / 2 ^ a) (A / 2 ^ a) (B / 2 ^ a) b
  | 0 => by simp [tq]
  | b + 1 => by
    have e : a + (b + 1) = (a + b) + 1 := rfl
    rw [e]; simp only [tq]
    rw [tq_add C A B a b, Nat.testBit_div_two_pow, Nat.testBit_div_two_pow, Nat.testBit_div_two_pow, Nat.add_comm b a]; omega
theorem tq_word (C A B k : Nat) : tq C A B (64 * (k + 1)) = tq C A B (64 * k) + tq (wd C k) (wd A k) (wd B k) 64 := by
  rw [show 64 * (k + 1) = 64 * k + 64 by omega, tq_add]
  congr 1
  refine tq_congr 64 fun i hi => ?_
  simp only [wd_bit, Nat.testBit_div_two_pow, hi, decide_true, Bool.true_and]
  rw [Nat.add_comm i]
  exact ⟨rfl, rfl, rfl⟩
theorem tq_above {C n : Nat} (h : C < 2 ^ n) (A B : Nat) {m : Nat} (hm : n ≤ m) : tq C A B m = tq C A B n := by
  obtain ⟨d, rfl⟩ : ∃ d, m = n + d := ⟨m - n, by omega⟩
  clear hm
  induction d with
  | zero => rfl
  | succ d ih =>
    rw [show n + (d + 1) = (n + d) + 1 by omega]
    simp only [tq]
    rw [ih, bit_above h (by omega)]
    simp [tm]
theorem tm_bd (c a b : Bool) : -1 ≤ tm c a b ∧ tm c a b ≤ 1 := by cases c <;> cases a <;> cases b <;> decide
theorem tq_bd (C A B : Nat) : ∀ n : Nat, -(n : Int) ≤ tq C A B n ∧ tq C A B n ≤ n
  | 0 => by simp [tq]
  | n + 1 => by
    have := tq_bd C A B n
    have := tm_bd (C.testBit n) (A.testBit n) (B.testBit n)
    simp only [tq]; omega
theorem tq_pc {C A B G : Nat} : ∀ n, (∀ i, i < n → G.testBit i = (C.testBit i && (A.testBit i == B.testBit i))) → 2 * (pc G n : Int) - pc C n = tq C A B n
  | 0, _ => rfl
  | n + 1, h => by
    have ih := tq_pc n (fun i hi => h i (by omega))
    simp only [pc, tq]
    rw [h n (by omega), ← ih]
    cases C.testBit n <;> cases A.testBit n <;> cases B.testBit n <;> simp [tm] <;> omega
/-- The word of the places that agree. -/
def agr (c a b : Nat) : Nat := c &&& (18446744073709551615 - (a ^^^ b))
theorem agr_lt {c : Nat} (h : c < 18446744073709551616) (a b : Nat) : agr c a b < 18446744073709551616 := and_lt64 h
theorem agr_bit {c a b i : Nat} (ha : a < 18446744073709551616) (hb : b < 18446744073709551616) (hi : i < 64) : (agr c a b).testBit i = (c.testBit i && (a.testBit i == b.testBit i)) := by
  have hx := xor_lt64 ha hb
  have e : 18446744073709551615 - (a ^^^ b) = 2 ^ 64 - ((a ^^^ b) + 1) := by rw [← two64]; omega
  unfold agr
  rw [Nat.testBit_and, e, Nat.testBit_two_pow_sub_succ (by rw [← two64]; exact hx), Nat.testBit_xor]
  simp only [hi, decide_true, Bool.true_and]
  cases c.testBit i <;> cases a.testBit i <;> cases b.testBit i <;> rfl
theorem agr_pc {c a b : Nat} (ha : a < 18446744073709551616) (hb : b < 18446744073709551616) : 2 * (pc (agr c a b) 64 : Int) - pc c 64 = tq c a b 64 :=
  tq_pc 64 fun _ hi => agr_bit ha hb hi

/-- A weight: of the sign S, where M counts. -/
def wt (S M i : Nat) : Int := if M.testBit i then (if S.testBit i then 1 else -1) else 0
/-- The sum of f below n. -/
def sm (f : Nat → Int) : Nat → Int
  | 0 => 0
  | n + 1 => sm f n + f n
theorem sm_congr {f g : Nat → Int} : ∀ n, (∀ i, i < n → f i = g i) → sm f n = sm g n
  | 0, _ => rfl
  | n + 1, h => by simp only [sm]; rw [sm_congr n (fun i hi => h i (by omega)), h n (by omega)]
theorem sm_add (f g : Nat → Int) : ∀ n, sm (fun i => f i + g i) n = sm f n + sm g n
  | 0 => rfl
  | n + 1 => by simp only [sm]; rw [sm_add f g n]; omega
theorem sm_mul (c : Int) (f : Nat → Int) : ∀ n, sm (fun i => c * f i) n = c * sm f n
  | 0 => by simp [sm]
  | n + 1 => by simp only [sm]; rw [sm_mul c f n, Int.mul_add]
theorem sm_bd {f : Nat → Int} {K : Int} : ∀ n : Nat, (∀ i, i < n → -K ≤ f i ∧ f i ≤ K) → -(n * K) ≤ sm f n ∧ sm f n ≤ n * K
  | 0, _ => by simp [sm]
  | n + 1, h => by
    have := sm_bd (K := K) n (fun i hi => h i (by omega))
    have := h n (by omega)
    have e : ((n + 1 : Nat) : Int) * K = n * K + K := by rw [Int.natCast_add, Int.add_mul]; simp
    simp only [sm]; rw [e]; omega
/-- Signs, by places. -/
def xs1 (X i : Nat) : Int := if X.testBit i then 1 else -1
theorem tq_signs (S M X : Nat) : ∀ n, tq M S X n = sm (fun i => wt S M i * xs1 X i) n
  | 0 => rfl
  | n + 1 => by
    simp only [tq, sm]; rw [tq_signs S M X n]
    congr 1
    unfold tm wt xs1
    cases M.testBit n <;> cases S.testBit n <;> cases X.testBit n <;> rfl
theorem tq_some (S M S' M' : Nat) : ∀ n, tq (M &&& M') S S' n = sm (fun i => wt S M i * wt S' M' i) n
  | 0 => rfl
  | n + 1 => by
    simp only [tq, sm]; rw [tq_some S M S' M' n]
    congr 1
    unfold tm wt
    rw [Nat.testBit_and]
    cases M.testBit n <;> cases S.testBit n <;> cases M'.testBit n <;> cases S'.testBit n <;> rfl
/-- Over one plane. -/
theorem tq_plane (S M P : Nat) : ∀ n, tq (M &&& P) S P n = sm (fun i => wt S M i * (P.testBit i).toNat) n
  | 0 => rfl
  | n + 1 => by
    simp only [tq, sm]; rw [tq_plane S M P n]
    congr 1
    unfold tm wt
    rw [Nat.testBit_and]
    cases M.testBit n <;> cases S.testBit n <;> cases P.testBit n <;> rfl
/-- What a bit of plane p weighs. -/
def pw (p : Nat) : Int := if p = 7 then -128 else 2 ^ p
/-- The sum over the planes below q. -/
def npl (S M : Nat) (P : Nat → Nat) (n : Nat) : Nat → Int
  | 0 => 0
  | q + 1 => npl S M P n q + pw q * tq (M &&& P q) S (P q) n
/-- The number that the planes below q have at a place. -/
def nat8 (P : Nat → Nat) (i : Nat) : Nat → Int
  | 0 => 0
  | q + 1 => nat8 P i q + pw q * ((P q).testBit i).toNat
theorem npl_is (S M : Nat) (P : Nat → Nat) (n : Nat) : ∀ q, npl S M P n q = sm (fun i => wt S M i * nat8 P i q) n
  | 0 => by
    simp only [npl, nat8]
    rw [sm_congr (g := fun _ => 0) n (fun i _ => by simp)]
    have := sm_mul 0 (fun _ => 0) n
    simp at this; exact this.symm
  | q + 1 => by
    simp only [npl, nat8]
    rw [npl_is S M P n q, tq_plane, ← sm_mul, ← sm_add]
    refine sm_congr n fun i _ => ?_
    rw [Int.mul_add]
    congr 1
    rw [← Int.mul_assoc, Int.mul_comm (pw q), Int.mul_assoc]
end Go.Proofs.Ytohkiknhjcibgaa
