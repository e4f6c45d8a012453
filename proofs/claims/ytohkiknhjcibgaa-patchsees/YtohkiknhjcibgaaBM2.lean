/- HOW MANY BITS ARE SET: plain mathematics. -/
import Derived.Test.YtohkiknhjcibgaaBM1
namespace Go.Proofs.Ytohkiknhjcibgaa

/-- How many of the lowest n bits are set. -/
def pc (N : Nat) : Nat → Nat
  | 0 => 0
  | n + 1 => pc N n + (N.testBit n).toNat
theorem pc_le (N : Nat) : ∀ n, pc N n ≤ n
  | 0 => Nat.le_refl _
  | n + 1 => by have := pc_le N n; have h := Bool.toNat_le (N.testBit n); simp only [pc]; omega
theorem pc_congr {A B : Nat} : ∀ n, (∀ i, i < n → A.testBit i = B.testBit i) → pc A n = pc B n
  | 0, _ => rfl
  | n + 1, h => by simp only [pc]; rw [pc_congr n (fun i hi => h i (by omega)), h n (by omega)]
theorem pc_add (N a : Nat) : ∀ b, pc N (a + b) = pc N a + pc (N / 2 ^ a) b
  | 0 => rfl
  | b + 1 => by
    have e : a + (b + 1) = (a + b) + 1 := rfl
    rw [e]; simp only [pc]; rw [pc_add N a b, Nat.testBit_div_two_pow, Nat.add_comm b a]; omega
theorem pc_byte {h b : Nat} (hb : b < 256) (k : Nat) : pc (256 * h + b) (8 + k) = pc b 8 + pc h k := by
  rw [pc_add]
  congr 1
  · refine pc_congr 8 fun i hi => ?_
    have e : (256 * h + b) % 2 ^ 8 = b % 2 ^ 8 := by omega
    have h1 := Nat.testBit_mod_two_pow (256 * h + b) 8 i
    have h2 := Nat.testBit_mod_two_pow b 8 i
    rw [e, h2] at h1
    simpa [hi] using h1.symm
  · congr 1; omega
theorem and_byte {h b M m : Nat} (hb : b < 256) (hm : m < 256) : (256 * h + b) &&& (256 * M + m) = 256 * (h &&& M) + (b &&& m) := by
  refine Nat.eq_of_testBit_eq fun i => ?_
  have hl : b &&& m < 2 ^ 8 := Nat.lt_of_le_of_lt Nat.and_le_left hb
  have e1 := Nat.testBit_two_pow_mul_add h (i := 8) (b := b) (by omega) i
  have e2 := Nat.testBit_two_pow_mul_add M (i := 8) (b := m) (by omega) i
  have e3 := Nat.testBit_two_pow_mul_add (h &&& M) hl i
  simp only [show (2 : Nat) ^ 8 = 256 by decide] at e1 e2 e3
  rw [Nat.testBit_and, e1, e2, e3]
  split <;> simp
def mk (c : Nat) : Nat → Nat
  | 0 => 0
  | k + 1 => 256 * mk c k + c
def f1 (k x : Nat) : Nat := (x / 2 &&& mk 85 k) + (x &&& mk 85 k)
def f2 (k x : Nat) : Nat := (x / 4 &&& mk 51 k) + (x &&& mk 51 k)
def f3 (k x : Nat) : Nat := (x / 16 + x) &&& mk 15 k
def g1 (b : Nat) : Nat := (b / 2 &&& 85) + (b &&& 85)
def g2 (b : Nat) : Nat := (b / 4 &&& 51) + (b &&& 51)
theorem f1_byte {h b : Nat} (hb : b < 256) (k : Nat) : f1 (k + 1) (256 * h + b) = 256 * f1 k h + g1 b := by
  have key : ∀ c : Fin 2, ∀ b : Fin 256, (128 * c.val + b.val / 2) &&& 85 = (b.val / 2) &&& 85 := by decide +kernel
  have e1 : (256 * h + b) / 2 = 256 * (h / 2) + (128 * (h % 2) + b / 2) := by omega
  unfold f1 g1
  rw [e1]
  simp only [mk]
  rw [and_byte (by omega) (by omega), and_byte hb (by omega), key ⟨h % 2, by omega⟩ ⟨b, hb⟩]
  dsimp only
  generalize (h / 2 &&& mk 85 k) = p
  generalize (h &&& mk 85 k) = q
  omega
theorem f2_byte {h b : Nat} (hb : b < 256) (k : Nat) : f2 (k + 1) (256 * h + b) = 256 * f2 k h + g2 b := by
  have key : ∀ c : Fin 4, ∀ b : Fin 256, (64 * c.val + b.val / 4) &&& 51 = (b.val / 4) &&& 51 := by decide +kernel
  have e1 : (256 * h + b) / 4 = 256 * (h / 4) + (64 * (h % 4) + b / 4) := by omega
  unfold f2 g2
  rw [e1]
  simp only [mk]
  rw [and_byte (by omega) (by omega), and_byte hb (by omega), key ⟨h % 4, by omega⟩ ⟨b, hb⟩]
  dsimp only
  generalize (h / 4 &&& mk 51 k) = p
  generalize (h &&& mk 51 k) = q
  omega
theorem f3_byte {h b : Nat} (hb : b ≤ 68) (hh : h % 16 ≤ 4) (k : Nat) : f3 (k + 1) (256 * h + b) = 256 * f3 k h + (b / 16 + b) % 16 := by
  have e1 : (256 * h + b) / 16 + (256 * h + b) = 256 * (h / 16 + h) + (16 * (h % 16) + (b / 16 + b)) := by omega
  unfold f3
  rw [e1]
  simp only [mk]
  rw [and_byte (by omega) (by omega)]
  have e2 : (16 * (h % 16) + (b / 16 + b)) &&& 15 = (b / 16 + b) % 16 := by
    rw [Nat.and_two_pow_sub_one_eq_mod _ 4]; omega
  rw [e2]
theorem gg : ∀ b : Fin 256, g2 (g1 b.val) ≤ 68 ∧ g2 (g1 b.val) % 16 ≤ 4 ∧ g1 b.val < 256 ∧ (g2 (g1 b.val) / 16 + g2 (g1 b.val)) % 16 = pc b.val 8 := by decide +kernel
def ff (k x : Nat) : Nat := f3 k (f2 k (f1 k x))
theorem ff_low (k x : Nat) : f2 k (f1 k x) % 16 ≤ 4 := by
  cases k with
  | zero => simp [f2, mk]
  | succ k =>
    obtain ⟨h, b, hb, rfl⟩ : ∃ h b, b < 256 ∧ x = 256 * h + b := ⟨x / 256, x % 256, by omega, by omega⟩
    obtain ⟨_, a2, a3, _⟩ := gg ⟨b, hb⟩
    dsimp only at a2 a3
    rw [f1_byte hb, f2_byte a3]
    omega
theorem ff_byte {h b : Nat} (hb : b < 256) (k : Nat) : ff (k + 1) (256 * h + b) = 256 * ff k h + pc b 8 := by
  obtain ⟨a1, a2, a3, a4⟩ := gg ⟨b, hb⟩
  unfold ff
  rw [f1_byte hb, f2_byte a3, f3_byte a1 (ff_low k h), a4]
theorem ff_zero (x : Nat) : ff 0 x = 0 := by simp [ff, f3, mk]
def tt (y : Nat) : Nat := (((y + y / 256) + (y + y / 256) / 65536) + ((y + y / 256) + (y + y / 256) / 65536) / 4294967296) % 128
theorem tt_sum (c0 c1 c2 c3 c4 c5 c6 c7 : Nat) (h0 : c0 ≤ 8) (h1 : c1 ≤ 8) (h2 : c2 ≤ 8) (h3 : c3 ≤ 8) (h4 : c4 ≤ 8) (h5 : c5 ≤ 8) (h6 : c6 ≤ 8) (h7 : c7 ≤ 8) :
    tt (256 * (256 * (256 * (256 * (256 * (256 * (256 * (256 * 0 + c7) + c6) + c5) + c4) + c3) + c2) + c1) + c0) = c0 + c1 + c2 + c3 + c4 + c5 + c6 + c7 := by
  unfold tt
  have e0 : (256 * (256 * (256 * (256 * (256 * (256 * (256 * (256 * 0 + c7) + c6) + c5) + c4) + c3) + c2) + c1) + c0) / 256 = (256 * (256 * (256 * (256 * (256 * (256 * (256 * 0 + c7) + c6) + c5) + c4) + c3) + c2) + c1) := by omega
  rw [e0]
  have e1 : (256 * (256 * (256 * (256 * (256 * (256 * (256 * (256 * 0 + c7) + c6) + c5) + c4) + c3) + c2) + c1) + c0) + (256 * (256 * (256 * (256 * (256 * (256 * (256 * 0 + c7) + c6) + c5) + c4) + c3) + c2) + c1) = (256 * (256 * (256 * (256 * (256 * (256 * (256 * (256 * 0 + (c7)) + (c6 + c7)) + (c5 + c6)) + (c4 + c5)) + (c3 + c4)) + (c2 + c3)) + (c1 + c2)) + (c0 + c1)) := by omega
  rw [e1]
  have e2 : (256 * (256 * (256 * (256 * (256 * (256 * (256 * (256 * 0 + (c7)) + (c6 + c7)) + (c5 + c6)) + (c4 + c5)) + (c3 + c4)) + (c2 + c3)) + (c1 + c2)) + (c0 + c1)) / 65536 = (256 * (256 * (256 * (256 * (256 * (256 * 0 + (c7)) + (c6 + c7)) + (c5 + c6)) + (c4 + c5)) + (c3 + c4)) + (c2 + c3)) := by clear e0 e1; omega
  rw [e2]
  have e3 : (256 * (256 * (256 * (256 * (256 * (256 * (256 * (256 * 0 + (c7)) + (c6 + c7)) + (c5 + c6)) + (c4 + c5)) + (c3 + c4)) + (c2 + c3)) + (c1 + c2)) + (c0 + c1)) + (256 * (256 * (256 * (256 * (256 * (256 * 0 + (c7)) + (c6 + c7)) + (c5 + c6)) + (c4 + c5)) + (c3 + c4)) + (c2 + c3)) = (256 * (256 * (256 * (256 * (256 * (256 * (256 * (256 * 0 + (c7)) + (c6 + c7)) + (c5 + c6 + c7)) + (c4 + c5 + c6 + c7)) + (c3 + c4 + c5 + c6)) + (c2 + c3 + c4 + c5)) + (c1 + c2 + c3 + c4)) + (c0 + c1 + c2 + c3)) := by clear e0 e1 e2; omega
  rw [e3]
  have e4 : (256 * (256 * (256 * (256 * (256 * (256 * (256 * (256 * 0 + (c7)) + (c6 + c7)) + (c5 + c6 + c7)) + (c4 + c5 + c6 + c7)) + (c3 + c4 + c5 + c6)) + (c2 + c3 + c4 + c5)) + (c1 + c2 + c3 + c4)) + (c0 + c1 + c2 + c3)) / 4294967296 = (256 * (256 * (256 * (256 * 0 + (c7)) + (c6 + c7)) + (c5 + c6 + c7)) + (c4 + c5 + c6 + c7)) := by clear e0 e1 e2 e3; omega
  rw [e4]
  clear e0 e1 e2 e3 e4
  omega
theorem split8 (x : Nat) (h : x < 18446744073709551616) : ∃ b0 b1 b2 b3 b4 b5 b6 b7 : Nat, b0 < 256 ∧ b1 < 256 ∧ b2 < 256 ∧ b3 < 256 ∧ b4 < 256 ∧ b5 < 256 ∧ b6 < 256 ∧ b7 < 256 ∧
    x = 256 * (256 * (256 * (256 * (256 * (256 * (256 * (256 * 0 + b7) + b6) + b5) + b4) + b3) + b2) + b1) + b0 :=
  ⟨x % 256, x / 256 % 256, x / 65536 % 256, x / 16777216 % 256, x / 4294967296 % 256, x / 1099511627776 % 256, x / 281474976710656 % 256, x / 72057594037927936, by omega, by omega, by omega, by omega, by omega, by omega, by omega, by omega, by omega⟩
theorem ones_is (x : Nat) (h : x < 18446744073709551616) : tt (ff 8 x) = pc x 64 ∧ ff 8 x ≤ 578721382704613384 := by
  obtain ⟨b0, b1, b2, b3, b4, b5, b6, b7, h0, h1, h2, h3, h4, h5, h6, h7, rfl⟩ := split8 x h
  rw [ff_byte h0, ff_byte h1, ff_byte h2, ff_byte h3, ff_byte h4, ff_byte h5, ff_byte h6, ff_byte h7, ff_zero]
  have l0 := pc_le b0 8; have l1 := pc_le b1 8; have l2 := pc_le b2 8; have l3 := pc_le b3 8
  have l4 := pc_le b4 8; have l5 := pc_le b5 8; have l6 := pc_le b6 8; have l7 := pc_le b7 8
  refine ⟨?_, by omega⟩
  rw [tt_sum _ _ _ _ _ _ _ _ l0 l1 l2 l3 l4 l5 l6 l7]
  have e : (64 : Nat) = 8 + (8 + (8 + (8 + (8 + (8 + (8 + (8 + 0))))))) := rfl
  rw [e, pc_byte h0, pc_byte h1, pc_byte h2, pc_byte h3, pc_byte h4, pc_byte h5, pc_byte h6, pc_byte h7]
  simp only [pc]
  omega
theorem mk85 : mk 85 8 = 6148914691236517205 := by decide
theorem mk51 : mk 51 8 = 3689348814741910323 := by decide
theorem mk15 : mk 15 8 = 1085102592571150095 := by decide
/-- The count by words. -/
theorem pc_words (N : Nat) : ∀ m, pc N (64 * (m + 1)) = pc N (64 * m) + pc (wd N m) 64 := by
  intro m
  rw [show 64 * (m + 1) = 64 * m + 64 by omega, pc_add]
  congr 1
  refine pc_congr 64 fun i hi => ?_
  rw [wd_bit, Nat.testBit_div_two_pow, Nat.add_comm]
  simp [hi]
theorem pc_above {N n m : Nat} (h : N < 2 ^ n) (hm : n ≤ m) : pc N m = pc N n := by
  obtain ⟨d, rfl⟩ : ∃ d, m = n + d := ⟨m - n, by omega⟩
  clear hm
  induction d with
  | zero => rfl
  | succ d ih => rw [show n + (d + 1) = (n + d) + 1 by omega]; simp only [pc]; rw [ih, bit_above h (by omega)]; rfl
theorem pc_zero : ∀ n, pc 0 n = 0
  | 0 => rfl
  | n + 1 => by simp [pc, pc_zero n]
theorem pc_nt {n N : Nat} (h : N < 2 ^ n) : ∀ k, k ≤ n → pc N k + pc (nt n N) k = k
  | 0, _ => rfl
  | k + 1, hk => by
    have ih := pc_nt h k (by omega)
    simp only [pc]
    rw [nt_bit h]
    have h1 : k < n := by omega
    cases N.testBit k <;> simp [h1] <;> omega
theorem pc_and_xor (A B : Nat) : ∀ n, pc A n + pc B n = 2 * pc (A &&& B) n + pc (A ^^^ B) n
  | 0 => rfl
  | n + 1 => by
    have ih := pc_and_xor A B n
    simp only [pc, Nat.testBit_and, Nat.testBit_xor]
    cases A.testBit n <;> cases B.testBit n <;> simp <;> omega
end Go.Proofs.Ytohkiknhjcibgaa
