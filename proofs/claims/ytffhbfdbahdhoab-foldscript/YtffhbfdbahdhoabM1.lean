/-
  PLAIN MATHEMATICS OF TWO-WORD NUMBERS. No Go in sight.
-/
import Derived.WalkKit
import Derived.Laws.BitsAllLaws
import Derived.RowKit
namespace Go.Proofs.Ytffhbfdbahdhoab.Wd
open Go.RowKit

/-- The upper word of a number, and the lower one. -/
def hiOf (n : Int) : Int := n / 18446744073709551616
def loOf (n : Int) : Int := n % 18446744073709551616
/-- A number that two words with a sign hold; a word with a sign; a word without. -/
def Rng (n : Int) : Prop := -170141183460469231731687303715884105728 ≤ n ∧ n < 170141183460469231731687303715884105728
def I64 (n : Int) : Prop := -9223372036854775808 ≤ n ∧ n < 9223372036854775808
def U64 (n : Int) : Prop := 0 ≤ n ∧ n < 18446744073709551616
/-- A size: two words without a sign. -/
def Siz (n : Int) : Prop := 0 ≤ n ∧ n < 340282366920938463463374607431768211456

theorem hi_i64 {n : Int} (h : Rng n) : I64 (hiOf n) := by unfold Rng at h; unfold I64 hiOf; omega
theorem hi_u64 {n : Int} (h : Siz n) : U64 (hiOf n) := by unfold Siz at h; unfold U64 hiOf; omega
theorem lo_u64 (n : Int) : U64 (loOf n) := by unfold U64 loOf; omega
theorem hilo (n : Int) : hiOf n * 18446744073709551616 + loOf n = n := by unfold hiOf loOf; omega
theorem hi_mk (h l : Int) (hl : U64 l) : hiOf (h * 18446744073709551616 + l) = h := by unfold U64 at hl; unfold hiOf; omega
theorem lo_mk (h l : Int) (hl : U64 l) : loOf (h * 18446744073709551616 + l) = l := by unfold U64 at hl; unfold loOf; omega
theorem rng_mk {h l : Int} (hh : I64 h) (hl : U64 l) : Rng (h * 18446744073709551616 + l) := by unfold I64 at hh; unfold U64 at hl; unfold Rng; omega
theorem siz_mk {h l : Int} (hh : U64 h) (hl : U64 l) : Siz (h * 18446744073709551616 + l) := by unfold U64 at hh hl; unfold Siz; omega
theorem hi_neg (n : Int) : hiOf n < 0 ↔ n < 0 := by unfold hiOf; omega
theorem hilo_inj {a b : Int} (h : hiOf a = hiOf b) (l : loOf a = loOf b) : a = b := by rw [← hilo a, ← hilo b, h, l]
/-- The word turned over, bit by bit. -/
def notW (x : Int) : Int := 18446744073709551615 - x
theorem notW_u64 {x : Int} (h : U64 x) : 0 ≤ notW x ∧ notW x < 18446744073709551616 := by unfold U64 at h; unfold notW; omega
theorem xor_ones (k : Nat) (hk : k < 18446744073709551616) : 18446744073709551615 ^^^ k = 18446744073709551615 - k := by
  have h : (18446744073709551615#64 ^^^ BitVec.ofNat 64 k) = ~~~ (BitVec.ofNat 64 k) := BitVec.allOnes_xor
  have h2 := congrArg BitVec.toNat h
  rw [BitVec.toNat_xor, BitVec.toNat_not, BitVec.toNat_ofNat, BitVec.toNat_ofNat] at h2
  simpa [Nat.mod_eq_of_lt hk] using h2
theorem bits_not {x : Int} (h : U64 x) : bits .xor .u64 IntKind.u64.max x = notW x := by
  obtain ⟨h0, h1⟩ := h
  obtain ⟨k, rfl⟩ := Int.eq_ofNat_of_zero_le h0
  have e : IntKind.u64.max = ((18446744073709551615 : Nat) : Int) := by rfl
  rw [e, u64_xor_nat _ _ (by omega) (by omega), xor_ones k (by omega)]
  unfold notW; omega
theorem flip_words (n : Int) : (notW (hiOf n) + (notW (loOf n) + 1) / 18446744073709551616) % 18446744073709551616 = hiOf ((340282366920938463463374607431768211456 - n) % 340282366920938463463374607431768211456) ∧ (notW (loOf n) + 1) % 18446744073709551616 = loOf ((340282366920938463463374607431768211456 - n) % 340282366920938463463374607431768211456) := by
  unfold notW hiOf loOf; omega
def flipN (n : Int) : Int := (340282366920938463463374607431768211456 - n) % 340282366920938463463374607431768211456
theorem flipN_siz (n : Int) : Siz (flipN n) := by unfold Siz flipN; omega
def absN (n : Int) : Int := if n < 0 then -n else n
theorem absN_siz {n : Int} (h : Rng n) : Siz (absN n) := by unfold Rng at h; unfold Siz absN; split <;> omega
theorem absN_u64 {n : Int} (h : I64 n) : U64 (absN n) := by unfold I64 at h; unfold U64 absN; split <;> omega
theorem wrap_hi {n : Int} (h : Rng n) (h0 : n < 0) : IntKind.u64.wrap (hiOf n) = hiOf (n + 340282366920938463463374607431768211456) := by
  rw [IntKind.wrap_u64]; unfold Rng at h; unfold hiOf; omega
theorem wrap_hi_pos {n : Int} (h : Rng n) (h0 : 0 ≤ n) : IntKind.u64.wrap (hiOf n) = hiOf n := by
  rw [IntKind.wrap_u64]; unfold Rng at h; unfold hiOf; omega
theorem lo_up (n : Int) : loOf n = loOf (n + 340282366920938463463374607431768211456) := by unfold loOf; omega
theorem siz_up {n : Int} (h : Rng n) (h0 : n < 0) : Siz (n + 340282366920938463463374607431768211456) := by unfold Rng at h; unfold Siz; omega
theorem flip_up {n : Int} (h : Rng n) (h0 : n < 0) : flipN (n + 340282366920938463463374607431768211456) = -n := by unfold Rng at h; unfold flipN; omega
theorem amount_neg {n : Int} (hn : I64 n) (h : n < 0) : IntKind.u64.wrap (-IntKind.u64.wrap n) = -n := by
  rw [IntKind.wrap_u64, IntKind.wrap_u64]; unfold I64 at hn; omega
theorem amount_pos {n : Int} (hn : I64 n) (h : ¬ n < 0) : IntKind.u64.wrap n = n := by
  rw [IntKind.wrap_u64]; unfold I64 at hn; omega
theorem sg_pos {n : Int} (hn : Siz n) (h : n < 170141183460469231731687303715884105728) : wrap64 (hiOf n) = hiOf n ∧ 0 ≤ hiOf n := by
  unfold Siz at hn; unfold hiOf wrap64; omega
theorem sg_big {n : Int} (hn : Siz n) (h : 170141183460469231731687303715884105728 ≤ n) : wrap64 (hiOf n) < 0 ∧ (hiOf n == 0) = false := by
  rw [beq_eq_false_iff_ne]; unfold Siz at hn; unfold hiOf wrap64; omega
theorem sg_neg {n : Int} (hn : Siz n) (h : n ≤ 170141183460469231731687303715884105728) (h0 : 0 < n) : wrap64 (hiOf (flipN n)) = hiOf (-n) ∧ loOf (flipN n) = loOf (-n) ∧ hiOf (-n) < 0 ∧ (hiOf (flipN n) == 0) = false := by
  rw [beq_eq_false_iff_ne]; unfold Siz at hn; unfold hiOf loOf flipN wrap64; omega
theorem wrap64_0 : wrap64 0 = 0 := by unfold wrap64; omega
theorem flip0 : flipN 0 = 0 := rfl
theorem siz0 : Siz 0 := by unfold Siz; omega
theorem sg_far_lo {n : Int} (hn : Siz n) (h : 170141183460469231731687303715884105728 < n) (hz : hiOf (flipN n) = 0) : (loOf (flipN n) == 0) = false := by
  rw [beq_eq_false_iff_ne]; unfold Siz at hn; unfold hiOf at hz; unfold loOf; unfold flipN at *; omega
theorem sg_far_hi {n : Int} (hn : Siz n) (h : 170141183460469231731687303715884105728 < n) : wrap64 (hiOf (flipN n)) = hiOf (flipN n) ∧ 0 ≤ hiOf (flipN n) := by
  unfold Siz at hn; unfold hiOf flipN wrap64; omega
theorem hi0 : hiOf 0 = 0 := rfl
theorem lo0 : loOf 0 = 0 := rfl
theorem u64_signed : IntKind.u64.signed = false := rfl
end Go.Proofs.Ytffhbfdbahdhoab.Wd
