import Derived.Test.YtboabgjgcnkelabDoorW4
import Derived.Test.YtboabgjgcnkelabDoorM5
namespace Go.Proofs.YtboabgjgcnkelabDoor
open Go.RowKit Go.Shelf
theorem lz_math (y : Int) (hy : U64 y) (h0 : 0 < y) : ∃ s : Nat, s ≤ 63 ∧ (64 - (Lib.bitLen y.toNat : Int)) = s ∧ 9223372036854775808 ≤ y * 2 ^ s ∧ y * 2 ^ s < 18446744073709551616 := by
  obtain ⟨a, b⟩ := hy
  obtain ⟨k, rfl⟩ := Int.eq_ofNat_of_zero_le a
  obtain ⟨p1, p2, p3⟩ := Lib.bitLenAux_bounds 64 k (by omega) (by omega)
  have e : Lib.bitLen k = Lib.bitLenAux 64 k := rfl
  rw [← e] at p1 p2 p3
  rw [Int.toNat_natCast]
  generalize Lib.bitLen k = n at *
  have hn : n ≤ 64 := by
    refine Nat.not_lt.1 fun hn => ?_
    have : 2 ^ 64 ≤ 2 ^ (n - 1) := Nat.pow_le_pow_right (by decide) (by omega)
    omega
  refine ⟨64 - n, by omega, by omega, ?_, ?_⟩
  · have h0 : n - 1 + (64 - n) = 63 := by omega
    have h1 : 2 ^ (n - 1) * 2 ^ (64 - n) = 9223372036854775808 := by rw [← Nat.pow_add, h0]
    have h2 : 2 ^ (n - 1) * 2 ^ (64 - n) ≤ k * 2 ^ (64 - n) := Nat.mul_le_mul_right _ p2
    have h3 : ((k * 2 ^ (64 - n) : Nat) : Int) = (k : Int) * 2 ^ (64 - n) := by simp
    omega
  · have h0 : n + (64 - n) = 64 := by omega
    have h1 : 2 ^ n * 2 ^ (64 - n) = 18446744073709551616 := by rw [← Nat.pow_add, h0]
    have h2 : k * 2 ^ (64 - n) < 2 ^ n * 2 ^ (64 - n) := Nat.mul_lt_mul_of_pos_right p3 (Nat.pow_pos (by decide))
    have h3 : ((k * 2 ^ (64 - n) : Nat) : Int) = (k : Int) * 2 ^ (64 - n) := by simp
    omega
theorem ret_pair {a b c d : Int} (h1 : a = c) (h2 : b = d) : Ending.returned (.tuple #[.int .u64 a, .int .u64 b]) = .returned (.tuple #[.int .u64 c, .int .u64 d]) := by rw [h1, h2]
theorem hid1 {p : Prop} (h : p) : Hid p := h
theorem letters {h l y : Int} {s : Nat} (hs : s ≤ 63) (hh : U64 h) (hl : U64 l) (hlt : h < y) (n1 : 9223372036854775808 ≤ y * 2 ^ s) (n2 : y * 2 ^ s < 18446744073709551616) :
    IntKind.u64.wrap (y * 2 ^ s) = y * 2 ^ s ∧ bits .or .u64 (IntKind.u64.wrap (h * 2 ^ s)) (l / 2 ^ (64 - s)) = h * 2 ^ s + l / 2 ^ (64 - s) ∧ U64 (IntKind.u64.wrap (l * 2 ^ s)) ∧
    (h * 18446744073709551616 + l) * 2 ^ s = (h * 2 ^ s + l / 2 ^ (64 - s)) * 18446744073709551616 + IntKind.u64.wrap (l * 2 ^ s) ∧ 0 ≤ h * 2 ^ s + l / 2 ^ (64 - s) ∧ h * 2 ^ s + l / 2 ^ (64 - s) < y * 2 ^ s := by
  obtain ⟨e1, e2, e3⟩ := shift_in hs hl
  have hp := two_pos s
  have g1 : (h + 1) * 2 ^ s ≤ y * 2 ^ s := Int.mul_le_mul_of_nonneg_right (by omega) (by omega)
  have g2 : 0 ≤ h * 2 ^ s := Int.mul_nonneg hh.1 (by omega)
  rw [Int.add_mul, Int.one_mul] at g1
  have w1 : IntKind.u64.wrap (h * 2 ^ s) = h * 2 ^ s := by rw [IntKind.wrap_u64]; omega
  refine ⟨by rw [IntKind.wrap_u64]; omega, ?_, wrap_u64 _, ?_, by omega, by omega⟩
  · rw [w1]; exact or_high h _ s hh.1 e2 e3 (by omega)
  · rw [IntKind.wrap_u64, e1, Int.add_mul, Int.add_mul]
    have a1 : h * 18446744073709551616 * 2 ^ s = h * 2 ^ s * 18446744073709551616 := by rw [Int.mul_assoc, Int.mul_assoc, Int.mul_comm 18446744073709551616]
    have := Int.mul_ediv_add_emod (l * 2 ^ s) 18446744073709551616
    omega

end Go.Proofs.YtboabgjgcnkelabDoor
