import Derived.Test.YtcjglbejmlebhaaDoorW30
namespace Go.Proofs.YtcjglbejmlebhaaDoor
open Go.RowKit Go.Shelf

/-- One digit times all: the carry ahead of place k, and the digits up to it. -/
def mcr (x : Int) (b : List Int) : Nat → Int
  | 0 => 0
  | k + 1 => (mcr x b k + x * dat b k) / 65536
def mrw (x : Int) (b : List Int) : Nat → List Int
  | 0 => []
  | k + 1 => mrw x b k ++ [(mcr x b k + x * dat b k) % 65536]
theorem mrw_len (x : Int) (b : List Int) : ∀ k, (mrw x b k).length = k
  | 0 => rfl
  | k + 1 => by simp [mrw, mrw_len x b k]
theorem mrw_dg (x : Int) (b : List Int) : ∀ k, Dg (mrw x b k)
  | 0 => fun _ h => by simp [mrw] at h
  | k + 1 => (mrw_dg x b k).snoc (by omega)
theorem dig_mul {x y : Int} (hx : 0 ≤ x ∧ x < 65536) (hy : 0 ≤ y ∧ y < 65536) : 0 ≤ x * y ∧ x * y ≤ 4294836225 := by
  constructor
  · exact Int.mul_nonneg hx.1 hy.1
  · have := Int.mul_le_mul (show x ≤ 65535 by omega) (show y ≤ 65535 by omega) hy.1 (by decide)
    omega
theorem mcr_bd {x : Int} {b : List Int} (hx : 0 ≤ x ∧ x < 65536) (hb : Dg b) : ∀ k, 0 ≤ mcr x b k ∧ mcr x b k < 65536
  | 0 => by simp [mcr]
  | k + 1 => by
    have := mcr_bd hx hb k
    have := dig_mul hx (dat_bd hb k)
    simp only [mcr]; omega
theorem mrw_val (x : Int) (b : List Int) : ∀ k, val (mrw x b k) + 65536 ^ k * mcr x b k = x * val (b.take k)
  | 0 => by simp [mrw, mcr, val]
  | k + 1 => by
    have ih := mrw_val x b k
    rw [val_take]
    simp only [mrw, mcr, val_app, mrw_len, val, Int.pow_succ]
    generalize hs : mcr x b k + x * dat b k = s
    generalize (65536 : Int) ^ k = p at *
    have e : s % 65536 + 65536 * (s / 65536) = s := Int.emod_add_mul_ediv s 65536
    have e2 : p * (s % 65536) + p * 65536 * (s / 65536) = p * s := by
      rw [Int.mul_assoc, ← Int.mul_add, e]
    have e3 : p * s = p * mcr x b k + p * (x * dat b k) := by rw [← hs, Int.mul_add]
    have e4 : s % 65536 + 65536 * 0 = s % 65536 := by omega
    have e5 : x * (val (b.take k) + p * dat b k) = x * val (b.take k) + p * (x * dat b k) := by
      rw [Int.mul_add, ← Int.mul_assoc, ← Int.mul_assoc, Int.mul_comm x p]
    rw [e4, e5]; omega
theorem noughts_val : ∀ k, val (noughts k) = 0
  | 0 => rfl
  | k + 1 => by rw [noughts_snoc, val_app, noughts_val k]; simp [val]
theorem noughts_len (k : Nat) : (noughts k).length = k := by simp [noughts]
theorem noughts_dg (k : Nat) : Dg (noughts k) := by
  intro d h
  simp [noughts] at h
  omega
/-- A whole row: noughts, digits, the last carry. -/
def wrow (x : Int) (b : List Int) (i : Nat) : List Int := noughts i ++ mrw x b b.length ++ [mcr x b b.length]
theorem wrow_len (x : Int) (b : List Int) (i : Nat) : (wrow x b i).length = i + b.length + 1 := by
  simp [wrow, noughts_len, mrw_len]; omega
theorem wrow_dg {x : Int} {b : List Int} (hx : 0 ≤ x ∧ x < 65536) (hb : Dg b) (i : Nat) : Dg (wrow x b i) := by
  refine Dg.snoc ?_ (mcr_bd hx hb _)
  intro d h
  rcases List.mem_append.1 h with h | h
  · exact noughts_dg i d h
  · exact mrw_dg x b _ d h
theorem wrow_val (x : Int) (b : List Int) (i : Nat) : val (wrow x b i) = 65536 ^ i * (x * val b) := by
  have h := mrw_val x b b.length
  rw [List.take_length] at h
  unfold wrow
  rw [List.append_assoc, val_app, noughts_val, noughts_len, val_app, mrw_len]
  have e : val [mcr x b b.length] = mcr x b b.length := by simp [val]
  rw [e, h]; omega
theorem mul_next {a b : List Int} {i : Nat} {s : Int} (hs : s = val (a.take i) * val b) : s + 65536 ^ i * (dat a i * val b) = val (a.take (i + 1)) * val b := by
  rw [val_take, Int.add_mul, hs, Int.mul_assoc]
end Go.Proofs.YtcjglbejmlebhaaDoor
