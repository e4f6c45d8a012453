/- blank, set, bit of package dot. -/
import Derived.Test.YtlgjoepeibodkaaGreatDW2
namespace Go.Proofs.YtlgjoepeibodkaaGreat
open Go.RowKit

theorem wd_set (M i k : Nat) : wd (M ||| 2 ^ i) k = if k = i / 64 then wd M k ||| 2 ^ (i % 64) else wd M k := by
  rw [wd_or, wd_bit1]
  by_cases e : k = i / 64
  · rw [if_pos e, if_pos e]
  · rw [if_neg e, if_neg e]; simp

theorem ret_i8 {a b : Int} (h : a = b) : Ending.returned (.int .i8 a) = .returned (.int .i8 b) := by rw [h]
end Go.Proofs.YtlgjoepeibodkaaGreat
