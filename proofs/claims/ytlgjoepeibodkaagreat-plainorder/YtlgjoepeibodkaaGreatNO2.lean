/- bound: a layer's reaches. -/
import Derived.Test.YtlgjoepeibodkaaGreatNO1
namespace Go.Proofs.YtlgjoepeibodkaaGreat.Nn
open Go.RowKit

abbrev zrc : Array Value := #[.int .i64 0, .int .i64 0]
theorem made_zrc (n j : Nat) (hj : j < n) : (madeCells zrc n)[j]? = some (.int .i64 0) := by
  unfold madeCells
  have h3 : j % 2 = 0 ∨ j % 2 = 1 := by omega
  rcases h3 with h | h <;> simp [hj, h]
/-- A list of reaches, k of them written. -/
def rcf (f h : Nat → Int) (k i : Nat) : Value := .int .i64 (if i < k * 2 then (if i % 2 = 0 then f (i / 2) else h (i / 2)) else 0)
theorem rcf_zero (f h : Nat → Int) (i : Nat) : Value.int .i64 0 = rcf f h 0 i := by unfold rcf; rw [if_neg (by omega)]
theorem rcf_at {f h : Nat → Int} {m k : Nat} (hk : k < m) : rcf f h m (k * 2) = .int .i64 (f k) ∧ rcf f h m (k * 2 + 1) = .int .i64 (h k) := by
  unfold rcf
  rw [if_pos (by omega), if_pos (by omega), if_pos (by omega), if_neg (by omega), show k * 2 / 2 = k by omega, show (k * 2 + 1) / 2 = k by omega]
  exact ⟨rfl, rfl⟩
abbrev trio (a b c : Int) : Value := .agg #[.int .i64 a, .int .i64 b, .int .i64 c]
theorem trf (W : World) (x y z : Int) (t : TypeId) : (W.alloc (.cells #[.int .i64 x, .int .i64 y, .int .i64 z] t)).rowIs W.heap.size t 3 (fun i => .int .i64 (if i = 0 then x else if i = 1 then y else z)) :=
  World.rowIs_alloc W _ t _ fun i hi => by
    rcases i with _ | _ | _ | i
    · rfl
    · rfl
    · rfl
    · simp at hi; omega
theorem tr2 (W : World) (x y z : Int) (t : TypeId) : (W.alloc (.cells #[.int .i64 x, .int .i64 y, .int .i64 z] t)).cell? ⟨W.heap.size, 2, none⟩ = some (.int .i64 z) := (trf W x y z t).cell (i := 2) (by decide)
end Go.Proofs.YtlgjoepeibodkaaGreat.Nn
