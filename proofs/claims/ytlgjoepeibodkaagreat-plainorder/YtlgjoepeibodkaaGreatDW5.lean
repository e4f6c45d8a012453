/- Some, overPlane. -/
import Derived.Test.YtlgjoepeibodkaaGreatDW4
namespace Go.Proofs.YtlgjoepeibodkaaGreat
open Go.RowKit

/-- What Some tells. -/
def soE (A B C D : Bt) : Int := if dck A B ≠ 0 then dck A B else if dck C D ≠ 0 then dck C D else if A.n = C.n then 0 else 20
def soV (A B C D : Bt) : Int := if soE A B C D = 0 then tq (B.N &&& D.N) A.N C.N A.n.toNat else 0
theorem soE_bad {A B C D : Bt} (h : dck A B ≠ 0) : soE A B C D = dck A B := by unfold soE; rw [if_pos h]
theorem soV_bad {A B C D : Bt} (h : soE A B C D ≠ 0) : soV A B C D = 0 := by unfold soV; rw [if_neg h]
theorem q_new2 (w : World) (A B C D : Bt) (t : TypeId) : ((w.alloc (.cells #[.int .i64 A.n, .slice A.ao A.m A.cap, .int .i64 B.n, .slice B.ao B.m B.cap] t)).alloc (.cells #[.int .i64 C.n, .slice C.ao C.m C.cap, .int .i64 D.n, .slice D.ao D.m D.cap] t)).rowIs (w.heap.size + 1) t 4 (qf C D) := by
  have := q_new (w.alloc (.cells #[.int .i64 A.n, .slice A.ao A.m A.cap, .int .i64 B.n, .slice B.ao B.m B.cap] t)) C D t
  simpa using this
end Go.Proofs.YtlgjoepeibodkaaGreat
