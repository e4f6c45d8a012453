/- PLUS AS A WHOLE, SHOW. -/
import Derived.Test.YtffhbfdbahdhoabFW5
import Derived.Lib.AppendIntMem
import Derived.Lib.ItoaLen
namespace Go.Proofs.Ytffhbfdbahdhoab.Wd
open Go.RowKit Go.Shelf
attribute [local go_sem ↓] Go.wp_at_zero Go.wp_at_succ

/-- The table of powers. -/
abbrev LaidP (w : World) : Prop := Lib.TabIs Try.prog w "internal/strconv.uint64pow10" .u64 Lib.pow10Tab
/-- What Show writes. -/
def shL (n d : Int) : List UInt8 := if d = 1 then Lib.itoa n else Lib.itoa n ++ (47 :: Lib.itoa d)
def shV (n d : Int) : List UInt8 := if Fr n d then shL n d else []
theorem fr_i64 {n d : Int} (h : Fr n d) : I64 n ∧ I64 d := by
  obtain ⟨a, b, c, e⟩ := h
  exact ⟨⟨by omega, by omega⟩, ⟨by omega, by omega⟩⟩
end Go.Proofs.Ytffhbfdbahdhoab.Wd
