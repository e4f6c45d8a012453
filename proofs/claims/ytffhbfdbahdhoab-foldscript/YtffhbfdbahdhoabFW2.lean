/- FRACTIONS: REDUCE REFUSED, CMP. -/
import Derived.Test.YtffhbfdbahdhoabFW1
namespace Go.Proofs.Ytffhbfdbahdhoab.Wd
open Go.RowKit Go.Shelf
attribute [local go_sem ↓] Go.wp_at_zero Go.wp_at_succ

/-- What Reduce answers. -/
def rnV (n d : Int) : Int := if Fr n d then rn n d else 0
def rdV (n d : Int) : Int := if Fr n d then rd n d else 0
/-- What Cmp answers. -/
def cmF (n d p q : Int) : Int := if Fr n d ∧ Fr p q then cmpN (n * q) (p * d) else 0
def ceF (n d p q : Int) : Int := if Fr n d ∧ Fr p q then 0 else 40
theorem fprod_bd {n d p q : Int} (h1 : Fr n d) (h2 : Fr p q) : -2251799812636672 ≤ rn n d * rd p q ∧ rn n d * rd p q ≤ 2251799812636672 := by
  have a := rn_bd (n := n) (d := d) (B := 2147483647) (by have := h1.1; omega) h1.2.2.1 h1.2.2.2
  have b := rd_pos (n := p) (d := q) (by have := h2.1; omega)
  have c := rd_le (n := p) (d := q) (by have := h2.1; omega)
  have e := h2.2.1
  exact bd_mul (A := 2147483647) (B := 1048576) a ⟨by omega, by omega⟩
end Go.Proofs.Ytffhbfdbahdhoab.Wd
