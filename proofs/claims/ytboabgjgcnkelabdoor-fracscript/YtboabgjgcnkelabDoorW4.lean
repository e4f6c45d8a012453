import Derived.Test.YtboabgjgcnkelabDoorW3
import Derived.Test.YtboabgjgcnkelabDoorM4
namespace Go.Proofs.YtboabgjgcnkelabDoor
open Go.RowKit Go.Shelf

theorem bl_drewN {a w : World} (h : Below a.heap.size a w) (n : Nat) : Below a.heap.size a (w.drewN n) := by
  induction n with
  | zero => exact h
  | succ n ih => exact ih.drew
theorem keepf {W w' : World} (hb : Below W.heap.size W w') {b o : Nat} (hlt : b < W.heap.size) (h : W.frozen? ⟨b, o, none⟩ = false) : w'.frozen? ⟨b, o, none⟩ = false :=
  (hb.frozen (p := ⟨b, o, none⟩) hlt).trans h
theorem signed_any (n : Int) (minus : Bool) (hn : Siz n) (w : World) :
    Calls Tryd.prog 71 #[sv n, .bool minus] w fun e w' => e = .returned (.tuple #[wv (fitV (sgN n minus)), .int .i64 (errV (sgN n minus))]) ∧ Below w.heap.size w w' := by
  by_cases h : Rng (sgN n minus)
  · rw [fitV_ok h, errV_ok h]; exact signed_ok n minus hn h w
  · rw [fitV_no h, errV_no h]; exact signed_no n minus hn h w

def floorN (a b : Int) : Int := sgN (awayN a b (!decide (hiOf a < 0) == decide (b < 0))) (!decide (hiOf a < 0) == decide (b < 0))
def ceilN (a b : Int) : Int := sgN (awayN a b (decide (hiOf a < 0) == decide (b < 0))) (!decide (hiOf a < 0) == decide (b < 0))

end Go.Proofs.YtboabgjgcnkelabDoor
