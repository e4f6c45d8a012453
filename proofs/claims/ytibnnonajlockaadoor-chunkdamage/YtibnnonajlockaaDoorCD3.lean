/- CHUNKDAMAGE, as its frame wants it. -/
import Derived.Test.YtibnnonajlockaaDoorCD2
namespace Go.Proofs.YtibnnonajlockaaDoor
open Go.RowKit
theorem damage_walk (m : Nat) (hm : m < 4294967296) (lo : Option Addr) (cs : List Ck) (cl : Nat) (hn : cs.length ≤ 9223372036854775807) (x : Int) (hx : -9223372036854775808 ≤ x ∧ x ≤ 9223372036854775807) (t : Nat) (ht : t < 256) (w : World) (LD : Laid w) (f : Cw w lo cs ∧ Caps w lo cs.length) :
    Calls Tryd.prog 4 #[.int .u32 m, .slice lo cs.length cl, .int .i64 x, .int .u8 t] w fun e w' => e = .returned (.bool true) ∧ Below w.heap.size w w' :=
  damage_any m hm lo cl cs x hx.1 hx.2 t ht w LD hn f.1 f.2
end Go.Proofs.YtibnnonajlockaaDoor
