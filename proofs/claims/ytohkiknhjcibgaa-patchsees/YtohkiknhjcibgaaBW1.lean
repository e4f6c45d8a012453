/- TAIL, AND HOW MANY BITS ARE SET, WALKED. -/
import Derived.Test.YtohkiknhjcibgaaRows
import Derived.Test.YtohkiknhjcibgaaBM2
import Derived.WalkKit
import Derived.WalkSpells
import Derived.StillTactics
import Derived.Laws.Pointers
import Derived.Laws.Bits128
import Derived.Deep.RegionHeld3
import Derived.RowKit3
import Derived.Below
import Derived.BigQuiet
import Derived.Deep.DrawnRows
import Derived.Deep.QuietTactic
import Derived.Laws.AppendOwn
namespace Go.Proofs.Ytohkiknhjcibgaa
open Go.RowKit

theorem hid1 {p : Prop} (h : p) : Hid p := h
theorem ret_int {k : IntKind} {a b : Int} (h : a = b) : Ending.returned (.int k a) = .returned (.int k b) := by rw [h]
theorem and_u64 (a b : Nat) (ha : a < 18446744073709551616) (hb : b < 18446744073709551616) : bits .and .u64 (a : Int) (b : Int) = ((a &&& b : Nat) : Int) := by
  have := u64_and (a : Int) (b : Int) (by omega) (by omega) (by omega) (by omega); simpa using this
theorem one1 (x : Nat) (hx : x < 18446744073709551616) : IntKind.u64.wrap (bits .and .u64 ((x : Int) / 2) 6148914691236517205 + bits .and .u64 (x : Int) 6148914691236517205) = ((f1 8 x : Nat) : Int) ∧ f1 8 x < 18446744073709551616 := by
  have h1 : x / 2 &&& 6148914691236517205 ≤ 6148914691236517205 := Nat.and_le_right
  have h2 : x &&& 6148914691236517205 ≤ 6148914691236517205 := Nat.and_le_right
  have e1 : bits .and .u64 ((x / 2 : Nat) : Int) 6148914691236517205 = _ := and_u64 (x / 2) 6148914691236517205 (by omega) (by omega)
  have e2 : bits .and .u64 (x : Int) 6148914691236517205 = _ := and_u64 x 6148914691236517205 (by omega) (by omega)
  have e3 : ((x / 2 : Nat) : Int) = (x : Int) / 2 := by omega
  rw [e3] at e1
  rw [e1, e2]
  unfold f1; rw [mk85, IntKind.wrap_u64]
  omega
theorem one2 (x : Nat) (hx : x < 18446744073709551616) : IntKind.u64.wrap (bits .and .u64 ((x : Int) / 4) 3689348814741910323 + bits .and .u64 (x : Int) 3689348814741910323) = ((f2 8 x : Nat) : Int) ∧ f2 8 x ≤ 7378697629483820646 := by
  have h1 : x / 4 &&& 3689348814741910323 ≤ 3689348814741910323 := Nat.and_le_right
  have h2 : x &&& 3689348814741910323 ≤ 3689348814741910323 := Nat.and_le_right
  have e1 : bits .and .u64 ((x / 4 : Nat) : Int) 3689348814741910323 = _ := and_u64 (x / 4) 3689348814741910323 (by omega) (by omega)
  have e2 : bits .and .u64 (x : Int) 3689348814741910323 = _ := and_u64 x 3689348814741910323 (by omega) (by omega)
  have e3 : ((x / 4 : Nat) : Int) = (x : Int) / 4 := by omega
  rw [e3] at e1
  rw [e1, e2]
  unfold f2; rw [mk51, IntKind.wrap_u64]
  omega
theorem one3 (x : Nat) (hx : x ≤ 7378697629483820646) : bits .and .u64 (IntKind.u64.wrap ((x : Int) / 16 + x)) 1085102592571150095 = ((f3 8 x : Nat) : Int) := by
  have e3 : IntKind.u64.wrap ((x : Int) / 16 + x) = ((x / 16 + x : Nat) : Int) := by rw [IntKind.wrap_u64]; omega
  have e1 : bits .and .u64 ((x / 16 + x : Nat) : Int) 1085102592571150095 = _ := and_u64 (x / 16 + x) 1085102592571150095 (by omega) (by omega)
  rw [e3, e1]
  unfold f3; rw [mk15]
theorem one4 (y : Nat) (hy : y ≤ 578721382704613384) : bits .and .i64 (wrap64 (IntKind.u64.wrap (IntKind.u64.wrap (IntKind.u64.wrap ((y : Int) + y / 256) + IntKind.u64.wrap ((y : Int) + y / 256) / 65536) + IntKind.u64.wrap (IntKind.u64.wrap ((y : Int) + y / 256) + IntKind.u64.wrap ((y : Int) + y / 256) / 65536) / 4294967296))) 127 = ((tt y : Nat) : Int) := by
  have e1 : IntKind.u64.wrap ((y : Int) + y / 256) = ((y + y / 256 : Nat) : Int) := by rw [IntKind.wrap_u64]; omega
  rw [e1]
  have hz : y + y / 256 ≤ 580982013105803280 := by omega
  unfold tt
  generalize y + y / 256 = z at *
  have e2 : IntKind.u64.wrap ((z : Int) + z / 65536) = ((z + z / 65536 : Nat) : Int) := by rw [IntKind.wrap_u64]; omega
  rw [e2]
  have hu : z + z / 65536 ≤ 590000000000000000 := by omega
  generalize z + z / 65536 = u at *
  have e3 : IntKind.u64.wrap ((u : Int) + u / 4294967296) = ((u + u / 4294967296 : Nat) : Int) := by rw [IntKind.wrap_u64]; omega
  rw [e3, i64_and127]
  unfold wrap64
  omega
set_option maxHeartbeats 800000 in
set_option maxRecDepth 100000 in
theorem ones_any (x : Nat) (hx : x < 18446744073709551616) (w : World) :
    Calls Try.prog 44 #[.int .u64 x] w fun e w' => e = .returned (.int .i64 (pc x 64 : Nat)) ∧ w' = w := by
  go_enter Try.func44, Try.ntmps44
  go_wp2
  go_ret
  refine ⟨ret_int ?_, rfl⟩
  obtain ⟨a1, a2⟩ := one1 x hx
  rw [a1]
  obtain ⟨b1, b2⟩ := one2 (f1 8 x) a2
  rw [b1, one3 _ b2]
  obtain ⟨c1, c2⟩ := ones_is x hx
  exact (one4 (ff 8 x) c2).trans (by rw [c1])
end Go.Proofs.Ytohkiknhjcibgaa
