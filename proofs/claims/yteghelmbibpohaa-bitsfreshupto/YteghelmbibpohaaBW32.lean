/- The law's helpers over words that begin anywhere: EqWords, Eq, Twin, Kept, eqTold. -/
import Derived.Test.YteghelmbibpohaaBW31
namespace Go.Proofs.Yteghelmbibpohaa
open Go.RowKit

set_option maxHeartbeats 800000 in
set_option maxRecDepth 100000 in
theorem eqw_ro (m N : Nat) (ao bo : Option Addr) (ca cb : Nat) (w : World) (hm : m ≤ 1048576) (ra : Ro w ao m N) (rb : Ro w bo m N) :
    Calls Try.prog 15 #[.slice ao m ca, .slice bo m cb] w fun e w' => e = .returned (.bool true) ∧ Below w.heap.size w w' := by
  have HA := hid1 ra
  have HB := hid1 rb
  clear ra rb
  go_enter Try.func15, Try.ntmps15
  go_wp2
  go_loopw [5] (fun i wr => ∃ k : Nat, k ≤ m ∧ i = .int .i64 k ∧ Below w.heap.size w wr) (fun i _ => m - (intOf i).toNat)
  case atStart => exact ⟨0, Nat.zero_le _, rfl, Below.refl _ _⟩
  case round =>
    obtain ⟨k, hk, rfl, hnx⟩ := hrel
    have ik0 : (0 : Int) ≤ (k : Int) := by omega
    by_cases hlt : k < m
    · obtain ⟨ga, oa, rfl, c8⟩ := (HA.out.below hnx).2 k hlt
      obtain ⟨gb, ob, rfl, d8⟩ := (HB.out.below hnx).2 k hlt
      unfold wf at c8 d8
      have ik : (k : Int) < (m : Int) := by omega
      go_wp2
      go_quiet (fail)
      go_wp2
      exact ⟨⟨k + 1, by omega, by go_num, bl_drewN hnx _⟩, by simp [intOf]; omega⟩
    · have hkN : k = m := by omega
      subst hkN
      go_wp2
      go_ret
      exact ⟨rfl, hnx⟩
set_option maxHeartbeats 800000 in
set_option maxRecDepth 100000 in
theorem eq_ro (n : Int) (m N : Nat) (ao bo : Option Addr) (ca cb : Nat) (w : World) (hm : m ≤ 1048576) (ra : Ro w ao m N) (rb : Ro w bo m N) :
    Calls Try.prog 16 #[rv n ao m ca, rv n bo m cb] w fun e w' => e = .returned (.bool true) ∧ Below w.heap.size w w' := by
  have HA := hid1 ra
  have HB := hid1 rb
  clear ra rb
  go_enter Try.func16, Try.ntmps16
  go_wp2_with fail
  refine gen_calls (fun W => Below w.heap.size w W) (bl_alloc (bl_alloc (Below.refl _ _) _) _) ?_
  intro W B0
  refine (eqw_ro m N ao bo ca cb W hm (HA.out.below B0) (HB.out.below B0)).mono ?_
  rintro e w1 ⟨rfl, hb1⟩
  go_wp2_with fail
  go_ret
  exact ⟨rfl, bl_step B0 hb1⟩
/-- What a call answered, as a value. -/
abbrev td (n : Int) (ao : Option Addr) (m c : Nat) (so : Option Addr) (sl sc : Nat) (k mask e : Int) : Value := .agg #[.int .i64 n, .slice ao m c, .slice so sl sc, .int .i64 k, .int .u64 mask, .int .i64 e]
theorem new6 (W : World) (a b c d e f : Value) (t : TypeId) : (W.alloc (.cells #[a, b, c, d, e, f] t)).cell? ⟨W.heap.size, 0, none⟩ = some a ∧ (W.alloc (.cells #[a, b, c, d, e, f] t)).cell? ⟨W.heap.size, 1, none⟩ = some b ∧ (W.alloc (.cells #[a, b, c, d, e, f] t)).cell? ⟨W.heap.size, 2, none⟩ = some c ∧ (W.alloc (.cells #[a, b, c, d, e, f] t)).cell? ⟨W.heap.size, 3, none⟩ = some d ∧ (W.alloc (.cells #[a, b, c, d, e, f] t)).cell? ⟨W.heap.size, 4, none⟩ = some e ∧ (W.alloc (.cells #[a, b, c, d, e, f] t)).cell? ⟨W.heap.size, 5, none⟩ = some f := by simp [go_sem]
theorem keep6 {W w' : World} (hb : Below W.heap.size W w') {b : Nat} {v0 v1 v2 v3 v4 v5 : Value}
    (h : W.cell? ⟨b, 0, none⟩ = some v0 ∧ W.cell? ⟨b, 1, none⟩ = some v1 ∧ W.cell? ⟨b, 2, none⟩ = some v2 ∧ W.cell? ⟨b, 3, none⟩ = some v3 ∧ W.cell? ⟨b, 4, none⟩ = some v4 ∧ W.cell? ⟨b, 5, none⟩ = some v5) :
    w'.cell? ⟨b, 0, none⟩ = some v0 ∧ w'.cell? ⟨b, 1, none⟩ = some v1 ∧ w'.cell? ⟨b, 2, none⟩ = some v2 ∧ w'.cell? ⟨b, 3, none⟩ = some v3 ∧ w'.cell? ⟨b, 4, none⟩ = some v4 ∧ w'.cell? ⟨b, 5, none⟩ = some v5 :=
  ⟨keepc hb h.1, keepc hb h.2.1, keepc hb h.2.2.1, keepc hb h.2.2.2.1, keepc hb h.2.2.2.2.1, keepc hb h.2.2.2.2.2⟩
set_option maxHeartbeats 1600000 in
set_option maxRecDepth 100000 in
theorem eqTold_same (n : Int) (m N sl : Nat) (f : Nat → Int) (ao bo so tz : Option Addr) (ca cb sc tc : Nat) (k mask e : Int) (w : World) (hm : m ≤ 1048576) (hsl : sl ≤ 9223372036854775807) (ra : Ro w ao m N) (rb : Ro w bo m N)
    (sa : Rs w so sl (fun k => .int .i8 (f k))) (sb : Rs w tz sl (fun k => .int .i8 (f k))) :
    Calls Try.prog 25 #[td n ao m ca so sl sc k mask e, td n bo m cb tz sl tc k mask e] w fun r w' => r = .returned (.bool true) ∧ Below w.heap.size w w' := by
  have HA := hid1 ra
  have HB := hid1 rb
  have SA := hid1 sa
  have SB := hid1 sb
  clear ra rb sa sb
  go_enter Try.func25, Try.ntmps25
  go_wp2_with fail
  refine gen_calls (fun W => Below w.heap.size w W ∧ (W.cell? ⟨w.heap.size, 0, none⟩ = some (.int .i64 n) ∧ W.cell? ⟨w.heap.size, 1, none⟩ = some (.slice ao m ca) ∧ W.cell? ⟨w.heap.size, 2, none⟩ = some (.slice so sl sc) ∧ W.cell? ⟨w.heap.size, 3, none⟩ = some (.int .i64 k) ∧ W.cell? ⟨w.heap.size, 4, none⟩ = some (.int .u64 mask) ∧ W.cell? ⟨w.heap.size, 5, none⟩ = some (.int .i64 e))
    ∧ (W.cell? ⟨w.heap.size + 1, 0, none⟩ = some (.int .i64 n) ∧ W.cell? ⟨w.heap.size + 1, 1, none⟩ = some (.slice bo m cb) ∧ W.cell? ⟨w.heap.size + 1, 2, none⟩ = some (.slice tz sl tc) ∧ W.cell? ⟨w.heap.size + 1, 3, none⟩ = some (.int .i64 k) ∧ W.cell? ⟨w.heap.size + 1, 4, none⟩ = some (.int .u64 mask) ∧ W.cell? ⟨w.heap.size + 1, 5, none⟩ = some (.int .i64 e)))
    ⟨bl_alloc (bl_alloc (Below.refl _ _) _) _, keep6 (bl_alloc (Below.refl _ _) _) (new6 _ _ _ _ _ _ _ _), by simp⟩ ?_
  rintro W ⟨B0, ca6, cb6⟩
  refine (eq_ro n m N ao bo ca cb W hm (HA.out.below B0) (HB.out.below B0)).mono ?_
  rintro e w1 ⟨rfl, hb1⟩
  replace ca6 := keep6 hb1 ca6
  replace cb6 := keep6 hb1 cb6
  have B1 := bl_step B0 hb1
  obtain ⟨a0, a1, a2, a3, a4, a5⟩ := ca6
  obtain ⟨b0, b1, b2, b3, b4, b5⟩ := cb6
  clear hb1 B0
  go_wp2_with fail
  refine (eqs_same sl f so tz sc tc w1 hsl (SA.out.below B1) (SB.out.below B1)).mono ?_
  rintro e w2 ⟨rfl, hb2⟩
  replace a3 := keepc hb2 a3
  replace a4 := keepc hb2 a4
  replace a5 := keepc hb2 a5
  replace b3 := keepc hb2 b3
  replace b4 := keepc hb2 b4
  replace b5 := keepc hb2 b5
  have B2 := bl_step B1 hb2
  clear a0 a1 a2 b0 b1 b2 hb2 B1
  go_wp2_with fail
  go_ret
  exact ⟨rfl, B2⟩
end Go.Proofs.Yteghelmbibpohaa
