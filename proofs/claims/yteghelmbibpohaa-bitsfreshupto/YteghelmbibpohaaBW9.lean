/- The law's own helpers: EqWords, Eq, made, count. -/
import Derived.Test.YteghelmbibpohaaBW8
namespace Go.Proofs.Yteghelmbibpohaa
open Go.RowKit

set_option maxHeartbeats 800000 in
set_option maxRecDepth 100000 in
theorem eqw_same (m N : Nat) (ao bo : Option Addr) (ca cb : Nat) (w : World) (hm : m ≤ 262144) (ra : Rd w ao m N) (rb : Rd w bo m N) :
    Calls Try.prog 15 #[.slice ao m ca, .slice bo m cb] w fun e w' => e = .returned (.bool true) ∧ Below w.heap.size w w' := by
  have HA := hid1 ra
  have HB := hid1 rb
  clear ra rb
  go_enter Try.func15, Try.ntmps15
  go_wp2
  go_loopw [5] (fun i wr => ∃ k : Nat, k ≤ m ∧ i = .int .i64 k ∧ Below w.heap.size w wr) (fun i _ => m - (intOf i).toNat)
  case atStart => exact ⟨0, Nat.zero_le _, rfl, Below.refl _ _⟩
  case round =>
    obtain ⟨k, hk, rfl, hnx⟩ := hrel
    have ik0 : (0 : Int) ≤ (k : Int) := by omega
    by_cases hlt : k < m
    · obtain ⟨ga, rfl, hc⟩ := (HA.out.below hnx).2 (by omega)
      obtain ⟨gb, rfl, hd⟩ := (HB.out.below hnx).2 (by omega)
      have c8 := hc k hlt
      have d8 := hd k hlt
      unfold wf at c8 d8
      have ik : (k : Int) < (m : Int) := by omega
      clear hc hd
      go_wp2
      go_quiet (fail)
      go_wp2
      exact ⟨⟨k + 1, by omega, by go_num, bl_drewN hnx _⟩, by simp [intOf]; omega⟩
    · have hkN : k = m := by omega
      subst hkN
      go_wp2
      go_ret
      exact ⟨rfl, hnx⟩
set_option maxHeartbeats 800000 in
set_option maxRecDepth 100000 in
theorem eq_same (n : Int) (m N : Nat) (ao bo : Option Addr) (ca cb : Nat) (w : World) (hm : m ≤ 262144) (ra : Rd w ao m N) (rb : Rd w bo m N) :
    Calls Try.prog 16 #[rv n ao m ca, rv n bo m cb] w fun e w' => e = .returned (.bool true) ∧ Below w.heap.size w w' := by
  have HA := hid1 ra
  have HB := hid1 rb
  clear ra rb
  go_enter Try.func16, Try.ntmps16
  go_wp2_with fail
  refine gen_calls (fun W => Below w.heap.size w W) (bl_alloc (bl_alloc (Below.refl _ _) _) _) ?_
  intro W B0
  refine (eqw_same m N ao bo ca cb W hm (HA.out.below B0) (HB.out.below B0)).mono ?_
  rintro e w1 ⟨rfl, hb1⟩
  go_wp2_with fail
  go_ret
  exact ⟨rfl, bl_step B0 hb1⟩
set_option maxHeartbeats 800000 in
set_option maxRecDepth 100000 in
theorem made_any (l : List Int) (N : Nat) (hN : l.length = N) (ao : Option Addr) (cap : Nat) (w : World) (h1 : N ≤ 16777216) (h : R8 w ao l) :
    Calls Try.prog 17 #[.slice ao N cap] w fun e w' => ∃ g, e = .returned (.tuple #[rv N (some ⟨g, 0, none⟩) (nw N) (nw N), .bool true]) ∧ w.heap.size ≤ g ∧ w'.rowIs g 35 (nw N) (wf (pk l N)) ∧ Below w.heap.size w w' := by
  have HR := hid1 h
  clear h
  go_enter Try.func17, Try.ntmps17
  go_wp2_with fail
  refine gen_calls (fun W => Below w.heap.size w W ∧ W.rowIs w.heap.size 27 2 (sf 0 none 0 0)) ⟨bl_alloc (Below.refl _ _) _, row_new _ _ _ _ _ _⟩ ?_
  rintro W ⟨B0, r2⟩
  refine (pack_any l N hN ao cap W h1 (HR.out.below B0)).mono ?_
  rintro e w1 ⟨g, rfl, hg, hrow, hb1⟩
  replace r2 := keepr hb1 r2
  have B1 := bl_step B0 hb1
  have z2 := r2.lt
  have c20 := sf_len r2
  have c21 := sf_ws r2
  have f0 := r2.frozen 0
  have f1 := r2.frozen 1
  have hne := row_ne hrow r2 (by decide)
  have HH := hid1 hrow
  have zz : w.heap.size ≤ g := by have := B0.size; omega
  clear hrow r2 hb1 B0
  go_wp2_with fail
  exact bodyPost_ret (v := .tuple #[rv N (some ⟨g, 0, none⟩) (nw N) (nw N), .bool true]) (by simp [results, Try.results17, go_sem, c20, c21, z2]) rfl ⟨g, rfl, zz, ((HH.out.setOther (a := ⟨w.heap.size, 0, none⟩) hne _).setOther (a := ⟨w.heap.size, 1, none⟩) hne _).alloc _, bl_alloc (bl_set (bl_set B1 (Nat.le_refl _) _) (Nat.le_refl _) _) _⟩
set_option maxHeartbeats 800000 in
set_option maxRecDepth 100000 in
theorem lcount_any (n N : Nat) (ao : Option Addr) (cap : Nat) (w : World) (h1 : n ≤ 16777216) (hN : N < 2 ^ n) (h : Rd w ao (nw n) N) :
    Calls Try.prog 11 #[rv n ao (nw n) cap, .int .i64 0] w fun e w' => e = .returned (.int .i64 (pc N n : Nat)) ∧ Below w.heap.size w w' := by
  have HR := hid1 h
  have HN := hid1 hN
  clear h hN
  go_enter Try.func11, Try.ntmps11
  go_wp2_with fail
  refine gen_calls (fun W => Below w.heap.size w W) (bl_alloc (Below.refl _ _) _) ?_
  intro W B0
  refine (count_any n N ao cap W h1 HN.out (HR.out.below B0)).mono ?_
  rintro e w1 ⟨rfl, hb1⟩
  go_wp2_with fail
  go_ret
  exact ⟨rfl, bl_step B0 hb1⟩
end Go.Proofs.Yteghelmbibpohaa
