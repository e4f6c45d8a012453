/- The document's own answers: Unpack, And, Xor. -/
import Derived.Test.YteghelmbibpohaaBW24
namespace Go.Proofs.Yteghelmbibpohaa
open Go.RowKit

set_option maxHeartbeats 1600000 in
set_option maxRecDepth 100000 in
theorem runpack_any (n N : Nat) (ao : Option Addr) (cap : Nat) (w : World) (h1 : n ≤ 16777216) (hN : N < 2 ^ n) (h : Ro w ao (nw n) N) :
    Calls Try.prog 45 #[rv n ao (nw n) cap] w fun e w' => ∃ g, e = .returned (.tuple #[.slice (some ⟨g, 0, none⟩) n n, .int .i64 0]) ∧ w.heap.size ≤ g ∧ w'.rowIs g 24 n (gf N) ∧ Below w.heap.size w w' := by
  obtain ⟨i0, hi, hz0, hz1, hz2⟩ := info_parts info_i8
  have HR := hid1 h
  have hb := nw_bd h1
  have hle := nw_le n
  have HC := hid1 (chk_ok h1 hN)
  clear h hN
  go_enter Try.func45, Try.ntmps45
  go_wp2_with fail
  refine gen_calls (fun W => W.heap.size = w.heap.size + 1 ∧ Below w.heap.size w W ∧ W.rowIs w.heap.size 27 2 (sf n ao (nw n) cap)) ⟨by simp, bl_alloc (Below.refl _ _) _, row_new _ _ _ _ _ _⟩ ?_
  rintro W ⟨z0, B0, r1⟩
  refine (rcheck_any n ao (nw n) cap N W (by omega) (HR.out.below B0)).mono ?_
  rintro e w1 ⟨rfl, hb1⟩
  rw [HC.out]
  replace r1 := keepr hb1 r1
  have B1 := bl_step B0 hb1
  have z1 := hb1.size
  clear hb1 B0
  have c0 := sf_len r1
  go_wp2_with ((refine wpList_make_row _ rfl _ _ 23 rfl 24 i0 (.int .i8 0) und_i8s hi hz0 hz1 rfl .i64 .i64 n (by go_simp) (by go_simp) (by rw [hz2]; omega) (by omega) ?_; refine gen_list' (fun W => w1.heap.size < W.heap.size ∧ Below w.heap.size w W ∧ W.rowIs w.heap.size 27 2 (sf n ao (nw n) cap) ∧ W.rowIs w1.heap.size 24 n (qf N 0)) ⟨by simp, bl_alloc B1 _, r1.alloc _, (World.rowIs_made w1 (.int .i8 0) n 24).congr fun k _ => by simp [qf]⟩ ?_; rintro W1 ⟨z2, B2, r1', hrow⟩))
  clear r1 c0 B1
  go_loopw [6] (fun i wr => ∃ k : Nat, k ≤ n ∧ i = .int .i64 k ∧ wr.rowIs w.heap.size 27 2 (sf n ao (nw n) cap) ∧ wr.rowIs w1.heap.size 24 n (qf N k) ∧ Below w.heap.size w wr) (fun i _ => n - (intOf i).toNat)
  case atStart => exact ⟨0, Nat.zero_le _, rfl, r1', hrow, B2⟩
  case round =>
    clear hrow r1' B2
    obtain ⟨k, hk, rfl, r1, hrow, hnx⟩ := hrel
    have ik0 : (0 : Int) ≤ (k : Int) := by omega
    have c0 := sf_len r1
    have c1 := sf_ws r1
    by_cases hlt : k < n
    · have ik : (k : Int) < (n : Int) := by omega
      have fw := hrow.frozen k
      have cw := hrow.cell hlt
      have hne : w.heap.size ≠ w1.heap.size := by omega
      have c0' := sf_len (r1.setOther (a := ⟨w1.heap.size, k, none⟩) hne (.int .i8 (-1)))
      have c1' := sf_ws (r1.setOther (a := ⟨w1.heap.size, k, none⟩) hne (.int .i8 (-1)))
      go_wp2_with fail
      refine gen_calls (fun W => Below w.heap.size w W ∧ W.rowIs w.heap.size 27 2 (sf n ao (nw n) cap) ∧ W.rowIs w1.heap.size 24 n (fun j => if j = k then .int .i8 (-1) else qf N k j)) ⟨bl_set hnx (by omega) _, r1.setOther (a := ⟨w1.heap.size, k, none⟩) hne _, hrow.set k _⟩ ?_
      clear hnx r1 hrow c0 c1 c0' c1' fw cw
      rintro W2 ⟨hnx, r1, hrow⟩
      refine (rbit_any n ao (nw n) cap N k W2 (by omega) (HR.out.below hnx) (by omega)).mono ?_
      rintro e w2 ⟨rfl, hb2⟩
      replace r1 := keepr hb2 r1
      replace hrow := keepr hb2 hrow
      replace hnx := bl_step hnx hb2
      clear hb2
      cases hbit : N.testBit k
      · have HB := hid1 hbit
        have H1 := hid1 r1
        have HH := hid1 hrow
        clear r1 hrow hbit
        go_wp2_with fail
        refine ⟨⟨k + 1, by omega, by go_num, H1.out, HH.out.congr fun j _ => ?_, hnx⟩, by simp [intOf]; omega⟩
        unfold qf
        by_cases e : j = k
        · subst e; simp [gf, sg, HB.out]
        · rw [if_neg e]
          by_cases h : j < k
          · rw [if_pos h, if_pos (by omega)]
          · rw [if_neg h, if_neg (by omega)]
      · have HB := hid1 hbit
        have fw := hrow.frozen k
        have cw := hrow.cell hlt
        have H1 := hid1 r1
        have HH := hid1 hrow
        clear r1 hrow hbit
        go_wp2_with fail
        refine ⟨⟨k + 1, by omega, by go_num, H1.out.setOther (a := ⟨w1.heap.size, k, none⟩) hne _, (HH.out.set k _).congr fun j _ => ?_, bl_set hnx (by omega) _⟩, by simp [intOf]; omega⟩
        unfold qf
        by_cases e : j = k
        · subst e; simp [gf, sg, HB.out]
        · rw [if_neg e, if_neg e]
          by_cases h : j < k
          · rw [if_pos h, if_pos (by omega)]
          · rw [if_neg h, if_neg (by omega)]
    · have hkN : k = n := by omega
      subst hkN
      have HH := hid1 (qrow_full hrow)
      clear hrow r1
      go_wp2_with fail
      go_ret2
      exact ⟨_, rfl, by omega, HH.out, hnx⟩
end Go.Proofs.Yteghelmbibpohaa
