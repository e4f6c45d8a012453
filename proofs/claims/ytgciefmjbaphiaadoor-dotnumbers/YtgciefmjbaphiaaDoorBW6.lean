/- Not. -/
import Derived.Test.YtgciefmjbaphiaaDoorBW5
namespace Go.Proofs.YtgciefmjbaphiaaDoor
open Go.RowKit

theorem chk_ok {n N : Nat} (h1 : n ≤ 16777216) (h : N < 2 ^ n) : chk n (nw n) N = 0 := by
  unfold chk
  rw [if_neg (by omega), if_neg (by omega), Int.toNat_natCast, if_neg (by simp), if_pos h]
/-- The first i words of A, none behind them. -/
def pf (A i : Nat) : Nat → Value := fun k => if k < i then wf A k else wf 0 k
theorem pf_zero (A k : Nat) : pf A 0 k = wf 0 k := by simp [pf]
theorem pf_full {A m k : Nat} (h : k < m) : pf A m k = wf A k := by simp [pf, h]
theorem pf_step (A i j : Nat) : (if j = i then wf A i else pf A i j) = pf A (i + 1) j := by
  unfold pf
  by_cases e : j = i
  · subst e; simp
  · rw [if_neg e]
    by_cases h : j < i
    · rw [if_pos h, if_pos (by omega)]
    · rw [if_neg h, if_neg (by omega)]
theorem row_start {w : World} {g m A : Nat} (h : w.rowIs g 69 m (wf 0)) : w.rowIs g 69 m (pf A 0) := h.congr fun k _ => (pf_zero A k).symm
theorem row_full {w : World} {g m A : Nat} (h : w.rowIs g 69 m (pf A m)) : w.rowIs g 69 m (wf A) := h.congr fun _ hk => pf_full hk
theorem row_step {w : World} {g m A i : Nat} {v : Value} (h : w.rowIs g 69 m (pf A i)) (e : v = wf A i) : (w.setCell ⟨g, i, none⟩ v).rowIs g 69 m (pf A (i + 1)) := by
  subst e; exact (h.set i _).congr fun j _ => pf_step A i j

theorem xor_u64 (a b : Nat) (ha : a < 18446744073709551616) (hb : b < 18446744073709551616) : bits .xor .u64 (a : Int) (b : Int) = ((a ^^^ b : Nat) : Int) := by
  have := u64_xor (a : Int) (b : Int) (by omega) (by omega) (by omega) (by omega); simpa using this
theorem compl_u64 (x : Nat) (h : x < 18446744073709551616) : bits .xor .u64 (if IntKind.u64.signed = true then -1 else IntKind.u64.max) (x : Int) = ((18446744073709551615 - x : Nat) : Int) := by
  have e : bits .xor .u64 (if IntKind.u64.signed = true then -1 else IntKind.u64.max) (x : Int) = ((18446744073709551615 ^^^ x : Nat) : Int) := xor_u64 18446744073709551615 x (by decide) h
  rw [e]
  congr 1
  refine wd_ext (xor_lt64 (by decide) h) (by omega) fun i hi => ?_
  have e1 : 18446744073709551615 - x = 2 ^ 64 - (x + 1) := by rw [← two64]; omega
  have e2 : (18446744073709551615 : Nat) = 2 ^ 64 - 1 := by decide
  rw [e1, Nat.testBit_two_pow_sub_succ (by rw [← two64]; exact h), Nat.testBit_xor, e2, Nat.testBit_two_pow_sub_one]
  simp [hi]

set_option maxHeartbeats 1600000 in
set_option maxRecDepth 100000 in
theorem not_any (n N : Nat) (ao : Option Addr) (cap : Nat) (w : World) (h1 : n ≤ 16777216) (hN : N < 2 ^ n) (h : Rd w ao (nw n) N) :
    Calls Tryd.prog 20 #[rv n ao (nw n) cap] w fun e w' => ∃ g, e = .returned (.tuple #[rv n (some ⟨g, 0, none⟩) (nw n) (nw n), .int .i64 0]) ∧ w.heap.size ≤ g ∧ w'.rowIs g 69 (nw n) (wf (nt n N)) ∧ Below w.heap.size w w' := by
  have HR := hid1 h
  have hb := nw_bd h1
  have HC := hid1 (chk_ok h1 hN)
  have HM := hid1 (nt_mod hN (nw_le n))
  have HX : Hid (∀ k, k < nw n → wd (nt (64 * nw n) N) k = 18446744073709551615 - wd N k) := fun k hk => wd_nt h.1 hk
  have HA := hid1 (nt_lt (64 * nw n) N)
  clear h hN
  generalize nt (64 * nw n) N = A at *
  go_enter Tryd.func20, Tryd.ntmps20
  go_wp2_with fail
  refine gen_calls (fun W => W.heap.size = w.heap.size + 2 ∧ Below w.heap.size w W ∧ W.rowIs w.heap.size 24 2 (sf n ao (nw n) cap) ∧ W.rowIs (w.heap.size + 1) 24 2 (sf 0 none 0 0))
    ⟨by simp, bl_alloc (bl_alloc (Below.refl _ _) _) _, (row_new _ _ _ _ _ _).alloc _, by have := row_new (w.alloc (.cells #[.int .i64 n, .slice ao (nw n) cap] 24)) 0 none 0 0 24; simpa using this⟩ ?_
  rintro W ⟨z0, B0, r1, r2⟩
  refine (check_any n ao (nw n) cap N W (by omega) (HR.out.below B0)).mono ?_
  rintro e w1 ⟨rfl, hb1⟩
  rw [HC.out]
  replace r1 := keepr hb1 r1
  replace r2 := keepr hb1 r2
  have B1 := bl_step B0 hb1
  have z1 := hb1.size
  clear hb1
  have c0 := sf_len r1
  have c1 := sf_ws r1
  go_wp2_with fail
  refine (blank_any n h1 _).mono ?_
  rintro e w2 ⟨g, rfl, hg, hrow, hb2⟩
  replace r1 := keepr hb2 r1
  replace r2 := keepr hb2 r2
  have B2 := bl_step B1 hb2
  have z2 := hrow.lt
  clear hb2 B1 B0 c0 c1
  have c0 := sf_len r1
  have c1 := sf_ws r1
  have l1 := r1.lt
  go_wp2_with fail
  go_loopw [20] (fun i wr => ∃ k : Nat, k ≤ nw n ∧ i = .int .i64 k ∧ wr.rowIs g 69 (nw n) (pf A k) ∧ wr.rowIs (w.heap.size + 1) 24 2 (sf 0 none 0 0) ∧ wr.rowIs w2.heap.size 24 2 (sf n (some ⟨g, 0, none⟩) (nw n) (nw n)) ∧ Below w.heap.size w wr)
    (fun i _ => nw n - (intOf i).toNat)
  case atStart => exact ⟨0, Nat.zero_le _, rfl, (row_start hrow).alloc _, r2.alloc _, row_new _ _ _ _ _ _, bl_alloc B2 _⟩
  case round =>
    clear hrow r1 r2 B2 c0 c1
    obtain ⟨k, hk, rfl, hrow, r2, r4, hnx⟩ := hrel
    by_cases hlt : k < nw n
    · obtain ⟨ga, rfl, hc⟩ := (HR.out.below hnx).2 (by omega)
      have c8 := hc k hlt
      unfold wf at c8
      have ik : (k : Int) < (nw n : Nat) := by omega
      have fw := hrow.frozen k
      have cw := hrow.cell hlt
      have c41 := sf_ws r4
      have HK := hid1 (HX.out k hlt)
      have HO := hid1 (compl_u64 _ (wd_lt N k))
      rw [← HK.out] at HO
      have HH := hid1 hrow
      have H2 := hid1 r2
      have H4 := hid1 r4
      clear hrow r2 r4 hc HK
      go_wp2_with fail
      exact ⟨⟨k + 1, by omega, by go_num, row_step HH.out (by rw [HO.out]; rfl), H2.out.setOther (a := ⟨g, k, none⟩) (row_ne H2.out HH.out (by decide)) _, H4.out.setOther (a := ⟨g, k, none⟩) (row_ne H4.out HH.out (by decide)) _, bl_set hnx (by omega) _⟩, by simp [intOf]; omega⟩
    · have hkN : k = nw n := by omega
      subst hkN
      have c40 := sf_len r4
      have c41 := sf_ws r4
      have HH := hid1 (row_full hrow)
      have H2 := hid1 r2
      have H4 := hid1 r4
      clear hrow r2 r4
      go_wp2_with fail
      refine (maskEnd_any n A g (nw n) wr h1 HA.out HH.out).mono ?_
      rintro e w3 ⟨rfl, hrow, but⟩
      rw [HM.out] at hrow
      have r2 := but.row (row_ne H2.out HH.out (by decide)) H2.out
      have r4 := but.row (row_ne H4.out HH.out (by decide)) H4.out
      have B3 := but.below (B := w.heap.size) (by omega) (by have := hnx.size; omega) hnx
      clear c40 c41 but hnx
      have c40 := sf_len r4
      have c41 := sf_ws r4
      have c20 := sf_len r2
      have c21 := sf_ws r2
      have f0 := r2.frozen 0
      have f1 := r2.frozen 1
      have hne := row_ne hrow r2 (by decide)
      replace HH := hid1 hrow
      clear hrow r2 r4 H2 H4
      go_wp2_with fail
      exact bodyPost_ret (v := .tuple #[rv n (some ⟨g, 0, none⟩) (nw n) (nw n), .int .i64 0]) (by simp [results, Tryd.results20, go_sem, c20, c21]) rfl ⟨g, rfl, by omega, (HH.out.setOther (a := ⟨w.heap.size + 1, 0, none⟩) hne _).setOther (a := ⟨w.heap.size + 1, 1, none⟩) hne _, bl_set (bl_set B3 (by omega) _) (by omega) _⟩
end Go.Proofs.YtgciefmjbaphiaaDoor
