/- The document's own answers of rows that may be: Not, Count, Slice, Unpack. -/
import Derived.Test.YteghelmbibpohaaBW23
namespace Go.Proofs.Yteghelmbibpohaa
open Go.RowKit

theorem bn_nt {n N : Nat} (h : N < 2 ^ n) : bn (fun i => !N.testBit i) n = nt n N := bn_ext (nt_lt n N) fun i hi => by rw [nt_bit h]; simp [hi]
theorem bn_sl (N a b : Nat) : bn (fun i => N.testBit (a + i)) (b - a) = sl N a b := bn_ext (sl_lt N a b) fun i hi => by rw [sl_bit]; simp [hi]
set_option maxHeartbeats 1600000 in
set_option maxRecDepth 100000 in
theorem rnot_any (n N : Nat) (ao : Option Addr) (cap : Nat) (w : World) (h1 : n ≤ 16777216) (hN : N < 2 ^ n) (h : Ro w ao (nw n) N) :
    Calls Try.prog 50 #[rv n ao (nw n) cap] w fun e w' => ∃ g, e = .returned (.tuple #[rv n (some ⟨g, 0, none⟩) (nw n) (nw n), .int .i64 0]) ∧ w.heap.size ≤ g ∧ w'.rowIs g 35 (nw n) (wf (nt n N)) ∧ Below w.heap.size w w' := by
  have HR := hid1 h
  have hb := nw_bd h1
  have HC := hid1 (chk_ok h1 hN)
  have HB := hid1 (bn_nt hN)
  clear h hN
  go_enter Try.func50, Try.ntmps50
  go_wp2_with fail
  refine gen_calls (fun W => W.heap.size = w.heap.size + 2 ∧ Below w.heap.size w W ∧ W.rowIs w.heap.size 27 2 (sf n ao (nw n) cap) ∧ W.rowIs (w.heap.size + 1) 27 2 (sf 0 none 0 0))
    ⟨by simp, bl_alloc (bl_alloc (Below.refl _ _) _) _, (row_new _ _ _ _ _ _).alloc _, by have := row_new (w.alloc (.cells #[.int .i64 n, .slice ao (nw n) cap] 27)) 0 none 0 0 27; simpa using this⟩ ?_
  rintro W ⟨z0, B0, r1, r2⟩
  refine (rcheck_any n ao (nw n) cap N W (by omega) (HR.out.below B0)).mono ?_
  rintro e w1 ⟨rfl, hb1⟩
  rw [HC.out]
  replace r1 := keepr hb1 r1
  replace r2 := keepr hb1 r2
  have B1 := bl_step B0 hb1
  have z1 := hb1.size
  clear hb1 B0
  have c0 := sf_len r1
  have c1 := sf_ws r1
  go_wp2_with fail
  refine (rtruths_any n N ao cap w1 h1 (HR.out.below B1)).mono ?_
  rintro e w2 ⟨gt, rfl, hg, hrow, hb2⟩
  replace r2 := keepr hb2 r2
  have B2 := bl_step B1 hb2
  have lt := hrow.lt
  replace hrow := pm_zero (fun i => !N.testBit i) hrow
  clear hb2 B1 c0 c1 r1
  go_wp2_with fail
  go_loopw [6] (fun i wr => ∃ k : Nat, k ≤ n ∧ i = .int .i64 k ∧ wr.rowIs (w.heap.size + 1) 27 2 (sf 0 none 0 0) ∧ wr.rowIs gt 4 n (bv (pm (fun i => N.testBit i) (fun i => !N.testBit i) k)) ∧ Below w.heap.size w wr) (fun i _ => n - (intOf i).toNat)
  case atStart => exact ⟨0, Nat.zero_le _, rfl, r2, hrow, B2⟩
  case round =>
    clear hrow r2 B2
    obtain ⟨k, hk, rfl, r2, hrow, hnx⟩ := hrel
    have ik0 : (0 : Int) ≤ (k : Int) := by omega
    by_cases hlt : k < n
    · have ik : (k : Int) < (n : Int) := by omega
      have fw := hrow.frozen k
      have cw := hrow.cell hlt
      simp only [bv, pm_at] at cw
      have HH := hid1 hrow
      have H2 := hid1 r2
      clear hrow r2
      go_wp2_with fail
      exact ⟨⟨k + 1, by omega, by go_num, H2.out.setOther (a := ⟨gt, k, none⟩) (row_ne H2.out HH.out (by decide)) _, pm_step HH.out rfl, bl_set hnx (by omega) _⟩, by simp [intOf]; omega⟩
    · have hkN : k = n := by omega
      subst hkN
      have hfull := pm_full hrow
      go_wp2_with fail
      refine (rrow_any _ k _ k wr h1 (Rb.row hfull)).mono ?_
      rintro e w3 ⟨g, rfl, hg3, hrow1, hb3⟩
      rw [HB.out] at hrow1
      have hs := hnx.size
      replace r2 := keepr hb3 r2
      replace hnx := bl_step hnx hb3
      have c20 := sf_len r2
      have c21 := sf_ws r2
      have f0 := r2.frozen 0
      have f1 := r2.frozen 1
      have hne := row_ne hrow1 r2 (by decide)
      have HH := hid1 hrow1
      clear hrow hrow1 r2 hb3 hfull
      go_wp2_with fail
      exact bodyPost_ret (v := .tuple #[rv k (some ⟨g, 0, none⟩) (nw k) (nw k), .int .i64 0]) (by simp [results, Try.results50, go_sem, c20, c21]) rfl ⟨g, rfl, by omega, (HH.out.setOther (a := ⟨w.heap.size + 1, 0, none⟩) hne _).setOther (a := ⟨w.heap.size + 1, 1, none⟩) hne _, bl_set (bl_set hnx (by omega) _) (by omega) _⟩
set_option maxHeartbeats 1600000 in
set_option maxRecDepth 100000 in
theorem rcount_any (n N : Nat) (ao : Option Addr) (cap : Nat) (w : World) (h1 : n ≤ 16777216) (hN : N < 2 ^ n) (h : Ro w ao (nw n) N) :
    Calls Try.prog 51 #[rv n ao (nw n) cap] w fun e w' => e = .returned (.tuple #[.int .i64 (pc N n : Nat), .int .i64 0]) ∧ Below w.heap.size w w' := by
  have HR := hid1 h
  have hb := nw_bd h1
  have hle := nw_le n
  have HC := hid1 (chk_ok h1 hN)
  clear h hN
  go_enter Try.func51, Try.ntmps51
  go_wp2_with fail
  refine gen_calls (fun W => Below w.heap.size w W ∧ W.rowIs w.heap.size 27 2 (sf n ao (nw n) cap)) ⟨bl_alloc (Below.refl _ _) _, row_new _ _ _ _ _ _⟩ ?_
  rintro W ⟨B0, r1⟩
  refine (rcheck_any n ao (nw n) cap N W (by omega) (HR.out.below B0)).mono ?_
  rintro e w1 ⟨rfl, hb1⟩
  rw [HC.out]
  replace r1 := keepr hb1 r1
  have B1 := bl_step B0 hb1
  clear hb1 B0
  go_wp2_with fail
  go_loopw [5, 6] (fun s i wr => ∃ k : Nat, k ≤ n ∧ i = .int .i64 k ∧ s = .int .i64 (pc N k : Nat) ∧ wr.rowIs w.heap.size 27 2 (sf n ao (nw n) cap) ∧ Below w.heap.size w wr) (fun _ i _ => n - (intOf i).toNat)
  case atStart => exact ⟨0, Nat.zero_le _, rfl, rfl, r1, B1⟩
  case round =>
    clear r1 B1
    obtain ⟨k, hk, rfl, rfl, r1, hnx⟩ := hrel
    have ik0 : (0 : Int) ≤ (k : Int) := by omega
    have c0 := sf_len r1
    have c1 := sf_ws r1
    have p1 := pc_le N k
    have HS : Hid (pc N (k + 1) = pc N k + (N.testBit k).toNat) := rfl
    generalize hP : pc N k = P at *
    have HP := hid1 hP
    clear hP
    have ip0 : (0 : Int) ≤ (P : Int) := by omega
    have ip1 : (P : Int) ≤ 16777216 := by omega
    by_cases hlt : k < n
    · have ik : (k : Int) < (n : Int) := by omega
      have H1 := hid1 r1
      clear r1
      go_wp2_with fail
      refine (rbit_any n ao (nw n) cap N k wr (by omega) (HR.out.below hnx) (by omega)).mono ?_
      rintro e w2 ⟨rfl, hb2⟩
      cases hbit : N.testBit k
      · have HS' := hid1 (show pc N (k + 1) = P by rw [HS.out, hbit]; rfl)
        go_wp2_with fail
        exact ⟨⟨k + 1, by omega, by go_num, by rw [HS'.out], keepr hb2 H1.out, bl_step hnx hb2⟩, by simp [intOf]; omega⟩
      · have HS' := hid1 (show pc N (k + 1) = P + 1 by rw [HS.out, hbit]; rfl)
        go_wp2_with fail
        exact ⟨⟨k + 1, by omega, by go_num, by rw [HS'.out]; go_num, keepr hb2 H1.out, bl_step hnx hb2⟩, by simp [intOf]; omega⟩
    · have hkN : k = n := by omega
      subst hkN
      clear r1 HS
      go_wp2_with fail
      go_ret2
      exact ⟨by rw [HP.out]; rfl, hnx⟩
set_option maxHeartbeats 1600000 in
set_option maxRecDepth 100000 in
theorem rslice_arg (n N : Nat) (a b : Int) (ao : Option Addr) (cap : Nat) (w : World) (h1 : n ≤ 16777216) (hN : N < 2 ^ n) (h : Ro w ao (nw n) N) (hab : a < 0 ∨ b < a ∨ (n : Int) < b) :
    Calls Try.prog 52 #[rv n ao (nw n) cap, .int .i64 a, .int .i64 b] w fun e w' => e = .returned (.tuple #[rv 0 none 0 0, .int .i64 1]) ∧ Below w.heap.size w w' := by
  have HR := hid1 h
  have hb := nw_bd h1
  have HC := hid1 (chk_ok h1 hN)
  have HAB := hid1 hab
  clear h hN hab
  go_enter Try.func52, Try.ntmps52
  go_wp2_with fail
  refine gen_calls (fun W => W.heap.size = w.heap.size + 2 ∧ Below w.heap.size w W ∧ W.rowIs w.heap.size 27 2 (sf n ao (nw n) cap) ∧ W.rowIs (w.heap.size + 1) 27 2 (sf 0 none 0 0))
    ⟨by simp, bl_alloc (bl_alloc (Below.refl _ _) _) _, (row_new _ _ _ _ _ _).alloc _, by have := row_new (w.alloc (.cells #[.int .i64 n, .slice ao (nw n) cap] 27)) 0 none 0 0 27; simpa using this⟩ ?_
  rintro W ⟨z0, B0, r1, r2⟩
  refine (rcheck_any n ao (nw n) cap N W (by omega) (HR.out.below B0)).mono ?_
  rintro e w1 ⟨rfl, hb1⟩
  rw [HC.out]
  replace r1 := keepr hb1 r1
  replace r2 := keepr hb1 r2
  have B1 := bl_step B0 hb1
  clear hb1 B0
  have c0 := sf_len r1
  have c20 := sf_len r2
  have c21 := sf_ws r2
  have f0 := r2.frozen 0
  have f1 := r2.frozen 1
  by_cases ha : a < 0
  · go_wp2_with fail
    exact bodyPost_ret (v := .tuple #[rv 0 none 0 0, .int .i64 1]) (by simp [results, Try.results52, go_sem, c20, c21]) rfl ⟨rfl, bl_set (bl_set B1 (by omega) _) (by omega) _⟩
  · by_cases hba : b < a
    · go_wp2_with fail
      exact bodyPost_ret (v := .tuple #[rv 0 none 0 0, .int .i64 1]) (by simp [results, Try.results52, go_sem, c20, c21]) rfl ⟨rfl, bl_set (bl_set B1 (by omega) _) (by omega) _⟩
    · have hnb : (n : Int) < b := by rcases HAB.out with h | h | h <;> omega
      go_wp2_with fail
      exact bodyPost_ret (v := .tuple #[rv 0 none 0 0, .int .i64 1]) (by simp [results, Try.results52, go_sem, c20, c21]) rfl ⟨rfl, bl_set (bl_set B1 (by omega) _) (by omega) _⟩
set_option maxHeartbeats 1600000 in
set_option maxRecDepth 100000 in
theorem rslice_any (n N a b : Nat) (ao : Option Addr) (cap : Nat) (w : World) (h1 : n ≤ 16777216) (hN : N < 2 ^ n) (h : Ro w ao (nw n) N) (hab : a ≤ b) (hbn : b ≤ n) :
    Calls Try.prog 52 #[rv n ao (nw n) cap, .int .i64 a, .int .i64 b] w fun e w' => ∃ g, e = .returned (.tuple #[rv (b - a : Nat) (some ⟨g, 0, none⟩) (nw (b - a)) (nw (b - a)), .int .i64 0]) ∧ w.heap.size ≤ g ∧ w'.rowIs g 35 (nw (b - a)) (wf (sl N a b)) ∧ Below w.heap.size w w' := by
  have HR := hid1 h
  have hb := nw_bd h1
  have HC := hid1 (chk_ok h1 hN)
  have HB := hid1 (bn_sl N a b)
  obtain ⟨d, hd⟩ : ∃ d, b - a = d := ⟨_, rfl⟩
  rw [hd] at HB ⊢
  have HD := hid1 hd
  have hd1 : d ≤ 16777216 := by omega
  have had : a + d ≤ n := by omega
  clear hd
  have i1 : (0 : Int) ≤ (a : Int) := by omega
  have i2 : (a : Int) ≤ (b : Int) := by omega
  have i3 : (b : Int) ≤ (n : Int) := by omega
  have i4 : (n : Int) ≤ 16777216 := by omega
  clear h hN
  go_enter Try.func52, Try.ntmps52
  go_wp2_with fail
  refine gen_calls (fun W => W.heap.size = w.heap.size + 2 ∧ Below w.heap.size w W ∧ W.rowIs w.heap.size 27 2 (sf n ao (nw n) cap) ∧ W.rowIs (w.heap.size + 1) 27 2 (sf 0 none 0 0))
    ⟨by simp, bl_alloc (bl_alloc (Below.refl _ _) _) _, (row_new _ _ _ _ _ _).alloc _, by have := row_new (w.alloc (.cells #[.int .i64 n, .slice ao (nw n) cap] 27)) 0 none 0 0 27; simpa using this⟩ ?_
  rintro W ⟨z0, B0, r1, r2⟩
  refine (rcheck_any n ao (nw n) cap N W (by omega) (HR.out.below B0)).mono ?_
  rintro e w1 ⟨rfl, hb1⟩
  rw [HC.out]
  replace r1 := keepr hb1 r1
  replace r2 := keepr hb1 r2
  have B1 := bl_step B0 hb1
  have z1 := hb1.size
  clear hb1 B0
  have c0 := sf_len r1
  have c1 := sf_ws r1
  go_wp2_with fail
  refine (rtruths_any n N ao cap w1 h1 (HR.out.below B1)).mono ?_
  rintro e w2 ⟨gt, rfl, hg, hrow, hb2⟩
  replace r2 := keepr hb2 r2
  have B2 := bl_step B1 hb2
  clear hb2 B1 c0 c1 r1
  have hs2 := B2.size
  go_upto_region 7 with fail
  have HROW := hid1 hrow
  clear hrow
  by_cases han : a = n
  · have hd0 : d = 0 := by omega
    have hbn' : b = a := by have := HD.out; omega
    subst hd0
    subst hbn'
    subst han
    go_wp2_with fail
    refine (rrow_any (fun i => N.testBit (b + i)) 0 _ 0 w2 (by omega) (fun k hk => absurd hk (by omega))).mono ?_
    rintro e w3 ⟨g, rfl, hg3, hrow1, hb3⟩
    rw [HB.out] at hrow1
    replace r2 := keepr hb3 r2
    replace B2 := bl_step B2 hb3
    have c20 := sf_len r2
    have c21 := sf_ws r2
    have f0 := r2.frozen 0
    have f1 := r2.frozen 1
    have hne := row_ne hrow1 r2 (by decide)
    have HH := hid1 hrow1
    clear hrow1 r2 hb3
    go_wp2_with fail
    exact bodyPost_ret (v := .tuple #[rv (0 : Nat) (some ⟨g, 0, none⟩) (nw 0) (nw 0), .int .i64 0]) (by simp [results, Try.results52, go_sem, c20, c21]) rfl ⟨g, rfl, by omega, (HH.out.setOther (a := ⟨w.heap.size + 1, 0, none⟩) hne _).setOther (a := ⟨w.heap.size + 1, 1, none⟩) hne _, bl_set (bl_set B2 (by omega) _) (by omega) _⟩
  · have i5 : (a : Int) < (n : Int) := by omega
    have i6 : a < n := by omega
    go_wp2_with fail
    rw [HD.out]
    refine (rrow_any (fun i => N.testBit (a + i)) d _ _ w2 hd1 (fun k hk => ⟨gt, a, rfl, HROW.out.cell (by omega)⟩)).mono ?_
    rintro e w3 ⟨g, rfl, hg3, hrow1, hb3⟩
    rw [HB.out] at hrow1
    replace r2 := keepr hb3 r2
    replace B2 := bl_step B2 hb3
    have c20 := sf_len r2
    have c21 := sf_ws r2
    have f0 := r2.frozen 0
    have f1 := r2.frozen 1
    have hne := row_ne hrow1 r2 (by decide)
    have HH := hid1 hrow1
    clear hrow1 r2 hb3
    go_wp2_with fail
    exact bodyPost_ret (v := .tuple #[rv d (some ⟨g, 0, none⟩) (nw d) (nw d), .int .i64 0]) (by simp [results, Try.results52, go_sem, c20, c21]) rfl ⟨g, rfl, by omega, (HH.out.setOther (a := ⟨w.heap.size + 1, 0, none⟩) hne _).setOther (a := ⟨w.heap.size + 1, 1, none⟩) hne _, bl_set (bl_set B2 (by omega) _) (by omega) _⟩
end Go.Proofs.Yteghelmbibpohaa
