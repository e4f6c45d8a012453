/- wordFrom, Slice. -/
import Derived.Test.YtgkfdgdemodgiaaDoorBW7
import Derived.Test.YtgkfdgdemodgiaaDoorBM4
namespace Go.Proofs.YtgkfdgdemodgiaaDoor
open Go.RowKit

theorem shr_int (a : Nat) (k : Nat) : (a : Int) / 2 ^ k = ((a / 2 ^ k : Nat) : Int) := by simp
theorem shl_int (a k : Nat) : IntKind.u64.wrap ((a : Int) * 2 ^ k) = ((a * 2 ^ k % 18446744073709551616 : Nat) : Int) := by
  rw [show ((a : Int) * 2 ^ k) = ((a * 2 ^ k : Nat) : Int) by simp, IntKind.wrap_u64]
  omega
set_option maxHeartbeats 800000 in
set_option maxRecDepth 100000 in
theorem wordFrom_any (N m p cap : Nat) (ao : Option Addr) (w : World) (hm : m ≤ 262144) (h : Rd w ao m N) (hp : p < 64 * m) :
    Calls Tryd.prog 45 #[.slice ao m cap, .int .i64 p] w fun e w' => e = .returned (.int .u64 (fr N p : Nat)) ∧ w' = w := by
  obtain ⟨q, r, hr, rfl⟩ : ∃ q r, r < 64 ∧ p = 64 * q + r := ⟨p / 64, p % 64, by omega, by omega⟩
  obtain ⟨hN, h0⟩ := h
  obtain ⟨g, rfl, hc⟩ := h0 (by omega)
  clear h0
  have q1 : q < m := by omega
  have c0 := hc q q1
  unfold wf at c0
  have e1 : ((64 * q + r : Nat) : Int) / 64 = q := by omega
  have e2 : ((64 * q + r : Nat) : Int).tmod 64 = r := by rw [Int.tmod_eq_emod_of_nonneg (by omega)]; omega
  have e3 : IntKind.i64.wrap (q : Int) = q := by rw [IntKind.wrap_i64]; omega
  have iq0 : (0 : Int) ≤ (q : Int) := by omega
  have iq1 : (q : Int) < (m : Int) := by omega
  have iq2 : (m : Int) ≤ 262144 := by omega
  have ir0 : (0 : Int) ≤ (r : Int) := by omega
  have ir1 : (r : Int) ≤ 63 := by omega
  have ip0 : (0 : Int) ≤ ((64 * q + r : Nat) : Int) := by omega
  by_cases h2 : q + 1 < m
  · have c1 := hc (q + 1) h2
    unfold wf at c1
    have HF := hid1 (fr_two (N := N) (q := q) hr)
    have H1 := wd_lt N q
    have HO := hid1 (or_u64 _ _ (Nat.lt_of_le_of_lt (Nat.div_le_self (wd N q) (2 ^ r)) H1) (shl_lt (wd N (q + 1)) (64 - r)))
    have iq3 : (q : Int) + 1 < (m : Int) := by omega
    clear hc hN H1 h2
    generalize ((64 * q + r : Nat) : Int) = P at *
    go_enter Tryd.func45, Tryd.ntmps45
    go_wp2
    go_ret
    refine ⟨ret_int ?_, rfl⟩
    rw [shr_int, shl_int, HO.out, HF.out]
  · have HF := hid1 (fr_one (r := r) hN (by omega : m ≤ q + 1))
    have iq3 : ¬ (q : Int) + 1 < (m : Int) := by omega
    clear hc hN h2
    generalize ((64 * q + r : Nat) : Int) = P at *
    go_enter Tryd.func45, Tryd.ntmps45
    go_wp2
    go_ret
    refine ⟨ret_int ?_, rfl⟩
    rw [shr_int, HF.out]

theorem wrap_at {a k : Nat} (ha : a ≤ 16777216) (hk : k ≤ 262144) : IntKind.i64.wrap ((a : Int) + IntKind.i64.wrap (64 * (k : Int))) = ((a + 64 * k : Nat) : Int) := by
  have e : IntKind.i64.wrap (64 * (k : Int)) = 64 * (k : Int) := by rw [IntKind.wrap_i64]; omega
  rw [e, IntKind.wrap_i64]
  omega
set_option maxHeartbeats 1600000 in
set_option maxRecDepth 100000 in
theorem slice_any (n N a b : Nat) (ao : Option Addr) (cap : Nat) (w : World) (h1 : n ≤ 16777216) (hN : N < 2 ^ n) (h : Rd w ao (nw n) N) (hab : a ≤ b) (hbn : b ≤ n) :
    Calls Tryd.prog 21 #[rv n ao (nw n) cap, .int .i64 a, .int .i64 b] w fun e w' => ∃ g, e = .returned (.tuple #[rv (b - a : Nat) (some ⟨g, 0, none⟩) (nw (b - a)) (nw (b - a)), .int .i64 0]) ∧ w.heap.size ≤ g ∧ w'.rowIs g 69 (nw (b - a)) (wf (sl N a b)) ∧ Below w.heap.size w w' := by
  have HR := hid1 h
  have hb := nw_bd h1
  have HC := hid1 (chk_ok h1 hN)
  obtain ⟨d, hd⟩ : ∃ d, b - a = d := ⟨_, rfl⟩
  have HM := hid1 (sw_mod N a b)
  rw [hd] at HM ⊢
  have HX : Hid (∀ k, k < nw d → wd (sw N a (nw d)) k = fr N (a + 64 * k)) := fun k hk => sw_wd hk
  have HA := hid1 (sw_lt N a (nw d))
  have HD := hid1 hd
  have hd1 : d ≤ 16777216 := by omega
  have hb' := nw_bd hd1
  have ed : (b : Int) - (a : Int) = (d : Int) := by omega
  have i1 : (0 : Int) ≤ (a : Int) := by omega
  have i2 : (a : Int) ≤ (b : Int) := by omega
  have i3 : (b : Int) ≤ (n : Int) := by omega
  have i4 : (n : Int) ≤ 16777216 := by omega
  have wd' : IntKind.i64.wrap (d : Int) = d := by rw [IntKind.wrap_i64]; omega
  clear h hN hd
  generalize sw N a (nw d) = A at *
  go_enter Tryd.func21, Tryd.ntmps21
  go_wp2_with fail
  refine gen_calls (fun W => W.heap.size = w.heap.size + 2 ∧ Below w.heap.size w W ∧ W.rowIs w.heap.size 24 2 (sf n ao (nw n) cap) ∧ W.rowIs (w.heap.size + 1) 24 2 (sf 0 none 0 0))
    ⟨by simp, bl_alloc (bl_alloc (Below.refl _ _) _) _, (row_new _ _ _ _ _ _).alloc _, by have := row_new (w.alloc (.cells #[.int .i64 n, .slice ao (nw n) cap] 24)) 0 none 0 0 24; simpa using this⟩ ?_
  rintro W ⟨z0, B0, r1, r2⟩
  refine (check_any n ao (nw n) cap N W (by omega) (HR.out.below B0)).mono ?_
  rintro e w1 ⟨rfl, hb1⟩
  rw [HC.out]
  replace r1 := keepr hb1 r1
  replace r2 := keepr hb1 r2
  have B1 := bl_step B0 hb1
  have z1 := hb1.size
  clear hb1
  have c0 := sf_len r1
  have c1 := sf_ws r1
  go_wp2_with fail
  refine (blank_any d hd1 _).mono ?_
  rintro e w2 ⟨g, rfl, hg, hrow, hb2⟩
  replace r1 := keepr hb2 r1
  replace r2 := keepr hb2 r2
  have B2 := bl_step B1 hb2
  have z2 := hrow.lt
  clear hb2 B1 B0 c0 c1
  go_wp2_with fail
  go_loopw [38] (fun i wr => ∃ k : Nat, k ≤ nw d ∧ i = .int .i64 k ∧ wr.rowIs g 69 (nw d) (pf A k) ∧ wr.rowIs w.heap.size 24 2 (sf n ao (nw n) cap) ∧ wr.rowIs (w.heap.size + 1) 24 2 (sf 0 none 0 0) ∧ wr.rowIs w2.heap.size 24 2 (sf d (some ⟨g, 0, none⟩) (nw d) (nw d)) ∧ Below w.heap.size w wr)
    (fun i _ => nw d - (intOf i).toNat)
  case atStart => exact ⟨0, Nat.zero_le _, rfl, (row_start hrow).alloc _, r1.alloc _, r2.alloc _, row_new _ _ _ _ _ _, bl_alloc B2 _⟩
  case round =>
    clear hrow r1 r2 B2
    obtain ⟨k, hk, rfl, hrow, r1, r2, r4, hnx⟩ := hrel
    by_cases hlt : k < nw d
    · have ik0 : (0 : Int) ≤ (k : Int) := by omega
      have ik : (k : Int) < (nw d : Nat) := by omega
      have ik2 : (nw d : Int) ≤ 262144 := by omega
      have fw := hrow.frozen k
      have cw := hrow.cell hlt
      have c41 := sf_ws r4
      have c11 := sf_ws r1
      have hp : a + 64 * k < 64 * nw n := by
        have h3 := nw_le n
        have h4 : 64 * k < d := by unfold nw at hlt; omega
        omega
      have HF := hid1 (wordFrom_any N (nw n) (a + 64 * k) cap ao wr.drew hb (HR.out.below hnx.drew) hp)
      have HK := hid1 (HX.out k hlt)
      have ew := wrap_at (a := a) (k := k) (by omega) (by omega)
      generalize a + 64 * k = p at *
      have HH := hid1 hrow
      have H1 := hid1 r1
      have H2 := hid1 r2
      have H4 := hid1 r4
      clear hrow r1 r2 r4 hp
      go_wp2_with fail
      refine still_tail 11 (by kernel_rfl) ?_
      simp only [List.take_succ_cons, List.take_zero, List.drop_succ_cons, List.drop_zero]
      repeat still_step
      still_call HF.out
      repeat still_step
      refine wpStill_nil ?_
      go_wp2
      exact ⟨⟨k + 1, by omega, by go_num, row_step HH.out (by rw [← HK.out]; rfl), H1.out.setOther (a := ⟨g, k, none⟩) (row_ne H1.out HH.out (by decide)) _, H2.out.setOther (a := ⟨g, k, none⟩) (row_ne H2.out HH.out (by decide)) _, H4.out.setOther (a := ⟨g, k, none⟩) (row_ne H4.out HH.out (by decide)) _, (bl_set hnx (by omega) _).drew⟩, by simp [intOf]; omega⟩
    · have hkN : k = nw d := by omega
      subst hkN
      have c40 := sf_len r4
      have c41 := sf_ws r4
      have HH := hid1 (row_full hrow)
      have H2 := hid1 r2
      have H4 := hid1 r4
      clear hrow r1 r2 r4
      go_wp2_with fail
      refine (maskEnd_any d A g (nw d) wr hd1 HA.out HH.out).mono ?_
      rintro e w3 ⟨rfl, hrow, but⟩
      rw [HM.out] at hrow
      have r2 := but.row (row_ne H2.out HH.out (by decide)) H2.out
      have r4 := but.row (row_ne H4.out HH.out (by decide)) H4.out
      have B3 := but.below (B := w.heap.size) (by omega) (by have := hnx.size; omega) hnx
      clear c40 c41 but hnx
      have c40 := sf_len r4
      have c41 := sf_ws r4
      have c20 := sf_len r2
      have c21 := sf_ws r2
      have f0 := r2.frozen 0
      have f1 := r2.frozen 1
      have hne := row_ne hrow r2 (by decide)
      replace HH := hid1 hrow
      clear hrow r2 r4 H2 H4
      go_wp2_with fail
      exact bodyPost_ret (v := .tuple #[rv d (some ⟨g, 0, none⟩) (nw d) (nw d), .int .i64 0]) (by simp [results, Tryd.results21, go_sem, c20, c21]) rfl ⟨g, rfl, by omega, (HH.out.setOther (a := ⟨w.heap.size + 1, 0, none⟩) hne _).setOther (a := ⟨w.heap.size + 1, 1, none⟩) hne _, bl_set (bl_set B3 (by omega) _) (by omega) _⟩
end Go.Proofs.YtgkfdgdemodgiaaDoor
