/- Count, checkPair, And, Xor. -/
import Derived.Test.YteghelmbibpohaaBW6
namespace Go.Proofs.Yteghelmbibpohaa
open Go.RowKit

theorem pc_bd {N k n : Nat} (h : k ≤ n) : pc N (64 * k) ≤ 64 * n := Nat.le_trans (pc_le _ _) (by omega)
set_option maxHeartbeats 1600000 in
set_option maxRecDepth 100000 in
theorem count_any (n N : Nat) (ao : Option Addr) (cap : Nat) (w : World) (h1 : n ≤ 16777216) (hN : N < 2 ^ n) (h : Rd w ao (nw n) N) :
    Calls Try.prog 33 #[rv n ao (nw n) cap] w fun e w' => e = .returned (.tuple #[.int .i64 (pc N n : Nat), .int .i64 0]) ∧ Below w.heap.size w w' := by
  have HR := hid1 h
  have hb := nw_bd h1
  have HC := hid1 (chk_ok h1 hN)
  have HP := hid1 (pc_above hN (nw_le n))
  clear h hN
  go_enter Try.func33, Try.ntmps33
  go_wp2_with fail
  refine gen_calls (fun W => Below w.heap.size w W ∧ W.rowIs w.heap.size 27 2 (sf n ao (nw n) cap)) ⟨bl_alloc (Below.refl _ _) _, row_new _ _ _ _ _ _⟩ ?_
  rintro W ⟨B0, r1⟩
  refine (check_any n ao (nw n) cap N W (by omega) (HR.out.below B0)).mono ?_
  rintro e w1 ⟨rfl, hb1⟩
  rw [HC.out]
  have c0 := sf_len (keepr hb1 r1)
  have c1 := sf_ws (keepr hb1 r1)
  have B1 := bl_step B0 hb1
  have HR1 := hid1 (HR.out.below B1)
  clear r1 hb1 B0 HR
  go_wp2_with fail
  go_loop [5, 16] (fun s i => ∃ k : Nat, k ≤ nw n ∧ i = .int .i64 k ∧ s = .int .i64 (pc N (64 * k) : Nat)) (fun _ i => nw n - (intOf i).toNat)
  case atStart => exact ⟨0, Nat.zero_le _, rfl, rfl⟩
  case round =>
    obtain ⟨k, hk, rfl, rfl⟩ := hrel
    by_cases hlt : k < nw n
    · obtain ⟨ga, rfl, hc⟩ := HR1.out.2 (by omega)
      have c8 := hc k hlt
      unfold wf at c8
      have ik : (k : Int) < (nw n : Nat) := by omega
      have p1 := pc_bd (N := N) hk
      have p2 := pc_le (wd N k) 64
      have HW := hid1 (pc_words N k)
      have HO := hid1 (ones_any (wd N k) (wd_lt N k))
      clear hc
      generalize pc N (64 * k) = P at *
      generalize pc (wd N k) 64 = q at *
      have ip0 : (0 : Int) ≤ (P : Int) := by omega
      have ip1 : (P : Int) ≤ 16777216 := by omega
      have iq0 : (0 : Int) ≤ (q : Int) := by omega
      have iq1 : (q : Int) ≤ 64 := by omega
      go_wp2_with fail
      refine (HO.out _).mono ?_
      rintro e w2 ⟨rfl, rfl⟩
      go_wp2_with fail
      exact ⟨⟨k + 1, by omega, by go_num, by rw [HW.out]; go_num⟩, by simp [intOf]; omega⟩
    · have hkN : k = nw n := by omega
      subst hkN
      rw [HP.out]
      go_wp2_with fail
      go_ret2
      exact ⟨rfl, B1⟩

set_option maxHeartbeats 1600000 in
set_option maxRecDepth 100000 in
theorem pair_ok (n A B : Nat) (ao bo : Option Addr) (ca cb : Nat) (w : World) (h1 : n ≤ 16777216) (hA : A < 2 ^ n) (hB : B < 2 ^ n) (ra : Rd w ao (nw n) A) (rb : Rd w bo (nw n) B) :
    Calls Try.prog 39 #[rv n ao (nw n) ca, rv n bo (nw n) cb] w fun e w' => e = .returned (.int .i64 0) ∧ Below w.heap.size w w' := by
  have HA := hid1 ra
  have HB := hid1 rb
  have hb := nw_bd h1
  have HC := hid1 (chk_ok h1 hA)
  have HD := hid1 (chk_ok h1 hB)
  clear ra rb hA hB
  go_enter Try.func39, Try.ntmps39
  go_wp2_with fail
  refine gen_calls (fun W => Below w.heap.size w W ∧ W.rowIs w.heap.size 27 2 (sf n ao (nw n) ca) ∧ W.rowIs (w.heap.size + 1) 27 2 (sf n bo (nw n) cb))
    ⟨bl_alloc (bl_alloc (Below.refl _ _) _) _, (row_new _ _ _ _ _ _).alloc _, by have := row_new (w.alloc (.cells #[.int .i64 n, .slice ao (nw n) ca] 27)) n bo (nw n) cb 27; simpa using this⟩ ?_
  rintro W ⟨B0, r1, r2⟩
  refine (check_any n ao (nw n) ca A W (by omega) (HA.out.below B0)).mono ?_
  rintro e w1 ⟨rfl, hb1⟩
  rw [HC.out]
  replace r1 := keepr hb1 r1
  replace r2 := keepr hb1 r2
  have B1 := bl_step B0 hb1
  have c20 := sf_len r2
  have c21 := sf_ws r2
  clear hb1 B0
  go_wp2_with fail
  refine (check_any n bo (nw n) cb B w1 (by omega) (HB.out.below B1)).mono ?_
  rintro e w2 ⟨rfl, hb2⟩
  rw [HD.out]
  have c0 := sf_len (keepr hb2 r1)
  have c2 := sf_len (keepr hb2 r2)
  have B2 := bl_step B1 hb2
  clear hb2 B1 r1 r2 c20 c21
  go_wp2_with fail
  go_ret
  exact ⟨rfl, B2⟩

set_option maxHeartbeats 1600000 in
set_option maxRecDepth 100000 in
theorem and_any (n A B : Nat) (ao bo : Option Addr) (ca cb : Nat) (w : World) (h1 : n ≤ 16777216) (hA : A < 2 ^ n) (hB : B < 2 ^ n) (ra : Rd w ao (nw n) A) (rb : Rd w bo (nw n) B) :
    Calls Try.prog 22 #[rv n ao (nw n) ca, rv n bo (nw n) cb] w fun e w' => ∃ g, e = .returned (.tuple #[rv n (some ⟨g, 0, none⟩) (nw n) (nw n), .int .i64 0]) ∧ w.heap.size ≤ g ∧ w'.rowIs g 35 (nw n) (wf (A &&& B)) ∧ Below w.heap.size w w' := by
  have HA := hid1 ra
  have HB := hid1 rb
  have hb := nw_bd h1
  have HC := hid1 (fun W (x : Rd W ao (nw n) A) (y : Rd W bo (nw n) B) => pair_ok n A B ao bo ca cb W h1 hA hB x y)
  have HX : Hid (∀ k, wd (A &&& B) k = wd A k &&& wd B k) := fun k => wd_and A B k
  clear ra rb hA hB
  generalize A &&& B = X at *
  go_enter Try.func22, Try.ntmps22
  go_wp2_with fail
  refine gen_calls (fun W => W.heap.size = w.heap.size + 3 ∧ Below w.heap.size w W ∧ W.rowIs w.heap.size 27 2 (sf n ao (nw n) ca) ∧ W.rowIs (w.heap.size + 1) 27 2 (sf n bo (nw n) cb) ∧ W.rowIs (w.heap.size + 2) 27 2 (sf 0 none 0 0))
    ⟨by simp, bl_alloc (bl_alloc (bl_alloc (Below.refl _ _) _) _) _, ((row_new _ _ _ _ _ _).alloc _).alloc _, by have := (row_new (w.alloc (.cells #[.int .i64 n, .slice ao (nw n) ca] 27)) n bo (nw n) cb 27).alloc (.cells #[.int .i64 0, .slice none 0 0] 27); simpa using this,
     by have := row_new ((w.alloc (.cells #[.int .i64 n, .slice ao (nw n) ca] 27)).alloc (.cells #[.int .i64 n, .slice bo (nw n) cb] 27)) 0 none 0 0 27; simpa using this⟩ ?_
  rintro W ⟨z0, B0, ra, rb, r2⟩
  refine (HC.out W (HA.out.below B0) (HB.out.below B0)).mono ?_
  rintro e w1 ⟨rfl, hb1⟩
  replace ra := keepr hb1 ra
  replace rb := keepr hb1 rb
  replace r2 := keepr hb1 r2
  have B1 := bl_step B0 hb1
  have z1 := hb1.size
  clear hb1 B0
  have c0 := sf_len ra
  go_wp2_with fail
  refine (blank_any n h1 _).mono ?_
  rintro e w2 ⟨g, rfl, hg, hrow, hb2⟩
  replace ra := keepr hb2 ra
  replace rb := keepr hb2 rb
  replace r2 := keepr hb2 r2
  have B2 := bl_step B1 hb2
  have z2 := hrow.lt
  clear hb2 B1 c0
  go_wp2_with fail
  go_loopw [22] (fun i wr => ∃ k : Nat, k ≤ nw n ∧ i = .int .i64 k ∧ wr.rowIs g 35 (nw n) (pf X k) ∧ wr.rowIs w.heap.size 27 2 (sf n ao (nw n) ca) ∧ wr.rowIs (w.heap.size + 1) 27 2 (sf n bo (nw n) cb) ∧ wr.rowIs (w.heap.size + 2) 27 2 (sf 0 none 0 0) ∧ wr.rowIs w2.heap.size 27 2 (sf n (some ⟨g, 0, none⟩) (nw n) (nw n)) ∧ Below w.heap.size w wr)
    (fun i _ => nw n - (intOf i).toNat)
  case atStart => exact ⟨0, Nat.zero_le _, rfl, (row_start hrow).alloc _, ra.alloc _, rb.alloc _, r2.alloc _, row_new _ _ _ _ _ _, bl_alloc B2 _⟩
  case round =>
    clear hrow ra rb r2 B2
    obtain ⟨k, hk, rfl, hrow, ra, rb, r2, r4, hnx⟩ := hrel
    by_cases hlt : k < nw n
    · obtain ⟨ga, rfl, hc⟩ := (HA.out.below hnx).2 (by omega)
      obtain ⟨gb, rfl, hd⟩ := (HB.out.below hnx).2 (by omega)
      have c8 := hc k hlt
      have d8 := hd k hlt
      unfold wf at c8 d8
      have ik0 : (0 : Int) ≤ (k : Int) := by omega
      have ik : (k : Int) < (nw n : Nat) := by omega
      have fw := hrow.frozen k
      have cw := hrow.cell hlt
      have c41 := sf_ws r4
      have ca1 := sf_ws ra
      have cb1 := sf_ws rb
      have HO := hid1 (and_u64 _ _ (wd_lt A k) (wd_lt B k))
      rw [← HX.out k] at HO
      have HH := hid1 hrow
      have H2 := hid1 r2
      have H4 := hid1 r4
      have G1 := hid1 ra
      have G2 := hid1 rb
      clear hrow r2 r4 hc hd ra rb
      go_wp2_with fail
      refine still_tail 15 (by kernel_rfl) ?_
      simp only [List.take_succ_cons, List.take_zero, List.drop_succ_cons, List.drop_zero]
      repeat still_step
      refine wpStill_nil ?_
      go_wp2
      exact ⟨⟨k + 1, by omega, by go_num, row_step HH.out (by rw [HO.out]; rfl), G1.out.setOther (a := ⟨g, k, none⟩) (row_ne G1.out HH.out (by decide)) _, G2.out.setOther (a := ⟨g, k, none⟩) (row_ne G2.out HH.out (by decide)) _, H2.out.setOther (a := ⟨g, k, none⟩) (row_ne H2.out HH.out (by decide)) _, H4.out.setOther (a := ⟨g, k, none⟩) (row_ne H4.out HH.out (by decide)) _, (bl_set hnx (by omega) _).drew⟩, by simp [intOf]; omega⟩
    · have hkN : k = nw n := by omega
      subst hkN
      have c40 := sf_len r4
      have c41 := sf_ws r4
      have c20 := sf_len r2
      have c21 := sf_ws r2
      have f0 := r2.frozen 0
      have f1 := r2.frozen 1
      have hne := row_ne hrow r2 (by decide)
      have HH := hid1 (row_full hrow)
      clear hrow r2 r4 ra rb
      go_wp2_with fail
      exact bodyPost_ret (v := .tuple #[rv n (some ⟨g, 0, none⟩) (nw n) (nw n), .int .i64 0]) (by simp [results, Try.results22, go_sem, c20, c21]) rfl ⟨g, rfl, by omega, (HH.out.setOther (a := ⟨w.heap.size + 2, 0, none⟩) hne _).setOther (a := ⟨w.heap.size + 2, 1, none⟩) hne _, bl_set (bl_set hnx (by omega) _) (by omega) _⟩

set_option maxHeartbeats 1600000 in
set_option maxRecDepth 100000 in
theorem xor_any (n A B : Nat) (ao bo : Option Addr) (ca cb : Nat) (w : World) (h1 : n ≤ 16777216) (hA : A < 2 ^ n) (hB : B < 2 ^ n) (ra : Rd w ao (nw n) A) (rb : Rd w bo (nw n) B) :
    Calls Try.prog 23 #[rv n ao (nw n) ca, rv n bo (nw n) cb] w fun e w' => ∃ g, e = .returned (.tuple #[rv n (some ⟨g, 0, none⟩) (nw n) (nw n), .int .i64 0]) ∧ w.heap.size ≤ g ∧ w'.rowIs g 35 (nw n) (wf (A ^^^ B)) ∧ Below w.heap.size w w' := by
  have HA := hid1 ra
  have HB := hid1 rb
  have hb := nw_bd h1
  have HC := hid1 (fun W (x : Rd W ao (nw n) A) (y : Rd W bo (nw n) B) => pair_ok n A B ao bo ca cb W h1 hA hB x y)
  have HX : Hid (∀ k, wd (A ^^^ B) k = wd A k ^^^ wd B k) := fun k => wd_xor A B k
  clear ra rb hA hB
  generalize A ^^^ B = X at *
  go_enter Try.func23, Try.ntmps23
  go_wp2_with fail
  refine gen_calls (fun W => W.heap.size = w.heap.size + 3 ∧ Below w.heap.size w W ∧ W.rowIs w.heap.size 27 2 (sf n ao (nw n) ca) ∧ W.rowIs (w.heap.size + 1) 27 2 (sf n bo (nw n) cb) ∧ W.rowIs (w.heap.size + 2) 27 2 (sf 0 none 0 0))
    ⟨by simp, bl_alloc (bl_alloc (bl_alloc (Below.refl _ _) _) _) _, ((row_new _ _ _ _ _ _).alloc _).alloc _, by have := (row_new (w.alloc (.cells #[.int .i64 n, .slice ao (nw n) ca] 27)) n bo (nw n) cb 27).alloc (.cells #[.int .i64 0, .slice none 0 0] 27); simpa using this,
     by have := row_new ((w.alloc (.cells #[.int .i64 n, .slice ao (nw n) ca] 27)).alloc (.cells #[.int .i64 n, .slice bo (nw n) cb] 27)) 0 none 0 0 27; simpa using this⟩ ?_
  rintro W ⟨z0, B0, ra, rb, r2⟩
  refine (HC.out W (HA.out.below B0) (HB.out.below B0)).mono ?_
  rintro e w1 ⟨rfl, hb1⟩
  replace ra := keepr hb1 ra
  replace rb := keepr hb1 rb
  replace r2 := keepr hb1 r2
  have B1 := bl_step B0 hb1
  have z1 := hb1.size
  clear hb1 B0
  have c0 := sf_len ra
  go_wp2_with fail
  refine (blank_any n h1 _).mono ?_
  rintro e w2 ⟨g, rfl, hg, hrow, hb2⟩
  replace ra := keepr hb2 ra
  replace rb := keepr hb2 rb
  replace r2 := keepr hb2 r2
  have B2 := bl_step B1 hb2
  have z2 := hrow.lt
  clear hb2 B1 c0
  go_wp2_with fail
  go_loopw [22] (fun i wr => ∃ k : Nat, k ≤ nw n ∧ i = .int .i64 k ∧ wr.rowIs g 35 (nw n) (pf X k) ∧ wr.rowIs w.heap.size 27 2 (sf n ao (nw n) ca) ∧ wr.rowIs (w.heap.size + 1) 27 2 (sf n bo (nw n) cb) ∧ wr.rowIs (w.heap.size + 2) 27 2 (sf 0 none 0 0) ∧ wr.rowIs w2.heap.size 27 2 (sf n (some ⟨g, 0, none⟩) (nw n) (nw n)) ∧ Below w.heap.size w wr)
    (fun i _ => nw n - (intOf i).toNat)
  case atStart => exact ⟨0, Nat.zero_le _, rfl, (row_start hrow).alloc _, ra.alloc _, rb.alloc _, r2.alloc _, row_new _ _ _ _ _ _, bl_alloc B2 _⟩
  case round =>
    clear hrow ra rb r2 B2
    obtain ⟨k, hk, rfl, hrow, ra, rb, r2, r4, hnx⟩ := hrel
    by_cases hlt : k < nw n
    · obtain ⟨ga, rfl, hc⟩ := (HA.out.below hnx).2 (by omega)
      obtain ⟨gb, rfl, hd⟩ := (HB.out.below hnx).2 (by omega)
      have c8 := hc k hlt
      have d8 := hd k hlt
      unfold wf at c8 d8
      have ik0 : (0 : Int) ≤ (k : Int) := by omega
      have ik : (k : Int) < (nw n : Nat) := by omega
      have fw := hrow.frozen k
      have cw := hrow.cell hlt
      have c41 := sf_ws r4
      have ca1 := sf_ws ra
      have cb1 := sf_ws rb
      have HO := hid1 (xor_u64 _ _ (wd_lt A k) (wd_lt B k))
      rw [← HX.out k] at HO
      have HH := hid1 hrow
      have H2 := hid1 r2
      have H4 := hid1 r4
      have G1 := hid1 ra
      have G2 := hid1 rb
      clear hrow r2 r4 hc hd ra rb
      go_wp2_with fail
      refine still_tail 15 (by kernel_rfl) ?_
      simp only [List.take_succ_cons, List.take_zero, List.drop_succ_cons, List.drop_zero]
      repeat still_step
      refine wpStill_nil ?_
      go_wp2
      exact ⟨⟨k + 1, by omega, by go_num, row_step HH.out (by rw [HO.out]; rfl), G1.out.setOther (a := ⟨g, k, none⟩) (row_ne G1.out HH.out (by decide)) _, G2.out.setOther (a := ⟨g, k, none⟩) (row_ne G2.out HH.out (by decide)) _, H2.out.setOther (a := ⟨g, k, none⟩) (row_ne H2.out HH.out (by decide)) _, H4.out.setOther (a := ⟨g, k, none⟩) (row_ne H4.out HH.out (by decide)) _, (bl_set hnx (by omega) _).drew⟩, by simp [intOf]; omega⟩
    · have hkN : k = nw n := by omega
      subst hkN
      have c40 := sf_len r4
      have c41 := sf_ws r4
      have c20 := sf_len r2
      have c21 := sf_ws r2
      have f0 := r2.frozen 0
      have f1 := r2.frozen 1
      have hne := row_ne hrow r2 (by decide)
      have HH := hid1 (row_full hrow)
      clear hrow r2 r4 ra rb
      go_wp2_with fail
      exact bodyPost_ret (v := .tuple #[rv n (some ⟨g, 0, none⟩) (nw n) (nw n), .int .i64 0]) (by simp [results, Try.results23, go_sem, c20, c21]) rfl ⟨g, rfl, by omega, (HH.out.setOther (a := ⟨w.heap.size + 2, 0, none⟩) hne _).setOther (a := ⟨w.heap.size + 2, 1, none⟩) hne _, bl_set (bl_set hnx (by omega) _) (by omega) _⟩
end Go.Proofs.Yteghelmbibpohaa
