/- THE DOCUMENT'S OWN Turn, of a row that may be turned. -/
import Derived.Test.YtfboegdibohciaaKA2
import Derived.Test.YtfboegdibohciaaKL3
namespace Go.Proofs.Ytfboegdibohciaa
open Go.RowKit Go.Shelf

theorem own_split {w : World} {base m N : Nat} {v : Value} (hm : 0 < m) (hN : N < 2 ^ (64 * m)) (h : w.ownsRow base 53 1 v (0 + m) ([] ++ wl N m)) :
    ∃ G K, v = .slice (some ⟨G, 0, none⟩) m K ∧ base ≤ G ∧ m ≤ K ∧ K ≤ 9223372036854775807 ∧ Wr w (some ⟨G, 0, none⟩) m N := by
  rw [Nat.zero_add, List.nil_append] at h
  rcases h.2 with ⟨_, e0⟩ | ⟨G, K, cur, rfl, hG, hb, hK, hK2, _, _⟩
  · omega
  · refine ⟨G, K, rfl, hG, hK, by unfold maxLen at hK2; omega, hN, fun k hk => ⟨G, 0, rfl, ?_⟩⟩
    rw [Nat.zero_add, h.cellAt k (by omega), wl_at hk]
theorem gb_below {w w' : World} (h : w.grownBy w' none) : Below w.heap.size w w' := ⟨h.os, h.tape, h.output, h.size, fun k hk => h.block k hk (by simp)⟩
set_option maxHeartbeats 3200000 in
set_option maxRecDepth 100000 in
theorem rturn_ok (n ga oa m cap N : Nat) (w : World) (hn : n ≤ 16777216) (ho : 1 ≤ n ∧ n ≤ 4096) (em : m = nw n) (hN : N < 2 ^ n) (rd : Wr w (some ⟨ga, oa, none⟩) m N) :
    Calls Try.prog 27 #[rv n (some ⟨ga, oa, none⟩) m cap] w fun e w' => ∃ G K, e = .returned (.tuple #[cuv 1 1 n (some ⟨G, 0, none⟩) m K, .int .i64 0]) ∧ w.heap.size ≤ G ∧ m ≤ K ∧ K ≤ 9223372036854775807 ∧ Wr w' (some ⟨G, 0, none⟩) m N ∧ Below w.heap.size w w' := by
  have lw : ∀ W, Below w.heap.size w W → Lw W (some ⟨ga, oa, none⟩) m n := fun W hb => lw_of em hN (rd.below hb)
  obtain ⟨i0, hi, hz0, hz1, hz2⟩ := info_parts info_u64
  have hm0 : 0 < m := by rw [em]; unfold nw; omega
  have hm1 : m ≤ 64 := by rw [em]; unfold nw; omega
  have RD := hid1 rd
  clear rd
  obtain ⟨W, eW, z0, B0, q0, q1⟩ := turn_start w n (some ⟨ga, oa, none⟩) m cap
  have HD := hid1 (deep_any n hn)
  have hb := nw_bd hn
  rw [← em] at HD hb
  have HC := hid1 (Sg.rcheck_any 1 1 n)
  have hz : Sg.chk 1 1 (n : Int) = 0 := chk_one ho
  rw [hz] at HC
  clear em hz hN
  have t0 : ¬ (n : Int) < 0 := by omega
  have t1 : ¬ (n : Int) > 16777216 := by omega
  have e0 := sf_len q0
  have e1 := sf_ws q0
  have HQ := hid1 q1
  have H0 := hid1 q0
  have HB := hid1 B0
  have HL := hid1 lw
  clear q0 q1 B0 lw
  obtain ⟨r, hrr⟩ : ∃ r, n % 64 = r := ⟨_, rfl⟩
  have e2 : ((n : Nat) : Int).tmod 64 = r := by rw [Int.tmod_eq_emod_of_nonneg (by omega)]; omega
  have e2' : ((n : Nat) : Int) % 64 = r := by omega
  have ir0 : (0 : Int) ≤ (r : Int) := by omega
  have ir1 : (r : Int) ≤ 63 := by omega
  have HRR := hid1 hrr
  clear hrr
  go_enter Try.func27, Try.ntmps27
  go_wp2_with fail
  go_quiet ((go_at_call 46; exact Calls.quiet_of_same (HD.out _)))
  have R0 := row_drewN H0.out nq
  have R1 := row_drewN HQ.out nq
  have BX := bl_drewN HB.out nq
  obtain ⟨X, eX⟩ : ∃ X, W.drewN nq = X := ⟨_, rfl⟩
  rw [eX] at R0 R1 BX ⊢
  clear eX eW HQ H0 HB e0 e1 nq
  have e0 := sf_len R0
  have e1 := sf_ws R0
  have H0 := hid1 R0
  have HQ := hid1 R1
  have HB := hid1 BX
  have HLX := hid1 (HL.out X BX)
  clear R0 R1 BX HL
  unfold Lw at HLX
  rw [HRR.out] at HLX
  rcases HLX.out with hr0 | ⟨hr, g, o, q, x, hga, hqm, c8, hx⟩
  · subst hr0
    go_wp2_with fail
    go_quiet (fail)
    have R0 := row_drewN H0.out nq
    have R1 := row_drewN HQ.out nq
    have BY := bl_drewN HB.out nq
    obtain ⟨Y, eY⟩ : ∃ Y, X.drewN nq = Y := ⟨_, rfl⟩
    rw [eY] at R0 R1 BY ⊢
    clear eY HQ H0 HB e0 e1 HLX
    have e0 := sf_len R0
    go_wp2_with fail
    refine gen_calls (fun Z => Z.rowIs Y.heap.size 27 3 (hf 1 1 n) ∧ Z.rowIs w.heap.size 33 2 (sf n (some ⟨ga, oa, none⟩) m cap) ∧ Z.rowIs (w.heap.size + 1) 31 4 (cf 0 0 0 none 0 0) ∧ Below w.heap.size w Z) ⟨hf_new Y 1 1 n _, R0.alloc _, R1.alloc _, bl_alloc BY _⟩ ?_
    have zY : w.heap.size + 1 < Y.heap.size := R1.lt
    clear R0 R1 BY e0
    rintro Z ⟨R5, R0, R1, BZ⟩
    refine (HC.out Z).mono ?_
    rintro e w3 ⟨rfl, hb⟩
    replace R5 := keepr hb R5
    replace R0 := keepr hb R0
    replace R1 := keepr hb R1
    have B3 := bl_step BZ hb
    clear hb BZ HC HRR
    have s0 := hf0 R5
    have s1 := hf1 R5
    have s2 := hf2 R5
    have b1 := sf_ws R0
    have l0 := R0.lt
    have l1 := R1.lt
    have hnews : ∀ W', Below w.heap.size w W' → ∀ j u, (wl N m)[j]? = some u → W'.cell? ((⟨ga, oa, none⟩ : Addr).add j) = some u := by
      intro W' hb j u hu
      obtain ⟨hj, rfl⟩ := wl_get hu
      obtain ⟨g', o', e, c⟩ := (RD.out.below hb).2 j hj
      cases e
      by_cases e : j = 0
      · subst e; simpa [Addr.add] using c
      · simpa [Addr.add, e] using c
    have HN := hid1 hnews
    have HB3 := hid1 B3
    have H1 := hid1 R1
    clear hnews R0 R1 R5 B3
    go_wp2_with (at_builtin; refine wpList_append_own _ rfl _ _ _ rfl (w3.heap.size + 1) 53 i0 (.int .u64 0) 1 8 und_u64s hi hz0 hz1 hz2 rfl (by decide) (.slice none 0 0) 0 [] (by go_simp) (World.ownsRow_nil _ _ _ _) ⟨ga, oa, none⟩ m cap (wl N m) (by go_simp) (by rw [wl_len]; omega) (HN.out _ (bl_alloc HB3.out _)) (fun u hu => by unfold wl at hu; obtain ⟨k, _, rfl⟩ := List.mem_map.1 hu; rfl) (by unfold maxLen; omega) (by omega) (by simp) ?_; intro v' w' k1 k2 k3; obtain ⟨G, K, rfl, hG, hK, hK2, wr⟩ := own_split hm0 RD.out.1 k1; have Bw := gb_below k2; have H6 := hid1 (keepr Bw (cu_new w3 1 1 n none 0 0 31)); have H7 := hid1 (keepr Bw (H1.out.alloc _)); have c0 := cf0 H6.out; have c1 := cf1 H6.out; have c2 := cf2 H6.out; have c3 := cf3 H6.out; have g3 := H6.out.frozen 3; have d0 := cf0 H7.out; have d1 := cf1 H7.out; have d2 := cf2 H7.out; have d3 := cf3 H7.out; have f0 := H7.out.frozen 0; have f1 := H7.out.frozen 1; have f2 := H7.out.frozen 2; have f3 := H7.out.frozen 3; have HBw := hid1 (bl_step (bl_alloc HB3.out _) Bw); have HWr := hid1 wr; clear k1 k2 k3 Bw wr)
    have hc := cf_set (H7.out.setOther (a := ⟨w3.heap.size, 3, none⟩) (by show w.heap.size + 1 ≠ w3.heap.size; omega) (.slice (some ⟨G, 0, none⟩) m K)) 1 1 n (some ⟨G, 0, none⟩) m K
    have m0 := cf0 hc
    have m1 := cf1 hc
    have m2 := cf2 hc
    have m3 := cf3 hc
    refine bodyPost_ret (v := .tuple #[cuv 1 1 n (some ⟨G, 0, none⟩) m K, .int .i64 0]) (by simp [results, Try.results27, go_sem, m0, m1, m2, m3]) rfl ⟨G, K, rfl, by omega, hK, hK2, ?_, bl_set (bl_set (bl_set (bl_set (bl_set HBw.out (by omega) _) (by omega) _) (by omega) _) (by omega) _) (by omega) _⟩
    exact wr_put (wr_put (wr_put (wr_put (wr_put HWr.out (by omega) 3 _) (by omega) 0 _) (by omega) 1 _) (by omega) 2 _) (by omega) 3 _
  · have nr : ¬ (r : Int) = 0 := by omega
    have nr' : ¬ r = 0 := hr
    have iq : IntKind.i64.wrap ((m : Int) - 1) = (q : Int) := by rw [IntKind.wrap_i64]; omega
    have iq0 : (0 : Int) ≤ (q : Int) := by omega
    have iq1 : (q : Int) < (m : Int) := by omega
    have hy : (x : Int) / 2 ^ r = 0 := by rw [shr_int, hx]; rfl
    cases hga
    clear hx hqm HLX
    go_wp2_with fail
    go_quiet (fail)
    have hb2 : ∀ b : Bool, (b && false) = false := fun b => by cases b <;> rfl
    have R0 := row_drewN H0.out nq
    have R1 := row_drewN HQ.out nq
    have BY := bl_drewN HB.out nq
    obtain ⟨Y, eY⟩ : ∃ Y, X.drewN nq = Y := ⟨_, rfl⟩
    rw [eY] at R0 R1 BY ⊢
    clear eY HQ H0 HB e0 e1 c8
    have e0 := sf_len R0
    go_wp2_with fail
    refine gen_calls (fun Z => Z.rowIs Y.heap.size 27 3 (hf 1 1 n) ∧ Z.rowIs w.heap.size 33 2 (sf n (some ⟨ga, oa, none⟩) m cap) ∧ Z.rowIs (w.heap.size + 1) 31 4 (cf 0 0 0 none 0 0) ∧ Below w.heap.size w Z) ⟨hf_new Y 1 1 n _, R0.alloc _, R1.alloc _, bl_alloc BY _⟩ ?_
    have zY : w.heap.size + 1 < Y.heap.size := R1.lt
    clear R0 R1 BY e0
    rintro Z ⟨R5, R0, R1, BZ⟩
    refine (HC.out Z).mono ?_
    rintro e w3 ⟨rfl, hb⟩
    replace R5 := keepr hb R5
    replace R0 := keepr hb R0
    replace R1 := keepr hb R1
    have B3 := bl_step BZ hb
    clear hb BZ HC HRR
    have s0 := hf0 R5
    have s1 := hf1 R5
    have s2 := hf2 R5
    have b1 := sf_ws R0
    have l0 := R0.lt
    have l1 := R1.lt
    have hnews : ∀ W', Below w.heap.size w W' → ∀ j u, (wl N m)[j]? = some u → W'.cell? ((⟨ga, oa, none⟩ : Addr).add j) = some u := by
      intro W' hb j u hu
      obtain ⟨hj, rfl⟩ := wl_get hu
      obtain ⟨g', o', e, c⟩ := (RD.out.below hb).2 j hj
      cases e
      by_cases e : j = 0
      · subst e; simpa [Addr.add] using c
      · simpa [Addr.add, e] using c
    have HN := hid1 hnews
    have HB3 := hid1 B3
    have H1 := hid1 R1
    clear hnews R0 R1 R5 B3
    go_wp2_with (at_builtin; refine wpList_append_own _ rfl _ _ _ rfl (w3.heap.size + 1) 53 i0 (.int .u64 0) 1 8 und_u64s hi hz0 hz1 hz2 rfl (by decide) (.slice none 0 0) 0 [] (by go_simp) (World.ownsRow_nil _ _ _ _) ⟨ga, oa, none⟩ m cap (wl N m) (by go_simp) (by rw [wl_len]; omega) (HN.out _ (bl_alloc HB3.out _)) (fun u hu => by unfold wl at hu; obtain ⟨k, _, rfl⟩ := List.mem_map.1 hu; rfl) (by unfold maxLen; omega) (by omega) (by simp) ?_; intro v' w' k1 k2 k3; obtain ⟨G, K, rfl, hG, hK, hK2, wr⟩ := own_split hm0 RD.out.1 k1; have Bw := gb_below k2; have H6 := hid1 (keepr Bw (cu_new w3 1 1 n none 0 0 31)); have H7 := hid1 (keepr Bw (H1.out.alloc _)); have c0 := cf0 H6.out; have c1 := cf1 H6.out; have c2 := cf2 H6.out; have c3 := cf3 H6.out; have g3 := H6.out.frozen 3; have d0 := cf0 H7.out; have d1 := cf1 H7.out; have d2 := cf2 H7.out; have d3 := cf3 H7.out; have f0 := H7.out.frozen 0; have f1 := H7.out.frozen 1; have f2 := H7.out.frozen 2; have f3 := H7.out.frozen 3; have HBw := hid1 (bl_step (bl_alloc HB3.out _) Bw); have HWr := hid1 wr; clear k1 k2 k3 Bw wr)
    have hc := cf_set (H7.out.setOther (a := ⟨w3.heap.size, 3, none⟩) (by show w.heap.size + 1 ≠ w3.heap.size; omega) (.slice (some ⟨G, 0, none⟩) m K)) 1 1 n (some ⟨G, 0, none⟩) m K
    have m0 := cf0 hc
    have m1 := cf1 hc
    have m2 := cf2 hc
    have m3 := cf3 hc
    refine bodyPost_ret (v := .tuple #[cuv 1 1 n (some ⟨G, 0, none⟩) m K, .int .i64 0]) (by simp [results, Try.results27, go_sem, m0, m1, m2, m3]) rfl ⟨G, K, rfl, by omega, hK, hK2, ?_, bl_set (bl_set (bl_set (bl_set (bl_set HBw.out (by omega) _) (by omega) _) (by omega) _) (by omega) _) (by omega) _⟩
    exact wr_put (wr_put (wr_put (wr_put (wr_put HWr.out (by omega) 3 _) (by omega) 0 _) (by omega) 1 _) (by omega) 2 _) (by omega) 3 _
end Go.Proofs.Ytfboegdibohciaa
