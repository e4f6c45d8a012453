import Derived.Test.YtfboegdibohciaaQBCubeScript
/- CubeScript: other. -/
namespace Go.Proofs.Ytfboegdibohciaa
open Go.RowKit Go.Shelf

set_option maxHeartbeats 12800000 in
set_option maxRecDepth 100000 in
theorem other_03 (kd sh sv sc h v c y x n : Int) (L0 C0 B0 ln cn bn N P : Nat) (l : List Int) (kk : Int) (w : World) (hl : l.length = ln) (hk : -9223372036854775808 ≤ kk ∧ kk ≤ 9223372036854775807) (xm : Xm w L0 ln (ia l) C0 cn N B0 bn P) (hcase : kN kk / 2 % 6 = 0 ∨ kN kk / 2 % 6 = 3) :
    Calls Try.prog 5 #[opv kd sh sv sc (some ⟨L0, 0, none⟩) ln (ln + 66) h v c (some ⟨C0, 0, none⟩) cn (cn + 66) y x n (some ⟨B0, 0, none⟩) bn (bn + 66), .int .i64 kk] w fun e w' => OtQ w sh sv sc h v L0 C0 B0 ln cn bn e w' := by
  have hl1 := xm.l1
  have hc1 := xm.c1
  have hb1 := xm.b1
  have HST := hid1 (al_start w kd sh sv sc (some ⟨L0, 0, none⟩) ln (ln + 66) h v c (some ⟨C0, 0, none⟩) cn (cn + 66) y x n (some ⟨B0, 0, none⟩) bn (bn + 66))
  have HAL := hid1 (fun W r1 r2 r3 => alone_any kd sh sv sc (some ⟨L0, 0, none⟩) ln (ln + 66) h v c (some ⟨C0, 0, none⟩) cn (cn + 66) y x n (some ⟨B0, 0, none⟩) bn (bn + 66) (ia l) N P W hl1 hc1 hb1 r1 r2 r3)
  have XM := hid1 xm
  have HL := hid1 hl
  clear xm hl
  go_enter Try.func5, Try.ntmps5
  go_upto_region 1 with fail
  refine gen_world (fun X => Ox w X L0 C0 B0 kd sh sv sc h v c y x n L0 C0 B0 ln cn bn N P l) (by exact ⟨HST.out.a, HST.out.r, XM.out.below HST.out.b, HL.out, .inl rfl, .inl rfl, .inl rfl, XM.out.l.lt, XM.out.c.lt, XM.out.b.lt, F3.of_below HST.out.b⟩) ?_
  clear HST
  rintro W ox
  go_upto_if 7 with fail
  go_cut [1] (fun s1 wx => (∃ K : Nat, s1 = .int .i64 K ∧ K ≤ 9223372036854775807 ∧ K = kN kk) ∧ wx = W)
  case first =>
    by_cases hneg : kk < 0
    · go_wp2_with fail
      go_meet
      exact ⟨⟨(-(kk + 1)).toNat, by congr 1; omega, by omega, by unfold kN; rw [if_pos (by omega)]⟩, rfl⟩
    · go_wp2_with fail
      go_meet
      exact ⟨⟨kk.toNat, by congr 1; omega, by omega, by unfold kN; rw [if_neg (by omega)]⟩, rfl⟩
  case rest =>
    obtain ⟨⟨K, rfl, hK, hKN⟩, rfl⟩ := hcut
    rw [← hKN] at hcase
    clear hKN
    rename World => W1
    have im : (K : Int).tmod 2 = ((K % 2 : Nat) : Int) := by rw [Int.tmod_eq_emod_of_nonneg (by omega)]; omega
    have im' : (K : Int) % 2 = ((K % 2 : Nat) : Int) := by omega
    have i2 : (K : Int).tdiv 2 = ((K / 2 : Nat) : Int) := by rw [Int.tdiv_eq_ediv_of_nonneg (by omega)]; omega
    have i2' : (K : Int) / 2 = ((K / 2 : Nat) : Int) := by omega
    have i8 : (K : Int).tdiv 12 = ((K / 12 : Nat) : Int) := by rw [Int.tdiv_eq_ediv_of_nonneg (by omega)]; omega
    have i8' : (K : Int) / 12 = ((K / 12 : Nat) : Int) := by omega
    have i4 : ((K / 2 : Nat) : Int).tmod 6 = ((K / 2 % 6 : Nat) : Int) := by rw [Int.tmod_eq_emod_of_nonneg (by omega)]; omega
    have i4' : ((K / 2 : Nat) : Int) % 6 = ((K / 2 % 6 : Nat) : Int) := by omega
    have h12 : K / 12 ≤ 9223372036854775807 := by omega
    have hmd : K % 2 < 2 := Nat.mod_lt _ (by decide)
    have h2 : K / 2 ≤ 9223372036854775807 := by omega
    generalize K % 2 = md at *
    generalize K / 2 % 6 = hw at *
    generalize K / 2 = K2 at *
    generalize K / 12 = K12 at *
    go_upto_if 13 with fail
    go_cut [] (fun wx => ∃ Gl Gc Gb, Ox w wx L0 C0 B0 kd sh sv sc h v c y x n Gl Gc Gb ln cn bn N P l)
    case first =>
      by_cases hm1 : md = 1
      · subst hm1
        obtain ⟨c0, c1, c2, c3, c4, c5, c6, c7, c8, c9, c10, c11, c12⟩ := op_cells ox.op
        go_wp2_with fail
        refine (HAL.out W1 (rv_rs ox.xm.l) (rm_wr ox.xm.c ox.xm.hN) (rm_wr ox.xm.b ox.xm.hP)).mono ?_
        rintro e w2 ⟨Gl, Gc, Gb, rfl, ⟨g1, g2, g3⟩, xm2, hb⟩
        have o2 := keepr hb ox.op
        have r2 := keepr hb ox.re
        have l1 := ox.re.lt
        have be2 := ox.fb.below hb
        have zb := ox.fb.size
        clear hb c0 c1 c2 c3 c4 c5 c6 c7 c8 c9 c10 c11 c12
        obtain ⟨c0, c1, c2, c3, c4, c5, c6, c7, c8, c9, c10, c11, c12⟩ := op_cells o2
        obtain ⟨f0, f1, f2, f3, f4, f5, f6, f7, f8, f9, f10, f11, f12⟩ := op_free o2
        have HO := hid1 o2
        have HXM := hid1 xm2
        have HOX := hid1 ox
        clear ox xm2 o2
        go_wp2_with fail
        go_meet
        have bt := But.setop w.heap.size w2 kd sh sv sc (some ⟨Gl, 0, none⟩) ln (ln + 66) h v c (some ⟨Gc, 0, none⟩) cn (cn + 66) y x n (some ⟨Gb, 0, none⟩) bn (bn + 66)
        exact ⟨Gl, Gc, Gb, op_set HO.out _ _ _ _ _ _ _ _ _ _ _ _ _ _ _ _ _ _ _, bt.row (by omega) r2, ⟨bt.row (by omega) HXM.out.l, bt.row (by omega) HXM.out.c, bt.row (by omega) HXM.out.b, HXM.out.ne, HXM.out.hN, HXM.out.hP, hl1, hc1, hb1⟩, HL.out, .inr (by omega), .inr (by omega), .inr (by omega), HOX.out.zl, HOX.out.zc, HOX.out.zb, be2.but bt (.inr (.inr (.inr (Nat.le_refl _))))⟩
      · have hm0 : ¬ (md : Int) = 1 := by omega
        go_wp2_with fail
        go_meet
        exact ⟨_, _, _, ox⟩
    case rest =>
      obtain ⟨Gl, Gc, Gb, ox2⟩ := hcut
      rename World => W2
      clear ox HAL
      obtain ⟨c0, c1, c2, c3, c4, c5, c6, c7, c8, c9, c10, c11, c12⟩ := op_cells ox2.op
      obtain ⟨f0, f1, f2, f3, f4, f5, f6, f7, f8, f9, f10, f11, f12⟩ := op_free ox2.op
      by_cases hA0 : hw = 0
      · subst hA0
        by_cases hn0 : 0 < ln
        · skip
          have hn1 : (0 : Int) < (ln : Int) := by omega
          have hn2 : ¬ (ln : Int) = 0 := by omega
          have hn3 : ¬ ln = 0 := by omega
          obtain ⟨j, hj⟩ : ∃ j, K12 % ln = j := ⟨_, rfl⟩
          have hjn : j < ln := by rw [← hj]; exact Nat.mod_lt _ hn0
          have ij : (K12 : Int) % (ln : Int) = (j : Int) := by rw [← hj]; push_cast; rfl
          have ij' : (K12 : Int).tmod (ln : Int) = (j : Int) := by rw [Int.tmod_eq_emod_of_nonneg (by omega)]; exact ij
          have wj : IntKind.i64.wrap (j : Int) = (j : Int) := by rw [IntKind.wrap_i64]; omega
          have ij0 : (0 : Int) ≤ (j : Int) := by omega
          have ijn : (j : Int) < (ln : Int) := by omega
          obtain ⟨e2, he2⟩ : ∃ j, K12 % 2 = j := ⟨_, rfl⟩
          have ie2 : (K12 : Int) % 2 = (e2 : Int) := by omega
          have ie2' : (K12 : Int).tmod 2 = (e2 : Int) := by rw [Int.tmod_eq_emod_of_nonneg (by omega)]; exact ie2
          have be2 : e2 < 2 := by omega
          have we2 : IntKind.i64.wrap (e2 : Int) = (e2 : Int) := by rw [IntKind.wrap_i64]; omega
          have cw := ox2.xm.l.cell (i := j) (by omega)
          have fw := ox2.xm.l.frozen j
          rw [show rvf (ia l) ln j = .int .i8 (ia l j) by unfold rvf; rw [if_pos hjn]] at cw
          generalize ia l j = ov at *
          have HOX := hid1 ox2
          clear ox2 hj he2
          go_upto_region 8 with fail
          refine still_tail 22 (by kernel_rfl) ?_
          simp only [List.take_succ_cons, List.take_zero, List.drop_succ_cons, List.drop_zero]
          repeat still_step
          refine wpStill_nil ?_
          go_upto_region 21 with fail
          refine gen_world (fun X => Ox w X L0 C0 B0 kd sh sv sc h v c y x n Gl Gc Gb ln cn bn N P (l.set j (IntKind.i8.wrap (IntKind.i8.wrap (-ov) + (e2 : Int))))) (HOX.out.setL hjn _) ?_
          rintro X9 ox3
          clear c0 c1 c2 c3 c4 c5 c6 c7 c8 c9 c10 c11 c12 f0 f1 f2 f3 f4 f5 f6 f7 f8 f9 f10 f11 f12
          obtain ⟨c0, c1, c2, c3, c4, c5, c6, c7, c8, c9, c10, c11, c12⟩ := op_cells ox3.op
          obtain ⟨d0, d1, d2, d3, d4, d5, d6, d7, d8, d9, d10, d11, d12⟩ := op_cells ox3.re
          obtain ⟨f0, f1, f2, f3, f4, f5, f6, f7, f8, f9, f10, f11, f12⟩ := op_free ox3.re
          have HX := hid1 ox3
          clear ox3
          go_wp2_with fail
          have u := op_set HX.out.re kd sh sv sc (some ⟨Gl, 0, none⟩) ln (ln + 66) h v c (some ⟨Gc, 0, none⟩) cn (cn + 66) y x n (some ⟨Gb, 0, none⟩) bn (bn + 66)
          obtain ⟨u0, u1, u2, u3, u4, u5, u6, u7, u8, u9, u10, u11, u12⟩ := op_cells u
          exact bodyPost_ret (v := opv kd sh sv sc (some ⟨Gl, 0, none⟩) ln (ln + 66) h v c (some ⟨Gc, 0, none⟩) cn (cn + 66) y x n (some ⟨Gb, 0, none⟩) bn (bn + 66)) (by simp [results, Try.results5, go_sem, u0, u1, u2, u3, u4, u5, u6, u7, u8, u9, u10, u11, u12]) rfl (ot_end HX.out)
        · have hz : ¬ (0 : Int) < (ln : Int) := by omega
          go_upto_region 21 with fail
          refine gen_world (fun X => Ox w X L0 C0 B0 kd sh sv sc h v c y x n Gl Gc Gb ln cn bn N P l) (ox2) ?_
          rintro X9 ox3
          clear c0 c1 c2 c3 c4 c5 c6 c7 c8 c9 c10 c11 c12 f0 f1 f2 f3 f4 f5 f6 f7 f8 f9 f10 f11 f12
          obtain ⟨c0, c1, c2, c3, c4, c5, c6, c7, c8, c9, c10, c11, c12⟩ := op_cells ox3.op
          obtain ⟨d0, d1, d2, d3, d4, d5, d6, d7, d8, d9, d10, d11, d12⟩ := op_cells ox3.re
          obtain ⟨f0, f1, f2, f3, f4, f5, f6, f7, f8, f9, f10, f11, f12⟩ := op_free ox3.re
          have HX := hid1 ox3
          clear ox3
          go_wp2_with fail
          have u := op_set HX.out.re kd sh sv sc (some ⟨Gl, 0, none⟩) ln (ln + 66) h v c (some ⟨Gc, 0, none⟩) cn (cn + 66) y x n (some ⟨Gb, 0, none⟩) bn (bn + 66)
          obtain ⟨u0, u1, u2, u3, u4, u5, u6, u7, u8, u9, u10, u11, u12⟩ := op_cells u
          exact bodyPost_ret (v := opv kd sh sv sc (some ⟨Gl, 0, none⟩) ln (ln + 66) h v c (some ⟨Gc, 0, none⟩) cn (cn + 66) y x n (some ⟨Gb, 0, none⟩) bn (bn + 66)) (by simp [results, Try.results5, go_sem, u0, u1, u2, u3, u4, u5, u6, u7, u8, u9, u10, u11, u12]) rfl (ot_end HX.out)
      obtain rfl : hw = 3 := by omega
      · skip
        obtain ⟨j, hj⟩ : ∃ j, K12 % 5 = j := ⟨_, rfl⟩
        have ij : (K12 : Int) % 5 = (j : Int) := by omega
        have ij' : (K12 : Int).tmod 5 = (j : Int) := by rw [Int.tmod_eq_emod_of_nonneg (by omega)]; exact ij
        have bj : j < 5 := by omega
        have wj : IntKind.i64.wrap (j : Int) = (j : Int) := by rw [IntKind.wrap_i64]; omega
        obtain ⟨k5, hk5⟩ : ∃ j, K12 / 5 = j := ⟨_, rfl⟩
        have ik5 : (K12 : Int) / 5 = (k5 : Int) := by omega
        have ik5' : (K12 : Int).tdiv 5 = (k5 : Int) := by rw [Int.tdiv_eq_ediv_of_nonneg (by omega)]; exact ik5
        have wk5 : IntKind.i64.wrap (k5 : Int) = (k5 : Int) := by rw [IntKind.wrap_i64]; omega
        obtain ⟨j5, hj5⟩ : ∃ j, k5 % 5 = j := ⟨_, rfl⟩
        have ij5 : (k5 : Int) % 5 = (j5 : Int) := by omega
        have ij5' : (k5 : Int).tmod 5 = (j5 : Int) := by rw [Int.tmod_eq_emod_of_nonneg (by omega)]; exact ij5
        have bj5 : j5 < 5 := by omega
        have wj5 : IntKind.i64.wrap (j5 : Int) = (j5 : Int) := by rw [IntKind.wrap_i64]; omega
        have HOX := hid1 ox2
        clear ox2 hj hk5 hj5
        go_upto_region 21 with fail
        refine gen_world (fun X => Ox w X L0 C0 B0 kd sh sv sc h v c (j : Int) (j5 : Int) n Gl Gc Gb ln cn bn N P l) (HOX.out.step 9 _ (op_put9 HOX.out.op _) |> fun o1 => o1.step 10 _ (op_put10 o1.op _)) ?_
        rintro X9 ox3
        clear c0 c1 c2 c3 c4 c5 c6 c7 c8 c9 c10 c11 c12 f0 f1 f2 f3 f4 f5 f6 f7 f8 f9 f10 f11 f12
        obtain ⟨c0, c1, c2, c3, c4, c5, c6, c7, c8, c9, c10, c11, c12⟩ := op_cells ox3.op
        obtain ⟨d0, d1, d2, d3, d4, d5, d6, d7, d8, d9, d10, d11, d12⟩ := op_cells ox3.re
        obtain ⟨f0, f1, f2, f3, f4, f5, f6, f7, f8, f9, f10, f11, f12⟩ := op_free ox3.re
        have HX := hid1 ox3
        clear ox3
        go_wp2_with fail
        have u := op_set HX.out.re kd sh sv sc (some ⟨Gl, 0, none⟩) ln (ln + 66) h v c (some ⟨Gc, 0, none⟩) cn (cn + 66) (j : Int) (j5 : Int) n (some ⟨Gb, 0, none⟩) bn (bn + 66)
        obtain ⟨u0, u1, u2, u3, u4, u5, u6, u7, u8, u9, u10, u11, u12⟩ := op_cells u
        exact bodyPost_ret (v := opv kd sh sv sc (some ⟨Gl, 0, none⟩) ln (ln + 66) h v c (some ⟨Gc, 0, none⟩) cn (cn + 66) (j : Int) (j5 : Int) n (some ⟨Gb, 0, none⟩) bn (bn + 66)) (by simp [results, Try.results5, go_sem, u0, u1, u2, u3, u4, u5, u6, u7, u8, u9, u10, u11, u12]) rfl (ot_end HX.out)
end Go.Proofs.Ytfboegdibohciaa
/- CubeScript: other. -/
namespace Go.Proofs.Ytfboegdibohciaa
open Go.RowKit Go.Shelf

set_option maxHeartbeats 12800000 in
set_option maxRecDepth 100000 in
theorem other_14 (kd sh sv sc h v c y x n : Int) (L0 C0 B0 ln cn bn N P : Nat) (l : List Int) (kk : Int) (w : World) (hl : l.length = ln) (hk : -9223372036854775808 ≤ kk ∧ kk ≤ 9223372036854775807) (xm : Xm w L0 ln (ia l) C0 cn N B0 bn P) (hcase : kN kk / 2 % 6 = 1 ∨ kN kk / 2 % 6 = 4) :
    Calls Try.prog 5 #[opv kd sh sv sc (some ⟨L0, 0, none⟩) ln (ln + 66) h v c (some ⟨C0, 0, none⟩) cn (cn + 66) y x n (some ⟨B0, 0, none⟩) bn (bn + 66), .int .i64 kk] w fun e w' => OtQ w sh sv sc h v L0 C0 B0 ln cn bn e w' := by
  have hl1 := xm.l1
  have hc1 := xm.c1
  have hb1 := xm.b1
  have HST := hid1 (al_start w kd sh sv sc (some ⟨L0, 0, none⟩) ln (ln + 66) h v c (some ⟨C0, 0, none⟩) cn (cn + 66) y x n (some ⟨B0, 0, none⟩) bn (bn + 66))
  have HAL := hid1 (fun W r1 r2 r3 => alone_any kd sh sv sc (some ⟨L0, 0, none⟩) ln (ln + 66) h v c (some ⟨C0, 0, none⟩) cn (cn + 66) y x n (some ⟨B0, 0, none⟩) bn (bn + 66) (ia l) N P W hl1 hc1 hb1 r1 r2 r3)
  have XM := hid1 xm
  have HL := hid1 hl
  clear xm hl
  go_enter Try.func5, Try.ntmps5
  go_upto_region 1 with fail
  refine gen_world (fun X => Ox w X L0 C0 B0 kd sh sv sc h v c y x n L0 C0 B0 ln cn bn N P l) (by exact ⟨HST.out.a, HST.out.r, XM.out.below HST.out.b, HL.out, .inl rfl, .inl rfl, .inl rfl, XM.out.l.lt, XM.out.c.lt, XM.out.b.lt, F3.of_below HST.out.b⟩) ?_
  clear HST
  rintro W ox
  go_upto_if 7 with fail
  go_cut [1] (fun s1 wx => (∃ K : Nat, s1 = .int .i64 K ∧ K ≤ 9223372036854775807 ∧ K = kN kk) ∧ wx = W)
  case first =>
    by_cases hneg : kk < 0
    · go_wp2_with fail
      go_meet
      exact ⟨⟨(-(kk + 1)).toNat, by congr 1; omega, by omega, by unfold kN; rw [if_pos (by omega)]⟩, rfl⟩
    · go_wp2_with fail
      go_meet
      exact ⟨⟨kk.toNat, by congr 1; omega, by omega, by unfold kN; rw [if_neg (by omega)]⟩, rfl⟩
  case rest =>
    obtain ⟨⟨K, rfl, hK, hKN⟩, rfl⟩ := hcut
    rw [← hKN] at hcase
    clear hKN
    rename World => W1
    have im : (K : Int).tmod 2 = ((K % 2 : Nat) : Int) := by rw [Int.tmod_eq_emod_of_nonneg (by omega)]; omega
    have im' : (K : Int) % 2 = ((K % 2 : Nat) : Int) := by omega
    have i2 : (K : Int).tdiv 2 = ((K / 2 : Nat) : Int) := by rw [Int.tdiv_eq_ediv_of_nonneg (by omega)]; omega
    have i2' : (K : Int) / 2 = ((K / 2 : Nat) : Int) := by omega
    have i8 : (K : Int).tdiv 12 = ((K / 12 : Nat) : Int) := by rw [Int.tdiv_eq_ediv_of_nonneg (by omega)]; omega
    have i8' : (K : Int) / 12 = ((K / 12 : Nat) : Int) := by omega
    have i4 : ((K / 2 : Nat) : Int).tmod 6 = ((K / 2 % 6 : Nat) : Int) := by rw [Int.tmod_eq_emod_of_nonneg (by omega)]; omega
    have i4' : ((K / 2 : Nat) : Int) % 6 = ((K / 2 % 6 : Nat) : Int) := by omega
    have h12 : K / 12 ≤ 9223372036854775807 := by omega
    have hmd : K % 2 < 2 := Nat.mod_lt _ (by decide)
    have h2 : K / 2 ≤ 9223372036854775807 := by omega
    generalize K % 2 = md at *
    generalize K / 2 % 6 = hw at *
    generalize K / 2 = K2 at *
    generalize K / 12 = K12 at *
    go_upto_if 13 with fail
    go_cut [] (fun wx => ∃ Gl Gc Gb, Ox w wx L0 C0 B0 kd sh sv sc h v c y x n Gl Gc Gb ln cn bn N P l)
    case first =>
      by_cases hm1 : md = 1
      · subst hm1
        obtain ⟨c0, c1, c2, c3, c4, c5, c6, c7, c8, c9, c10, c11, c12⟩ := op_cells ox.op
        go_wp2_with fail
        refine (HAL.out W1 (rv_rs ox.xm.l) (rm_wr ox.xm.c ox.xm.hN) (rm_wr ox.xm.b ox.xm.hP)).mono ?_
        rintro e w2 ⟨Gl, Gc, Gb, rfl, ⟨g1, g2, g3⟩, xm2, hb⟩
        have o2 := keepr hb ox.op
        have r2 := keepr hb ox.re
        have l1 := ox.re.lt
        have be2 := ox.fb.below hb
        have zb := ox.fb.size
        clear hb c0 c1 c2 c3 c4 c5 c6 c7 c8 c9 c10 c11 c12
        obtain ⟨c0, c1, c2, c3, c4, c5, c6, c7, c8, c9, c10, c11, c12⟩ := op_cells o2
        obtain ⟨f0, f1, f2, f3, f4, f5, f6, f7, f8, f9, f10, f11, f12⟩ := op_free o2
        have HO := hid1 o2
        have HXM := hid1 xm2
        have HOX := hid1 ox
        clear ox xm2 o2
        go_wp2_with fail
        go_meet
        have bt := But.setop w.heap.size w2 kd sh sv sc (some ⟨Gl, 0, none⟩) ln (ln + 66) h v c (some ⟨Gc, 0, none⟩) cn (cn + 66) y x n (some ⟨Gb, 0, none⟩) bn (bn + 66)
        exact ⟨Gl, Gc, Gb, op_set HO.out _ _ _ _ _ _ _ _ _ _ _ _ _ _ _ _ _ _ _, bt.row (by omega) r2, ⟨bt.row (by omega) HXM.out.l, bt.row (by omega) HXM.out.c, bt.row (by omega) HXM.out.b, HXM.out.ne, HXM.out.hN, HXM.out.hP, hl1, hc1, hb1⟩, HL.out, .inr (by omega), .inr (by omega), .inr (by omega), HOX.out.zl, HOX.out.zc, HOX.out.zb, be2.but bt (.inr (.inr (.inr (Nat.le_refl _))))⟩
      · have hm0 : ¬ (md : Int) = 1 := by omega
        go_wp2_with fail
        go_meet
        exact ⟨_, _, _, ox⟩
    case rest =>
      obtain ⟨Gl, Gc, Gb, ox2⟩ := hcut
      rename World => W2
      clear ox HAL
      obtain ⟨c0, c1, c2, c3, c4, c5, c6, c7, c8, c9, c10, c11, c12⟩ := op_cells ox2.op
      obtain ⟨f0, f1, f2, f3, f4, f5, f6, f7, f8, f9, f10, f11, f12⟩ := op_free ox2.op
      by_cases hA1 : hw = 1
      · subst hA1
        by_cases hn0 : 0 < cn
        · skip
          have hn1 : (0 : Int) < (cn : Int) := by omega
          have hn2 : ¬ (cn : Int) = 0 := by omega
          have hn3 : ¬ cn = 0 := by omega
          obtain ⟨j, hj⟩ : ∃ j, K12 % cn = j := ⟨_, rfl⟩
          have hjn : j < cn := by rw [← hj]; exact Nat.mod_lt _ hn0
          have ij : (K12 : Int) % (cn : Int) = (j : Int) := by rw [← hj]; push_cast; rfl
          have ij' : (K12 : Int).tmod (cn : Int) = (j : Int) := by rw [Int.tmod_eq_emod_of_nonneg (by omega)]; exact ij
          have wj : IntKind.i64.wrap (j : Int) = (j : Int) := by rw [IntKind.wrap_i64]; omega
          have ij0 : (0 : Int) ≤ (j : Int) := by omega
          have ijn : (j : Int) < (cn : Int) := by omega
          obtain ⟨k5, hk5⟩ : ∃ j, K12 / 5 = j := ⟨_, rfl⟩
          have ik5 : (K12 : Int) / 5 = (k5 : Int) := by omega
          have ik5' : (K12 : Int).tdiv 5 = (k5 : Int) := by rw [Int.tdiv_eq_ediv_of_nonneg (by omega)]; exact ik5
          have wk5 : IntKind.i64.wrap (k5 : Int) = (k5 : Int) := by rw [IntKind.wrap_i64]; omega
          obtain ⟨s6, hs6⟩ : ∃ j, k5 % 64 = j := ⟨_, rfl⟩
          have is6 : (k5 : Int) % 64 = (s6 : Int) := by omega
          have is6' : (k5 : Int).tmod 64 = (s6 : Int) := by rw [Int.tmod_eq_emod_of_nonneg (by omega)]; exact is6
          have bs6 : s6 < 64 := by omega
          have ws6 : IntKind.i64.wrap (s6 : Int) = (s6 : Int) := by rw [IntKind.wrap_i64]; omega
          have ir0 : (0 : Int) ≤ (s6 : Int) := by omega
          have ir1 : (s6 : Int) ≤ 63 := by omega
          have cw := ox2.xm.c.cell (i := j) (by omega)
          have fw := ox2.xm.c.frozen j
          rw [show rmf N cn j = wf N j by unfold rmf; rw [if_pos hjn]] at cw
          unfold wf at cw
          have hxx := wd_lt N j
          have HXO : Hid (bits .xor .u64 (wd N j : Nat) (IntKind.u64.wrap (2 ^ s6)) = ((wd N j ^^^ 2 ^ s6 : Nat) : Int)) := by
            have H64 : (2 : Nat) ^ s6 < 18446744073709551616 := by rw [two64]; exact Nat.pow_lt_pow_right (by decide) (by omega)
            have e : IntKind.u64.wrap (2 ^ s6) = ((2 ^ s6 : Nat) : Int) := by
              rw [show ((2 : Int) ^ s6) = ((2 ^ s6 : Nat) : Int) by simp, IntKind.wrap_u64]
              generalize 2 ^ s6 = y at *; omega
            rw [e]; exact xor_u64 _ _ hxx H64
          have HFL := hid1 (fun k => rmf_flip (N := N) hjn bs6 k)
          have HLT := hid1 (flip_lt ox2.xm.hN hjn bs6)
          generalize wd N j ^^^ 2 ^ s6 = nv at *
          generalize wd N j = ov at *
          have HOX := hid1 ox2
          clear ox2 hj hk5 hs6
          go_upto_region 10 with fail
          refine still_tail 26 (by kernel_rfl) ?_
          simp only [List.take_succ_cons, List.take_zero, List.drop_succ_cons, List.drop_zero]
          repeat still_step
          refine wpStill_nil ?_
          go_upto_region 21 with fail
          refine gen_world (fun X => Ox w X L0 C0 B0 kd sh sv sc h v c y x n Gl Gc Gb ln cn bn (N ^^^ 2 ^ (64 * j + s6)) P l) (HOX.out.setC HFL.out HLT.out HXO.out) ?_
          rintro X9 ox3
          clear c0 c1 c2 c3 c4 c5 c6 c7 c8 c9 c10 c11 c12 f0 f1 f2 f3 f4 f5 f6 f7 f8 f9 f10 f11 f12
          obtain ⟨c0, c1, c2, c3, c4, c5, c6, c7, c8, c9, c10, c11, c12⟩ := op_cells ox3.op
          obtain ⟨d0, d1, d2, d3, d4, d5, d6, d7, d8, d9, d10, d11, d12⟩ := op_cells ox3.re
          obtain ⟨f0, f1, f2, f3, f4, f5, f6, f7, f8, f9, f10, f11, f12⟩ := op_free ox3.re
          have HX := hid1 ox3
          clear ox3
          go_wp2_with fail
          have u := op_set HX.out.re kd sh sv sc (some ⟨Gl, 0, none⟩) ln (ln + 66) h v c (some ⟨Gc, 0, none⟩) cn (cn + 66) y x n (some ⟨Gb, 0, none⟩) bn (bn + 66)
          obtain ⟨u0, u1, u2, u3, u4, u5, u6, u7, u8, u9, u10, u11, u12⟩ := op_cells u
          exact bodyPost_ret (v := opv kd sh sv sc (some ⟨Gl, 0, none⟩) ln (ln + 66) h v c (some ⟨Gc, 0, none⟩) cn (cn + 66) y x n (some ⟨Gb, 0, none⟩) bn (bn + 66)) (by simp [results, Try.results5, go_sem, u0, u1, u2, u3, u4, u5, u6, u7, u8, u9, u10, u11, u12]) rfl (ot_end HX.out)
        · have hz : ¬ (0 : Int) < (cn : Int) := by omega
          go_upto_region 21 with fail
          refine gen_world (fun X => Ox w X L0 C0 B0 kd sh sv sc h v c y x n Gl Gc Gb ln cn bn N P l) (ox2) ?_
          rintro X9 ox3
          clear c0 c1 c2 c3 c4 c5 c6 c7 c8 c9 c10 c11 c12 f0 f1 f2 f3 f4 f5 f6 f7 f8 f9 f10 f11 f12
          obtain ⟨c0, c1, c2, c3, c4, c5, c6, c7, c8, c9, c10, c11, c12⟩ := op_cells ox3.op
          obtain ⟨d0, d1, d2, d3, d4, d5, d6, d7, d8, d9, d10, d11, d12⟩ := op_cells ox3.re
          obtain ⟨f0, f1, f2, f3, f4, f5, f6, f7, f8, f9, f10, f11, f12⟩ := op_free ox3.re
          have HX := hid1 ox3
          clear ox3
          go_wp2_with fail
          have u := op_set HX.out.re kd sh sv sc (some ⟨Gl, 0, none⟩) ln (ln + 66) h v c (some ⟨Gc, 0, none⟩) cn (cn + 66) y x n (some ⟨Gb, 0, none⟩) bn (bn + 66)
          obtain ⟨u0, u1, u2, u3, u4, u5, u6, u7, u8, u9, u10, u11, u12⟩ := op_cells u
          exact bodyPost_ret (v := opv kd sh sv sc (some ⟨Gl, 0, none⟩) ln (ln + 66) h v c (some ⟨Gc, 0, none⟩) cn (cn + 66) y x n (some ⟨Gb, 0, none⟩) bn (bn + 66)) (by simp [results, Try.results5, go_sem, u0, u1, u2, u3, u4, u5, u6, u7, u8, u9, u10, u11, u12]) rfl (ot_end HX.out)
      obtain rfl : hw = 4 := by omega
      · skip
        have HOX := hid1 ox2
        clear ox2
        go_upto_region 21 with fail
        refine gen_world (fun X => Ox w X L0 C0 B0 kd sh sv sc h v (bits .xor .i64 c 1) y x (bits .xor .i64 n 1) Gl Gc Gb ln cn bn N P l) (HOX.out.step 7 _ (op_put7 HOX.out.op _) |> fun o1 => o1.step 11 _ (op_put11 o1.op _)) ?_
        rintro X9 ox3
        clear c0 c1 c2 c3 c4 c5 c6 c7 c8 c9 c10 c11 c12 f0 f1 f2 f3 f4 f5 f6 f7 f8 f9 f10 f11 f12
        obtain ⟨c0, c1, c2, c3, c4, c5, c6, c7, c8, c9, c10, c11, c12⟩ := op_cells ox3.op
        obtain ⟨d0, d1, d2, d3, d4, d5, d6, d7, d8, d9, d10, d11, d12⟩ := op_cells ox3.re
        obtain ⟨f0, f1, f2, f3, f4, f5, f6, f7, f8, f9, f10, f11, f12⟩ := op_free ox3.re
        have HX := hid1 ox3
        clear ox3
        go_wp2_with fail
        have u := op_set HX.out.re kd sh sv sc (some ⟨Gl, 0, none⟩) ln (ln + 66) h v (bits .xor .i64 c 1) (some ⟨Gc, 0, none⟩) cn (cn + 66) y x (bits .xor .i64 n 1) (some ⟨Gb, 0, none⟩) bn (bn + 66)
        obtain ⟨u0, u1, u2, u3, u4, u5, u6, u7, u8, u9, u10, u11, u12⟩ := op_cells u
        exact bodyPost_ret (v := opv kd sh sv sc (some ⟨Gl, 0, none⟩) ln (ln + 66) h v (bits .xor .i64 c 1) (some ⟨Gc, 0, none⟩) cn (cn + 66) y x (bits .xor .i64 n 1) (some ⟨Gb, 0, none⟩) bn (bn + 66)) (by simp [results, Try.results5, go_sem, u0, u1, u2, u3, u4, u5, u6, u7, u8, u9, u10, u11, u12]) rfl (ot_end HX.out)
end Go.Proofs.Ytfboegdibohciaa
/- CubeScript: other. -/
namespace Go.Proofs.Ytfboegdibohciaa
open Go.RowKit Go.Shelf

set_option maxHeartbeats 12800000 in
set_option maxRecDepth 100000 in
theorem other_25 (kd sh sv sc h v c y x n : Int) (L0 C0 B0 ln cn bn N P : Nat) (l : List Int) (kk : Int) (w : World) (hl : l.length = ln) (hk : -9223372036854775808 ≤ kk ∧ kk ≤ 9223372036854775807) (xm : Xm w L0 ln (ia l) C0 cn N B0 bn P) (hcase : kN kk / 2 % 6 = 2 ∨ kN kk / 2 % 6 = 5) :
    Calls Try.prog 5 #[opv kd sh sv sc (some ⟨L0, 0, none⟩) ln (ln + 66) h v c (some ⟨C0, 0, none⟩) cn (cn + 66) y x n (some ⟨B0, 0, none⟩) bn (bn + 66), .int .i64 kk] w fun e w' => OtQ w sh sv sc h v L0 C0 B0 ln cn bn e w' := by
  have hl1 := xm.l1
  have hc1 := xm.c1
  have hb1 := xm.b1
  have HST := hid1 (al_start w kd sh sv sc (some ⟨L0, 0, none⟩) ln (ln + 66) h v c (some ⟨C0, 0, none⟩) cn (cn + 66) y x n (some ⟨B0, 0, none⟩) bn (bn + 66))
  have HAL := hid1 (fun W r1 r2 r3 => alone_any kd sh sv sc (some ⟨L0, 0, none⟩) ln (ln + 66) h v c (some ⟨C0, 0, none⟩) cn (cn + 66) y x n (some ⟨B0, 0, none⟩) bn (bn + 66) (ia l) N P W hl1 hc1 hb1 r1 r2 r3)
  have XM := hid1 xm
  have HL := hid1 hl
  clear xm hl
  go_enter Try.func5, Try.ntmps5
  go_upto_region 1 with fail
  refine gen_world (fun X => Ox w X L0 C0 B0 kd sh sv sc h v c y x n L0 C0 B0 ln cn bn N P l) (by exact ⟨HST.out.a, HST.out.r, XM.out.below HST.out.b, HL.out, .inl rfl, .inl rfl, .inl rfl, XM.out.l.lt, XM.out.c.lt, XM.out.b.lt, F3.of_below HST.out.b⟩) ?_
  clear HST
  rintro W ox
  go_upto_if 7 with fail
  go_cut [1] (fun s1 wx => (∃ K : Nat, s1 = .int .i64 K ∧ K ≤ 9223372036854775807 ∧ K = kN kk) ∧ wx = W)
  case first =>
    by_cases hneg : kk < 0
    · go_wp2_with fail
      go_meet
      exact ⟨⟨(-(kk + 1)).toNat, by congr 1; omega, by omega, by unfold kN; rw [if_pos (by omega)]⟩, rfl⟩
    · go_wp2_with fail
      go_meet
      exact ⟨⟨kk.toNat, by congr 1; omega, by omega, by unfold kN; rw [if_neg (by omega)]⟩, rfl⟩
  case rest =>
    obtain ⟨⟨K, rfl, hK, hKN⟩, rfl⟩ := hcut
    rw [← hKN] at hcase
    clear hKN
    rename World => W1
    have im : (K : Int).tmod 2 = ((K % 2 : Nat) : Int) := by rw [Int.tmod_eq_emod_of_nonneg (by omega)]; omega
    have im' : (K : Int) % 2 = ((K % 2 : Nat) : Int) := by omega
    have i2 : (K : Int).tdiv 2 = ((K / 2 : Nat) : Int) := by rw [Int.tdiv_eq_ediv_of_nonneg (by omega)]; omega
    have i2' : (K : Int) / 2 = ((K / 2 : Nat) : Int) := by omega
    have i8 : (K : Int).tdiv 12 = ((K / 12 : Nat) : Int) := by rw [Int.tdiv_eq_ediv_of_nonneg (by omega)]; omega
    have i8' : (K : Int) / 12 = ((K / 12 : Nat) : Int) := by omega
    have i4 : ((K / 2 : Nat) : Int).tmod 6 = ((K / 2 % 6 : Nat) : Int) := by rw [Int.tmod_eq_emod_of_nonneg (by omega)]; omega
    have i4' : ((K / 2 : Nat) : Int) % 6 = ((K / 2 % 6 : Nat) : Int) := by omega
    have h12 : K / 12 ≤ 9223372036854775807 := by omega
    have hmd : K % 2 < 2 := Nat.mod_lt _ (by decide)
    have h2 : K / 2 ≤ 9223372036854775807 := by omega
    generalize K % 2 = md at *
    generalize K / 2 % 6 = hw at *
    generalize K / 2 = K2 at *
    generalize K / 12 = K12 at *
    go_upto_if 13 with fail
    go_cut [] (fun wx => ∃ Gl Gc Gb, Ox w wx L0 C0 B0 kd sh sv sc h v c y x n Gl Gc Gb ln cn bn N P l)
    case first =>
      by_cases hm1 : md = 1
      · subst hm1
        obtain ⟨c0, c1, c2, c3, c4, c5, c6, c7, c8, c9, c10, c11, c12⟩ := op_cells ox.op
        go_wp2_with fail
        refine (HAL.out W1 (rv_rs ox.xm.l) (rm_wr ox.xm.c ox.xm.hN) (rm_wr ox.xm.b ox.xm.hP)).mono ?_
        rintro e w2 ⟨Gl, Gc, Gb, rfl, ⟨g1, g2, g3⟩, xm2, hb⟩
        have o2 := keepr hb ox.op
        have r2 := keepr hb ox.re
        have l1 := ox.re.lt
        have be2 := ox.fb.below hb
        have zb := ox.fb.size
        clear hb c0 c1 c2 c3 c4 c5 c6 c7 c8 c9 c10 c11 c12
        obtain ⟨c0, c1, c2, c3, c4, c5, c6, c7, c8, c9, c10, c11, c12⟩ := op_cells o2
        obtain ⟨f0, f1, f2, f3, f4, f5, f6, f7, f8, f9, f10, f11, f12⟩ := op_free o2
        have HO := hid1 o2
        have HXM := hid1 xm2
        have HOX := hid1 ox
        clear ox xm2 o2
        go_wp2_with fail
        go_meet
        have bt := But.setop w.heap.size w2 kd sh sv sc (some ⟨Gl, 0, none⟩) ln (ln + 66) h v c (some ⟨Gc, 0, none⟩) cn (cn + 66) y x n (some ⟨Gb, 0, none⟩) bn (bn + 66)
        exact ⟨Gl, Gc, Gb, op_set HO.out _ _ _ _ _ _ _ _ _ _ _ _ _ _ _ _ _ _ _, bt.row (by omega) r2, ⟨bt.row (by omega) HXM.out.l, bt.row (by omega) HXM.out.c, bt.row (by omega) HXM.out.b, HXM.out.ne, HXM.out.hN, HXM.out.hP, hl1, hc1, hb1⟩, HL.out, .inr (by omega), .inr (by omega), .inr (by omega), HOX.out.zl, HOX.out.zc, HOX.out.zb, be2.but bt (.inr (.inr (.inr (Nat.le_refl _))))⟩
      · have hm0 : ¬ (md : Int) = 1 := by omega
        go_wp2_with fail
        go_meet
        exact ⟨_, _, _, ox⟩
    case rest =>
      obtain ⟨Gl, Gc, Gb, ox2⟩ := hcut
      rename World => W2
      clear ox HAL
      obtain ⟨c0, c1, c2, c3, c4, c5, c6, c7, c8, c9, c10, c11, c12⟩ := op_cells ox2.op
      obtain ⟨f0, f1, f2, f3, f4, f5, f6, f7, f8, f9, f10, f11, f12⟩ := op_free ox2.op
      by_cases hA2 : hw = 2
      · subst hA2
        by_cases hn0 : 0 < bn
        · skip
          have hn1 : (0 : Int) < (bn : Int) := by omega
          have hn2 : ¬ (bn : Int) = 0 := by omega
          have hn3 : ¬ bn = 0 := by omega
          obtain ⟨j, hj⟩ : ∃ j, K12 % bn = j := ⟨_, rfl⟩
          have hjn : j < bn := by rw [← hj]; exact Nat.mod_lt _ hn0
          have ij : (K12 : Int) % (bn : Int) = (j : Int) := by rw [← hj]; push_cast; rfl
          have ij' : (K12 : Int).tmod (bn : Int) = (j : Int) := by rw [Int.tmod_eq_emod_of_nonneg (by omega)]; exact ij
          have wj : IntKind.i64.wrap (j : Int) = (j : Int) := by rw [IntKind.wrap_i64]; omega
          have ij0 : (0 : Int) ≤ (j : Int) := by omega
          have ijn : (j : Int) < (bn : Int) := by omega
          obtain ⟨k5, hk5⟩ : ∃ j, K12 / 5 = j := ⟨_, rfl⟩
          have ik5 : (K12 : Int) / 5 = (k5 : Int) := by omega
          have ik5' : (K12 : Int).tdiv 5 = (k5 : Int) := by rw [Int.tdiv_eq_ediv_of_nonneg (by omega)]; exact ik5
          have wk5 : IntKind.i64.wrap (k5 : Int) = (k5 : Int) := by rw [IntKind.wrap_i64]; omega
          obtain ⟨s6, hs6⟩ : ∃ j, k5 % 64 = j := ⟨_, rfl⟩
          have is6 : (k5 : Int) % 64 = (s6 : Int) := by omega
          have is6' : (k5 : Int).tmod 64 = (s6 : Int) := by rw [Int.tmod_eq_emod_of_nonneg (by omega)]; exact is6
          have bs6 : s6 < 64 := by omega
          have ws6 : IntKind.i64.wrap (s6 : Int) = (s6 : Int) := by rw [IntKind.wrap_i64]; omega
          have ir0 : (0 : Int) ≤ (s6 : Int) := by omega
          have ir1 : (s6 : Int) ≤ 63 := by omega
          have cw := ox2.xm.b.cell (i := j) (by omega)
          have fw := ox2.xm.b.frozen j
          rw [show rmf P bn j = wf P j by unfold rmf; rw [if_pos hjn]] at cw
          unfold wf at cw
          have hxx := wd_lt P j
          have HXO : Hid (bits .xor .u64 (wd P j : Nat) (IntKind.u64.wrap (2 ^ s6)) = ((wd P j ^^^ 2 ^ s6 : Nat) : Int)) := by
            have H64 : (2 : Nat) ^ s6 < 18446744073709551616 := by rw [two64]; exact Nat.pow_lt_pow_right (by decide) (by omega)
            have e : IntKind.u64.wrap (2 ^ s6) = ((2 ^ s6 : Nat) : Int) := by
              rw [show ((2 : Int) ^ s6) = ((2 ^ s6 : Nat) : Int) by simp, IntKind.wrap_u64]
              generalize 2 ^ s6 = y at *; omega
            rw [e]; exact xor_u64 _ _ hxx H64
          have HFL := hid1 (fun k => rmf_flip (N := P) hjn bs6 k)
          have HLT := hid1 (flip_lt ox2.xm.hP hjn bs6)
          generalize wd P j ^^^ 2 ^ s6 = nv at *
          generalize wd P j = ov at *
          have HOX := hid1 ox2
          clear ox2 hj hk5 hs6
          go_upto_region 12 with fail
          refine still_tail 26 (by kernel_rfl) ?_
          simp only [List.take_succ_cons, List.take_zero, List.drop_succ_cons, List.drop_zero]
          repeat still_step
          refine wpStill_nil ?_
          go_upto_region 21 with fail
          refine gen_world (fun X => Ox w X L0 C0 B0 kd sh sv sc h v c y x n Gl Gc Gb ln cn bn N (P ^^^ 2 ^ (64 * j + s6)) l) (HOX.out.setB HFL.out HLT.out HXO.out) ?_
          rintro X9 ox3
          clear c0 c1 c2 c3 c4 c5 c6 c7 c8 c9 c10 c11 c12 f0 f1 f2 f3 f4 f5 f6 f7 f8 f9 f10 f11 f12
          obtain ⟨c0, c1, c2, c3, c4, c5, c6, c7, c8, c9, c10, c11, c12⟩ := op_cells ox3.op
          obtain ⟨d0, d1, d2, d3, d4, d5, d6, d7, d8, d9, d10, d11, d12⟩ := op_cells ox3.re
          obtain ⟨f0, f1, f2, f3, f4, f5, f6, f7, f8, f9, f10, f11, f12⟩ := op_free ox3.re
          have HX := hid1 ox3
          clear ox3
          go_wp2_with fail
          have u := op_set HX.out.re kd sh sv sc (some ⟨Gl, 0, none⟩) ln (ln + 66) h v c (some ⟨Gc, 0, none⟩) cn (cn + 66) y x n (some ⟨Gb, 0, none⟩) bn (bn + 66)
          obtain ⟨u0, u1, u2, u3, u4, u5, u6, u7, u8, u9, u10, u11, u12⟩ := op_cells u
          exact bodyPost_ret (v := opv kd sh sv sc (some ⟨Gl, 0, none⟩) ln (ln + 66) h v c (some ⟨Gc, 0, none⟩) cn (cn + 66) y x n (some ⟨Gb, 0, none⟩) bn (bn + 66)) (by simp [results, Try.results5, go_sem, u0, u1, u2, u3, u4, u5, u6, u7, u8, u9, u10, u11, u12]) rfl (ot_end HX.out)
        · have hz : ¬ (0 : Int) < (bn : Int) := by omega
          go_upto_region 21 with fail
          refine gen_world (fun X => Ox w X L0 C0 B0 kd sh sv sc h v c y x n Gl Gc Gb ln cn bn N P l) (ox2) ?_
          rintro X9 ox3
          clear c0 c1 c2 c3 c4 c5 c6 c7 c8 c9 c10 c11 c12 f0 f1 f2 f3 f4 f5 f6 f7 f8 f9 f10 f11 f12
          obtain ⟨c0, c1, c2, c3, c4, c5, c6, c7, c8, c9, c10, c11, c12⟩ := op_cells ox3.op
          obtain ⟨d0, d1, d2, d3, d4, d5, d6, d7, d8, d9, d10, d11, d12⟩ := op_cells ox3.re
          obtain ⟨f0, f1, f2, f3, f4, f5, f6, f7, f8, f9, f10, f11, f12⟩ := op_free ox3.re
          have HX := hid1 ox3
          clear ox3
          go_wp2_with fail
          have u := op_set HX.out.re kd sh sv sc (some ⟨Gl, 0, none⟩) ln (ln + 66) h v c (some ⟨Gc, 0, none⟩) cn (cn + 66) y x n (some ⟨Gb, 0, none⟩) bn (bn + 66)
          obtain ⟨u0, u1, u2, u3, u4, u5, u6, u7, u8, u9, u10, u11, u12⟩ := op_cells u
          exact bodyPost_ret (v := opv kd sh sv sc (some ⟨Gl, 0, none⟩) ln (ln + 66) h v c (some ⟨Gc, 0, none⟩) cn (cn + 66) y x n (some ⟨Gb, 0, none⟩) bn (bn + 66)) (by simp [results, Try.results5, go_sem, u0, u1, u2, u3, u4, u5, u6, u7, u8, u9, u10, u11, u12]) rfl (ot_end HX.out)
      obtain rfl : hw = 5 := by omega
      obtain ⟨j, hj⟩ : ∃ j, K12 % 6 = j := ⟨_, rfl⟩
      have ij : (K12 : Int) % 6 = (j : Int) := by omega
      have ij' : (K12 : Int).tmod 6 = (j : Int) := by rw [Int.tmod_eq_emod_of_nonneg (by omega)]; exact ij
      have bj : j < 6 := by omega
      have wj : IntKind.i64.wrap (j : Int) = (j : Int) := by rw [IntKind.wrap_i64]; omega
      have HOX := hid1 ox2
      clear ox2 hj
      go_upto_region 21 with fail
      refine gen_world (fun X => Ox w X L0 C0 B0 (1 + (j : Int)) sh sv sc h v c y x n Gl Gc Gb ln cn bn N P l) (HOX.out.step 0 _ (op_put0 HOX.out.op _)) ?_
      rintro X9 ox3
      clear c0 c1 c2 c3 c4 c5 c6 c7 c8 c9 c10 c11 c12 f0 f1 f2 f3 f4 f5 f6 f7 f8 f9 f10 f11 f12
      obtain ⟨c0, c1, c2, c3, c4, c5, c6, c7, c8, c9, c10, c11, c12⟩ := op_cells ox3.op
      obtain ⟨d0, d1, d2, d3, d4, d5, d6, d7, d8, d9, d10, d11, d12⟩ := op_cells ox3.re
      obtain ⟨f0, f1, f2, f3, f4, f5, f6, f7, f8, f9, f10, f11, f12⟩ := op_free ox3.re
      have HX := hid1 ox3
      clear ox3
      go_wp2_with fail
      have u := op_set HX.out.re (1 + (j : Int)) sh sv sc (some ⟨Gl, 0, none⟩) ln (ln + 66) h v c (some ⟨Gc, 0, none⟩) cn (cn + 66) y x n (some ⟨Gb, 0, none⟩) bn (bn + 66)
      obtain ⟨u0, u1, u2, u3, u4, u5, u6, u7, u8, u9, u10, u11, u12⟩ := op_cells u
      exact bodyPost_ret (v := opv (1 + (j : Int)) sh sv sc (some ⟨Gl, 0, none⟩) ln (ln + 66) h v c (some ⟨Gc, 0, none⟩) cn (cn + 66) y x n (some ⟨Gb, 0, none⟩) bn (bn + 66)) (by simp [results, Try.results5, go_sem, u0, u1, u2, u3, u4, u5, u6, u7, u8, u9, u10, u11, u12]) rfl (ot_end HX.out)
end Go.Proofs.Ytfboegdibohciaa
