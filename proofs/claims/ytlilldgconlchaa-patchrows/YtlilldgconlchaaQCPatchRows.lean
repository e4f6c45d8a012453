import Derived.Test.YtlilldgconlchaaQBPatchRows
/- PatchRows: the walk. -/
namespace Go.Proofs.Ytlilldgconlchaa
open Go.RowKit Go.Shelf
attribute [local go_sem ↓] Go.wp_at_zero Go.wp_at_succ

set_option maxHeartbeats 6400000 in
set_option maxRecDepth 100000 in
theorem patchRows_any (ao : Option Addr) (l1 : List (Bt × Bt)) (c1 : Nat) (h1 : l1.length ≤ 9223372036854775807) (bo : Option Addr) (N2 c2 : Nat) (h2 : N2 ≤ 9223372036854775807) (do' : Option Addr) (N3 c3 : Nat) (h3 : N3 ≤ 9223372036854775807) (w : World) (r1 : LrE w ao l1) (r2 : LiE w bo N2) (r3 : L8E w do' N3) :
    Calls Try.prog 6 #[.slice ao l1.length c1, .slice bo N2 c2, .slice do' N3 c3] w fun e w' => e = .returned (.bool true) ∧ Below w.heap.size w w' := by
  have R1 := hid1 r1
  have R2 := hid1 r2
  have R3 := hid1 r3
  obtain ⟨N1, e1⟩ : ∃ N, l1.length = N := ⟨_, rfl⟩
  rw [e1] at h1 ⊢
  have E1 := hid1 e1
  clear r1 r2 r3 e1
  go_enter Try.func6, Try.ntmps6
  go_wp2_with fail
  refine (pbegun_any w).mono ?_
  rintro e w0 ⟨rfl, B0⟩
  go_wp2_with fail
  go_loopw [8] (fun i wr => ∃ k : Nat, k ≤ N1 ∧ i = .int .i64 k ∧ Below w.heap.size w wr) (fun i _ => N1 - (intOf i).toNat)
  case atStart => exact ⟨0, Nat.zero_le _, rfl, B0⟩
  case round =>
    clear B0
    obtain ⟨i, hi, rfl, B0⟩ := hrel
    by_cases hlt : i < N1
    · as_aux_lemma =>
        have hl1 : i < l1.length := by rw [E1.out]; exact hlt
        have ii : (i : Int) < (N1 : Int) := by omega
        have ii0 : (0 : Int) ≤ (i : Int) := by omega
        go_wp2_with fail
        go_loopw [9] (fun j wy => ∃ k : Nat, k ≤ N1 ∧ j = .int .i64 k ∧ Below w.heap.size w wy) (fun j _ => N1 - (intOf j).toNat)
        case atStart => exact ⟨0, Nat.zero_le _, rfl, B0⟩
        case round =>
          rename World => V
          clear B0
          obtain ⟨k, hk, rfl, B0⟩ := hrel
          by_cases hkl : k < N1
          · as_aux_lemma =>
              have hl2 : k < l1.length := by rw [E1.out]; exact hkl
              have kk : (k : Int) < (N1 : Int) := by omega
              have kk0 : (0 : Int) ≤ (k : Int) := by omega
              obtain ⟨⟨g1, o1, rfl, hcr⟩, hzA, hzB⟩ := R1.out i hl1
              obtain ⟨⟨g2, o2, e2, hcb⟩, hzC, hzD⟩ := R1.out k hl2
              cases e2
              generalize l1[i] = ab at *
              generalize l1[k] = cd at *
              obtain ⟨A, B⟩ := ab
              obtain ⟨C, D⟩ := cd
              dsimp only at hcr hzA hzB hcb hzC hzD
              replace hcr := hcr.below B0
              replace hcb := hcb.below B0
              have ZA := hid1 (hzA.below B0)
              have ZB := hid1 (hzB.below B0)
              have ZC := hid1 (hzC.below B0)
              have ZD := hid1 (hzD.below B0)
              have gl1 := lt_of_cell hcr.1
              have HCR := hid1 hcr
              have HCB := hid1 hcb
              have HB0 := hid1 B0
              have x1 := hcr.2.1
              have x3 := hcr.2.2.2
              have y1 := hcb.2.1
              have y3 := hcb.2.2.2
              clear hzA hzB hzC hzD hcr hcb B0
              go_upto_region 10 with fail
              go_cut [10] from 44 to 68 (fun s10 wx => ∃ bL, s10 = .pointer (some ⟨bL, 0, none⟩) ∧ V.heap.size ≤ bL ∧ wx.rowIs bL 66 4 (q4 (slE A) (slE B) (slE C) (slE D)) ∧ Below V.heap.size V wx)
              case first =>
                as_aux_lemma =>
                  go_region_held3 (fun Y => Y.cell? ⟨g1, o1 + i * 4 + 1, none⟩ = some (.slice A.ao A.m A.cap) ∧ Y.cell? ⟨g1, o1 + i * 4 + 3, none⟩ = some (.slice B.ao B.m B.cap) ∧ Y.cell? ⟨g1, o1 + k * 4 + 1, none⟩ = some (.slice C.ao C.m C.cap) ∧ Y.cell? ⟨g1, o1 + k * 4 + 3, none⟩ = some (.slice D.ao D.m D.cap))
                    (((try dsimp only); simp [go_sem, *]; done)) (fail)
                  all_goals (refine kmeet_of (by assumption) ?_; go_meet)
                  all_goals exact ⟨V.heap.size, rfl, Nat.le_refl _, (q4_new V _ _ _ _ _).drew, (bl_alloc (Below.refl _ _) _).drew⟩
              case rest =>
                obtain ⟨bL, rfl, gL, RL, BV⟩ := hcut
                rename World => V1
                replace ZA := hid1 (ZA.out.below BV)
                replace ZB := hid1 (ZB.out.below BV)
                replace ZC := hid1 (ZC.out.below BV)
                replace ZD := hid1 (ZD.out.below BV)
                replace HCR := hid1 (HCR.out.below BV)
                replace HCB := hid1 (HCB.out.below BV)
                replace HB0 := hid1 (bl_step HB0.out BV)
                have lL := RL.lt
                have HRL := hid1 RL
                clear BV RL x1 x3 y1 y3 gl1 gL
                go_wp2_with fail
                refine gen_world (fun W => Mk4 V1 W V1.heap.size (s4 A B C D) 0) ⟨⟨_, q4_new V1 _ _ _ _ _, fun j hj => absurd hj (by omega)⟩, bl_alloc (Below.refl _ _) _⟩ ?_
                intro V2 m0
                obtain ⟨bM, ebM⟩ : ∃ b, V1.heap.size = b := ⟨_, rfl⟩
                have EBM := hid1 ebM
                have M0 := hid1 (ebM ▸ m0)
                rw [ebM]
                clear m0 ebM
                go_loopw [12] (fun j wy => ∃ J : Nat, J ≤ 4 ∧ j = .int .i64 J ∧ Mk4 V1 wy bM (s4 A B C D) J) (fun j _ => 4 - (intOf j).toNat)
                case atStart => exact ⟨0, Nat.zero_le _, rfl, M0.out⟩
                case round =>
                  rename World => Y
                  clear M0
                  obtain ⟨J, hJ, rfl, m0⟩ := hrel
                  by_cases hj4 : J < 4
                  · obtain ⟨X, eX⟩ : ∃ X, s4 A B C D J = X := ⟨_, rfl⟩
                    have jj : (J : Int) < 4 := by omega
                    have jj0 : (0 : Int) ≤ (J : Int) := by omega
                    have zx := s4_rz (ZA.out.below m0.b) (ZB.out.below m0.b) (ZC.out.below m0.b) (ZD.out.below m0.b) J
                    have cx := (keepr m0.b HRL.out).cell hj4
                    rw [q4_s4] at cx
                    rw [eX] at zx cx
                    have HR := hid1 (roomyE_any X.m X.N X.ao X.cap Y zx.2.2 zx.2.1 zx.wr)
                    obtain ⟨f, hf, _⟩ := m0.r
                    have fz := hf.frozen J
                    have fl := hf.lt
                    have fc := hf.cell hj4
                    have HF := hid1 hf
                    have HM := hid1 m0
                    have EX := hid1 eX
                    clear m0 hf zx eX
                    go_wp2_with fail
                    refine HR.out.mono ?_
                    rintro e y1 ⟨G, K, rfl, hG, ow, hb⟩
                    have f2 := keepr hb HF.out
                    have f2c := f2.cell hj4
                    have f2f := f2.frozen J
                    have f2l := f2.lt
                    have HOW := hid1 ow
                    have HBB := hid1 hb
                    clear ow hb f2
                    go_wp2_with fail
                    have m1 := HM.out.step (by rw [EBM.out]; exact Nat.le_refl _) hj4 HBB.out (by rw [EX.out]; exact HOW.out)
                    rw [EX.out] at m1
                    exact ⟨⟨J + 1, by omega, by go_num, m1⟩, by simp [intOf]; omega⟩
                  · as_aux_lemma =>
                      obtain rfl : J = 4 := by omega
                      obtain ⟨G0, K0, G1, K1, G2, K2, G3, K3, st⟩ := m0.st HCR.out HCB.out HRL.out ZA.out ZB.out ZC.out ZD.out
                      have HB1 := hid1 (bl_step HB0.out m0.b)
                      have HST := hid1 st
                      have gl1 := lt_of_cell st.cr.1
                      have lM := st.rm.lt
                      clear m0 st HCR HCB HRL ZA ZB ZC ZD HB0
                      go_upto_region 16 with fail
                      go_cut [13] from 79 to 95 (fun s13 wx => ∃ bX, s13 = .pointer (some ⟨bX, 0, none⟩) ∧ wx.rowIs bX 46 4 (qf (twE A G0) (twE B G1)) ∧ Below Y.heap.size Y wx)
                      case first =>
                        as_aux_lemma =>
                          have hmA := HST.out.za.2.2
                          have hmB := HST.out.zb.2.2
                          go_region_held3 (fun Z => (Z.cell? ⟨bM, 0, none⟩ = some (.slice (some ⟨G0, 0, none⟩) (A.m + 20) K0) ∧ Z.cell? ⟨bM, 1, none⟩ = some (.slice (some ⟨G1, 0, none⟩) (B.m + 20) K1)) ∧ Z.cell? ⟨g1, o1 + i * 4, none⟩ = some (.int .i64 A.n) ∧ Z.cell? ⟨g1, o1 + i * 4 + 1, none⟩ = some (.slice A.ao A.m A.cap) ∧ Z.cell? ⟨g1, o1 + i * 4 + 2, none⟩ = some (.int .i64 B.n) ∧ Z.cell? ⟨g1, o1 + i * 4 + 3, none⟩ = some (.slice B.ao B.m B.cap))
                            (((try dsimp only); (with_reducible refine kpA (Y := Y) HST.out ?_); repeat (first | (with_reducible exact Below.refl _ _) | (with_reducible assumption) | (with_reducible refine Below.drew ?_) | (with_reducible refine bl_alloc ?_ _) | (with_reducible refine bl_set ?_ (Nat.le_refl _) _) | (with_reducible refine bl_set ?_ sz1 _))))
                            (first
                            | (have tst := HBY; go_at_call 25; refine (handed_any B.m (rmN B.N B.m 20) G1 K1 B.n B.ao B.cap _ hmB (HST.out.o1.below (by repeat (first | (with_reducible exact Below.refl _ _) | (with_reducible assumption) | (with_reducible refine Below.drew ?_) | (with_reducible refine bl_alloc ?_ _))))).mono ?_; rintro e z2 ⟨rfl, hb⟩; have HBZ := hid1 hb; have by2 : Below Y.heap.size Y z2 := (by first | exact bl_step by1 hb | exact bl_step (bl_alloc by1 _) hb); (try (first | (have VR := keepr HBZ.out HVR.out) | (have VR := keepr HBZ.out (q_new z1 ⟨0, none, 0, 0, 0⟩ ⟨0, none, 0, 0, 0⟩ 46)))); (try (have v0 := q0 VR; have v1 := q1 VR; have v2 := q2 VR; have v3 := q3 VR; have f0 := VR.frozen 0; have f1 := VR.frozen 1; have f2 := VR.frozen 2; have f3 := VR.frozen 3; have HVR2 := hid1 VR; clear VR)); clear hb)
                            | (go_at_call 25; refine (handed_any A.m (rmN A.N A.m 20) G0 K0 A.n A.ao A.cap _ hmA (HST.out.o0.below (by repeat (first | (with_reducible exact Below.refl _ _) | (with_reducible assumption) | (with_reducible refine Below.drew ?_) | (with_reducible refine bl_alloc ?_ _))))).mono ?_; rintro e z1 ⟨rfl, hb⟩; have HBY := hid1 hb; have by1 : Below Y.heap.size Y z1 := (by first | exact bl_step (Below.refl _ _).drew hb | exact bl_step (bl_alloc (Below.refl _ _) _).drew hb); have sz1 := by1.size; (try (have VR := keepr HBY.out (q_new Y ⟨0, none, 0, 0, 0⟩ ⟨0, none, 0, 0, 0⟩ 46).drew; have v0 := q0 VR; have v1 := q1 VR; have v2 := q2 VR; have v3 := q3 VR; have f0 := VR.frozen 0; have f1 := VR.frozen 1; have f2 := VR.frozen 2; have f3 := VR.frozen 3; have HVR := hid1 VR; clear VR)); clear hb))
                          all_goals (refine kmeet_of (by assumption) ?_; go_meet)
                          · exact ⟨_, rfl, q_new z2 (twE A G0) (twE B G1) _, bl_alloc by2 _⟩
                          · exact ⟨_, rfl, q_allE HVR2.out (twE A G0) (twE B G1), bl_set (bl_set (bl_set (bl_set by2 sz1 _) sz1 _) sz1 _) sz1 _⟩
                          · exact ⟨_, rfl, q_allE HVR2.out (twE A G0) (twE B G1), bl_set (bl_set (bl_set (bl_set by2 (Nat.le_refl _) _) (Nat.le_refl _) _) (Nat.le_refl _) _) (Nat.le_refl _) _⟩
                      case rest =>
                        as_aux_lemma =>
                          obtain ⟨bX, rfl, RX, BX⟩ := hcut
                          rename World => Y3
                          replace HST := hid1 (HST.out.below BX)
                          replace HB1 := hid1 (bl_step HB1.out BX)
                          have HRX := hid1 RX
                          have gl1 := lt_of_cell HST.out.cr.1
                          have lM := HST.out.rm.lt
                          clear BX RX
                          go_upto_region 17 with fail
                          go_cut [14] from 96 to 112 (fun s14 wx => ∃ bY, s14 = .pointer (some ⟨bY, 0, none⟩) ∧ wx.rowIs bY 46 4 (qf (twE C G2) (twE D G3)) ∧ Below Y3.heap.size Y3 wx)
                          case first =>
                            as_aux_lemma =>
                              have hmC := HST.out.zc.2.2
                              have hmD := HST.out.zd.2.2
                              go_region_held3 (fun Z => (Z.cell? ⟨bM, 2, none⟩ = some (.slice (some ⟨G2, 0, none⟩) (C.m + 20) K2) ∧ Z.cell? ⟨bM, 3, none⟩ = some (.slice (some ⟨G3, 0, none⟩) (D.m + 20) K3)) ∧ Z.cell? ⟨g1, o1 + k * 4, none⟩ = some (.int .i64 C.n) ∧ Z.cell? ⟨g1, o1 + k * 4 + 1, none⟩ = some (.slice C.ao C.m C.cap) ∧ Z.cell? ⟨g1, o1 + k * 4 + 2, none⟩ = some (.int .i64 D.n) ∧ Z.cell? ⟨g1, o1 + k * 4 + 3, none⟩ = some (.slice D.ao D.m D.cap))
                                (((try dsimp only); (with_reducible refine kpB4 (Y := Y3) HST.out ?_); repeat (first | (with_reducible exact Below.refl _ _) | (with_reducible assumption) | (with_reducible refine Below.drew ?_) | (with_reducible refine bl_alloc ?_ _) | (with_reducible refine bl_set ?_ (Nat.le_refl _) _) | (with_reducible refine bl_set ?_ sz1 _))))
                                (first
                                | (have tst := HBY; go_at_call 25; refine (handed_any D.m (rmN D.N D.m 20) G3 K3 D.n D.ao D.cap _ hmD (HST.out.o3.below (by repeat (first | (with_reducible exact Below.refl _ _) | (with_reducible assumption) | (with_reducible refine Below.drew ?_) | (with_reducible refine bl_alloc ?_ _))))).mono ?_; rintro e z2 ⟨rfl, hb⟩; have HBZ := hid1 hb; have by2 : Below Y3.heap.size Y3 z2 := (by first | exact bl_step by1 hb | exact bl_step (bl_alloc by1 _) hb); (try (first | (have VR := keepr HBZ.out HVR.out) | (have VR := keepr HBZ.out (q_new z1 ⟨0, none, 0, 0, 0⟩ ⟨0, none, 0, 0, 0⟩ 46)))); (try (have v0 := q0 VR; have v1 := q1 VR; have v2 := q2 VR; have v3 := q3 VR; have f0 := VR.frozen 0; have f1 := VR.frozen 1; have f2 := VR.frozen 2; have f3 := VR.frozen 3; have HVR2 := hid1 VR; clear VR)); clear hb)
                                | (go_at_call 25; refine (handed_any C.m (rmN C.N C.m 20) G2 K2 C.n C.ao C.cap _ hmC (HST.out.o2.below (by repeat (first | (with_reducible exact Below.refl _ _) | (with_reducible assumption) | (with_reducible refine Below.drew ?_) | (with_reducible refine bl_alloc ?_ _))))).mono ?_; rintro e z1 ⟨rfl, hb⟩; have HBY := hid1 hb; have by1 : Below Y3.heap.size Y3 z1 := (by first | exact bl_step (Below.refl _ _).drew hb | exact bl_step (bl_alloc (Below.refl _ _) _).drew hb); have sz1 := by1.size; (try (have VR := keepr HBY.out (q_new Y3 ⟨0, none, 0, 0, 0⟩ ⟨0, none, 0, 0, 0⟩ 46).drew; have v0 := q0 VR; have v1 := q1 VR; have v2 := q2 VR; have v3 := q3 VR; have f0 := VR.frozen 0; have f1 := VR.frozen 1; have f2 := VR.frozen 2; have f3 := VR.frozen 3; have HVR := hid1 VR; clear VR)); clear hb))
                              all_goals (refine kmeet_of (by assumption) ?_; go_meet)
                              · exact ⟨_, rfl, q_new z2 (twE C G2) (twE D G3) _, bl_alloc by2 _⟩
                              · exact ⟨_, rfl, q_allE HVR2.out (twE C G2) (twE D G3), bl_set (bl_set (bl_set (bl_set by2 sz1 _) sz1 _) sz1 _) sz1 _⟩
                              · exact ⟨_, rfl, q_allE HVR2.out (twE C G2) (twE D G3), bl_set (bl_set (bl_set (bl_set by2 (Nat.le_refl _) _) (Nat.le_refl _) _) (Nat.le_refl _) _) (Nat.le_refl _) _⟩
                          case rest =>
                            as_aux_lemma =>
                              obtain ⟨bY, rfl, RY, BY⟩ := hcut
                              rename World => Z
                              replace HST := hid1 (HST.out.below BY)
                              replace HB1 := hid1 (bl_step HB1.out BY)
                              have RX := keepr BY HRX.out
                              have u0 := q0 RX
                              have u1 := q1 RX
                              have u2 := q2 RX
                              have u3 := q3 RX
                              have v0 := q0 RY
                              have v1 := q1 RY
                              have v2 := q2 RY
                              have v3 := q3 RY
                              clear BY RX RY HRX
                              go_wp2_with fail
                              refine (lost_any (twE A G0) (twE B G1) (twE C G2) (twE D G3) Z (tw_rw HST.out.za HST.out.o0) (tw_rw HST.out.zb HST.out.o1) (tw_rw HST.out.zc HST.out.o2) (tw_rw HST.out.zd HST.out.o3)).mono ?_
                              rintro e z3 ⟨rfl, hb⟩
                              rw [show loV (twE A G0) (twE B G1) (twE C G2) (twE D G3) = loV A B C D from rfl, show loE (twE A G0) (twE B G1) (twE C G2) (twE D G3) = loE A B C D from rfl]
                              replace HST := hid1 (HST.out.below hb)
                              replace HB1 := hid1 (bl_step HB1.out hb)
                              have HRL := hid1 (fun W a b c d => rlost_any A B C D W a b c d)
                              obtain ⟨va, eva⟩ : ∃ v, loV A B C D = v := ⟨_, rfl⟩
                              obtain ⟨ve, eve⟩ : ∃ v, loE A B C D = v := ⟨_, rfl⟩
                              rw [eva, eve] at HRL
                              rw [eva, eve]
                              have gl1 := lt_of_cell HST.out.cr.1
                              clear hb u0 u1 u2 u3 v0 v1 v2 v3 eva eve
                              go_upto_region 19 with fail
                              go_region_held3 (fun X => (X.cell? ⟨g1, o1 + i * 4, none⟩ = some (.int .i64 A.n) ∧ X.cell? ⟨g1, o1 + i * 4 + 1, none⟩ = some (.slice A.ao A.m A.cap) ∧ X.cell? ⟨g1, o1 + i * 4 + 2, none⟩ = some (.int .i64 B.n) ∧ X.cell? ⟨g1, o1 + i * 4 + 3, none⟩ = some (.slice B.ao B.m B.cap)) ∧ X.cell? ⟨g1, o1 + k * 4, none⟩ = some (.int .i64 C.n) ∧ X.cell? ⟨g1, o1 + k * 4 + 1, none⟩ = some (.slice C.ao C.m C.cap) ∧ X.cell? ⟨g1, o1 + k * 4 + 2, none⟩ = some (.int .i64 D.n) ∧ X.cell? ⟨g1, o1 + k * 4 + 3, none⟩ = some (.slice D.ao D.m D.cap))
                                (((try dsimp only); (with_reducible refine kpC4 (Y := z3) HST.out ?_); repeat (first | (with_reducible exact Below.refl _ _) | (with_reducible assumption) | (with_reducible refine Below.drew ?_))))
                                ((go_at_call 26; refine (HRL.out _ (HST.out.za.1.below (Below.refl _ _).drew) (HST.out.zb.1.below (Below.refl _ _).drew) (HST.out.zc.1.below (Below.refl _ _).drew) (HST.out.zd.1.below (Below.refl _ _).drew)).mono ?_; rintro e z4 ⟨rfl, hb⟩; have by4 : Below z3.heap.size z3 z4 := bl_step (Below.refl _ _).drew hb; clear hb))
                              replace HST := hid1 (HST.out.below by4)
                              replace HB1 := hid1 (bl_step HB1.out by4)
                              clear by4 HRL gl1
                              have m0 := HST.out.rm.cell (i := 0) (by omega)
                              have n0 := HST.out.rl.cell (i := 0) (by omega)
                              have m1 := HST.out.rm.cell (i := 1) (by omega)
                              have n1 := HST.out.rl.cell (i := 1) (by omega)
                              have m2 := HST.out.rm.cell (i := 2) (by omega)
                              have n2 := HST.out.rl.cell (i := 2) (by omega)
                              have m3 := HST.out.rm.cell (i := 3) (by omega)
                              have n3 := HST.out.rl.cell (i := 3) (by omega)
                              go_wp2_with fail
                              refine (keptE_true A.m A.N G0 K0 A.ao A.cap z4 HST.out.za.2.2 HST.out.za.2.1 HST.out.o0 HST.out.za.wr).mono ?_
                              rintro e z5 ⟨rfl, hb⟩
                              replace HST := hid1 (HST.out.below hb)
                              replace HB1 := hid1 (bl_step HB1.out hb)
                              clear hb m0 n0 m1 n1 m2 n2 m3 n3
                              have m1 := HST.out.rm.cell (i := 1) (by omega)
                              have n1 := HST.out.rl.cell (i := 1) (by omega)
                              have m2 := HST.out.rm.cell (i := 2) (by omega)
                              have n2 := HST.out.rl.cell (i := 2) (by omega)
                              have m3 := HST.out.rm.cell (i := 3) (by omega)
                              have n3 := HST.out.rl.cell (i := 3) (by omega)
                              go_wp2_with fail
                              refine (keptE_true B.m B.N G1 K1 B.ao B.cap z5 HST.out.zb.2.2 HST.out.zb.2.1 HST.out.o1 HST.out.zb.wr).mono ?_
                              rintro e z6 ⟨rfl, hb⟩
                              replace HST := hid1 (HST.out.below hb)
                              replace HB1 := hid1 (bl_step HB1.out hb)
                              clear hb m1 n1 m2 n2 m3 n3
                              have m2 := HST.out.rm.cell (i := 2) (by omega)
                              have n2 := HST.out.rl.cell (i := 2) (by omega)
                              have m3 := HST.out.rm.cell (i := 3) (by omega)
                              have n3 := HST.out.rl.cell (i := 3) (by omega)
                              go_wp2_with fail
                              refine (keptE_true C.m C.N G2 K2 C.ao C.cap z6 HST.out.zc.2.2 HST.out.zc.2.1 HST.out.o2 HST.out.zc.wr).mono ?_
                              rintro e z7 ⟨rfl, hb⟩
                              replace HST := hid1 (HST.out.below hb)
                              replace HB1 := hid1 (bl_step HB1.out hb)
                              clear hb m2 n2 m3 n3
                              have m3 := HST.out.rm.cell (i := 3) (by omega)
                              have n3 := HST.out.rl.cell (i := 3) (by omega)
                              go_wp2_with fail
                              refine (keptE_true D.m D.N G3 K3 D.ao D.cap z7 HST.out.zd.2.2 HST.out.zd.2.1 HST.out.o3 HST.out.zd.wr).mono ?_
                              rintro e z8 ⟨rfl, hb⟩
                              replace HST := hid1 (HST.out.below hb)
                              replace HB1 := hid1 (bl_step HB1.out hb)
                              clear hb m3 n3
                              clear HST
                              go_wp2_with fail
                              exact ⟨⟨k + 1, by omega, by go_num, HB1.out⟩, by simp [intOf]; omega⟩
          · have hkN : k = N1 := by omega
            subst hkN
            go_wp2_with fail
            exact ⟨⟨i + 1, by omega, by go_num, B0⟩, by simp [intOf]; omega⟩
    · as_aux_lemma =>
        have hiN : i = N1 := by omega
        subst hiN
        clear R1 E1
        go_wp2_with fail
        go_loopw [19] (fun j wy => ∃ q : Nat, q ≤ N2 ∧ j = .int .i64 q ∧ Below w.heap.size w wy) (fun j _ => N2 - (intOf j).toNat)
        case atStart => exact ⟨0, Nat.zero_le _, rfl, B0⟩
        case round =>
          rename World => V
          clear B0
          obtain ⟨p, hp, rfl, B0⟩ := hrel
          by_cases hpl : p < N2
          · have pp : (p : Int) < (N2 : Int) := by omega
            have pp0 : (0 : Int) ≤ (p : Int) := by omega
            go_wp2_with fail
            go_loopw [20] (fun j wy => ∃ q : Nat, q ≤ N3 ∧ j = .int .i64 q ∧ Below w.heap.size w wy) (fun j _ => N3 - (intOf j).toNat)
            case atStart => exact ⟨0, Nat.zero_le _, rfl, B0⟩
            case round =>
              rename World => V1
              clear B0
              obtain ⟨q, hq, rfl, B0⟩ := hrel
              by_cases hql : q < N3
              · as_aux_lemma =>
                  have qq : (q : Int) < (N3 : Int) := by omega
                  have qq0 : (0 : Int) ≤ (q : Int) := by omega
                  obtain ⟨g2, o2, z, rfl, cz⟩ := R2.out p hpl
                  obtain ⟨g3, o3, xo, n, xc, l, rfl, cx, hln, hnb, hx0, hr8⟩ := R3.out q hql
                  replace cz := keepc B0 cz
                  replace cx := keepc B0 cx
                  replace hr8 := r8_below hr8 B0
                  obtain ⟨E, Lq, m, M1, M2, hmq, hS1, hS2⟩ := spreads z l (by rw [hln]; exact hnb)
                  rw [hln] at hS1 hS2
                  have HS1 := hid1 hS1
                  have HS2 := hid1 hS2
                  have HR8 := hid1 hr8
                  have HLN := hid1 hln
                  have HB0 := hid1 B0
                  have CZ := hid1 cz
                  have CX := hid1 cx
                  clear hS1 hS2 hr8 hln B0
                  go_wp2_with (at_builtin; refine app_nil8 rfl _ _ rfl (by go_simp) xo l n xc HLN.out (by go_simp) HR8.out hx0 hnb ?_; intro v1 w1 ow1 B1)
                  have HO1 := hid1 ow1
                  have HB1 := hid1 B1
                  clear ow1 B1 cx cz
                  go_loopw [22, 23] (fun a x wr => ∃ (u : Value) (i : Nat), i ≤ 20 ∧ a = u ∧ x = .int .i64 i ∧ wr.ownsRow V1.heap.size 69 1 u (n + i) (i8s (l ++ mks i)) ∧ Below V1.heap.size V1 wr) (fun _ x _ => 20 - (intOf x).toNat)
                  case atStart => exact ⟨_, 0, Nat.zero_le _, rfl, rfl, by simpa [mks] using HO1.out, HB1.out⟩
                  case round =>
                    rename World => Y
                    clear HO1 HB1
                    obtain ⟨u, i, hi, ea, rfl, ow, BB⟩ := hrel
                    replace ea := ea.symm
                    subst ea
                    have ii0 : (0 : Int) ≤ (i : Int) := by omega
                    by_cases hlt : i < 20
                    · have ii : (i : Int) < 20 := by omega
                      have wm : IntKind.i64.wrap (77 + (i : Int)) = 77 + (i : Int) := by rw [IntKind.wrap_i64]; omega
                      have wm2 : IntKind.i8.wrap (77 + (i : Int)) = 77 + (i : Int) := by simp [IntKind.wrap, IntKind.signed, IntKind.bits]; omega
                      have hsz := BB.size
                      have HO := hid1 ow
                      have HBB := hid1 BB
                      clear ow BB
                      go_wp2_with (at_builtin; refine app_one8 rfl _ _ rfl V1.heap.size u (l ++ mks i) (n + i) (by go_simp) (HO.out.alloc _) Y.heap.size (77 + (i : Int)) 1 (by go_simp) (by simp [go_sem]) (by omega) (by simp; omega) ?_; intro v2 w2 ow2 gr2)
                      have B2 : Below V1.heap.size V1 w2 := (HBB.out.alloc hsz _).grown gr2 (by simp; omega) (fun q hq => (HO.out.lt q hq).1)
                      rw [List.append_assoc, ← mks_snoc] at ow2
                      exact ⟨⟨v2, i + 1, by omega, rfl, by go_num, ow2, B2⟩, by simp [intOf]; omega⟩
                    · as_aux_lemma =>
                        obtain rfl : i = 20 := by omega
                        obtain ⟨G, K, f, rfl, hG, h4, _, _, _⟩ := own_row ow (by omega)
                        have R8A := hid1 (own8_r8 (by rw [List.length_append, mks_len, HLN.out]) ow)
                        replace HB0 := hid1 (bl_step HB0.out BB)
                        replace CZ := hid1 (keepc BB CZ.out)
                        replace CX := hid1 (keepc BB CX.out)
                        replace HR8 := hid1 (r8_below HR8.out BB)
                        have gz := lt_of_cell CZ.out
                        have in1 : (0 : Int) ≤ (n : Int) := by omega
                        have in2 : (n : Int) ≤ ((n + 20 : Nat) : Int) := by omega
                        have in3 : ((n + 20 : Nat) : Int) ≤ (K : Int) := by omega
                        have in4 : (n : Int) ≤ (n : Int) + 20 := by omega
                        have in5 : (n : Int) + 20 ≤ (K : Int) := by omega
                        clear ow BB hG
                        go_upto_region 34 with fail
                        go_cut [24, 25] from 203 to 215 (fun s24 s25 wx => ∃ bX b1 c1 b2 c2, s24 = .pointer (some ⟨bX, 0, none⟩) ∧ s25 = .int .i64 E ∧ wx.rowIs bX 46 4 (qf ⟨Lq, b1, m, c1, 0⟩ ⟨Lq, b2, m, c2, 0⟩) ∧ Wr wx b1 m M1 ∧ Wr wx b2 m M2 ∧ Below Y.heap.size Y wx)
                        case first =>
                          as_aux_lemma =>
                            go_region_held3 (fun X => X.cell? ⟨g2, o2 + p, none⟩ = some (.int .i64 z))
                              (((try dsimp only); (with_reducible refine keepc (W := Y) ?_ CZ.out); repeat (first | (with_reducible exact Below.refl _ _) | (with_reducible assumption) | (with_reducible refine Below.drew ?_) | (with_reducible refine bl_alloc ?_ _) | (with_reducible refine bl_set ?_ (Nat.le_refl _) _))))
                              ((go_at_call 16; refine (HS1.out _ (some ⟨G, 0, none⟩) (n + 20) (r8_below (r8_ahead R8A.out) (by repeat (first | (with_reducible exact Below.refl _ _) | (with_reducible refine Below.drew ?_) | (with_reducible refine bl_alloc ?_ _))))).mono ?_; rintro e z1 ⟨b1, c1, b2, c2, rfl, W1, W2, hb⟩; have HBY := hid1 hb; have by1 : Below Y.heap.size Y z1 := (by first | exact bl_step (Below.refl _ _).drew hb | exact bl_step (bl_alloc (Below.refl _ _) _).drew hb); have HW1 := hid1 W1; have HW2 := hid1 W2; (try (have VR := keepr HBY.out (q_new Y ⟨0, none, 0, 0, 0⟩ ⟨0, none, 0, 0, 0⟩ 46).drew; have v0 := q0 VR; have v1 := q1 VR; have v2 := q2 VR; have v3 := q3 VR; have f0 := VR.frozen 0; have f1 := VR.frozen 1; have f2 := VR.frozen 2; have f3 := VR.frozen 3; have HVR := hid1 VR; clear VR)); clear hb W1 W2))
                            all_goals (refine kmeet_of (by assumption) ?_; go_meet)
                            · exact ⟨_, b1, c1, b2, c2, rfl, rfl, q_new z1 ⟨Lq, b1, m, c1, 0⟩ ⟨Lq, b2, m, c2, 0⟩ _, HW1.out.1.below (bl_alloc (Below.refl _ _) _), HW2.out.1.below (bl_alloc (Below.refl _ _) _), bl_alloc by1 _⟩
                            · have hlt2 : ∀ {U : World} {x : Option Addr} {mm N : Nat}, Y.heap.size < U.heap.size → Wn U z1 x mm N → Wr ((((z1.setCell ⟨Y.heap.size, 0, none⟩ (.int .i64 Lq)).setCell ⟨Y.heap.size, 1, none⟩ (.slice b1 m c1)).setCell ⟨Y.heap.size, 2, none⟩ (.int .i64 Lq)).setCell ⟨Y.heap.size, 3, none⟩ (.slice b2 m c2)) x mm N := fun hU h => ((((h.set (b := Y.heap.size) hU _).set (b := Y.heap.size) hU _).set (b := Y.heap.size) hU _).set (b := Y.heap.size) hU _).1
                              exact ⟨_, b1, c1, b2, c2, rfl, rfl, q_allE HVR.out ⟨Lq, b1, m, c1, 0⟩ ⟨Lq, b2, m, c2, 0⟩, hlt2 (by simp) HW1.out, hlt2 (by simp) HW2.out, bl_set (bl_set (bl_set (bl_set by1 (Nat.le_refl _) _) (Nat.le_refl _) _) (Nat.le_refl _) _) (Nat.le_refl _) _⟩
                        case rest =>
                          as_aux_lemma =>
                            obtain ⟨bX, b1, c1, b2, c2, rfl, rfl, RX, W1, W2, BX⟩ := hcut
                            rename World => Y2
                            replace HB0 := hid1 (bl_step HB0.out BX)
                            replace CZ := hid1 (keepc BX CZ.out)
                            replace CX := hid1 (keepc BX CX.out)
                            replace HR8 := hid1 (r8_below HR8.out BX)
                            replace R8A := hid1 (r8_below R8A.out BX)
                            have HRX := hid1 RX
                            have HWA := hid1 W1
                            have HWB := hid1 W2
                            have gz := lt_of_cell CZ.out
                            have gx := lt_of_cell CX.out
                            clear RX W1 W2 BX
                            go_upto_region 35 with fail
                            go_cut [26, 27] from 216 to 227 (fun s26 s27 wx => ∃ bY d1 k1 d2 k2, s26 = .pointer (some ⟨bY, 0, none⟩) ∧ s27 = .int .i64 E ∧ wx.rowIs bY 46 4 (qf ⟨Lq, d1, m, k1, 0⟩ ⟨Lq, d2, m, k2, 0⟩) ∧ Wr wx d1 m M1 ∧ Wr wx d2 m M2 ∧ Below Y2.heap.size Y2 wx)
                            case first =>
                              as_aux_lemma =>
                                go_region_held3 (fun X => X.cell? ⟨g2, o2 + p, none⟩ = some (.int .i64 z) ∧ X.cell? ⟨g3, o3 + q, none⟩ = some (.slice xo n xc))
                                  (((try dsimp only); (with_reducible refine keepc2 (W := Y2) CZ.out CX.out ?_); repeat (first | (with_reducible exact Below.refl _ _) | (with_reducible assumption) | (with_reducible refine Below.drew ?_) | (with_reducible refine bl_alloc ?_ _) | (with_reducible refine bl_set ?_ (Nat.le_refl _) _))))
                                  ((go_at_call 28; refine (HS2.out _ xo xc (r8_below HR8.out (by repeat (first | (with_reducible exact Below.refl _ _) | (with_reducible refine Below.drew ?_) | (with_reducible refine bl_alloc ?_ _))))).mono ?_; rintro e z1 ⟨d1, k1, d2, k2, rfl, W1, W2, hb⟩; have HBY := hid1 hb; have by1 : Below Y2.heap.size Y2 z1 := (by first | exact bl_step (Below.refl _ _).drew hb | exact bl_step (bl_alloc (Below.refl _ _) _).drew hb); have HW1 := hid1 W1; have HW2 := hid1 W2; (try (have VR := keepr HBY.out (q_new Y2 ⟨0, none, 0, 0, 0⟩ ⟨0, none, 0, 0, 0⟩ 46).drew; have v0 := q0 VR; have v1 := q1 VR; have v2 := q2 VR; have v3 := q3 VR; have f0 := VR.frozen 0; have f1 := VR.frozen 1; have f2 := VR.frozen 2; have f3 := VR.frozen 3; have HVR := hid1 VR; clear VR)); clear hb W1 W2))
                                all_goals (refine kmeet_of (by assumption) ?_; go_meet)
                                · exact ⟨_, d1, k1, d2, k2, rfl, rfl, q_new z1 ⟨Lq, d1, m, k1, 0⟩ ⟨Lq, d2, m, k2, 0⟩ _, HW1.out.1.below (bl_alloc (Below.refl _ _) _), HW2.out.1.below (bl_alloc (Below.refl _ _) _), bl_alloc by1 _⟩
                                · have hlt2 : ∀ {U : World} {x : Option Addr} {mm N : Nat}, Y2.heap.size < U.heap.size → Wn U z1 x mm N → Wr ((((z1.setCell ⟨Y2.heap.size, 0, none⟩ (.int .i64 Lq)).setCell ⟨Y2.heap.size, 1, none⟩ (.slice d1 m k1)).setCell ⟨Y2.heap.size, 2, none⟩ (.int .i64 Lq)).setCell ⟨Y2.heap.size, 3, none⟩ (.slice d2 m k2)) x mm N := fun hU h => ((((h.set (b := Y2.heap.size) hU _).set (b := Y2.heap.size) hU _).set (b := Y2.heap.size) hU _).set (b := Y2.heap.size) hU _).1
                                  exact ⟨_, d1, k1, d2, k2, rfl, rfl, q_allE HVR.out ⟨Lq, d1, m, k1, 0⟩ ⟨Lq, d2, m, k2, 0⟩, hlt2 (by simp) HW1.out, hlt2 (by simp) HW2.out, bl_set (bl_set (bl_set (bl_set by1 (Nat.le_refl _) _) (Nat.le_refl _) _) (Nat.le_refl _) _) (Nat.le_refl _) _⟩
                            case rest =>
                              as_aux_lemma =>
                                obtain ⟨bY, d1, k1, d2, k2, rfl, rfl, RY, W3, W4, BY⟩ := hcut
                                rename World => Y3
                                replace HB0 := hid1 (bl_step HB0.out BY)
                                replace CX := hid1 (keepc BY CX.out)
                                replace HR8 := hid1 (r8_below HR8.out BY)
                                replace R8A := hid1 (r8_below R8A.out BY)
                                have W1 := HWA.out.below BY
                                have W2 := HWB.out.below BY
                                have RX := keepr BY HRX.out
                                have u0 := q0 RX
                                have u1 := q1 RX
                                have u2 := q2 RX
                                have u3 := q3 RX
                                have v0 := q0 RY
                                have v1 := q1 RY
                                have v2 := q2 RY
                                have v3 := q3 RY
                                have HSR := hid1 (prow_same ⟨Lq, b1, m, c1, 0⟩ ⟨Lq, b2, m, c2, 0⟩ ⟨Lq, d1, m, k1, 0⟩ ⟨Lq, d2, m, k2, 0⟩ Y3 (by show m ≤ _; omega) (by show m ≤ _; omega) rfl rfl rfl rfl M1 M2 W1 W2 W3 W4)
                                clear RX RY W1 W2 W3 W4 BY HRX HWA HWB HS1 HS2 CZ
                                go_wp2_with fail
                                refine HSR.out.mono ?_
                                rintro e Y4 ⟨rfl, hb⟩
                                replace HB0 := hid1 (bl_step HB0.out hb)
                                replace CX := hid1 (keepc hb CX.out)
                                replace HR8 := hid1 (r8_below HR8.out hb)
                                replace R8A := hid1 (r8_below R8A.out hb)
                                clear hb u0 u1 u2 u3 v0 v1 v2 v3 HSR
                                go_wp2_with fail
                                go_loopw [28] (fun j wy => ∃ t : Nat, t ≤ n + 20 ∧ j = .int .i64 t ∧ Below Y4.heap.size Y4 wy) (fun j _ => n + 20 - (intOf j).toNat)
                                case atStart => exact ⟨0, Nat.zero_le _, rfl, Below.refl _ _⟩
                                case round =>
                                  rename World => Z
                                  obtain ⟨t, ht, rfl, BZ⟩ := hrel
                                  have tt0 : (0 : Int) ≤ (t : Int) := by omega
                                  by_cases htl : t < n + 20
                                  · as_aux_lemma =>
                                      have tt1 : (t : Int) < (n : Int) + 20 := by omega
                                      obtain ⟨ga, oa, ea, ca⟩ := R8A.out t (by rw [List.length_append, mks_len, HLN.out]; exact htl)
                                      cases ea
                                      replace ca := keepc BZ ca
                                      rw [Nat.zero_add] at ca
                                      have cx := keepc BZ CX.out
                                      by_cases htn : t < n
                                      · have tt2 : (t : Int) < (n : Int) := by omega
                                        obtain ⟨gb, ob, eb, cb⟩ := HR8.out t (by rw [HLN.out]; exact htn)
                                        cases eb
                                        replace cb := keepc BZ cb
                                        rw [ia_ahead l _ (by rw [HLN.out]; exact htn)] at ca
                                        obtain ⟨y, ey⟩ : ∃ y, ia l t = y := ⟨_, rfl⟩
                                        rw [ey] at ca cb
                                        clear ey
                                        have gd1 : decide ((t : Int) < (n : Int)) = true := decide_eq_true tt2
                                        have gd2 : decide (n ≤ t) = false := decide_eq_false (by omega)
                                        go_upto_region 41 with fail
                                        go_quiet (fail)
                                        go_wp2_with fail
                                        exact ⟨⟨t + 1, by omega, by go_num, bl_drewN BZ _⟩, by simp [intOf]; omega⟩
                                      · have tt2 : ¬ (t : Int) < (n : Int) := by omega
                                        have tt3 : (n : Int) ≤ (t : Int) := by omega
                                        obtain ⟨y, ey⟩ : ∃ y : Int, y = 77 + (t : Int) - (n : Int) := ⟨_, rfl⟩
                                        have hia := ia_mks l (i := 20) (j := t - n) (by omega)
                                        rw [HLN.out, show n + (t - n) = t by omega, show (77 : Int) + ((t - n : Nat) : Int) = y by omega] at hia
                                        rw [hia] at ca
                                        clear hia
                                        have w1 : IntKind.i64.wrap (77 + (t : Int)) = 77 + (t : Int) := by rw [IntKind.wrap_i64]; omega
                                        have w2 : IntKind.i64.wrap (77 + (t : Int) - (n : Int)) = y := by rw [IntKind.wrap_i64]; omega
                                        have w3 : IntKind.i8.wrap y = y := by simp [IntKind.wrap, IntKind.signed, IntKind.bits]; omega
                                        have gd1 : decide ((t : Int) < (n : Int)) = false := decide_eq_false tt2
                                        have gd2 : decide ((n : Int) ≤ (t : Int)) = true := decide_eq_true tt3
                                        clear ey
                                        go_upto_region 41 with fail
                                        go_quiet (fail)
                                        go_wp2_with fail
                                        exact ⟨⟨t + 1, by omega, by go_num, bl_drewN BZ _⟩, by simp [intOf]; omega⟩
                                  · have htN : t = n + 20 := by omega
                                    subst htN
                                    go_wp2_with fail
                                    exact ⟨⟨q + 1, by omega, by go_num, bl_step HB0.out BZ⟩, by simp [intOf]; omega⟩
              · have hqN : q = N3 := by omega
                subst hqN
                go_wp2_with fail
                exact ⟨⟨p + 1, by omega, by go_num, B0⟩, by simp [intOf]; omega⟩
          · have hpN : p = N2 := by omega
            subst hpN
            go_wp2_with fail
            go_ret
            exact ⟨rfl, B0⟩
end Go.Proofs.Ytlilldgconlchaa
namespace Go.Proofs.Ytlilldgconlchaa
open Go.ChangeShapes Go.WideShapes Go.ChangeAt Go.RowKit

set_option maxRecDepth 100000 in
theorem patchRows_lifted (os : Os) (started : os.Started) (H : Type) (enc : TypeId × Value → H) :
    ReturnsInHanded {} Try.checked os 6 .any (Rows.patchRowsSpec.pre6 enc Try.prog Try.f6 Rows.patchRowsRow.domain false) (Rows.patchRowsSpec.post enc Try.prog Try.f6 false true false false) := by
  refine returnsInHanded_of_change_sized (C := Try.checked) own started (by kernel_rfl) Try.func6
    (ChangeSpec.witness6 (enc := enc) (C := Try.checked) false ⟨#[], #[.slice none 0 0, .slice none 0 0, .slice none 0 0], []⟩ 8 (by kernel_rfl) (by kernel_rfl) (by kernel_rfl) (by kernel_rfl)) ?_
  intro W base args ds gs before hval0 hW hcnd hsz _
  have hval : ∀ (j : Nat) t v, Try.f6.params[j]? = some t → args[j]? = some v → Value.okWide Try.prog W .any base t v := hval0
  have hW' := hW
  obtain ⟨p, q, hA0, hV, rfl, hfz, hnd⟩ := hW
  have hA : DataW.TrodAll enc Try.prog W 0 (fun _ => true) true Try.f6.params.toList args.toList ds p := hA0
  rw [Try.params6] at hA hval hsz
  obtain ⟨v0, vs0, d0, ds0, p0, q0, hargs, rfl, rfl, h0, r0⟩ := trodAll_cons hA
  obtain ⟨v1, vs1, d1, ds1, p1, q1, rfl, rfl, rfl, h1, r1⟩ := trodAll_cons r0
  obtain ⟨v2, vs2, d2, ds2, p2, q2, rfl, rfl, rfl, h2, r2⟩ := trodAll_cons r1
  obtain ⟨rfl, rfl, rfl⟩ := trodAll_nil r2
  obtain rfl : args = #[v0, v1, v2] := by cases args; simp_all
  obtain ⟨rfl, rfl⟩ := trodVars_none hV
  have lt0 : ∀ x ∈ p0, x.block < W.heap.size := by obtain ⟨m, hm⟩ := h0; exact DataW.trod_lt m _ _ _ hm
  have k0 := h0
  have lt1 : ∀ x ∈ p1, x.block < W.heap.size := by obtain ⟨m, hm⟩ := h1; exact DataW.trod_lt m _ _ _ hm
  have k1 := h1
  have lt2 : ∀ x ∈ p2, x.block < W.heap.size := by obtain ⟨m, hm⟩ := h2; exact DataW.trod_lt m _ _ _ hm
  have k2 := h2
  obtain ⟨ao0, l0, c0, rfl, hm0, f0⟩ := open_rows (hval 0 37 v0 rfl rfl) h0 (fun n hn => by have := List.all_eq_true.1 hsz _ (DataW.weights_mem_each (j := 0) (t := 37) (d := d0) rfl rfl n hn); simpa using this)
  obtain ⟨ao1, m1, c1, rfl, hm1, f1⟩ := open_i64l (hval 1 64 v1 rfl rfl) h1
  obtain ⟨ao2, m2, c2, rfl, hm2, f2⟩ := open_l8 (hval 2 65 v2 rfl rfl) h2 (fun n hn => by have := List.all_eq_true.1 hsz _ (DataW.weights_mem_each (j := 2) (t := 65) (d := d2) rfl rfl n hn); simpa using this)
  clear hA0 hval0
  refine (patchRows_any ao0 l0 c0 hm0 ao1 m1 c1 hm1 ao2 m2 c2 hm2 W f0 f1 f2).mono fun e W' ⟨he, bel⟩ => ?_
  subst he
  exact ⟨_, rfl, _, _, _, [], _, [], hW', trodAll_mk1 (shut_bool Try.underlying4 _), (trodAll_cons_mk (Below.trod laidOut (by kernel_rfl) (of_decide_eq_true (by kernel_rfl)) k0 bel lt0) (trodAll_cons_mk (Below.trod laidOut (by kernel_rfl) (of_decide_eq_true (by kernel_rfl)) k1 bel lt1) (trodAll_cons_mk (Below.trod laidOut (by kernel_rfl) (of_decide_eq_true (by kernel_rfl)) k2 bel lt2) trodAll_mk0))), rfl, bel.frame _, fun h => by cases h⟩

theorem patchRows_holds : Rows.PatchRowsSaid :=
  OpenClaim.holds_of_wide 6 Try.f6 rfl rfl rfl rfl rfl rfl rfl ⟨rfl, rfl, rfl, rfl, rfl⟩ rfl rfl rfl rfl rfl (by kernel_rfl) Try.func6 (by kernel_rfl)
    (of_decide_eq_true (by kernel_rfl)) (by unfold Func.isWrapper; first | (rw [if_pos (by decide +kernel)]; kernel_rfl) | (rw [if_neg (by decide +kernel)]; exact ⟨rfl, rfl⟩))
    (fun os started H enc _ => patchRows_lifted os started H enc)
#print axioms patchRows_holds
end Go.Proofs.Ytlilldgconlchaa
