/- NETWORKS: WALK. -/
import Derived.Test.YtlgjoepeibodkaaGreatNP5
namespace Go.Proofs.YtlgjoepeibodkaaGreat.Nn
open Go.RowKit

def SpAny (W : World) (g : Nat) (S : Sp) : Prop := ∃ x y, W.rowIs g 97 6 (spf (sfl S x y))
theorem Exc.below {a W X : World} {x : Nat} (h : Exc x W X) (hb : Below a.heap.size a W) (hx : a.heap.size ≤ x) (ht : X.tape = W.tape ∧ X.os = W.os ∧ X.output = W.output) : Below a.heap.size a X :=
  ⟨ht.2.1.trans hb.os, ht.1.trans hb.tape, ht.2.2.trans hb.output, by rw [h.1]; exact hb.size, fun k hk => (h.2 k (by omega)).trans (hb.block k hk)⟩
set_option maxHeartbeats 3200000 in
set_option maxRecDepth 100000 in
theorem walk_any (N : Nt) (w : World) (hN : NtW w N) : Calls Tryz.prog 33 #[ntv N] w fun e w' => ∃ v, e = .returned (.tuple #[v, .int .i64 (chA N), .int .i64 (chE N)]) ∧ Below w.heap.size w w' ∧ WkP N w w' v := by
  have HW := hid1 hN
  have CW := whole_any N hN.2.2 hN.2.1
  clear hN
  by_cases hw0 : whE N = 0
  · have HP := hid1 (wh_parts hw0)
    have HZ := hid1 hw0
    rw [hw0] at CW
    clear hw0
    go_enter Tryz.func33, Tryz.ntmps33
    go_wp2_with fail
    refine gen_calls (fun X => Below w.heap.size w X ∧ Nb X w.heap.size N) ⟨by repeat (first | (with_reducible exact Below.refl _ _) | (with_reducible refine bl_alloc ?_ _) | (with_reducible refine Below.drew ?_) | (with_reducible refine bl_drewN ?_ _) | (with_reducible refine bl_set ?_ (by omega) _) | (with_reducible refine bl_step ?_ (by assumption))), nb_new _ _ _⟩ ?_
    rintro X ⟨BX, NX⟩
    refine (CW X).mono ?_
    rintro e w1 ⟨rfl, hb⟩
    replace BX := bl_step BX hb
    replace NX := NX.keep hb
    clear hb X CW
    go_wp2_with fail
    refine (points_any w1).mono ?_
    rintro e w2 ⟨rfl, PT, hb⟩
    replace BX := bl_step BX hb
    replace NX := NX.keep hb
    obtain ⟨g, hg⟩ : ∃ g, g = w2.heap.size := ⟨_, rfl⟩
    obtain ⟨b, hb1⟩ : ∃ b, b = w1.heap.size := ⟨_, rfl⟩
    rw [← hb1] at PT
    obtain ⟨w3, mk, BY, RY, zs⟩ : ∃ w3, (Instr.makeSlice 65 (.int .i64 (N.ml : Int)) (.int .i64 (N.ml : Int))).run Tryz.prog w2 = .ok (.slice (some ⟨g, 0, none⟩) N.ml N.ml) w3 ∧ Below w2.heap.size w2 w3 ∧ w3.rowIs g 23 (N.ml * 3) (fun _ => .int .i64 0) ∧ w3.heap.size = g + 1 :=
      ⟨_, by rw [hg]; exact make_shps N.ml (by have := HP.out; omega) w2, bl_alloc (Below.refl _ _) _, by rw [hg]; have := World.rowIs_alloc w2 (madeCells zsh (N.ml * 3)) 23 (fun _ => .int .i64 0) (fun i hi => made_zero _ _ (by rwa [size_madeCells] at hi)); rwa [size_madeCells] at this, by simp [hg]⟩
    have hgw : w.heap.size < g := by rw [hg]; exact lt_of_cell NX.1
    have hbg : b + 3 < g := by rw [hg]; exact PT.lt
    obtain ⟨d0, d1, d2, d3, d4⟩ := NX
    replace NX := (show Nb w2 w.heap.size N from ⟨d0, d1, d2, d3, d4⟩).keep BY
    replace PT := PT.keep BY
    replace BX := bl_step BX BY
    have KN := hid1 NX
    have KP := hid1 PT
    have KR := hid1 RY
    obtain ⟨c0, c1, c2, c3, c4⟩ := NX
    clear hb PT BY RY hg
    rw [← hb1]
    clear hb1
    go_wp2_with fail
    clear mk c0 c1 c2 c3 c4 d0 d1 d2 d3 d4
    refine gen_world (fun X => Below w.heap.size w X ∧ Nb X w.heap.size N ∧ Pts X b ∧ X.rowIs g 23 (N.ml * 3) (shf N 0) ∧ X.rowIs (g + 1) 97 6 (spf (sfl (sp N 0) false false)) ∧ g + 1 < X.heap.size) ⟨by repeat (first | (with_reducible exact Below.refl _ _) | (with_reducible refine bl_alloc ?_ _) | (with_reducible refine Below.drew ?_) | (with_reducible refine bl_drewN ?_ _) | (with_reducible refine bl_set ?_ (by omega) _) | (with_reducible refine bl_step ?_ (by assumption))), KN.out.keep (bl_alloc (Below.refl _ _) _), KP.out.keep (bl_alloc (Below.refl _ _) _), (rowIs_keep KR.out (bl_alloc (Below.refl _ _) _)).congr (fun i _ => shf_zero N i), by rw [← zs]; exact spot_new w3 (sfl (sp N 0) false false) _, by simp [zs]⟩ ?_
    clear KN KP KR BX zs
    rintro Z ⟨BZ, NZ, PZ, RZ, SZ, hz⟩
    have K1 := hid1 NZ
    have K2 := hid1 PZ
    have K3 := hid1 RZ
    have K4 := hid1 SZ
    clear NZ PZ RZ SZ
    go_loopw [28] (fun i wr => ∃ k : Nat, k ≤ N.ml ∧ i = .int .i64 k ∧ Hid (∀ j, j < k → fl N j = 0) ∧ Below w.heap.size w wr ∧ Hid (Nb wr w.heap.size N) ∧ Hid (Pts wr b) ∧ Hid (wr.rowIs g 23 (N.ml * 3) (shf N k)) ∧ Hid (SpAny wr (g + 1) (sp N k)) ∧ g + 1 < wr.heap.size) (fun i _ => N.ml - (intOf i).toNat)
    case atStart => exact ⟨0, Nat.zero_le _, rfl, hid1 fun j hj => absurd hj (by omega), BZ, K1, K2, K3, hid1 ⟨_, _, K4.out⟩, hz⟩
    case round =>
      clear BZ K1 K2 K3 K4 hz
      obtain ⟨k, hk, rfl, HQ, BX, K1, K2, K3, K4, hz⟩ := hrel
      have ik0 : (0 : Int) ≤ (k : Int) := by omega
      by_cases hlt : k < N.ml
      · have ik : (k : Int) < (N.ml : Int) := by omega
        obtain ⟨gl, o, ea, LC, LL⟩ := (HW.out.keep BX).1 k hlt
        obtain ⟨sx, sy, RS⟩ := K4.out
        have HLS := hid1 LL
        have HFL := hid1 (show fl N k = faE (N.lf k) (sp N k) from rfl)
        generalize hLk : N.lf k = L at LC LL HLS HFL
        have HL := hid1 hLk
        clear LL hLk
        obtain ⟨c0, c1, c2, c3, c4, c5, c6, c7, c8, c9, c10, c11, c12, c13, c14⟩ := LC
        obtain ⟨bl, hbl⟩ : ∃ x, wr.heap.size = x := ⟨_, rfl⟩
        go_wp2_with fail
        clear c0 c1 c2 c3 c4 c5 c6 c7 c8 c9 c10 c11 c12 c13 c14
        refine gen_world (fun X => Below wr.heap.size wr X ∧ Lp X bl L ∧ X.heap.size = bl + 1) ⟨by repeat (first | (with_reducible exact Below.refl _ _) | (with_reducible refine bl_alloc ?_ _) | (with_reducible refine Below.drew ?_) | (with_reducible refine bl_drewN ?_ _) | (with_reducible refine bl_set ?_ (by omega) _) | (with_reducible refine bl_step ?_ (by assumption))), lp_new' hbl L _, by simp [hbl]⟩ ?_
        rintro V ⟨BV, LV, zV⟩
        have RV := rowIs_keep RS BV
        have NV := K1.out.keep BV
        have q1 := sp_first N k
        have q2 := sp_last N k hlt HP.out.2.2.2
        have hok := sp_ok HP.out.2.1 HQ.out
        generalize hSk : sp N k = S at RV q1 q2 HFL hok
        have HS := hid1 hSk
        have HR := hid1 RV
        have HOK := hid1 hok
        have HLV := hid1 LV
        clear RS hSk hok LV
        obtain ⟨s0, s1, s2, s3, s4, s5⟩ := spot_cells RV
        have f4 := RV.frozen 4
        have f5 := RV.frozen 5
        have HNV := hid1 NV
        obtain ⟨n0, n1, n2, n3, n4⟩ := NV
        have hgl := RV.lt
        have HBV := hid1 (bl_step BX BV)
        clear RV BX
        go_region
        refine gen_then (fun X => Below w.heap.size w X ∧ Exc (g + 1) V X ∧ X.rowIs (g + 1) 97 6 (spf S)) ⟨by have := HBV.out; repeat (first | (with_reducible exact Below.refl _ _) | (with_reducible refine bl_alloc ?_ _) | (with_reducible refine Below.drew ?_) | (with_reducible refine bl_drewN ?_ _) | (with_reducible refine bl_set ?_ (by omega) _) | (with_reducible refine bl_step ?_ (by assumption))), by first | exact (((Exc.refl _ _).set _ _).set _ _).drew, by first | (rw [q2]; exact spot_set HR.out) | exact spot_set HR.out⟩ ?_
        rintro U ⟨BU, EU, RU⟩
        have LU := HLV.out.of_block (EU.2 bl (by omega))
        have KL := hid1 LU
        have KN := hid1 (HNV.out.of_block (EU.2 _ (by omega)))
        have KP := hid1 ((K2.out.keep BV).of_blocks (fun i hi => EU.2 i (by omega)))
        have KR := hid1 ((rowIs_keep K3.out BV).of_block (EU.2 g (by omega)))
        have KS := hid1 RU
        have HLU := hid1 (HW.out.keep BU)
        have zU : U.heap.size = bl + 1 := by rw [EU.1, zV]
        clear HLV HNV K1 K2 K3 K4 HR EU zV HBV f4 f5 n0 n1 n2 n3 n4 s0 s1 s2 s3 s4 s5 BV hgl V q1 q2 HLS
        obtain ⟨s0, s1, s2, s3, s4, s5⟩ := spot_cells RU
        obtain ⟨c0, c1, c2, c3, c4, c5, c6, c7, c8, c9, c10, c11, c12, c13, c14⟩ := LU
        clear RU
        go_wp2_with fail
        have LUL : Lst U L := by
          obtain ⟨_, _, _, _, h⟩ := HLU.out.1 k hlt
          rwa [HL.out] at h
        refine (fault_any L S HOK.out.1 HOK.out.2 b U KP.out LUL).mono ?_
        rintro e U2 ⟨rfl, hb⟩
        replace KL := hid1 (KL.out.keep hb)
        replace KN := hid1 (KN.out.keep hb)
        replace KP := hid1 (KP.out.keep hb)
        replace KR := hid1 (rowIs_keep KR.out hb)
        replace KS := hid1 (rowIs_keep KS.out hb)
        replace BU := bl_step BU hb
        have zU2 : bl < U2.heap.size := by have := hb.size; omega
        clear hb LUL HLU zU c0 c1 c2 c3 c4 c5 c6 c7 c8 c9 c10 c11 c12 c13 c14 s0 s1 s2 s3 s4 s5 U
        have HST := hid1 (fun h => sp_step (L := L) (S := S) HOK.out h)
        have HFK := hid1 (fun h => fok_of (L := L) (S := S) h)
        generalize faE L S = x at HFL HST HFK
        by_cases hx : x = 0
        · have hx2 : (x != 0) = false := by simpa using hx
          have hf := HFK.out hx
          have hst := HST.out hx
          have H0 : Hid (fl N k = 0) := hid1 (HFL.out.trans hx)
          clear HFK HST hx HFL
          have cW := weightCount_any L S.h S.v S.c HOK.out.1 hf.1 hf.2
          have cO := output_any L S.h S.v S.c
          have hwc := wc_b HOK.out.1 hf.1 hf.2
          have ha := HOK.out.2
          have HF := hid1 hf
          have HST := hid1 hst
          clear hf hst
          have ER : Hid ((sp N (k + 1)).h = oH L S.h S.v S.c ∧ (sp N (k + 1)).v = oV L S.h S.v S.c ∧ (sp N (k + 1)).c = oC L S.h S.v S.c ∧ (sp N (k + 1)).ah = S.ah + wc L S.h S.v S.c) := hid1 (by
            show oH (N.lf k) (sp N k).h (sp N k).v (sp N k).c = _ ∧ oV (N.lf k) (sp N k).h (sp N k).v (sp N k).c = _ ∧ oC (N.lf k) (sp N k).h (sp N k).v (sp N k).c = _ ∧ (sp N k).ah + wc (N.lf k) (sp N k).h (sp N k).v (sp N k).c = _
            rw [HL.out, HS.out]; exact ⟨rfl, rfl, rfl, rfl⟩)
          generalize wc L S.h S.v S.c = p at *
          have hA1 : -9223372036854775808 ≤ S.ah + p := by omega
          have hA2 : S.ah + p ≤ 9223372036854775807 := by omega
          go_wp2_with fail
          refine ahead_any _ _ _ _ _ _ _ _ _ _ _ _ _ _ _ _ _ _ _ _ _ _ _ _ _ _ _ _ _ _ _ _ _ _ _ _ _ _ _ _ _ _ _ _ _ _ _ _ _ _ _ _ _ _ _ _ _ _ _ _ _ _ _ _ _ _ _ _ _ _ _ _ (g + 1) bl L S p U2 _ cW KS KL.out hA1 hA2 (hid1 ?_)
          intro x1 Y hB EY RY ht
          have BY := EY.below (bl_step BU hB) (by omega) ht
          have hL1 := (KL.out.keep hB).of_block (EY.2 bl (by omega))
          have hN1 := hid1 ((KN.out.keep hB).of_block (EY.2 _ (by omega)))
          have hP1 := hid1 ((KP.out.keep hB).of_blocks (fun i hi => EY.2 i (by omega)))
          have hR1 := hid1 ((rowIs_keep KR.out hB).of_block (EY.2 g (by omega)))
          have hS1 := hid1 RY
          have zY : bl < Y.heap.size := by rw [EY.1]; have := hB.size; omega
          clear EY hB ht KL KN KP KR KS BU zU2 cW hA1 hA2 x1 U2
          obtain ⟨s0, s1, s2, s3, s4, s5⟩ := spot_cells RY
          obtain ⟨c0, c1, c2, c3, c4, c5, c6, c7, c8, c9, c10, c11, c12, c13, c14⟩ := hL1
          clear RY
          go_wp2_with fail
          refine (cO _).mono ?_
          rintro e y1 ⟨rfl, hb⟩
          replace hN1 := hid1 (hN1.out.keep hb)
          replace hP1 := hid1 (hP1.out.keep hb)
          replace hR1 := hid1 (rowIs_keep hR1.out hb)
          replace hS1 := hid1 (rowIs_keep hS1.out hb)
          replace BY := bl_step BY hb
          have zY1 : bl < y1.heap.size := by have := hb.size; omega
          clear hb zY s0 s1 s2 s3 s4 s5 c0 c1 c2 c3 c4 c5 c6 c7 c8 c9 c10 c11 c12 c13 c14 cO Y
          obtain ⟨s0, s1, s2, s3, s4, s5⟩ := spot_cells hS1.out
          have f0 := hS1.out.frozen 0
          have f1 := hS1.out.frozen 1
          have f2 := hS1.out.frozen 2
          go_upto_region 16 with fail
          clear s0 s1 s2 s3 s4 s5 f0 f1 f2
          refine gen_world (fun X => Below w.heap.size w X ∧ Exc (g + 1) y1 X ∧ X.rowIs (g + 1) 97 6 (spf ⟨oH L S.h S.v S.c, oV L S.h S.v S.c, oC L S.h S.v S.c, S.ah + p, S.fs, S.la⟩)) ⟨by repeat (first | (with_reducible exact Below.refl _ _) | (with_reducible refine bl_alloc ?_ _) | (with_reducible refine Below.drew ?_) | (with_reducible refine bl_drewN ?_ _) | (with_reducible refine bl_set ?_ (by omega) _) | (with_reducible refine bl_step ?_ (by assumption))), ((((Exc.refl _ _).set _ _).set _ _).set _ _), spot_in hS1.out⟩ ?_
          rintro T ⟨BT, ET, RT⟩
          have hN2 := hid1 (hN1.out.of_block (ET.2 _ (by omega)))
          have hP2 := hid1 (hP1.out.of_blocks (fun i hi => ET.2 i (by omega)))
          have hR2 := hid1 (hR1.out.of_block (ET.2 g (by omega)))
          have hS2 := hid1 RT
          have zT : bl < T.heap.size := by rw [ET.1]; exact zY1
          clear hN1 hP1 hR1 hS1 ET BY zY1 y1
          obtain ⟨s0, s1, s2, s3, s4, s5⟩ := spot_cells RT
          have r0 := hR2.out.cell (i := k * 3) (by omega)
          have r1 := hR2.out.cell (i := k * 3 + 1) (by omega)
          have r2 := hR2.out.cell (i := k * 3 + 2) (by omega)
          have f0 := hR2.out.frozen (k * 3)
          have f1 := hR2.out.frozen (k * 3 + 1)
          have f2 := hR2.out.frozen (k * 3 + 2)
          have hk64 : (k : Int) < 64 := by have := HP.out.2.2.2; omega
          clear RT
          generalize oH L S.h S.v S.c = oh at *
          generalize oV L S.h S.v S.c = ov at *
          generalize oC L S.h S.v S.c = oc at *
          go_wp2_with fail
          clear s0 s1 s2 s3 s4 s5 r0 r1 r2 f0 f1 f2
          have EX : Exc g T (((T.setCell ⟨g, k * 3, none⟩ (.int .i64 oh)).setCell ⟨g, k * 3 + 1, none⟩ (.int .i64 ov)).setCell ⟨g, k * 3 + 2, none⟩ (.int .i64 oc)) := (((Exc.refl _ _).set _ _).set _ _).set _ _
          have BF := EX.below BT (by omega) ⟨rfl, rfl, rfl⟩
          have RF := shf_set ER.out.1 ER.out.2.1 ER.out.2.2.1 hR2.out
          have NF := hN2.out.of_block (EX.2 _ (by omega))
          have PF := hP2.out.of_blocks (fun i hi => EX.2 i (by omega))
          have SF : SpAny (((T.setCell ⟨g, k * 3, none⟩ (.int .i64 oh)).setCell ⟨g, k * 3 + 1, none⟩ (.int .i64 ov)).setCell ⟨g, k * 3 + 2, none⟩ (.int .i64 oc)) (g + 1) (sp N (k + 1)) := ⟨S.fs, S.la, by
            unfold sfl
            rw [ER.out.1, ER.out.2.1, ER.out.2.2.1, ER.out.2.2.2]
            exact hS2.out.of_block (EX.2 _ (by omega))⟩
          have QF : ∀ j, j < k + 1 → fl N j = 0 := fun j hj => by
            by_cases e : j = k
            · rw [e]; exact H0.out
            · exact HQ.out j (by omega)
          go_roundw
          case rel => exact ⟨_, _, _, _, _, _, _, ⟨k + 1, by omega, by go_num, hid1 QF, BF, hid1 NF, hid1 PF, hid1 RF, hid1 SF, by omega⟩, rfl, rfl, rfl, rfl, rfl, rfl, rfl⟩
          case measure => simp [intOf]; omega
        · have hx2 : (x != 0) = true := by simpa using hx
          have HC := hid1 (ch_at HZ.out hlt HQ.out (by rw [HFL.out]; exact hx))
          have HX := hid1 hx
          clear hx
          go_wp2_with fail
          go_ret3
          refine ⟨.slice none 0 0, by rw [HC.out.1, HC.out.2, HFL.out]; rfl, BU, fun _ => rfl, fun h => absurd (HFL.out.symm.trans (HC.out.1.symm.trans h)) HX.out⟩
      · have : k = N.ml := by omega
        subst this
        have HF := hid1 (ch_ok HZ.out HQ.out)
        go_wp2_with fail
        go_ret3
        exact ⟨_, by rw [HF.out.1, HF.out.2]; rfl, BX, fun h => absurd HF.out.1 h, fun _ => ⟨g, by omega, rfl, K3.out⟩⟩
  · have HC := hid1 (ch_whole hw0)
    have hx2 : (whE N != 0) = true := by simpa using hw0
    have HX := hid1 hw0
    clear hw0
    generalize whE N = x at *
    go_enter Tryz.func33, Tryz.ntmps33
    go_wp2_with fail
    refine gen_calls (fun X => Below w.heap.size w X) (by repeat (first | (with_reducible exact Below.refl _ _) | (with_reducible refine bl_alloc ?_ _) | (with_reducible refine Below.drew ?_) | (with_reducible refine bl_drewN ?_ _) | (with_reducible refine bl_set ?_ (by omega) _) | (with_reducible refine bl_step ?_ (by assumption)))) ?_
    rintro X BX
    refine (CW X).mono ?_
    rintro e w1 ⟨rfl, hb⟩
    replace BX := bl_step BX hb
    clear hb X CW
    go_wp2_with fail
    go_ret3
    exact ⟨.slice none 0 0, by rw [HC.out.1, HC.out.2]; rfl, BX, fun _ => rfl, fun h => absurd (HC.out.1.symm.trans h) HX.out⟩
set_option maxRecDepth 100000 in
theorem nshapes_any (N : Nt) (w : World) (hN : NtW w N) : Calls Tryz.prog 26 #[ntv N] w fun e w' => ∃ v, e = .returned (.tuple #[v, .int .i64 (chE N)]) ∧ Below w.heap.size w w' ∧ WkP N w w' v := by
  have HN := hid1 hN
  clear hN
  go_enter Tryz.func26, Tryz.ntmps26
  go_wp2_with fail
  refine gen_calls (fun X => Below w.heap.size w X) (by repeat (first | (with_reducible exact Below.refl _ _) | (with_reducible refine bl_alloc ?_ _) | (with_reducible refine Below.drew ?_) | (with_reducible refine bl_drewN ?_ _) | (with_reducible refine bl_set ?_ (by omega) _) | (with_reducible refine bl_step ?_ (by assumption)))) ?_
  rintro X BX
  refine (walk_any N X (HN.out.keep BX)).mono ?_
  rintro e w1 ⟨v, rfl, hb, hv⟩
  have hs := BX.size
  have HV := hid1 hv
  replace BX := bl_step BX hb
  clear hb HN hv
  go_wp2_with fail
  go_ret2
  exact ⟨v, rfl, BX, HV.out.1, fun h => by
    obtain ⟨g, h1, h2, h3⟩ := HV.out.2 h
    exact ⟨g, by omega, h2, h3⟩⟩
end Go.Proofs.YtlgjoepeibodkaaGreat.Nn
