import Derived.Test.YtlgjoepeibodkaaGreatQCPlainTurned
import Derived.Test.YtlgjoepeibodkaaGreatNP5
import Derived.Deep.RegionHeld3
import Derived.Test.YtlgjoepeibodkaaGreatNP6
import Derived.Deep.AppendLies
import Derived.OwnWalk
import Derived.Test.YtlgjoepeibodkaaGreatQBPlainTurned
import Derived.Test.YtlgjoepeibodkaaGreatNO6
import Derived.BigQuiet
import Derived.Test.YtlgjoepeibodkaaGreatOB1
import Derived.Test.YtlgjoepeibodkaaGreatDW7
import Derived.Laws.AppendOwnNone
import Derived.WalkLawsBesides
import Derived.Test.YtlgjoepeibodkaaGreatQAPlainTurned
import Derived.Maps.AppendAt
/- THE DOCUMENT'S NETWORKS: ONE LAYER, WALKED. -/
namespace Go.Proofs.YtlgjoepeibodkaaGreat.Nn
open Go.RowKit

theorem roV_form (L : Ly) (h v c : Int) : ∃ x y z, roV L h v c = sle x y z (roE L h v c) ∧ (roE L h v c = 0 → x = oH L h v c ∧ y = oV L h v c ∧ z = oC L h v c) := by
  unfold roV roE
  by_cases hk : L.kd = 2
  · rw [if_pos hk, if_pos hk]
    exact ⟨1, 1, L.k, rfl, fun _ => ⟨(if_pos hk).symm, (if_pos hk).symm, (if_pos hk).symm⟩⟩
  · rw [if_neg hk, if_neg hk]
    by_cases hx : wiE L.r L.s L.sy L.sx L.t L.l L.b L.q ≠ 0
    · rw [if_pos hx, if_pos hx]
      exact ⟨0, 0, 0, rfl, fun h => absurd h hx⟩
    · rw [if_neg hx, if_neg hx]
      by_cases hb : rbE L ≠ 0
      · rw [if_pos hb, if_pos hb]
        exact ⟨0, 0, 0, rfl, fun h => by cases h⟩
      · rw [if_neg hb, if_neg hb]
        exact ⟨_, _, _, rfl, fun _ => ⟨rfl, rfl, rfl⟩⟩
theorem rk_ok {L : Ly} {S : Sp} (h : rkE L S = 0) (h3 : ¬ L.kd = 3) : (L.kd = 1 ∨ L.kd = 2) ∧ 0 ≤ L.k ∧ L.k ≤ 4096 := by
  unfold rkE at h
  by_cases h1 : L.kd = 1
  · rw [if_pos h1] at h
    by_cases hl : S.la = true
    · rw [if_pos hl] at h; cases h
    · rw [if_neg hl] at h; exact ⟨.inl h1, kok_out h⟩
  · rw [if_neg h1] at h
    by_cases h2 : L.kd = 2
    · rw [if_pos h2] at h
      by_cases ho : ouE L = 0
      · exact ⟨.inr h2, kok_out ho⟩
      · rw [if_neg ho] at h; cases h
    · rw [if_neg h2, if_neg h3] at h; cases h
theorem ro_fok {L : Ly} {h v c : Int} (hr : roE L h v c = 0) : Fok L := by
  unfold roE at hr
  by_cases h2 : L.kd = 2
  · exact .inl h2
  · rw [if_neg h2] at hr
    by_cases hx : wiE L.r L.s L.sy L.sx L.t L.l L.b L.q ≠ 0
    · rw [if_pos hx] at hr; exact absurd hr hx
    · exact fok_win (by simpa using hx)
set_option maxHeartbeats 3200000 in
set_option maxRecDepth 100000 in
theorem rlayer_xyz (L : Ly) (S : Sp) (at' : Int) (hS : SpOk S) (hat : S.fs = decide (at' = 0)) (x y z : Int) (hxyz : roV L S.h S.v S.c = sle x y z (roE L S.h S.v S.c)) (w : World) (hL : Lst w L) :
    Calls Tryz.prog 32 #[lyv L, inv at' S] w fun e w' => e = .returned (if rkE L S = 0 then sle x y z (rlE L S) else sle 0 0 0 (rlE L S)) ∧ Below w.heap.size w w' := by
  have HS := hid1 hS
  have HL := hid1 hL
  have CK := rkind_any L S at' hat
  have CO := rout_any L S at'
  rw [hxyz] at CO
  have HAT := hid1 hat
  have HX := hid1 hxyz
  clear hS hL hat hxyz
  obtain ⟨V, hV⟩ : ∃ V, V = (if rkE L S = 0 then sle x y z (rlE L S) else sle 0 0 0 (rlE L S)) := ⟨_, rfl⟩
  rw [← hV]
  have HV := hid1 hV
  clear hV
  go_enter Tryz.func32, Tryz.ntmps32
  go_wp2_with fail
  refine gen_calls (fun X => Below w.heap.size w X ∧ Rz X (w.heap.size + 1 + 1) ∧ Lp X w.heap.size L ∧ Iv X (w.heap.size + 1) at' S) ⟨by repeat (first | (with_reducible exact Below.refl _ _) | (with_reducible refine bl_alloc ?_ _) | (with_reducible refine Below.drew ?_) | (with_reducible refine bl_drewN ?_ _) | (with_reducible refine bl_set ?_ (by omega) _) | (with_reducible refine bl_step ?_ (by assumption))), rz_new (by simp), (lp_new _ _ _).keep (bl_alloc (bl_alloc (Below.refl _ _) _) _), (iv_new (by simp) at' S _).keep (bl_alloc (Below.refl _ _) _)⟩ ?_
  rintro X ⟨BX, RX, LX, IX⟩
  refine (CK X).mono ?_
  rintro e w1 ⟨rfl, hb⟩
  replace RX := RX.keep hb
  replace LX := LX.keep hb
  replace IX := IX.keep hb
  replace BX := bl_step BX hb
  clear hb CK X
  have KR := hid1 RX
  have KL := hid1 LX
  have KI := hid1 IX
  obtain ⟨⟨z0, z1, z2⟩, f0, f1, f2⟩ := RX
  obtain ⟨c0, c1, c2, c3, c4, c5, c6, c7, c8, c9, c10, c11, c12, c13, c14⟩ := LX
  obtain ⟨i0, i1, i2, i3, i4, i5⟩ := IX
  by_cases hk : rkE L S = 0
  · have hk2 : (rkE L S != 0) = false := by simpa using hk
    have HK := hid1 hk
    clear hk
    go_wp2_with fail
    refine (CO _).mono ?_
    rintro e w2 ⟨rfl, hb⟩
    replace KR := hid1 (KR.out.keep hb)
    replace KL := hid1 (KL.out.keep hb)
    replace KI := hid1 (KI.out.keep hb)
    replace BX := bl_step BX hb
    clear hb CO z0 z1 z2 f0 f1 f2 c0 c1 c2 c3 c4 c5 c6 c7 c8 c9 c10 c11 c12 c13 c14 i0 i1 i2 i3 i4 i5 w1
    obtain ⟨g7, hg7⟩ : ∃ g, w2.heap.size = g := ⟨_, rfl⟩
    go_upto_region 5 with fail
    refine gen_world (fun X => Below w.heap.size w X ∧ Rz X (w.heap.size + 1 + 1) ∧ Lp X w.heap.size L ∧ Iv X (w.heap.size + 1) at' S ∧ Sh X g7 0 x y z) ⟨by repeat (first | (with_reducible exact Below.refl _ _) | (with_reducible refine bl_alloc ?_ _) | (with_reducible refine Below.drew ?_) | (with_reducible refine bl_drewN ?_ _) | (with_reducible refine bl_set ?_ (by omega) _) | (with_reducible refine bl_step ?_ (by assumption))), KR.out.keep (bl_alloc (Below.refl _ _) _), KL.out.keep (bl_alloc (Below.refl _ _) _), KI.out.keep (bl_alloc (Below.refl _ _) _), sh_new' hg7⟩ ?_
    clear KR KL KI BX
    rintro X ⟨BX, RX, LX, IX, SX⟩
    have KR := hid1 RX
    have KL := hid1 LX
    have KI := hid1 IX
    have KS := hid1 SX
    obtain ⟨⟨z0, z1, z2⟩, f0, f1, f2⟩ := RX
    obtain ⟨c0, c1, c2, c3, c4, c5, c6, c7, c8, c9, c10, c11, c12, c13, c14⟩ := LX
    obtain ⟨i0, i1, i2, i3, i4, i5⟩ := IX
    obtain ⟨q0, q1, q2⟩ := SX
    by_cases ho : roE L S.h S.v S.c = 0
    · have ho2 : (roE L S.h S.v S.c != 0) = false := by simpa using ho
      have HO := hid1 ho
      clear ho
      by_cases h3 : L.kd = 3
      · have h3b : (L.kd == 3) = true := by simp [h3]
        have HE := hid1 (show V = sle x y z (roE L S.h S.v S.c) from by rw [HV.out, if_pos HK.out]; unfold rlE; rw [if_pos HK.out, if_pos HO.out, if_pos h3, HO.out])
        clear h3
        go_wp2_with fail
        simp [bodyPost, results, Tryz.results32, go_sem, *]
        refine ⟨by rw [HE.out], ?_⟩
        repeat (first | (with_reducible exact Below.refl _ _) | (with_reducible refine bl_alloc ?_ _) | (with_reducible refine Below.drew ?_) | (with_reducible refine bl_drewN ?_ _) | (with_reducible refine bl_set ?_ (by omega) _) | (with_reducible refine bl_step ?_ (by assumption)))
      · have h3b : (L.kd == 3) = false := by simpa using h3
        have hkk := rk_ok HK.out h3
        have CW := rweights_any L S at' HS.out.1 (ro_fok HO.out) hkk.1 hkk.2 HS.out.2 X (HL.out.keep BX)
        have H3 := hid1 h3
        have HKK := hid1 hkk
        clear h3 hkk
        go_wp2_with fail
        refine CW.mono ?_
        rintro e w3 ⟨rfl, hb⟩
        replace KR := hid1 (KR.out.keep hb)
        replace KL := hid1 (KL.out.keep hb)
        replace KI := hid1 (KI.out.keep hb)
        replace KS := hid1 (KS.out.keep hb)
        replace BX := bl_step BX hb
        clear hb CW z0 z1 z2 f0 f1 f2 c0 c1 c2 c3 c4 c5 c6 c7 c8 c9 c10 c11 c12 c13 c14 i0 i1 i2 i3 i4 i5 q0 q1 q2 X
        obtain ⟨⟨z0, z1, z2⟩, f0, f1, f2⟩ := KR.out
        obtain ⟨c0, c1, c2, c3, c4, c5, c6, c7, c8, c9, c10, c11, c12, c13, c14⟩ := KL.out
        obtain ⟨i0, i1, i2, i3, i4, i5⟩ := KI.out
        obtain ⟨q0, q1, q2⟩ := KS.out
        by_cases hw : rwE L S = 0
        · have hw2 : (rwE L S != 0) = false := by simpa using hw
          have HE := hid1 (show V = sle x y z (rnE L S) from by rw [HV.out, if_pos HK.out]; unfold rlE; rw [if_pos HK.out, if_pos HO.out, if_neg H3.out, if_pos hw])
          have CE := rends_any L S at' HS.out.1 (ro_fok HO.out) HKK.out.1 HAT.out w3 (HL.out.keep BX)
          clear hw
          go_wp2_with fail
          refine CE.mono ?_
          rintro e w4 ⟨rfl, hb⟩
          replace KR := hid1 (KR.out.keep hb)
          replace KS := hid1 (KS.out.keep hb)
          replace BX := bl_step BX hb
          clear hb CE z0 z1 z2 f0 f1 f2 c0 c1 c2 c3 c4 c5 c6 c7 c8 c9 c10 c11 c12 c13 c14 i0 i1 i2 i3 i4 i5 q0 q1 q2 KL KI w3
          obtain ⟨⟨z0, z1, z2⟩, f0, f1, f2⟩ := KR.out
          obtain ⟨q0, q1, q2⟩ := KS.out
          go_wp2_with fail
          simp [bodyPost, results, Tryz.results32, go_sem, *]
          refine ⟨by rw [HE.out], ?_⟩
          repeat (first | (with_reducible exact Below.refl _ _) | (with_reducible refine bl_alloc ?_ _) | (with_reducible refine Below.drew ?_) | (with_reducible refine bl_drewN ?_ _) | (with_reducible refine bl_set ?_ (by omega) _) | (with_reducible refine bl_step ?_ (by assumption)))
        · have hw2 : (rwE L S != 0) = true := by simpa using hw
          have HE := hid1 (show V = sle x y z (rwE L S) from by rw [HV.out, if_pos HK.out]; unfold rlE; rw [if_pos HK.out, if_pos HO.out, if_neg H3.out, if_neg hw])
          clear hw
          go_wp2_with fail
          simp [bodyPost, results, Tryz.results32, go_sem, *]
          refine ⟨by rw [HE.out], ?_⟩
          repeat (first | (with_reducible exact Below.refl _ _) | (with_reducible refine bl_alloc ?_ _) | (with_reducible refine Below.drew ?_) | (with_reducible refine bl_drewN ?_ _) | (with_reducible refine bl_set ?_ (by omega) _) | (with_reducible refine bl_step ?_ (by assumption)))
    · have ho2 : (roE L S.h S.v S.c != 0) = true := by simpa using ho
      have HE := hid1 (show V = sle x y z (roE L S.h S.v S.c) from by rw [HV.out, if_pos HK.out]; unfold rlE; rw [if_pos HK.out, if_neg ho])
      clear ho
      go_wp2_with fail
      simp [bodyPost, results, Tryz.results32, go_sem, *]
      refine ⟨by rw [HE.out], ?_⟩
      repeat (first | (with_reducible exact Below.refl _ _) | (with_reducible refine bl_alloc ?_ _) | (with_reducible refine Below.drew ?_) | (with_reducible refine bl_drewN ?_ _) | (with_reducible refine bl_set ?_ (by omega) _) | (with_reducible refine bl_step ?_ (by assumption)))
  · have hk2 : (rkE L S != 0) = true := by simpa using hk
    have HE := hid1 (show V = sle 0 0 0 (rkE L S) from by rw [HV.out, if_neg hk]; unfold rlE; rw [if_neg hk])
    clear hk
    go_wp2_with fail
    simp [bodyPost, results, Tryz.results32, go_sem, *]
    refine ⟨by rw [HE.out], ?_⟩
    repeat (first | (with_reducible exact Below.refl _ _) | (with_reducible refine bl_alloc ?_ _) | (with_reducible refine Below.drew ?_) | (with_reducible refine bl_drewN ?_ _) | (with_reducible refine bl_set ?_ (by omega) _) | (with_reducible refine bl_step ?_ (by assumption)))
theorem rlayer_any (L : Ly) (S : Sp) (at' : Int) (hS : SpOk S) (hat : S.fs = decide (at' = 0)) (w : World) (hL : Lst w L) :
    Calls Tryz.prog 32 #[lyv L, inv at' S] w fun e w' => ∃ x y z, e = .returned (sle x y z (faE L S)) ∧ (faE L S = 0 → x = oH L S.h S.v S.c ∧ y = oV L S.h S.v S.c ∧ z = oC L S.h S.v S.c) ∧ Below w.heap.size w w' := by
  obtain ⟨x, y, z, h1, h2⟩ := roV_form L S.h S.v S.c
  have e := rl_any L S
  refine (rlayer_xyz L S at' hS hat x y z h1 w hL).mono ?_
  rintro e' w' ⟨rfl, hb⟩
  by_cases hk : rkE L S = 0
  · rw [if_pos hk, e]
    refine ⟨x, y, z, rfl, fun h0 => h2 ?_, hb⟩
    rw [← e] at h0
    unfold rlE at h0
    rw [if_pos hk] at h0
    by_cases ho : roE L S.h S.v S.c = 0
    · exact ho
    · rw [if_neg ho] at h0; exact absurd h0 ho
  · rw [if_neg hk, e]
    refine ⟨0, 0, 0, rfl, fun h0 => ?_, hb⟩
    rw [← e] at h0
    unfold rlE at h0
    rw [if_neg hk] at h0
    exact absurd h0 hk
end Go.Proofs.YtlgjoepeibodkaaGreat.Nn
/- THE DOCUMENT'S NETWORKS: THE STEP FROM LAYER TO LAYER. -/
namespace Go.Proofs.YtlgjoepeibodkaaGreat.Nn
open Go.RowKit

noncomputable def rgL : Code := (Tryz.f24.body.bind (regionOf 15)).getD .skip
theorem kpL {U X : World} {bn gl o bi k ml cl : Nat} {L : Ly} {at' : Int} {S : Sp} (n4 : U.cell? ⟨bn, 4, none⟩ = some (.slice (some ⟨gl, o, none⟩) ml cl)) (hL : Lc U gl (o + k * 15) L) (hI : Iv U bi at' S) (hb : Below U.heap.size U X) : X.cell? ⟨bn, 4, none⟩ = some (.slice (some ⟨gl, o, none⟩) ml cl) ∧ X.cell? ⟨gl, o + k * 15, none⟩ = some (.int .i64 L.kd) ∧ X.cell? ⟨gl, o + k * 15 + 1, none⟩ = some (.int .i64 L.wt) ∧ X.cell? ⟨gl, o + k * 15 + 2, none⟩ = some (.int .i64 L.k) ∧ X.cell? ⟨gl, o + k * 15 + 3, none⟩ = some (.int .i64 L.r) ∧ X.cell? ⟨gl, o + k * 15 + 4, none⟩ = some (.int .i64 L.s) ∧ X.cell? ⟨gl, o + k * 15 + 5, none⟩ = some (.int .i64 L.sy) ∧ X.cell? ⟨gl, o + k * 15 + 6, none⟩ = some (.int .i64 L.sx) ∧ X.cell? ⟨gl, o + k * 15 + 7, none⟩ = some (.int .i64 L.t) ∧ X.cell? ⟨gl, o + k * 15 + 8, none⟩ = some (.int .i64 L.l) ∧ X.cell? ⟨gl, o + k * 15 + 9, none⟩ = some (.int .i64 L.b) ∧ X.cell? ⟨gl, o + k * 15 + 10, none⟩ = some (.int .i64 L.q) ∧ X.cell? ⟨gl, o + k * 15 + 11, none⟩ = some (.int .i64 L.bd) ∧ X.cell? ⟨gl, o + k * 15 + 12, none⟩ = some (.slice L.aw L.mw L.cw) ∧ X.cell? ⟨gl, o + k * 15 + 13, none⟩ = some (.slice L.an L.mn L.cn) ∧ X.cell? ⟨gl, o + k * 15 + 14, none⟩ = some (.slice L.ab L.mb L.cb) ∧ X.cell? ⟨bi, 0, none⟩ = some (.int .i64 at') ∧ X.cell? ⟨bi, 1, none⟩ = some (.bool S.la) ∧ X.cell? ⟨bi, 2, none⟩ = some (.int .i64 S.h) ∧ X.cell? ⟨bi, 3, none⟩ = some (.int .i64 S.v) ∧ X.cell? ⟨bi, 4, none⟩ = some (.int .i64 S.c) ∧ X.cell? ⟨bi, 5, none⟩ = some (.int .i64 S.ah) := by
  obtain ⟨c0, c1, c2, c3, c4, c5, c6, c7, c8, c9, c10, c11, c12, c13, c14⟩ := hL
  obtain ⟨i0, i1, i2, i3, i4, i5⟩ := hI
  exact ⟨keepc hb n4, keepc hb c0, keepc hb c1, keepc hb c2, keepc hb c3, keepc hb c4, keepc hb c5, keepc hb c6, keepc hb c7, keepc hb c8, keepc hb c9, keepc hb c10, keepc hb c11, keepc hb c12, keepc hb c13, keepc hb c14, keepc hb i0, keepc hb i1, keepc hb i2, keepc hb i3, keepc hb i4, keepc hb i5⟩
attribute [local go_sem ↓] Go.wp_at_zero Go.wp_at_succ
set_option maxHeartbeats 3200000 in
set_option maxRecDepth 100000 in
theorem step_any (u0 u2 u3 u4 u5 u7 u9 u10 u11 u12 u13 u14 u15 u16 u17 u18 u19 u20 u21 u22 u23 u24 u25 u26 u27 u28 u29 u30 u31 u32 u33 u34 u35 u36 u37 u38 u39 u40 u41 u42 u43 u44 u45 u46 u47 u48 u49 u50 u51 u52 u53 u54 u55 u56 u57 u58 u59 u60 u61 u62 u63 u64 u65 u66 u67 u68 u69 u70 u71 u72 u73 u74 u75 u76 u77 u78 u79 u80 u81 : Value) (bn bi gl o ml cl k : Nat) (L : Ly) (S : Sp) (at' x y z E : Int) (Z : World) (Q : Exit → Act → World → Prop)
    (CL : ∀ w, Below Z.heap.size Z w → Calls Tryz.prog 32 #[lyv L, inv at' S] w fun e w' => e = .returned (sle x y z E) ∧ Below w.heap.size w w')
    (n4 : Z.cell? ⟨bn, 4, none⟩ = some (.slice (some ⟨gl, o, none⟩) ml cl)) (hL : Hid (Lc Z gl (o + k * 15) L)) (hI : Hid (Iv Z bi at' S)) (ik0 : (0 : Int) ≤ (k : Int)) (ik : (k : Int) < (ml : Int))
    (hQ : Hid (∀ X g, Below Z.heap.size Z X → Sh X g 0 x y z → Z.heap.size ≤ g → Q .normal ⟨#[u0, .pointer (some ⟨bn, 0, none⟩), u2, u3, u4, u5, .pointer (some ⟨bi, 0, none⟩), u7, .int .i64 (k : Int), .pointer (some ⟨g, 0, none⟩), .int .i64 E, u11, u12, u13, u14, u15, u16, u17, u18, u19, u20, u21, u22, u23, u24, u25, u26, u27, u28, u29, u30, u31, u32, u33, u34, u35, u36, u37, u38, u39, u40, u41, u42, u43, u44, u45, u46, u47, u48, u49, sle x y z E, .pointer (some ⟨bn, 4, none⟩), .slice (some ⟨gl, o, none⟩) ml cl, .int .i64 (k : Int), .pointer (some ⟨gl, o + k * 15, none⟩), .agg #[.int .i64 L.kd, .int .i64 L.wt, .int .i64 L.k, .int .i64 L.r, .int .i64 L.s, .int .i64 L.sy, .int .i64 L.sx, .int .i64 L.t, .int .i64 L.l, .int .i64 L.b, .int .i64 L.q, .int .i64 L.bd, .slice L.aw L.mw L.cw, .slice L.an L.mn L.cn, .slice L.ab L.mb L.cb], inv at' S, sle x y z E, shp x y z, .int .i64 E, u60, u61, u62, u63, u64, u65, u66, u67, u68, u69, u70, u71, u72, u73, u74, u75, u76, u77, u78, u79, u80, u81], []⟩ X)) :
    Code.wp Tryz.prog rgL Q ⟨#[u0, .pointer (some ⟨bn, 0, none⟩), u2, u3, u4, u5, .pointer (some ⟨bi, 0, none⟩), u7, .int .i64 (k : Int), u9, u10, u11, u12, u13, u14, u15, u16, u17, u18, u19, u20, u21, u22, u23, u24, u25, u26, u27, u28, u29, u30, u31, u32, u33, u34, u35, u36, u37, u38, u39, u40, u41, u42, u43, u44, u45, u46, u47, u48, u49, u50, u51, u52, u53, u54, u55, u56, u57, u58, u59, u60, u61, u62, u63, u64, u65, u66, u67, u68, u69, u70, u71, u72, u73, u74, u75, u76, u77, u78, u79, u80, u81], []⟩ Z := by
  have CLH := hid1 CL
  clear CL
  conv => arg 2; whnf
  refine wp_region_noPanic ?_
  have hS := kpL n4 hL.out hI.out (Below.refl _ _)
  go_region_held3 (fun X => X.cell? ⟨bn, 4, none⟩ = some (.slice (some ⟨gl, o, none⟩) ml cl) ∧ X.cell? ⟨gl, o + k * 15, none⟩ = some (.int .i64 L.kd) ∧ X.cell? ⟨gl, o + k * 15 + 1, none⟩ = some (.int .i64 L.wt) ∧ X.cell? ⟨gl, o + k * 15 + 2, none⟩ = some (.int .i64 L.k) ∧ X.cell? ⟨gl, o + k * 15 + 3, none⟩ = some (.int .i64 L.r) ∧ X.cell? ⟨gl, o + k * 15 + 4, none⟩ = some (.int .i64 L.s) ∧ X.cell? ⟨gl, o + k * 15 + 5, none⟩ = some (.int .i64 L.sy) ∧ X.cell? ⟨gl, o + k * 15 + 6, none⟩ = some (.int .i64 L.sx) ∧ X.cell? ⟨gl, o + k * 15 + 7, none⟩ = some (.int .i64 L.t) ∧ X.cell? ⟨gl, o + k * 15 + 8, none⟩ = some (.int .i64 L.l) ∧ X.cell? ⟨gl, o + k * 15 + 9, none⟩ = some (.int .i64 L.b) ∧ X.cell? ⟨gl, o + k * 15 + 10, none⟩ = some (.int .i64 L.q) ∧ X.cell? ⟨gl, o + k * 15 + 11, none⟩ = some (.int .i64 L.bd) ∧ X.cell? ⟨gl, o + k * 15 + 12, none⟩ = some (.slice L.aw L.mw L.cw) ∧ X.cell? ⟨gl, o + k * 15 + 13, none⟩ = some (.slice L.an L.mn L.cn) ∧ X.cell? ⟨gl, o + k * 15 + 14, none⟩ = some (.slice L.ab L.mb L.cb) ∧ X.cell? ⟨bi, 0, none⟩ = some (.int .i64 at') ∧ X.cell? ⟨bi, 1, none⟩ = some (.bool S.la) ∧ X.cell? ⟨bi, 2, none⟩ = some (.int .i64 S.h) ∧ X.cell? ⟨bi, 3, none⟩ = some (.int .i64 S.v) ∧ X.cell? ⟨bi, 4, none⟩ = some (.int .i64 S.c) ∧ X.cell? ⟨bi, 5, none⟩ = some (.int .i64 S.ah)) (((try dsimp only); refine kpL (U := Z) n4 hL.out hI.out ?_; repeat (first | (with_reducible exact Below.refl _ _) | (with_reducible refine bl_alloc ?_ _) | (with_reducible refine Below.drew ?_) | (with_reducible refine bl_drewN ?_ _) | (with_reducible refine bl_set ?_ (by omega) _) | (with_reducible refine bl_step ?_ (by assumption)))))
    (first | (go_at_call 32; refine (CLH.out _ (by repeat (first | (with_reducible exact Below.refl _ _) | (with_reducible refine bl_alloc ?_ _) | (with_reducible refine Below.drew ?_) | (with_reducible refine bl_drewN ?_ _) | (with_reducible refine bl_set ?_ (by omega) _) | (with_reducible refine bl_step ?_ (by assumption))))).mono ?_; rintro e x1 ⟨rfl, hx1⟩; have z1 : Z.heap.size ≤ x1.heap.size := Nat.le_trans (by first | exact Nat.le_refl _ | simp) hx1.size; (first | (have N3 : Rz x1 Z.heap.size := Rz.keep (rz_new (W := Z.drew) rfl) hx1; obtain ⟨⟨n0, n1, n2⟩, g0, g1, g2⟩ := N3) | (have N3 : Rz x1 Z.heap.size := Rz.keep (rz_new (W := Z) rfl) hx1; obtain ⟨⟨n0, n1, n2⟩, g0, g1, g2⟩ := N3) | skip)))
  · refine NoPanic.normal (hQ.out _ x1.heap.size ?_ (sh_new' rfl) z1)
    repeat (first | (with_reducible exact Below.refl _ _) | (with_reducible refine bl_alloc ?_ _) | (with_reducible refine Below.drew ?_) | (with_reducible refine bl_drewN ?_ _) | (with_reducible refine bl_set ?_ (by omega) _) | (with_reducible refine bl_step ?_ (by assumption)))
  · refine NoPanic.normal (hQ.out _ Z.heap.size ?_ (sh_set (Sh.intro n0 n1 n2)) (Nat.le_refl _))
    repeat (first | (with_reducible exact Below.refl _ _) | (with_reducible refine bl_alloc ?_ _) | (with_reducible refine Below.drew ?_) | (with_reducible refine bl_drewN ?_ _) | (with_reducible refine bl_set ?_ (by omega) _) | (with_reducible refine bl_step ?_ (by assumption)))
end Go.Proofs.YtlgjoepeibodkaaGreat.Nn
/- THE DOCUMENT'S NETWORKS: WALK. -/
namespace Go.Proofs.YtlgjoepeibodkaaGreat.Nn
open Go.RowKit

/-- A layer's answer, in numbers that do not hang on the world. -/
theorem rlayer_fix (L : Ly) (S : Sp) (at' : Int) (hS : SpOk S) (hat : S.fs = decide (at' = 0)) : ∃ x y z, (faE L S = 0 → x = oH L S.h S.v S.c ∧ y = oV L S.h S.v S.c ∧ z = oC L S.h S.v S.c) ∧ ∀ w, Lst w L →
    Calls Tryz.prog 32 #[lyv L, inv at' S] w fun e w' => e = .returned (sle x y z (faE L S)) ∧ Below w.heap.size w w' := by
  obtain ⟨x, y, z, h1, h2⟩ := roV_form L S.h S.v S.c
  have e := rl_any L S
  by_cases hk : rkE L S = 0
  · refine ⟨x, y, z, fun h0 => h2 ?_, fun w hL => ?_⟩
    · rw [← e] at h0
      unfold rlE at h0
      rw [if_pos hk] at h0
      by_cases ho : roE L S.h S.v S.c = 0
      · exact ho
      · rw [if_neg ho] at h0; exact absurd h0 ho
    · have := rlayer_xyz L S at' hS hat x y z h1 w hL
      rw [if_pos hk, e] at this
      exact this
  · refine ⟨0, 0, 0, fun h0 => ?_, fun w hL => ?_⟩
    · rw [← e] at h0
      unfold rlE at h0
      rw [if_neg hk] at h0
      exact absurd h0 hk
    · have := rlayer_xyz L S at' hS hat x y z h1 w hL
      rw [if_neg hk, e] at this
      exact this
def ivf (at' : Int) (S : Sp) : Nat → Value
  | 0 => .int .i64 at'
  | 1 => .bool S.la
  | 2 => .int .i64 S.h
  | 3 => .int .i64 S.v
  | 4 => .int .i64 S.c
  | _ => .int .i64 S.ah
theorem ivf_new {W : World} {g : Nat} (hg : W.heap.size = g) (at' : Int) (S : Sp) (t : TypeId) : (W.alloc (.cells #[.int .i64 at', .bool S.la, .int .i64 S.h, .int .i64 S.v, .int .i64 S.c, .int .i64 S.ah] t)).rowIs g t 6 (ivf at' S) := by
  subst hg
  refine World.rowIs_alloc W _ t (ivf at' S) fun i hi => ?_
  have h6 : i < 6 := hi
  rcases (show i = 0 ∨ i = 1 ∨ i = 2 ∨ i = 3 ∨ i = 4 ∨ i = 5 by omega) with rfl | rfl | rfl | rfl | rfl | rfl <;> rfl
theorem ivf_iv {W : World} {g : Nat} {t : TypeId} {at' : Int} {S : Sp} (h : W.rowIs g t 6 (ivf at' S)) : Iv W g at' S := ⟨h.cell (i := 0) (by decide), h.cell (i := 1) (by decide), h.cell (i := 2) (by decide), h.cell (i := 3) (by decide), h.cell (i := 4) (by decide), h.cell (i := 5) (by decide)⟩
theorem ivf_head {W : World} {g : Nat} {t : TypeId} {a a' : Int} {S : Sp} {x : Bool} (h : W.rowIs g t 6 (ivf a ⟨S.h, S.v, S.c, S.ah, S.fs, x⟩)) : ((W.setCell ⟨g, 0, none⟩ (.int .i64 a')).setCell ⟨g, 1, none⟩ (.bool S.la)).rowIs g t 6 (ivf a' S) := by
  refine ((h.set 0 _).set 1 _).congr fun i hi => ?_
  rcases (show i = 0 ∨ i = 1 ∨ i = 2 ∨ i = 3 ∨ i = 4 ∨ i = 5 by omega) with rfl | rfl | rfl | rfl | rfl | rfl <;> rfl
/-- The shapes so far, as the list holds them. -/
def shL (N : Nt) : Nat → List Value
  | 0 => []
  | k + 1 => shL N k ++ [.int .i64 (sp N (k + 1)).h, .int .i64 (sp N (k + 1)).v, .int .i64 (sp N (k + 1)).c]
theorem shL_len (N : Nt) (k : Nat) : (shL N k).length = k * 3 := by
  induction k with
  | zero => rfl
  | succ k ih => unfold shL; rw [List.length_append, ih]; simp; omega
theorem shL_at (N : Nt) (m k : Nat) (hk : k < m) : (shL N m)[k * 3]? = some (.int .i64 (sp N (k + 1)).h) ∧ (shL N m)[k * 3 + 1]? = some (.int .i64 (sp N (k + 1)).v) ∧ (shL N m)[k * 3 + 2]? = some (.int .i64 (sp N (k + 1)).c) := by
  induction m with
  | zero => omega
  | succ m ih =>
    unfold shL
    have hl := shL_len N m
    by_cases h : k < m
    · have := ih h
      rw [List.getElem?_append_left (by omega), List.getElem?_append_left (by omega), List.getElem?_append_left (by omega)]
      exact this
    · obtain rfl : k = m := by omega
      rw [List.getElem?_append_right (by omega), List.getElem?_append_right (by omega), List.getElem?_append_right (by omega), hl]
      refine ⟨?_, ?_, ?_⟩
      · rw [show k * 3 - k * 3 = 0 by omega]; rfl
      · rw [show k * 3 + 1 - k * 3 = 1 by omega]; rfl
      · rw [show k * 3 + 2 - k * 3 = 2 by omega]; rfl
end Go.Proofs.YtlgjoepeibodkaaGreat.Nn
/- THE DOCUMENT'S NETWORKS: WALK, WALKED. -/
namespace Go.Proofs.YtlgjoepeibodkaaGreat.Nn
open Go.RowKit

theorem own_some' {w : World} {base n size cap : Nat} {e : TypeId} {ao : Option Addr} {xs : List Value} (h : w.ownsRow base e size (.slice ao n cap) n xs) (hn : 0 < n) : ∃ g, ao = some ⟨g, 0, none⟩ := by
  rcases h.2 with ⟨_, h0⟩ | ⟨g, cap', _, e, _⟩
  · omega
  · cases e; exact ⟨g, rfl⟩
theorem mw_of {L : Ly} {S : Sp} (h : faE L S = 0) : (L.mw : Int) = wc L S.h S.v S.c := by
  unfold faE at h
  by_cases h1 : L.kd = 1
  · rw [if_pos h1] at h
    have h7 : wsE L S = 0 := frF_z h 7 (by decide)
    unfold wsE at h7
    exact (zero_else (by decide) h7).1
  · rw [if_neg h1] at h
    by_cases h2 : L.kd = 2
    · rw [if_pos h2] at h
      have h4 : wsE L S = 0 := frF_z h 4 (by decide)
      unfold wsE at h4
      exact (zero_else (by decide) h4).1
    · rw [if_neg h2] at h
      by_cases h3 : L.kd = 3
      · rw [if_pos h3] at h
        have h4 : owE L = 0 := frF_z h 2 (by decide)
        unfold owE at h4
        have := zero_else (by decide) h4
        unfold wc
        rw [this.1.1, Int.zero_mul, this.2.1]
        rfl
      · rw [if_neg h3] at h; cases h
theorem own_below {W X : World} {base n size : Nat} {e : TypeId} {v : Value} {xs : List Value} (h : W.ownsRow base e size v n xs) (hb : Below W.heap.size W X) : X.ownsRow base e size v n xs :=
  h.kept (row := none) ⟨hb.os, hb.tape, hb.output, hb.size, fun k hk _ => hb.block k hk⟩ (by cases v.ownBlock <;> simp)
theorem news3 {W : World} {g : Nat} (hg : W.heap.size = g) (x y z : Value) (t : TypeId) : ∀ j u, [x, y, z][j]? = some u → (W.alloc (.cells #[x, y, z] t)).cell? ((⟨g, 0, none⟩ : Addr).add j) = some u := by
  intro j u hu
  subst hg
  have hw := new_block W (.cells #[x, y, z] t)
  have hj : j < 3 := by
    by_cases h : j < 3
    · exact h
    · rw [List.getElem?_eq_none (by simp; omega)] at hu; cases hu
  rcases (show j = 0 ∨ j = 1 ∨ j = 2 by omega) with rfl | rfl | rfl <;> cases hu <;> exact (block_cell hw _).trans rfl
def RkP (N : Nt) (w w' : World) (v : Value) : Prop := (¬ chE N = 0 → v = .slice none 0 0) ∧ (chE N = 0 → ∃ g cap, w.heap.size ≤ g ∧ v = .slice (some ⟨g, 0, none⟩) N.ml cap ∧ ∀ j, j < N.ml * 3 → w'.cell? ⟨g, j, none⟩ = (shL N N.ml)[j]?)
def IvAny (W : World) (g : Nat) (S : Sp) : Prop := ∃ a x, W.rowIs g 87 6 (ivf a ⟨S.h, S.v, S.c, S.ah, S.fs, x⟩)
theorem ivf_ah {W : World} {g : Nat} {t : TypeId} {a p : Int} {S : Sp} {b : Bool} (h : W.rowIs g t 6 (ivf a S)) : (W.setCell ⟨g, 5, none⟩ (.int .i64 p)).rowIs g t 6 (ivf a ⟨S.h, S.v, S.c, p, b, S.la⟩) := by
  refine (h.set 5 _).congr fun i hi => ?_
  rcases (show i = 0 ∨ i = 1 ∨ i = 2 ∨ i = 3 ∨ i = 4 ∨ i = 5 by omega) with rfl | rfl | rfl | rfl | rfl | rfl <;> rfl
theorem ivf_shape {W : World} {g : Nat} {t : TypeId} {a x y z : Int} {S : Sp} {b d : Bool} (h : W.rowIs g t 6 (ivf a S)) (hd : S.la = d) : (((W.setCell ⟨g, 2, none⟩ (.int .i64 x)).setCell ⟨g, 3, none⟩ (.int .i64 y)).setCell ⟨g, 4, none⟩ (.int .i64 z)).rowIs g t 6 (ivf a ⟨x, y, z, S.ah, b, d⟩) := by
  subst hd
  refine (((h.set 2 _).set 3 _).set 4 _).congr fun i hi => ?_
  rcases (show i = 0 ∨ i = 1 ∨ i = 2 ∨ i = 3 ∨ i = 4 ∨ i = 5 by omega) with rfl | rfl | rfl | rfl | rfl | rfl <;> rfl
set_option maxHeartbeats 6400000 in
set_option maxRecDepth 100000 in
theorem rwalk_good (N : Nt) (w : World) (hN : NtW w N) (hw0 : whE N = 0) : Calls Tryz.prog 24 #[ntv N] w fun e w' => ∃ v, e = .returned (.tuple #[v, .int .i64 (chA N), .int .i64 (chE N)]) ∧ Below w.heap.size w w' ∧ RkP N w w' v := by
  obtain ⟨i0', hi', hz0', hz1', hz2'⟩ := info_parts info_shp
  have HW := hid1 hN
  have CN := rnamed_any N.nm hN.2.2
  have CC := rcheck_any N.h N.v N.c
  have HP := hid1 (wh_parts hw0)
  have HZ := hid1 hw0
  rw [HP.out.1] at CN
  rw [HP.out.2.1] at CC
  have ml1 : ¬ N.ml < 1 := by have := HP.out.2.2.1; omega
  have ml2 : ¬ 64 < N.ml := by have := HP.out.2.2.2; omega
  clear hN hw0
  go_enter Tryz.func24, Tryz.ntmps24
  go_wp2_with fail
  refine (CN _).mono ?_
  rintro e w0 ⟨rfl, rfl⟩
  go_wp2_with fail
  refine gen_calls (fun X => Below w.heap.size w X ∧ Nb X w.heap.size N) ⟨by repeat (first | (with_reducible exact Below.refl _ _) | (with_reducible refine bl_alloc ?_ _) | (with_reducible refine Below.drew ?_) | (with_reducible refine bl_drewN ?_ _) | (with_reducible refine bl_set ?_ (by omega) _) | (with_reducible refine bl_step ?_ (by assumption))), nb_new _ _ _⟩ ?_
  rintro X ⟨BX, NX⟩
  refine (CC X).mono ?_
  rintro e w1 ⟨rfl, hb⟩
  replace BX := bl_step BX hb
  replace NX := NX.keep hb
  clear hb X CN CC
  have KN := hid1 NX
  obtain ⟨n0, n1, n2, n3, n4⟩ := NX
  obtain ⟨bi, hbi⟩ : ∃ x, w1.heap.size = x := ⟨_, rfl⟩
  have hwb : w.heap.size < bi := by rw [← hbi]; exact lt_of_cell n0
  go_upto_region 11 with fail
  refine gen_world (fun X => Below w.heap.size w X ∧ Nb X w.heap.size N ∧ IvAny X bi (sp N 0) ∧ X.heap.size = bi + 1) ⟨by repeat (first | (with_reducible exact Below.refl _ _) | (with_reducible refine bl_alloc ?_ _) | (with_reducible refine Below.drew ?_) | (with_reducible refine bl_drewN ?_ _) | (with_reducible refine bl_set ?_ (by omega) _) | (with_reducible refine bl_step ?_ (by assumption))), KN.out.keep (bl_alloc (Below.refl _ _) _), ⟨0, false, ivf_new hbi 0 ⟨N.h, N.v, N.c, 0, true, false⟩ _⟩, by simp [hbi]⟩ ?_
  clear KN BX n0 n1 n2 n3 n4 hbi
  rintro Z ⟨BZ, NZ, IZ, zZ⟩
  go_loopw [7, 8] (fun v i wr => ∃ k : Nat, k ≤ N.ml ∧ i = .int .i64 k ∧ Hid (∀ j, j < k → fl N j = 0) ∧ (∃ ao cap, v = .slice ao k cap ∧ Hid (wr.ownsRow (bi + 1) 23 3 (.slice ao k cap) k (shL N k))) ∧ Below w.heap.size w wr ∧ Hid (Nb wr w.heap.size N) ∧ Hid (IvAny wr bi (sp N k)) ∧ bi < wr.heap.size) (fun _ i _ => N.ml - (intOf i).toNat)
  case atStart => exact ⟨0, Nat.zero_le _, rfl, hid1 fun j hj => absurd hj (by omega), ⟨none, 0, rfl, hid1 (World.ownsRow_nil _ _ _ _)⟩, BZ, hid1 NZ, hid1 IZ, by omega⟩
  case round =>
    clear BZ NZ IZ
    obtain ⟨k, hk, rfl, HQ, ⟨ao, cap, rfl, HO⟩, BX, K1, K4, hz⟩ := hrel
    have ik0 : (0 : Int) ≤ (k : Int) := by omega
    by_cases hlt : k < N.ml
    · have ik : (k : Int) < (N.ml : Int) := by omega
      have q2 := sp_last N k hlt HP.out.2.2.2
      rw [wr_id (by omega) (by omega)] at q2
      have hok := sp_ok HP.out.2.1 HQ.out
      have hfs : (sp N k).fs = decide ((k : Int) = 0) := by rw [← sp_first N k]; rfl
      obtain ⟨a0, x0, RI⟩ := K4.out
      have KI := hid1 RI
      have n4 := K1.out.2.2.2.2
      have s0 : wr.cell? ⟨bi, 0, none⟩ = some (.int .i64 a0) := RI.cell (i := 0) (by decide)
      have s1 : wr.cell? ⟨bi, 1, none⟩ = some (.bool x0) := RI.cell (i := 1) (by decide)
      have f0 := RI.frozen 0
      have f1 := RI.frozen 1
      clear RI
      go_upto_region 15 with fail
      clear s0 s1 f0 f1
      obtain ⟨gl, o, ea, LC, LL⟩ := (HW.out.keep BX).1 k hlt
      have EA := hid1 ea
      clear ea
      refine gen_world (fun U => Below w.heap.size w U ∧ Exc bi wr U ∧ U.rowIs bi 87 6 (ivf k (sp N k)) ∧ U.ownsRow (bi + 1) 23 3 (.slice ao k cap) k (shL N k)) ⟨by repeat (first | (with_reducible exact Below.refl _ _) | (with_reducible refine bl_alloc ?_ _) | (with_reducible refine Below.drew ?_) | (with_reducible refine bl_drewN ?_ _) | (with_reducible refine bl_set ?_ (by omega) _) | (with_reducible refine bl_step ?_ (by assumption))), ((Exc.refl _ _).set _ _).set _ _, by first | exact ivf_head KI.out | (rw [q2]; exact ivf_head KI.out), ownsRow_setCell_below (ownsRow_setCell_below HO.out (by show bi < bi + 1; omega) _) (by show bi < bi + 1; omega) _⟩ ?_
      rintro U ⟨BU, EU, RU, OU⟩
      have KU := hid1 (K1.out.of_block (EU.2 _ (by omega)))
      have n4' : U.cell? ⟨w.heap.size, 4, none⟩ = some (.slice (some ⟨gl, o, none⟩) N.ml N.cl) := by have := KU.out.2.2.2.2; rwa [EA.out] at this
      have hLU := (HW.out.keep BU).1 k hlt
      have LCU : Lc U gl (o + k * 15) (N.lf k) := by
        obtain ⟨g', o', e', h, _⟩ := hLU
        rw [EA.out] at e'
        cases e'
        exact h
      have HLC : Hid (∀ V, Below w.heap.size w V → V.cell? ⟨gl, o + k * 15 + 12, none⟩ = some (.slice (N.lf k).aw (N.lf k).mw (N.lf k).cw)) := hid1 fun V hV => by
        obtain ⟨g', o', e', h, _⟩ := (HW.out.keep hV).1 k hlt
        rw [EA.out] at e'
        cases e'
        exact h.2.2.2.2.2.2.2.2.2.2.2.2.1
      have HLL : Hid (Lst U (N.lf k)) := hid1 (by obtain ⟨_, _, _, _, h⟩ := hLU; exact h)
      have hsU : U.heap.size = wr.heap.size := EU.1
      have HOU := hid1 OU
      clear LC LL q2 KI K4 hLU n4 OU
      have HFL := hid1 (show fl N k = faE (N.lf k) (sp N k) from rfl)
      have HSN : Hid (sp N (k + 1) = ⟨oH (N.lf k) (sp N k).h (sp N k).v (sp N k).c, oV (N.lf k) (sp N k).h (sp N k).v (sp N k).c, oC (N.lf k) (sp N k).h (sp N k).v (sp N k).c, (sp N k).ah + wc (N.lf k) (sp N k).h (sp N k).v (sp N k).c, false, decide (N.ml = k + 2)⟩) := hid1 rfl
      generalize N.lf k = L at *
      generalize sp N k = S at *
      obtain ⟨x, y, z, hxyz, CL⟩ := rlayer_fix L S (k : Int) hok hfs
      have HXYZ := hid1 hxyz
      have HOK := hid1 hok
      clear hxyz hok hfs
      refine step_any _ _ _ _ _ _ _ _ _ _ _ _ _ _ _ _ _ _ _ _ _ _ _ _ _ _ _ _ _ _ _ _ _ _ _ _ _ _ _ _ _ _ _ _ _ _ _ _ _ _ _ _ _ _ _ _ _ _ _ _ _ _ _ _ _ _ _ _ _ _ _ _ _ _ _ _ _ _ _ w.heap.size bi gl o N.ml N.cl k L S k x y z (faE L S) U _ (fun w' hb => CL w' (HLL.out.keep hb)) n4' (hid1 LCU) (hid1 (ivf_iv RU)) ik0 ik (hid1 ?_)
      intro X g hb SX hg
      have KX := hid1 (KU.out.keep hb)
      have KI := hid1 (rowIs_keep RU hb)
      have KO := hid1 (own_below HOU.out hb)
      have hrow : ∀ r, (Value.slice ao k cap).ownBlock = some r → bi + 1 ≤ r ∧ r < U.heap.size := HOU.out.lt
      have hgX : g < X.heap.size := lt_of_cell SX.1
      have KS := hid1 SX
      have hzX := hb.size
      replace BU := bl_step BU hb
      obtain ⟨q0, q1, q2⟩ := SX
      clear hb KU RU HOU HLL LCU n4' CL K1 BX HO
      by_cases hx : faE L S = 0
      · have hx2 : (faE L S != 0) = false := by simpa using hx
        have H0 : Hid (fl N k = 0) := hid1 (HFL.out.trans hx)
        have HX3 := hid1 (HXYZ.out hx)
        have HMW := hid1 (mw_of hx)
        have hst := (sp_step HOK.out hx).2
        have ha := HOK.out.2
        rw [← HMW.out] at hst
        clear hx HXYZ HFL
        obtain ⟨gz, hgz⟩ : ∃ x, X.heap.size = x := ⟨_, rfl⟩
        go_wp2_with ((at_builtin; refine wpList_append_lies _ rfl _ _ 65 rfl (bi + 1) 23 i0' (.agg #[.int .i64 0, .int .i64 0, .int .i64 0]) 3 24 und_shps hi' hz0' hz1' hz2' rfl (by decide) (.slice ao k cap) k (shL N k) (by go_simp) (KO.out.alloc _) ⟨gz, 0, none⟩ 1 1 [.int .i64 x, .int .i64 y, .int .i64 z] (by go_simp) rfl (news3 hgz _ _ _ _) (fun u hu => by simp at hu; rcases hu with rfl | rfl | rfl <;> rfl) (by decide) (by unfold maxLen; omega) (by omega) (by simp; omega) (gz + 1) (by simp [hgz]) ?_; intro g1 cap1 w3 hown1 hgrow hat hlt1))
        have B3 : Below w.heap.size w w3 := ((BU.alloc (by omega) _).grown hgrow (by simp; omega) (fun r h => by have := (hrow r h).1; omega))
        have hblk : ∀ i, i < X.heap.size → (i ≤ bi ∨ U.heap.size ≤ i) → w3.heap[i]? = X.heap[i]? := fun i hi hj => (hgrow.block i (by simp; omega) (fun h => by have := hrow i h.symm; omega)).trans ((bl_alloc (Below.refl X.heap.size X) _).block i hi)
        have hs3 := hgrow.size
        simp only [World.alloc, Array.size_push] at hs3
        refine gen_world (fun Y => Below w.heap.size w Y ∧ Nb Y w.heap.size N ∧ Y.rowIs bi 87 6 (ivf k S) ∧ Sh Y g 0 x y z ∧ Y.ownsRow (bi + 1) 23 3 (Value.slice (some ⟨g1, 0, none⟩) (k + 1) cap1) (k + 1) (shL N k ++ [Value.int IntKind.i64 x, Value.int IntKind.i64 y, Value.int IntKind.i64 z]) ∧ bi < Y.heap.size) ⟨B3, KX.out.of_block (hblk _ (by omega) (by omega)), KI.out.of_block (hblk _ (by omega) (by omega)), ⟨(World.cell?_of_block (hblk g hgX (by omega))).trans q0, (World.cell?_of_block (hblk g hgX (by omega))).trans q1, (World.cell?_of_block (hblk g hgX (by omega))).trans q2⟩, hown1, by omega⟩ ?_
        clear hblk hs3 B3 hown1 hgrow hat hlt1 KX KI KO KS q0 q1 q2 hgz hrow hgX hzX BU
        rintro Y ⟨BY, NY, RY, SY, OY, zY⟩
        have KN := hid1 NY
        have KR := hid1 RY
        have KO := hid1 OY
        have n4 : Y.cell? ⟨w.heap.size, 4, none⟩ = some (.slice (some ⟨gl, o, none⟩) N.ml N.cl) := by have := NY.2.2.2.2; rwa [EA.out] at this
        have c12 := HLC.out Y BY
        have s5 : Y.cell? ⟨bi, 5, none⟩ = some (.int .i64 S.ah) := RY.cell (i := 5) (by decide)
        have s2 : Y.cell? ⟨bi, 2, none⟩ = some (.int .i64 S.h) := RY.cell (i := 2) (by decide)
        have s3 : Y.cell? ⟨bi, 3, none⟩ = some (.int .i64 S.v) := RY.cell (i := 3) (by decide)
        have s4 : Y.cell? ⟨bi, 4, none⟩ = some (.int .i64 S.c) := RY.cell (i := 4) (by decide)
        have f2 := RY.frozen 2
        have f3 := RY.frozen 3
        have f4 := RY.frozen 4
        have f5 := RY.frozen 5
        obtain ⟨q0, q1, q2⟩ := SY
        clear NY RY OY
        go_region
        refine gen_then (fun T => Below w.heap.size w T ∧ Exc bi Y T ∧ T.rowIs bi 87 6 (ivf k ⟨S.h, S.v, S.c, S.ah + L.mw, false, S.la⟩) ∧ T.ownsRow (bi + 1) 23 3 (Value.slice (some ⟨g1, 0, none⟩) (k + 1) cap1) (k + 1) (shL N k ++ [Value.int IntKind.i64 x, Value.int IntKind.i64 y, Value.int IntKind.i64 z])) ⟨(bl_set BY (by show w.heap.size ≤ bi; omega) _).drew, (show Exc bi Y (Y.setCell ⟨bi, 5, none⟩ (.int .i64 (S.ah + L.mw))) from (Exc.refl _ _).set _ _), ivf_ah KR.out, ownsRow_setCell_below KO.out (by show bi < bi + 1; omega) _⟩ ?_
        rintro T ⟨BT, ET, RT, OT⟩
        have KN2 := hid1 (KN.out.of_block (ET.2 _ (by omega)))
        have eg : T.heap[g]? = Y.heap[g]? := ET.2 _ (by omega)
        have p0 : T.cell? ⟨g, 0, none⟩ = some (.int .i64 x) := (World.cell?_of_block eg).trans q0
        have p1 : T.cell? ⟨g, 1, none⟩ = some (.int .i64 y) := (World.cell?_of_block eg).trans q1
        have p2 : T.cell? ⟨g, 2, none⟩ = some (.int .i64 z) := (World.cell?_of_block eg).trans q2
        have hTs : T.heap.size = Y.heap.size := ET.1
        clear eg n4 c12 s5 s2 s3 s4 f2 f3 f4 f5 q0 q1 q2 KR KO KN ET
        have s2 : T.cell? ⟨bi, 2, none⟩ = some (.int .i64 S.h) := RT.cell (i := 2) (by decide)
        have s3 : T.cell? ⟨bi, 3, none⟩ = some (.int .i64 S.v) := RT.cell (i := 3) (by decide)
        have s4 : T.cell? ⟨bi, 4, none⟩ = some (.int .i64 S.c) := RT.cell (i := 4) (by decide)
        have f2 := RT.frozen 2
        have f3 := RT.frozen 3
        have f4 := RT.frozen 4
        have KR := hid1 RT
        have KO := hid1 OT
        clear RT OT
        go_wp2_with fail
        have EX : Exc bi T (((T.setCell ⟨bi, 2, none⟩ (.int .i64 x)).setCell ⟨bi, 3, none⟩ (.int .i64 y)).setCell ⟨bi, 4, none⟩ (.int .i64 z)) := (((Exc.refl _ _).set _ _).set _ _).set _ _
        have BF := EX.below BT (by omega) ⟨rfl, rfl, rfl⟩
        have NF := KN2.out.of_block (EX.2 _ (by omega))
        have RF : IvAny (((T.setCell ⟨bi, 2, none⟩ (.int .i64 x)).setCell ⟨bi, 3, none⟩ (.int .i64 y)).setCell ⟨bi, 4, none⟩ (.int .i64 z)) bi (sp N (k + 1)) := ⟨k, S.la, by
          rw [HSN.out, ← HX3.out.1, ← HX3.out.2.1, ← HX3.out.2.2, ← HMW.out]
          have hh := ivf_shape (x := x) (y := y) (z := z) (b := false) KR.out rfl
          exact hh⟩
        have OF : World.ownsRow (((T.setCell ⟨bi, 2, none⟩ (.int .i64 x)).setCell ⟨bi, 3, none⟩ (.int .i64 y)).setCell ⟨bi, 4, none⟩ (.int .i64 z)) (bi + 1) 23 3 (.slice (some ⟨g1, 0, none⟩) (k + 1) cap1) (k + 1) (shL N (k + 1)) := by
          have e : shL N (k + 1) = shL N k ++ [Value.int IntKind.i64 x, Value.int IntKind.i64 y, Value.int IntKind.i64 z] := by
            show shL N k ++ [.int .i64 (sp N (k + 1)).h, .int .i64 (sp N (k + 1)).v, .int .i64 (sp N (k + 1)).c] = _
            rw [HSN.out, HX3.out.1, HX3.out.2.1, HX3.out.2.2]
          rw [e]
          exact ownsRow_setCell_below (ownsRow_setCell_below (ownsRow_setCell_below KO.out (by show bi < bi + 1; omega) _) (by show bi < bi + 1; omega) _) (by show bi < bi + 1; omega) _
        have QF : ∀ j, j < k + 1 → fl N j = 0 := fun j hj => by
          by_cases e : j = k
          · rw [e]; exact H0.out
          · exact HQ.out j (by omega)
        have zF := EX.1
        go_roundw
        case rel => exact ⟨k + 1, by omega, by go_num, hid1 QF, ⟨_, _, rfl, hid1 OF⟩, BF, hid1 NF, hid1 RF, by omega⟩
        case measure => simp [intOf]; omega
      · have hx2 : (faE L S != 0) = true := by simpa using hx
        have HC := hid1 (ch_at HZ.out hlt HQ.out (by rw [HFL.out]; exact hx))
        have HX := hid1 hx
        clear hx
        go_wp2_with fail
        go_ret3
        exact ⟨.slice none 0 0, by rw [HC.out.1, HC.out.2, HFL.out]; rfl, BU, fun _ => rfl, fun h => absurd (HFL.out.symm.trans (HC.out.1.symm.trans h)) HX.out⟩
    · have hkm : k = N.ml := by omega
      subst hkm
      have HF := hid1 (ch_ok HZ.out HQ.out)
      have n4 := K1.out.2.2.2.2
      obtain ⟨g, rfl⟩ := own_some' HO.out (by omega)
      go_wp2_with fail
      go_ret3
      exact ⟨_, by rw [HF.out.1, HF.out.2]; rfl, BX, fun h => absurd HF.out.1 h, fun _ => ⟨g, cap, by have := (HO.out.lt g rfl).1; omega, rfl, fun j hj => HO.out.cellAt j hj⟩⟩
end Go.Proofs.YtlgjoepeibodkaaGreat.Nn
/- THE DOCUMENT'S NETWORKS: WALK OF ANY NETWORK; CHECK, SHAPES. -/
namespace Go.Proofs.YtlgjoepeibodkaaGreat.Nn
open Go.RowKit

set_option maxHeartbeats 3200000 in
set_option maxRecDepth 100000 in
theorem rwalk_bad (N : Nt) (w : World) (hN : NtW w N) (hw0 : ¬ whE N = 0) : Calls Tryz.prog 24 #[ntv N] w fun e w' => e = .returned (.tuple #[.slice none 0 0, .int .i64 (-1), .int .i64 (whE N)]) ∧ Below w.heap.size w w' := by
  have CN := rnamed_any N.nm hN.2.2
  have CC := rcheck_any N.h N.v N.c
  clear hN
  unfold whE at hw0 ⊢
  by_cases h1 : nmB N.nm = false
  · rw [if_pos h1]
    rw [h1] at CN
    clear hw0 CC
    go_enter Tryz.func24, Tryz.ntmps24
    go_wp2_with fail
    refine (CN _).mono ?_
    rintro e w0 ⟨rfl, rfl⟩
    go_wp2_with fail
    go_ret3
    exact ⟨rfl, by repeat (first | (with_reducible exact Below.refl _ _) | (with_reducible refine bl_alloc ?_ _) | (with_reducible refine Below.drew ?_) | (with_reducible refine bl_drewN ?_ _) | (with_reducible refine bl_set ?_ (by omega) _) | (with_reducible refine bl_step ?_ (by assumption)))⟩
  · rw [if_neg h1] at hw0 ⊢
    have h1' : nmB N.nm = true := by simpa using h1
    rw [h1'] at CN
    clear h1
    by_cases h2 : chk N.h N.v N.c = 0
    · rw [if_neg (by simpa using h2)] at hw0 ⊢
      rw [h2] at CC
      have h3 : ¬ (1 ≤ N.ml ∧ N.ml ≤ 64) := fun h => hw0 (if_pos h)
      rw [if_neg h3]
      clear hw0
      go_enter Tryz.func24, Tryz.ntmps24
      go_wp2_with fail
      refine (CN _).mono ?_
      rintro e w0 ⟨rfl, rfl⟩
      go_wp2_with fail
      refine gen_calls (fun X => Below w.heap.size w X ∧ Nb X w.heap.size N) ⟨by repeat (first | (with_reducible exact Below.refl _ _) | (with_reducible refine bl_alloc ?_ _) | (with_reducible refine Below.drew ?_) | (with_reducible refine bl_drewN ?_ _) | (with_reducible refine bl_set ?_ (by omega) _) | (with_reducible refine bl_step ?_ (by assumption))), nb_new _ _ _⟩ ?_
      rintro X ⟨BX, NX⟩
      refine (CC X).mono ?_
      rintro e w1 ⟨rfl, hb⟩
      replace BX := bl_step BX hb
      replace NX := NX.keep hb
      clear hb X CN CC
      obtain ⟨n0, n1, n2, n3, n4⟩ := NX
      by_cases h4 : N.ml < 1
      · go_wp2_with fail
        go_ret3
        exact ⟨rfl, BX⟩
      · have h5 : 64 < N.ml := by omega
        go_wp2_with fail
        go_ret3
        exact ⟨rfl, BX⟩
    · rw [if_pos h2]
      have hx : (chk N.h N.v N.c != 0) = true := by simpa using h2
      clear hw0
      generalize chk N.h N.v N.c = x at *
      go_enter Tryz.func24, Tryz.ntmps24
      go_wp2_with fail
      refine (CN _).mono ?_
      rintro e w0 ⟨rfl, rfl⟩
      go_wp2_with fail
      refine gen_calls (fun X => Below w.heap.size w X) (by repeat (first | (with_reducible exact Below.refl _ _) | (with_reducible refine bl_alloc ?_ _) | (with_reducible refine Below.drew ?_) | (with_reducible refine bl_drewN ?_ _) | (with_reducible refine bl_set ?_ (by omega) _) | (with_reducible refine bl_step ?_ (by assumption)))) ?_
      rintro X BX
      refine (CC X).mono ?_
      rintro e w1 ⟨rfl, hb⟩
      replace BX := bl_step BX hb
      clear hb X CN CC
      go_wp2_with fail
      go_ret3
      exact ⟨rfl, BX⟩
theorem rwalk_any (N : Nt) (w : World) (hN : NtW w N) : Calls Tryz.prog 24 #[ntv N] w fun e w' => ∃ v, e = .returned (.tuple #[v, .int .i64 (chA N), .int .i64 (chE N)]) ∧ Below w.heap.size w w' ∧ RkP N w w' v := by
  by_cases h : whE N = 0
  · exact rwalk_good N w hN h
  · refine (rwalk_bad N w hN h).mono ?_
    rintro e w' ⟨rfl, hb⟩
    rw [(ch_whole h).1, (ch_whole h).2]
    exact ⟨_, rfl, hb, fun _ => rfl, fun h' => absurd ((ch_whole h).1.symm.trans h') h⟩
set_option maxRecDepth 100000 in
theorem rncheck_any (N : Nt) (w : World) (hN : NtW w N) : Calls Tryz.prog 15 #[ntv N] w fun e w' => e = .returned (.tuple #[.int .i64 (chA N), .int .i64 (chE N)]) ∧ Below w.heap.size w w' := by
  have HN := hid1 hN
  clear hN
  go_enter Tryz.func15, Tryz.ntmps15
  go_wp2_with fail
  refine gen_calls (fun X => Below w.heap.size w X) (by repeat (first | (with_reducible exact Below.refl _ _) | (with_reducible refine bl_alloc ?_ _) | (with_reducible refine Below.drew ?_) | (with_reducible refine bl_drewN ?_ _) | (with_reducible refine bl_set ?_ (by omega) _) | (with_reducible refine bl_step ?_ (by assumption)))) ?_
  rintro X BX
  refine (rwalk_any N X (HN.out.keep BX)).mono ?_
  rintro e w1 ⟨v, rfl, hb, _⟩
  replace BX := bl_step BX hb
  clear hb HN
  go_wp2_with fail
  go_ret2
  exact ⟨rfl, BX⟩
set_option maxRecDepth 100000 in
theorem rnshapes_any (N : Nt) (w : World) (hN : NtW w N) : Calls Tryz.prog 25 #[ntv N] w fun e w' => ∃ v, e = .returned (.tuple #[v, .int .i64 (chE N)]) ∧ Below w.heap.size w w' ∧ RkP N w w' v := by
  have HN := hid1 hN
  clear hN
  go_enter Tryz.func25, Tryz.ntmps25
  go_wp2_with fail
  refine gen_calls (fun X => Below w.heap.size w X) (by repeat (first | (with_reducible exact Below.refl _ _) | (with_reducible refine bl_alloc ?_ _) | (with_reducible refine Below.drew ?_) | (with_reducible refine bl_drewN ?_ _) | (with_reducible refine bl_set ?_ (by omega) _) | (with_reducible refine bl_step ?_ (by assumption)))) ?_
  rintro X BX
  refine (rwalk_any N X (HN.out.keep BX)).mono ?_
  rintro e w1 ⟨v, rfl, hb, hv⟩
  have hs := BX.size
  have HV := hid1 hv
  replace BX := bl_step BX hb
  clear hb HN hv
  go_wp2_with fail
  go_ret2
  exact ⟨v, rfl, BX, HV.out.1, fun h => by
    obtain ⟨g, cap, h1, h2, h3⟩ := HV.out.2 h
    exact ⟨g, cap, by omega, h2, h3⟩⟩
end Go.Proofs.YtlgjoepeibodkaaGreat.Nn
/- PLAIN'S STATEMENTS: how much work a run is. -/
namespace Go.Proofs.YtlgjoepeibodkaaGreat.Nn
open Go.RowKit

theorem chk_sp {N : Nt} (hz : chE N = 0) : ∀ i, i ≤ N.ml → chk (sp N i).h (sp N i).v (sp N i).c = 0
  | 0, _ => (wh_parts (fl_all hz).1).2.1
  | i + 1, hi => by
    have h0 : faE (N.lf i) (sp N i) = 0 := (fl_all hz).2 i (by omega)
    by_cases h2 : (N.lf i).kd = 2
    · have hs := sp_all hz (i + 1) hi
      have e1 : (sp N (i + 1)).h = 1 := by show oH _ _ _ _ = _; unfold oH; rw [if_pos h2]
      have e2 : (sp N (i + 1)).v = 1 := by show oV _ _ _ _ = _; unfold oV; rw [if_pos h2]
      have h3 := hs.1
      rw [e1, e2] at h3 ⊢
      unfold chk
      rw [if_pos h3, if_neg]
      have := h3.2.2
      omega
    · obtain ⟨qo, q1, -⟩ := win_ok h0 h2
      have := (sl_chk q1).2.2
      show chk (oH (N.lf i) (sp N i).h (sp N i).v (sp N i).c) (oV (N.lf i) (sp N i).h (sp N i).v (sp N i).c) (oC (N.lf i) (sp N i).h (sp N i).v (sp N i).c) = 0
      unfold oH oV oC
      rw [if_neg h2, if_neg h2, if_neg h2, if_pos qo, if_pos qo, if_pos qo]
      exact this
/-- How many products an output's element has. -/
def fwV (L : Ly) (h v c : Int) : Int := if L.kd = 1 then L.r * L.s * c else if L.kd = 3 then L.r * L.s else h * v * c
def woV (N : Nt) : Nat → Int
  | 0 => 0
  | i + 1 => woV N i + (sp N (i + 1)).h * (sp N (i + 1)).v * (sp N (i + 1)).c * fwV (N.lf i) (sp N i).h (sp N i).v (sp N i).c
theorem fw_bd {N : Nt} (hz : chE N = 0) {i : Nat} (hi : i < N.ml) : 1 ≤ fwV (N.lf i) (sp N i).h (sp N i).v (sp N i).c ∧ fwV (N.lf i) (sp N i).h (sp N i).v (sp N i).c ≤ 16777216 ∧ (¬ (N.lf i).kd = 2 → (1 ≤ (N.lf i).r ∧ (N.lf i).r ≤ 15) ∧ (1 ≤ (N.lf i).s ∧ (N.lf i).s ≤ 15)) := by
  have h0 : faE (N.lf i) (sp N i) = 0 := (fl_all hz).2 i hi
  obtain ⟨⟨⟨a1, a2⟩, ⟨a3, a4⟩, ⟨a5, a6⟩⟩, hp⟩ := chk_prod (chk_sp hz i (by omega))
  have hw : ¬ (N.lf i).kd = 2 → (1 ≤ (N.lf i).r ∧ (N.lf i).r ≤ 15) ∧ (1 ≤ (N.lf i).s ∧ (N.lf i).s ≤ 15) := fun h2 => by
    have := (sl_chk (win_ok h0 h2).2.1).2.1
    unfold WOk SideOk at this
    omega
  have hrs : ¬ (N.lf i).kd = 2 → 1 ≤ (N.lf i).r * (N.lf i).s ∧ (N.lf i).r * (N.lf i).s ≤ 225 := fun h2 => by
    obtain ⟨⟨r1, r2⟩, s1, s2⟩ := hw h2
    have m1 := Int.mul_le_mul r2 s2 (by omega) (by decide : (0 : Int) ≤ 15)
    have m2 := Int.mul_le_mul r1 s1 (by decide) (by omega : (0 : Int) ≤ (N.lf i).r)
    omega
  refine ⟨?_, ?_, hw⟩
  · unfold fwV
    by_cases h1 : (N.lf i).kd = 1
    · rw [if_pos h1]
      have := hrs (by omega)
      have m := Int.mul_le_mul this.1 a5 (by decide) (by omega)
      omega
    · rw [if_neg h1]
      by_cases h3 : (N.lf i).kd = 3
      · rw [if_pos h3]; exact (hrs (by omega)).1
      · rw [if_neg h3]
        have m1 := Int.mul_le_mul a1 a3 (by decide) (by omega : (0 : Int) ≤ (sp N i).h)
        have m2 := Int.mul_le_mul (show 1 ≤ (sp N i).h * (sp N i).v by omega) a5 (by decide) (by omega)
        omega
  · unfold fwV
    by_cases h1 : (N.lf i).kd = 1
    · rw [if_pos h1]
      have := hrs (by omega)
      have m := Int.mul_le_mul this.2 a6 (by omega) (by decide)
      omega
    · rw [if_neg h1]
      by_cases h3 : (N.lf i).kd = 3
      · rw [if_pos h3]; have := (hrs (by omega)).2; omega
      · rw [if_neg h3]; exact hp
theorem el_sp {N : Nt} (hz : chE N = 0) {i : Nat} (hi : i ≤ N.ml) : (1 ≤ (sp N i).h * (sp N i).v ∧ (sp N i).h * (sp N i).v ≤ 16777216) ∧ 1 ≤ (sp N i).h * (sp N i).v * (sp N i).c ∧ (sp N i).h * (sp N i).v * (sp N i).c ≤ 16777216 := by
  obtain ⟨⟨⟨a1, a2⟩, ⟨a3, a4⟩, ⟨a5, a6⟩⟩, hp⟩ := chk_prod (chk_sp hz i hi)
  have m1 := Int.mul_le_mul a1 a3 (by decide) (by omega : (0 : Int) ≤ (sp N i).h)
  have m2 := Int.mul_le_mul (show 1 ≤ (sp N i).h * (sp N i).v by omega) a5 (by decide) (by omega)
  have m3 := Int.mul_le_mul a2 a4 (by omega) (by decide : (0 : Int) ≤ 4096)
  omega
theorem wo_bd {N : Nt} (hz : chE N = 0) : ∀ i, i ≤ N.ml → 0 ≤ woV N i ∧ woV N i ≤ 281474976710656 * (i : Int)
  | 0, _ => by simp [woV]
  | i + 1, hi => by
    have ih := wo_bd hz i (by omega)
    obtain ⟨f1, f2, -⟩ := fw_bd hz (show i < N.ml by omega)
    obtain ⟨-, e1, e2⟩ := el_sp hz hi
    have m1 := Int.mul_le_mul e2 f2 (by omega) (by decide : (0 : Int) ≤ 16777216)
    have m2 := Int.mul_nonneg (show 0 ≤ (sp N (i + 1)).h * (sp N (i + 1)).v * (sp N (i + 1)).c by omega) (show 0 ≤ fwV (N.lf i) (sp N i).h (sp N i).v (sp N i).c by omega)
    simp only [woV]
    omega
/-- What is too much work is never too little elements. -/
theorem to_wo {N : Nt} (hz : chE N = 0) : ∀ i, i ≤ N.ml → toV (fun k => (sp N (k + 1)).h) (fun k => (sp N (k + 1)).v) (fun k => (sp N (k + 1)).c) i ≤ woV N i
  | 0, _ => by simp [woV, toV]
  | i + 1, hi => by
    have ih := to_wo hz i (by omega)
    obtain ⟨f1, f2, -⟩ := fw_bd hz (show i < N.ml by omega)
    obtain ⟨-, e1, e2⟩ := el_sp hz hi
    have m := Int.mul_le_mul_of_nonneg_left f1 (show 0 ≤ (sp N (i + 1)).h * (sp N (i + 1)).v * (sp N (i + 1)).c by omega)
    simp only [woV, toV]
    have e : elN (sp N (i + 1)).h (sp N (i + 1)).v (sp N (i + 1)).c = (sp N (i + 1)).h * (sp N (i + 1)).v * (sp N (i + 1)).c := by
      unfold elN
      rw [if_pos (chk_sp hz (i + 1) hi)]
    rw [e]
    omega
end Go.Proofs.YtlgjoepeibodkaaGreat.Nn
/- PLAIN: what a layer makes hangs on what comes in alone. -/
namespace Go.Proofs.YtlgjoepeibodkaaGreat.Nn
open Go.RowKit

theorem sm_congr {f x y : Nat → Int} : ∀ {n : Nat}, (∀ j, j < n → x j = y j) → smV f x n = smV f y n
  | 0, _ => rfl
  | n + 1, h => by rw [smV, smV, sm_congr (n := n) fun j hj => h j (by omega), h n (by omega)]
theorem hi_congr {x y : Nat → Int} {c s : Nat} : ∀ {p : Nat}, (∀ j, j ≤ p → x (c + j * s) = y (c + j * s)) → hiV x c s p = hiV y c s p
  | 0, h => by have := h 0 (Nat.le_refl _); rw [Nat.zero_mul, Nat.add_zero] at this; rw [hiV, hiV, this]
  | p + 1, h => by rw [hiV, hiV, hi_congr (p := p) fun j hj => h j (by omega), h (p + 1) (Nat.le_refl _)]
theorem lk_congr {a b bd : Int} {H V C S : Nat} {x y : Nat → Int} {j : Nat} (hC : 1 ≤ C) (h : ∀ q, q < H * V * C → x q = y q) : lkW a b bd H V C S x j = lkW a b bd H V C S y j := by
  unfold lkW
  by_cases hi : Inw a b H V (j / C / S) (j / C % S)
  · rw [if_pos hi, if_pos hi]
    refine h _ ?_
    obtain ⟨⟨h1, h2⟩, h3, h4⟩ := hi
    generalize (a + ((j / C / S : Nat) : Int)) = u at h1 h2
    generalize (b + ((j / C % S : Nat) : Int)) = v at h3 h4
    have e1 : u.toNat < H := by omega
    have e2 : v.toNat < V := by omega
    have e3 : j % C < C := Nat.mod_lt _ hC
    have m1 : (u.toNat + 1) * V ≤ H * V := Nat.mul_le_mul_right V e1
    have m2 : (u.toNat * V + v.toNat + 1) * C ≤ H * V * C := Nat.mul_le_mul_right C (by rw [Nat.add_mul, Nat.one_mul] at m1; omega)
    rw [Nat.add_mul (u.toNat * V + v.toNat) 1 C, Nat.one_mul] at m2
    omega
  · rw [if_neg hi, if_neg hi]
/-- What a layer makes hangs on the elements that come in alone. -/
theorem op_congr {L : Ly} {H V C F OW : Nat} {x y : Nat → Int} (hC : 1 ≤ C) (hF : L.kd = 2 → F = H * V * C) (h : ∀ q, q < H * V * C → x q = y q) (j : Nat) : opN L H V C F OW x j = opN L H V C F OW y j := by
  unfold opN
  by_cases h2 : L.kd = 2
  · rw [if_pos h2, if_pos h2]
    unfold ouV
    rw [sm_congr fun q hq => h q (by rw [← hF h2]; exact hq)]
  · rw [if_neg h2, if_neg h2]
    by_cases h1 : L.kd = 1
    · rw [if_pos h1, if_pos h1]
      unfold ouV
      exact congrArg (beV L _) (sm_congr fun q _ => by unfold plW; exact lk_congr hC h)
    · rw [if_neg h1, if_neg h1]
      exact hi_congr fun q _ => by unfold plW; exact lk_congr hC h
/-- From a layer on, what is the same stays the same. -/
theorem val_from {N M : Nt} {x y : Nat → Int} (hz : chE N = 0) {i0 : Nat} (hsp : ∀ i, i0 ≤ i → i ≤ N.ml → sp M i = sp N i) (hlf : ∀ i, i0 ≤ i → i < N.ml → (M.lf i).kd = (N.lf i).kd ∧ ∀ H V C F OW z j, opN (M.lf i) H V C F OW z j = opN (N.lf i) H V C F OW z j) (hfan : ∀ i, i0 ≤ i → i < N.ml → fanN M i = fanN N i) (h0 : ∀ q, q < szN N i0 → valN M y i0 q = valN N x i0 q) : ∀ i, i0 ≤ i → i ≤ N.ml → ∀ q, q < szN N i → valN M y i q = valN N x i q := by
  intro i hi
  induction i with
  | zero =>
    intro _ q hq
    obtain rfl : i0 = 0 := by omega
    exact h0 q hq
  | succ i ih =>
    intro hm q hq
    by_cases he : i0 = i + 1
    · subst he; exact h0 q hq
    · have ihq := ih (by omega) (by omega)
      have hs := sp_all hz i (by omega)
      rw [valN, valN, hsp i (by omega) (by omega), hsp (i + 1) (by omega) hm, hfan i (by omega) (by omega), show cN M i = cN N i by unfold cN; rw [hsp i (by omega) (by omega)], (hlf i (by omega) (by omega)).2]
      obtain ⟨⟨⟨a1, a2⟩, ⟨a3, a4⟩, ⟨a5, a6⟩⟩, -⟩ := hs
      refine op_congr (by unfold cN; omega) (fun h2 => ?_) (fun r hr => ihq r hr) q
      unfold fanN fan cN
      rw [if_pos h2]
      obtain ⟨H, eH⟩ := Int.eq_ofNat_of_zero_le (show 0 ≤ (sp N i).h by omega)
      obtain ⟨V, eV⟩ := Int.eq_ofNat_of_zero_le (show 0 ≤ (sp N i).v by omega)
      obtain ⟨C, eC⟩ := Int.eq_ofNat_of_zero_le (show 0 ≤ (sp N i).c by omega)
      rw [eH, eV, eC, ← Int.natCast_mul, ← Int.natCast_mul]
      rfl
end Go.Proofs.YtlgjoepeibodkaaGreat.Nn
/- PLAINBORDER: a border laid out, its mathematics: the network. -/
namespace Go.Proofs.YtlgjoepeibodkaaGreat.Nn
open Go.RowKit

theorem st_border {n bf af wi st : Int} : stN (n + bf + af) 0 0 wi st = stN n bf af wi st := by
  unfold stN
  rw [show 0 + (n + bf + af) + 0 = bf + n + af by omega]
theorem sl_border {h v c r s sy sx t l b q k : Int} (e : slE h v c r s sy sx t l b q k = 0) (hc : chk (h + t + b) (v + l + q) c = 0) : slE (h + t + b) (v + l + q) c r s sy sx 0 0 0 0 k = 0 := by
  unfold slE at e ⊢
  rw [st_border, st_border]
  rw [if_neg (by rw [hc]; decide)]
  by_cases h1 : chk h v c ≠ 0
  · rw [if_pos h1] at e; exact absurd e h1
  · rw [if_neg h1] at e
    by_cases h2 : k < 1 ∨ k > 4096
    · rw [if_pos h2] at e; cases e
    · rw [if_neg h2] at e ⊢
      by_cases h3 : ¬ WOk r s sy sx t l b q
      · rw [if_pos h3] at e; cases e
      · rw [if_neg h3] at e
        have h3' : WOk r s sy sx 0 0 0 0 := by
          have := Classical.not_not.1 h3
          unfold WOk SideOk at this ⊢
          omega
        rw [if_neg (fun q => q h3')]
        exact e
/-- A convolution without its border. -/
def noB (L : Ly) : Ly := { L with t := 0, l := 0, b := 0, q := 0, bd := 0 }
/-- The network with its first layer's border laid out. -/
structure Bo (N M : Nt) : Prop where
  nm : M.nm = N.nm
  h : M.h = N.h + (N.lf 0).t + (N.lf 0).b
  v : M.v = N.v + (N.lf 0).l + (N.lf 0).q
  c : M.c = N.c
  ml : M.ml = N.ml
  l0 : M.lf 0 = noB (N.lf 0)
  lj : ∀ j, 1 ≤ j → j < N.ml → M.lf j = N.lf j
  k1 : (N.lf 0).kd = 1
  ck : chk M.h M.v M.c = 0
theorem bo_sp {N M : Nt} (hz : chE N = 0) (B : Bo N M) : ∀ i, 1 ≤ i → i ≤ N.ml → sp M i = sp N i := by
  intro i hi
  induction i with
  | zero => omega
  | succ i ih =>
    intro hm
    show (⟨oH (M.lf i) (sp M i).h (sp M i).v (sp M i).c, oV (M.lf i) (sp M i).h (sp M i).v (sp M i).c, oC (M.lf i) (sp M i).h (sp M i).v (sp M i).c, (sp M i).ah + wc (M.lf i) (sp M i).h (sp M i).v (sp M i).c, false, decide (M.ml = i + 2)⟩ : Sp) = ⟨oH (N.lf i) (sp N i).h (sp N i).v (sp N i).c, oV (N.lf i) (sp N i).h (sp N i).v (sp N i).c, oC (N.lf i) (sp N i).h (sp N i).v (sp N i).c, (sp N i).ah + wc (N.lf i) (sp N i).h (sp N i).v (sp N i).c, false, decide (N.ml = i + 2)⟩
    by_cases h0 : i = 0
    · subst h0
      have hk := B.k1
      have hq := win_ok ((fl_all hz).2 0 (by omega)) (show ¬ (N.lf 0).kd = 2 by omega)
      have e1 : oE (N.lf 0) N.h N.v N.c = 0 := hq.1
      have e2 : slE N.h N.v N.c (N.lf 0).r (N.lf 0).s (N.lf 0).sy (N.lf 0).sx (N.lf 0).t (N.lf 0).l (N.lf 0).b (N.lf 0).q (N.lf 0).k = 0 := by have := hq.2.1; rw [if_neg (by omega)] at this; exact this
      have e3 : slE M.h M.v M.c (N.lf 0).r (N.lf 0).s (N.lf 0).sy (N.lf 0).sx 0 0 0 0 (N.lf 0).k = 0 := by
        have hc := B.ck
        rw [B.h, B.v, B.c] at hc ⊢
        exact sl_border e2 hc
      have e4 : oE (noB (N.lf 0)) M.h M.v M.c = 0 := by
        unfold oE
        rw [if_neg (by show ¬ (N.lf 0).kd = 2; omega), if_neg (by show ¬ (N.lf 0).kd = 3; omega)]
        exact e3
      rw [B.l0, B.ml]
      show (⟨oH (noB (N.lf 0)) M.h M.v M.c, oV (noB (N.lf 0)) M.h M.v M.c, oC (noB (N.lf 0)) M.h M.v M.c, 0 + wc (noB (N.lf 0)) M.h M.v M.c, false, _⟩ : Sp) = ⟨oH (N.lf 0) N.h N.v N.c, oV (N.lf 0) N.h N.v N.c, oC (N.lf 0) N.h N.v N.c, 0 + wc (N.lf 0) N.h N.v N.c, false, _⟩
      have w1 : wc (noB (N.lf 0)) M.h M.v M.c = wc (N.lf 0) N.h N.v N.c := by
        unfold wc fan
        rw [if_neg (by show ¬ (N.lf 0).kd = 2; omega), if_neg (show ¬ (N.lf 0).kd = 2 by omega), B.c]
        rfl
      have w2 : oH (noB (N.lf 0)) M.h M.v M.c = oH (N.lf 0) N.h N.v N.c := by
        unfold oH
        rw [if_neg (by show ¬ (N.lf 0).kd = 2; omega), if_neg (show ¬ (N.lf 0).kd = 2 by omega), if_pos e4, if_pos e1, B.h]
        exact st_border
      have w3 : oV (noB (N.lf 0)) M.h M.v M.c = oV (N.lf 0) N.h N.v N.c := by
        unfold oV
        rw [if_neg (by show ¬ (N.lf 0).kd = 2; omega), if_neg (show ¬ (N.lf 0).kd = 2 by omega), if_pos e4, if_pos e1, B.v]
        exact st_border
      have w4 : oC (noB (N.lf 0)) M.h M.v M.c = oC (N.lf 0) N.h N.v N.c := by
        unfold oC
        rw [if_neg (by show ¬ (N.lf 0).kd = 2; omega), if_neg (show ¬ (N.lf 0).kd = 2 by omega), if_pos e4, if_pos e1]
        rw [if_neg (by show ¬ (N.lf 0).kd = 3; omega), if_neg (by show ¬ (N.lf 0).kd = 3; omega)]
        rfl
      rw [w1, w2, w3, w4]
    · rw [ih (by omega) (by omega), B.lj i (by omega) (by omega), B.ml]
theorem bo_oE {N M : Nt} (hz : chE N = 0) (B : Bo N M) (hm : 1 ≤ N.ml) : oE (noB (N.lf 0)) M.h M.v M.c = 0 ∧ fan (noB (N.lf 0)) M.h M.v M.c = fan (N.lf 0) N.h N.v N.c ∧ WOk (N.lf 0).r (N.lf 0).s (N.lf 0).sy (N.lf 0).sx 0 0 0 0 := by
  have hk := B.k1
  have hq := win_ok ((fl_all hz).2 0 (by omega)) (show ¬ (N.lf 0).kd = 2 by omega)
  have e2 : slE N.h N.v N.c (N.lf 0).r (N.lf 0).s (N.lf 0).sy (N.lf 0).sx (N.lf 0).t (N.lf 0).l (N.lf 0).b (N.lf 0).q (N.lf 0).k = 0 := by have := hq.2.1; rw [if_neg (by omega)] at this; exact this
  refine ⟨?_, ?_, ?_⟩
  · unfold oE
    rw [if_neg (by show ¬ (N.lf 0).kd = 2; omega), if_neg (by show ¬ (N.lf 0).kd = 3; omega)]
    have hc := B.ck
    rw [B.h, B.v, B.c] at hc ⊢
    exact sl_border e2 hc
  · unfold fan
    rw [if_neg (by show ¬ (N.lf 0).kd = 2; omega), if_neg (show ¬ (N.lf 0).kd = 2 by omega), B.c]
    rfl
  · have := (sl_chk e2).2.1
    unfold WOk SideOk at this ⊢
    omega
theorem bo_ok {N M : Nt} (hz : chE N = 0) (B : Bo N M) : chE M = 0 := by
  obtain ⟨hw0, hf⟩ := fl_all hz
  have hp := wh_parts hw0
  have hw : whE M = 0 := by
    unfold whE
    rw [B.nm, hp.1, if_neg (by decide), B.ck, if_neg (by decide), B.ml, if_pos hp.2.2]
  obtain ⟨o1, o2, o3⟩ := bo_oE hz B hp.2.2.1
  refine (ch_ok hw fun j hj => ?_).1
  rw [B.ml] at hj
  by_cases h0 : j = 0
  · subst h0
    have h : faE (N.lf 0) (sp N 0) = 0 := hf 0 hj
    unfold fl
    rw [B.l0]
    unfold faE at h ⊢
    rw [if_pos B.k1] at h
    rw [if_pos (show (noB (N.lf 0)).kd = 1 from B.k1)]
    have h := frF_z h
    have hwc : wc (noB (N.lf 0)) M.h M.v M.c = wc (N.lf 0) N.h N.v N.c := by unfold wc; rw [o2]; rfl
    refine frF_ok fun q hq => ?_
    rcases (show q = 0 ∨ q = 1 ∨ q = 2 ∨ q = 3 ∨ q = 4 ∨ q = 5 ∨ q = 6 ∨ q = 7 ∨ q = 8 ∨ q = 9 by omega) with rfl | rfl | rfl | rfl | rfl | rfl | rfl | rfl | rfl | rfl
    · have := h 0 (by decide)
      show (if decide (M.ml = 1) = true then (51 : Int) else 0) = 0
      rw [B.ml]
      exact this
    · exact h 1 (by decide)
    · exact if_pos o3
    · show boE (noB (N.lf 0)) = 0
      exact if_pos (.inr rfl)
    · exact o1
    · exact h 5 (by decide)
    · have := h 6 (by decide)
      show wrE (noB (N.lf 0)) (sp M 0) = 0
      have e : wrE (N.lf 0) (sp N 0) = 0 := this
      unfold wrE at e ⊢
      show (if 0 + wc (noB (N.lf 0)) M.h M.v M.c ≤ 16777216 then (0 : Int) else 31) = 0
      rw [hwc]
      exact e
    · have e : wsE (N.lf 0) (sp N 0) = 0 := h 7 (by decide)
      have e := zero_else (by decide) e
      refine wsE_ok ?_ e.2
      show ((N.lf 0).mw : Int) = wc (noB (N.lf 0)) M.h M.v M.c
      rw [hwc]
      exact e.1
    · exact h 8 (by decide)
    · have e : reE (N.lf 0) (sp N 0) = 0 := h 9 (by decide)
      have e := zero_else (by decide) e
      have hl : lef (noB (N.lf 0)) (sp M 0) = lef (N.lf 0) (sp N 0) := by
        unfold lef
        show 2147483647 - fan (noB (N.lf 0)) M.h M.v M.c * _ = 2147483647 - fan (N.lf 0) N.h N.v N.c * _
        rw [o2]
        rfl
      refine reE_ok ?_ ?_
      · rw [hl]; exact e.1
      · rw [hl]; exact e.2
  · have := hf j hj
    unfold fl at this ⊢
    rw [bo_sp hz B j (by omega) (by omega), B.lj j (by omega) hj]
    exact this
end Go.Proofs.YtlgjoepeibodkaaGreat.Nn
/- PLAINBORDER: a border laid out, its mathematics: the values. -/
namespace Go.Proofs.YtlgjoepeibodkaaGreat.Nn
open Go.RowKit

theorem st_in {n wi st : Int} {k : Nat} (h2 : 1 ≤ st) (hk : (k : Int) < stN n 0 0 wi st) : (k : Int) * st + wi ≤ n := by
  unfold stN at hk
  by_cases h : 0 + n + 0 < wi
  · rw [if_pos h] at hk; omega
  · rw [if_neg h] at hk
    have a : (k : Int) ≤ (0 + n + 0 - wi) / st := by omega
    have b := Int.mul_le_mul_of_nonneg_right a (show 0 ≤ st by omega)
    have c := Int.ediv_mul_le (0 + n + 0 - wi) (show st ≠ 0 by omega)
    omega
/-- The input with a border laid around it. -/
def LaidB (x y : Nat → Int) (t l bd : Int) (H V H' V' C : Nat) : Prop := ∀ Y X ch : Nat, Y < H' → X < V' → ch < C → y ((Y * V' + X) * C + ch) = if (0 ≤ (Y : Int) - t ∧ (Y : Int) - t < H) ∧ (0 ≤ (X : Int) - l ∧ (X : Int) - l < V) then x ((((Y : Int) - t).toNat * V + ((X : Int) - l).toNat) * C + ch) else bd
theorem lk_border {x y : Nat → Int} {t l bd : Int} {H V H' V' C S : Nat} (hl : LaidB x y t l bd H V H' V' C) (hC : 1 ≤ C) (a b : Nat) (q : Nat) (ha : a + q / C / S < H') (hb : b + q / C % S < V') : lkW (a : Int) (b : Int) 0 H' V' C S y q = lkW ((a : Int) - t) ((b : Int) - l) bd H V C S x q := by
  unfold lkW
  generalize q / C / S = r at ha
  generalize q / C % S = s at hb
  rw [if_pos (show Inw (a : Int) (b : Int) H' V' r s from ⟨⟨by omega, by omega⟩, by omega, by omega⟩)]
  have e1 : ((a : Int) + (r : Int)).toNat = a + r := by omega
  have e2 : ((b : Int) + (s : Int)).toNat = b + s := by omega
  rw [e1, e2, hl (a + r) (b + s) (q % C) ha hb (Nat.mod_lt _ hC)]
  have e3 : (((a + r : Nat) : Int) - t) = (a : Int) - t + (r : Int) := by omega
  have e4 : (((b + s : Nat) : Int) - l) = (b : Int) - l + (s : Int) := by omega
  rw [e3, e4]
  unfold Inw
  rfl
theorem bo_val {N M : Nt} (hz : chE N = 0) (B : Bo N M) {x y : Nat → Int} (hl : LaidB x y (N.lf 0).t (N.lf 0).l (N.lf 0).bd N.h.toNat N.v.toNat M.h.toNat M.v.toNat N.c.toNat) (j : Nat) (hj : j < szN N 1) : valN M y 1 j = valN N x 1 j := by
  have hp := wh_parts (fl_all hz).1
  have hk := B.k1
  obtain ⟨o1, o2, o3⟩ := bo_oE hz B hp.2.2.1
  have hs1 := bo_sp hz B 1 (Nat.le_refl _) hp.2.2.1
  have hF : fanN M 0 = fanN N 0 := by
    unfold fanN
    rw [B.l0]
    show (fan (noB (N.lf 0)) M.h M.v M.c).toNat = (fan (N.lf 0) N.h N.v N.c).toNat
    rw [o2]
  obtain ⟨⟨⟨a1, a2⟩, ⟨a3, a4⟩, ⟨a5, a6⟩⟩, -⟩ := chk_prod hp.2.1
  obtain ⟨⟨⟨b1, b2⟩, ⟨b3, b4⟩, ⟨b5, b6⟩⟩, -⟩ := chk_prod B.ck
  obtain ⟨⟨⟨w1, w2⟩, ⟨w3, w4⟩, -⟩, ⟨w5, w6⟩, ⟨w7, w8⟩, -⟩ := o3
  have hq := win_ok ((fl_all hz).2 0 (by omega)) (show ¬ (N.lf 0).kd = 2 by omega)
  have e1 : oE (N.lf 0) N.h N.v N.c = 0 := hq.1
  have eh : (sp N 1).h = stN M.h 0 0 (N.lf 0).r (N.lf 0).sy := by
    show oH (N.lf 0) N.h N.v N.c = _
    unfold oH
    rw [if_neg (show ¬ (N.lf 0).kd = 2 by omega), if_pos e1, B.h]
    exact st_border.symm
  have ev : (sp N 1).v = stN M.v 0 0 (N.lf 0).s (N.lf 0).sx := by
    show oV (N.lf 0) N.h N.v N.c = _
    unfold oV
    rw [if_neg (show ¬ (N.lf 0).kd = 2 by omega), if_pos e1, B.v]
    exact st_border.symm
  have ec : (sp N 1).c = (N.lf 0).k := by
    show oC (N.lf 0) N.h N.v N.c = _
    unfold oC
    rw [if_neg (show ¬ (N.lf 0).kd = 2 by omega), if_pos e1, if_neg (show ¬ (N.lf 0).kd = 3 by omega)]
  have hs := (sp_all hz 1 hp.2.2.1).1
  have eF : fanN N 0 = (N.lf 0).r.toNat * (N.lf 0).s.toNat * N.c.toNat := by
    unfold fanN fan
    rw [if_neg (show ¬ (N.lf 0).kd = 2 by omega)]
    show ((N.lf 0).r * (N.lf 0).s * N.c).toNat = _
    obtain ⟨R, eR⟩ := Int.eq_ofNat_of_zero_le (show 0 ≤ (N.lf 0).r by omega)
    obtain ⟨S, eS⟩ := Int.eq_ofNat_of_zero_le (show 0 ≤ (N.lf 0).s by omega)
    obtain ⟨C, eC⟩ := Int.eq_ofNat_of_zero_le (show 0 ≤ N.c by omega)
    rw [eR, eS, eC, ← Int.natCast_mul, ← Int.natCast_mul]
    rfl
  rw [valN, valN, hF, B.l0, hs1]
  show opN (noB (N.lf 0)) M.h.toNat M.v.toNat (sp M 0).c.toNat (fanN N 0) (sp N 1).v.toNat y j = opN (N.lf 0) N.h.toNat N.v.toNat N.c.toNat (fanN N 0) (sp N 1).v.toNat x j
  rw [show (sp M 0).c.toNat = N.c.toNat by show M.c.toNat = _; rw [B.c]]
  unfold opN
  rw [if_neg (by show ¬ (N.lf 0).kd = 2; omega), if_neg (show ¬ (N.lf 0).kd = 2 by omega), if_pos (by show (N.lf 0).kd = 1; exact hk), if_pos hk]
  show beV (N.lf 0) _ (smV _ (plW (noB (N.lf 0)) M.h.toNat M.v.toNat N.c.toNat (N.lf 0).s.toNat (sp N 1).v.toNat y (j / (N.lf 0).k.toNat)) (fanN N 0)) = beV (N.lf 0) _ (smV _ (plW (N.lf 0) N.h.toNat N.v.toNat N.c.toNat (N.lf 0).s.toNat (sp N 1).v.toNat x (j / (N.lf 0).k.toNat)) (fanN N 0))
  refine congrArg (beV (N.lf 0) _) (sm_congr fun q hq' => ?_)
  have hP : j / (N.lf 0).k.toNat < (sp N 1).h.toNat * (sp N 1).v.toNat := by
    unfold szN cN at hj
    rw [ec] at hj
    exact Nat.div_lt_of_lt_mul (by rw [Nat.mul_comm]; exact hj)
  generalize j / (N.lf 0).k.toNat = P at hP
  have hOW : 1 ≤ (sp N 1).v.toNat := by have := hs.2.1; omega
  have hPd : P / (sp N 1).v.toNat < (sp N 1).h.toNat := Nat.div_lt_of_lt_mul (by rw [Nat.mul_comm]; exact hP)
  have hPm : P % (sp N 1).v.toNat < (sp N 1).v.toNat := Nat.mod_lt _ hOW
  obtain ⟨sy, esy⟩ := Int.eq_ofNat_of_zero_le (show 0 ≤ (N.lf 0).sy by omega)
  obtain ⟨sx, esx⟩ := Int.eq_ofNat_of_zero_le (show 0 ≤ (N.lf 0).sx by omega)
  obtain ⟨R, eR⟩ := Int.eq_ofNat_of_zero_le (show 0 ≤ (N.lf 0).r by omega)
  obtain ⟨S, eS⟩ := Int.eq_ofNat_of_zero_le (show 0 ≤ (N.lf 0).s by omega)
  unfold plW
  show lkW (((P / (sp N 1).v.toNat : Nat) : Int) * (N.lf 0).sy - 0) (((P % (sp N 1).v.toNat : Nat) : Int) * (N.lf 0).sx - 0) 0 M.h.toNat M.v.toNat N.c.toNat (N.lf 0).s.toNat y q = lkW (((P / (sp N 1).v.toNat : Nat) : Int) * (N.lf 0).sy - (N.lf 0).t) (((P % (sp N 1).v.toNat : Nat) : Int) * (N.lf 0).sx - (N.lf 0).l) (N.lf 0).bd N.h.toNat N.v.toNat N.c.toNat (N.lf 0).s.toNat x q
  generalize P / (sp N 1).v.toNat = py at hPd
  generalize P % (sp N 1).v.toNat = px at hPm
  have hy := st_in (n := M.h) (wi := (N.lf 0).r) (st := (N.lf 0).sy) (k := py) w3 (by rw [← eh]; omega)
  have hx := st_in (n := M.v) (wi := (N.lf 0).s) (st := (N.lf 0).sx) (k := px) w7 (by rw [← ev]; omega)
  have hC : 1 ≤ N.c.toNat := by omega
  have hSn : 1 ≤ (N.lf 0).s.toNat := by omega
  rw [eF] at hq'
  have hr1 : q / N.c.toNat < (N.lf 0).r.toNat * (N.lf 0).s.toNat := Nat.div_lt_of_lt_mul (by rw [Nat.mul_comm]; exact hq')
  have hr2 : q / N.c.toNat / (N.lf 0).s.toNat < (N.lf 0).r.toNat := Nat.div_lt_of_lt_mul (by rw [Nat.mul_comm]; exact hr1)
  have hr3 : q / N.c.toNat % (N.lf 0).s.toNat < (N.lf 0).s.toNat := Nat.mod_lt _ hSn
  rw [esy] at hy
  rw [esx] at hx
  rw [eR] at hy hr2
  have c1 : ((py : Int) * (N.lf 0).sy) = ((py * sy : Nat) : Int) := by rw [esy, Int.natCast_mul]
  have c2 : ((px : Int) * (N.lf 0).sx) = ((px * sx : Nat) : Int) := by rw [esx, Int.natCast_mul]
  rw [← Int.natCast_mul] at hy hx
  rw [c1, c2, Int.sub_zero, Int.sub_zero]
  refine lk_border hl hC (py * sy) (px * sx) q ?_ ?_
  · generalize q / N.c.toNat / (N.lf 0).s.toNat = u at hr2
    simp at hr2
    omega
  · generalize q / N.c.toNat % (N.lf 0).s.toNat = u at hr3
    omega
end Go.Proofs.YtlgjoepeibodkaaGreat.Nn
/- PLAINBORDER: the input laid out, and both traces the same. -/
namespace Go.Proofs.YtlgjoepeibodkaaGreat.Nn
open Go.RowKit

/-- The byte at a place of the input that is laid out. -/
def byB (f : Nat → Int) (t l bd : Int) (H V V' C k : Nat) : Int := if (0 ≤ ((k / C / V' : Nat) : Int) - t ∧ ((k / C / V' : Nat) : Int) - t < H) ∧ (0 ≤ ((k / C % V' : Nat) : Int) - l ∧ ((k / C % V' : Nat) : Int) - l < V) then f (((((k / C / V' : Nat) : Int) - t).toNat * V + (((k / C % V' : Nat) : Int) - l).toNat) * C + k % C) else IntKind.u8.wrap bd
theorem by_at (f : Nat → Int) (t l bd : Int) (H V V' C : Nat) {Y X ch : Nat} (hX : X < V') (hc : ch < C) : byB f t l bd H V V' C ((Y * V' + X) * C + ch) = if (0 ≤ (Y : Int) - t ∧ (Y : Int) - t < H) ∧ (0 ≤ (X : Int) - l ∧ (X : Int) - l < V) then f ((((Y : Int) - t).toNat * V + ((X : Int) - l).toNat) * C + ch) else IntKind.u8.wrap bd := by
  have e1 : ((Y * V' + X) * C + ch) / C = Y * V' + X := by rw [Nat.mul_comm, Nat.mul_add_div (by omega), Nat.div_eq_of_lt hc, Nat.add_zero]
  have e2 : ((Y * V' + X) * C + ch) % C = ch := by rw [Nat.mul_comm, Nat.mul_add_mod, Nat.mod_eq_of_lt hc]
  have e3 : (Y * V' + X) / V' = Y := by rw [Nat.mul_comm, Nat.mul_add_div (by omega), Nat.div_eq_of_lt hX, Nat.add_zero]
  have e4 : (Y * V' + X) % V' = X := by rw [Nat.mul_comm, Nat.mul_add_mod, Nat.mod_eq_of_lt hX]
  unfold byB
  rw [e1, e2, e3, e4]
def byL (f : Nat → Int) (t l bd : Int) (H V V' C k : Nat) : List Int := (List.range k).map (byB f t l bd H V V' C)
theorem byL_succ (f : Nat → Int) (t l bd : Int) (H V V' C k : Nat) : byL f t l bd H V V' C (k + 1) = byL f t l bd H V V' C k ++ [byB f t l bd H V V' C k] := by
  unfold byL
  rw [List.range_succ, List.map_append]
  rfl
theorem u8_wrap_bd (x : Int) : 0 ≤ IntKind.u8.wrap x ∧ IntKind.u8.wrap x < 256 := by
  simp [IntKind.wrap, IntKind.bits, IntKind.signed]
  omega
theorem u8_back {x : Int} (h1 : -1 ≤ x) (h2 : x ≤ 1) : s8 (IntKind.u8.wrap x) = x := by
  rcases (show x = -1 ∨ x = 0 ∨ x = 1 by omega) with rfl | rfl | rfl <;> decide
theorem in_lt {H V C : Nat} {a b : Int} {c : Nat} (h1 : 0 ≤ a ∧ a < H) (h2 : 0 ≤ b ∧ b < V) (h3 : c < C) : (a.toNat * V + b.toNat) * C + c < H * V * C := by
  have e1 : a.toNat < H := by omega
  have e2 : b.toNat < V := by omega
  have m1 : (a.toNat + 1) * V ≤ H * V := Nat.mul_le_mul_right V e1
  rw [Nat.succ_mul] at m1
  have m2 : (a.toNat * V + b.toNat + 1) * C ≤ H * V * C := Nat.mul_le_mul_right C (by omega)
  rw [Nat.succ_mul] at m2
  omega
theorem by_bd {f : Nat → Int} {t l bd : Int} {H V V' C : Nat} (hC : 1 ≤ C) (hf : ∀ q, q < H * V * C → 0 ≤ f q ∧ f q < 256) (k : Nat) : 0 ≤ byB f t l bd H V V' C k ∧ byB f t l bd H V V' C k < 256 := by
  unfold byB
  by_cases h : (0 ≤ ((k / C / V' : Nat) : Int) - t ∧ ((k / C / V' : Nat) : Int) - t < H) ∧ (0 ≤ ((k / C % V' : Nat) : Int) - l ∧ ((k / C % V' : Nat) : Int) - l < V)
  · rw [if_pos h]
    exact hf _ (in_lt h.1 h.2 (Nat.mod_lt _ hC))
  · rw [if_neg h]
    exact u8_wrap_bd bd
theorem by_laid {f : Nat → Int} {t l bd : Int} {H V H' V' C : Nat} (h1 : -1 ≤ bd) (h2 : bd ≤ 1) : LaidB (fun j => s8 (f j)) (fun j => s8 (byB f t l bd H V V' C j)) t l bd H V H' V' C := by
  intro Y X ch _ hX hc
  show s8 (byB f t l bd H V V' C ((Y * V' + X) * C + ch)) = _
  rw [by_at f t l bd H V V' C hX hc]
  by_cases h : (0 ≤ (Y : Int) - t ∧ (Y : Int) - t < H) ∧ (0 ≤ (X : Int) - l ∧ (X : Int) - l < V)
  · rw [if_pos h, if_pos h]
  · rw [if_neg h, if_neg h]
    exact u8_back h1 h2
theorem bo_steps {N M : Nt} (hz : chE N = 0) (B : Bo N M) {x y : Nat → Int} (hl : LaidB x y (N.lf 0).t (N.lf 0).l (N.lf 0).bd N.h.toNat N.v.toNat M.h.toNat M.v.toNat N.c.toNat) : ∀ j, j < N.ml → (sp M (j + 1)).h = (sp N (j + 1)).h ∧ (sp M (j + 1)).v = (sp N (j + 1)).v ∧ (sp M (j + 1)).c = (sp N (j + 1)).c ∧ szN M (j + 1) = szN N (j + 1) ∧ ∀ i, i < szN M (j + 1) → valN M y (j + 1) i = valN N x (j + 1) i := by
  intro j hj
  have hs := bo_sp hz B (j + 1) (by omega) hj
  have hsz : szN M (j + 1) = szN N (j + 1) := by unfold szN cN; rw [hs]
  refine ⟨by rw [hs], by rw [hs], by rw [hs], hsz, fun i hi => ?_⟩
  refine val_from (i0 := 1) hz (bo_sp hz B) (fun i h1 h2 => ?_) (fun i h1 h2 => ?_) (fun q hq => bo_val hz B hl q hq) (j + 1) (by omega) hj i (by rw [← hsz]; exact hi)
  · rw [B.lj i h1 h2]
    exact ⟨rfl, fun _ _ _ _ _ _ _ => rfl⟩
  · unfold fanN
    rw [B.lj i h1 h2, bo_sp hz B i h1 (by omega)]
theorem bo_to {N M : Nt} (hz : chE N = 0) (B : Bo N M) : toN M = toN N := by
  have key : ∀ i, i ≤ N.ml → toV (fun k => (sp M (k + 1)).h) (fun k => (sp M (k + 1)).v) (fun k => (sp M (k + 1)).c) i = toV (fun k => (sp N (k + 1)).h) (fun k => (sp N (k + 1)).v) (fun k => (sp N (k + 1)).c) i := by
    intro i
    induction i with
    | zero => intro _; rfl
    | succ i ih =>
      intro hi
      simp only [toV]
      rw [ih (by omega), bo_sp hz B (i + 1) (by omega) hi]
  unfold toN
  rw [B.ml]
  exact key N.ml (Nat.le_refl _)
/-- What a first convolution of a network that may be is. -/
theorem bo_first {N : Nt} (hz : chE N = 0) (hk : (N.lf 0).kd = 1) : (1 ≤ N.ml ∧ N.ml ≤ 64) ∧ ((1 ≤ N.h ∧ N.h ≤ 4096) ∧ (1 ≤ N.v ∧ N.v ≤ 4096) ∧ (1 ≤ N.c ∧ N.c ≤ 4096)) ∧ ((0 ≤ (N.lf 0).t ∧ (N.lf 0).t ≤ 14) ∧ (0 ≤ (N.lf 0).l ∧ (N.lf 0).l ≤ 14) ∧ (0 ≤ (N.lf 0).b ∧ (N.lf 0).b ≤ 14) ∧ (0 ≤ (N.lf 0).q ∧ (N.lf 0).q ≤ 14)) ∧ -1 ≤ (N.lf 0).bd ∧ (N.lf 0).bd ≤ 1 := by
  have hp := wh_parts (fl_all hz).1
  have hm : 1 ≤ N.ml := hp.2.2.1
  have h0 : faE (N.lf 0) (sp N 0) = 0 := (fl_all hz).2 0 hm
  have hq := win_ok h0 (show ¬ (N.lf 0).kd = 2 by omega)
  have hw := (sl_chk hq.2.1).2.1
  obtain ⟨⟨⟨a1, a2⟩, ⟨a3, a4⟩, ⟨a5, a6⟩⟩, -⟩ := chk_prod hp.2.1
  have hb : boE (N.lf 0) = 0 := by
    unfold faE at h0
    rw [if_pos hk] at h0
    exact frF_z h0 3 (by decide)
  unfold boE at hb
  have hb := zero_else (by decide) hb
  unfold WOk SideOk at hw
  omega
theorem bo_made {N : Nt} {ua : Option Addr} {uc : Nat} (hz : chE N = 0) (hk : (N.lf 0).kd = 1) {H' V' : Int} (eH : H' = N.h + (N.lf 0).t + (N.lf 0).b) (eV : V' = N.v + (N.lf 0).l + (N.lf 0).q) (h1 : H' ≤ 4096) (h2 : V' ≤ 4096) (h3 : H' * V' * N.c ≤ 100000) {lf : Nat → Ly} (hl0 : lf 0 = noB (N.lf 0)) (hlj : ∀ j, 1 ≤ j → lf j = N.lf j) : Bo N ⟨N.nm, H', V', N.c, ua, N.ml, uc, lf⟩ := by
  obtain ⟨-, ⟨⟨a1, a2⟩, ⟨a3, a4⟩, a5, a6⟩, ⟨⟨b1, b2⟩, ⟨b3, b4⟩, ⟨b5, b6⟩, b7, b8⟩, -⟩ := bo_first hz hk
  refine ⟨rfl, eH, eV, rfl, rfl, hl0, fun j h _ => hlj j h, hk, ?_⟩
  show chk H' V' N.c = 0
  unfold chk
  rw [if_pos (by unfold Sides; omega), if_neg (by omega)]
end Go.Proofs.YtlgjoepeibodkaaGreat.Nn
/- Lists of lists of reaches that are alike; the network tiny. -/
namespace Go.Proofs.YtlgjoepeibodkaaGreat.Nn
open Go.RowKit

/-- A list of reaches in memory. -/
def Lr1 (W : World) (g o m : Nat) (f h : Nat → Int) : Prop := ∀ j, j < m → W.cell? ⟨g, o + j * 2, none⟩ = some (.int .i64 (f j)) ∧ W.cell? ⟨g, o + j * 2 + 1, none⟩ = some (.int .i64 (h j))
theorem Lr1.keep {W X : World} {g o m : Nat} {f h : Nat → Int} (r : Lr1 W g o m f h) (hb : Below W.heap.size W X) : Lr1 X g o m f h := fun j hj => ⟨keepc hb (r j hj).1, keepc hb (r j hj).2⟩
/-- A list of lists of reaches in memory. -/
def Lrr (W : World) (g o m : Nat) (C : Nat → Nat) (f h : Nat → Nat → Int) : Prop := ∀ i, i < m → ∃ g' o' cp, W.cell? ⟨g, o + i, none⟩ = some (.slice (some ⟨g', o', none⟩) (C i) cp) ∧ C i ≤ 9223372036854775807 ∧ Lr1 W g' o' (C i) (f i) (h i)
theorem Lrr.keep {W X : World} {g o m : Nat} {C : Nat → Nat} {f h : Nat → Nat → Int} (r : Lrr W g o m C f h) (hb : Below W.heap.size W X) : Lrr X g o m C f h := fun i hi => by
  obtain ⟨g', o', cp, c, hc, hr⟩ := r i hi
  exact ⟨g', o', cp, keepc hb c, hc, hr.keep hb⟩
/-- What Net answers is such a list. -/
theorem cN_le {N : Nt} (hz : chE N = 0) : ∀ i, i ≤ N.ml → 1 ≤ cN N i ∧ cN N i ≤ 4096 := fun i hi => by
  have hall : whE N = 0 ∧ ∀ j, j < N.ml → fl N j = 0 := by
    unfold chE at hz
    by_cases h0 : whE N = 0
    · rw [if_pos h0] at hz; exact ⟨h0, frF_z hz⟩
    · rw [if_neg h0] at hz; exact absurd hz h0
  have := (sp_ok (wh_parts hall.1).2.1 (k := i) (fun j hj => hall.2 j (by omega))).1.2.2
  unfold cN
  omega
end Go.Proofs.YtlgjoepeibodkaaGreat.Nn
/- bound.Row. -/
namespace Go.Proofs.YtlgjoepeibodkaaGreat
open Go.RowKit

theorem pcO_and (A B : Nat) : ∀ n, pc (A &&& B) n ≤ pc B n
  | 0 => Nat.le_refl _
  | n + 1 => by
    have ih := pcO_and A B n
    simp only [pc]
    rw [Nat.testBit_and]
    cases A.testBit n <;> cases B.testBit n <;> simp <;> omega
/-- How many weights are plus; minus. -/
def rP (A : Bt) : Int := (pc A.N (64 * A.m) : Nat)
def rM (A B : Bt) : Int := (pc B.N (64 * B.m) : Nat) - (pc A.N (64 * A.m) : Nat)
def rL (A B : Bt) (lo hi : Int) : Int := rP A * lo - rM A B * hi
def rH (A B : Bt) (lo hi : Int) : Int := rP A * hi - rM A B * lo
/-- What Row tells. -/
def roE (A B : Bt) (lo hi : Int) : Int := if dck A B ≠ 0 then dck A B else if maR lo hi then (if maR (rL A B lo hi) (rH A B lo hi) then 0 else 55) else 1
def roL (A B : Bt) (lo hi : Int) : Int := if roE A B lo hi = 0 then rL A B lo hi else 0
def roH (A B : Bt) (lo hi : Int) : Int := if roE A B lo hi = 0 then rH A B lo hi else 0
theorem mulO {p x : Int} (hp : 0 ≤ p ∧ p ≤ 16777216) (hx : -2147483647 ≤ x ∧ x ≤ 2147483647) : -36028797018963968 ≤ p * x ∧ p * x ≤ 36028797018963968 := by
  have h1 : p * x ≤ 16777216 * 2147483647 := by
    by_cases h0 : 0 ≤ x
    · exact Int.le_trans (Int.mul_le_mul_of_nonneg_right hp.2 h0) (Int.mul_le_mul_of_nonneg_left hx.2 (by decide))
    · exact Int.le_trans (Int.mul_nonpos_of_nonneg_of_nonpos hp.1 (by omega)) (by decide)
  have h2 : p * (-x) ≤ 16777216 * 2147483647 := by
    by_cases h0 : 0 ≤ -x
    · exact Int.le_trans (Int.mul_le_mul_of_nonneg_right hp.2 h0) (Int.mul_le_mul_of_nonneg_left (by omega) (by decide))
    · exact Int.le_trans (Int.mul_nonpos_of_nonneg_of_nonpos hp.1 (by omega)) (by decide)
  rw [Int.mul_neg] at h2
  omega
theorem rB {A B : Bt} (h : dck A B = 0) : (0 ≤ rP A ∧ rP A ≤ 16777216) ∧ (0 ≤ rM A B ∧ rM A B ≤ 16777216) := by
  obtain ⟨n, e1, e2, hn, m1, m2, l1, l2, ha⟩ := dck_zero h
  unfold rP rM
  have q1 := pc_le B.N (64 * B.m)
  have a1 : pc A.N (64 * A.m) = pc A.N n := pc_above l1 (by rw [m1]; exact nw_le n)
  have a2 : pc B.N (64 * B.m) = pc B.N n := pc_above l2 (by rw [m2]; exact nw_le n)
  have a3 := pcO_and A.N B.N n
  rw [ha] at a3
  have a4 := pc_le A.N n
  have a5 := pc_le B.N n
  rw [a1, a2]
  omega
theorem dck_m {A B : Bt} (h : dck A B = 0) : A.m ≤ 262144 ∧ B.m ≤ 262144 := by
  obtain ⟨n, e1, e2, hn, m1, m2, l1, l2, ha⟩ := dck_zero h
  have := nw_bd hn
  rw [m1, m2]; unfold nw at *; omega
theorem kpO {V Y : World} {b2 b3 t2 t3 : Nat} {A B : Bt} {lo hi : Int} (h2 : V.rowIs b2 t2 4 (qf A B)) (h3 : V.rowIs b3 t3 2 (duf lo hi)) (hb : Below V.heap.size V Y) :
    (Y.cell? ⟨b2, 0, none⟩ = some (.int .i64 A.n) ∧ Y.cell? ⟨b2, 1, none⟩ = some (.slice A.ao A.m A.cap) ∧ Y.cell? ⟨b2, 2, none⟩ = some (.int .i64 B.n) ∧ Y.cell? ⟨b2, 3, none⟩ = some (.slice B.ao B.m B.cap)) ∧ (Y.cell? ⟨b3, 0, none⟩ = some (.int .i64 lo) ∧ Y.cell? ⟨b3, 1, none⟩ = some (.int .i64 hi)) :=
  ⟨⟨q0 (keepr hb h2), q1 (keepr hb h2), q2 (keepr hb h2), q3 (keepr hb h2)⟩, du0 (keepr hb h3), du1 (keepr hb h3)⟩
theorem du_set {w : World} {b t : Nat} {x y : Int} (h : w.rowIs b t 2 (duf x y)) (u v : Int) : ((w.setCell ⟨b, 0, none⟩ (.int .i64 u)).setCell ⟨b, 1, none⟩ (.int .i64 v)).rowIs b t 2 (duf u v) := by
  have h1 := (h.set 0 (.int .i64 u)).set 1 (.int .i64 v)
  refine h1.congr fun i hi => ?_
  rcases i with _ | _ | i
  · rfl
  · rfl
  · omega
end Go.Proofs.YtlgjoepeibodkaaGreat
/- bound.Row, walked. -/
namespace Go.Proofs.YtlgjoepeibodkaaGreat
open Go.RowKit

theorem kmeet_of {J K : Act → World → Prop} {Q : Exit → Act → World → Prop} {a : Act} {w : World} (hK : ∀ a' w', Met J a' w' → K a' w') (h : Met J a w) : Exit.then K Q Exit.normal a w := hK _ _ h
end Go.Proofs.YtlgjoepeibodkaaGreat
/- BOUND: WHAT EVERY STATEMENT ASKS AHEAD. -/
namespace Go.Proofs.YtlgjoepeibodkaaGreat.Nn
open Go.RowKit

def tiL (B : Nat) : Ly := ⟨2, 2, 2, 0, 0, 0, 0, 0, 0, 0, 0, 0, some ⟨B + 1, 0, none⟩, 6, 6, none, 0, 0, some ⟨B + 2, 0, none⟩, 2, 2, fun j => [1, 0, -1, 1, 1, 1].getD j 0, fun _ _ => 0, fun j => [5, -5].getD j 0⟩
def tiN (B : Nat) : Nt := ⟨⟨#[116, 105, 110, 121]⟩, 1, 1, 3, some ⟨B + 3, 0, none⟩, 1, 1, fun _ => tiL B⟩
/-- Its lists lie in memory. -/
def TiB (W : World) (B : Nat) : Prop := W.heap[B + 1]? = some (.cells (i8c [1, 0, -1, 1, 1, 1]) 39) ∧ W.heap[B + 2]? = some (.cells (i64c [5, -5]) 2) ∧ W.heap[B + 3]? = some (layO (tiL B))
theorem TiB.keep {W w' : World} {B : Nat} (h : TiB W B) (hb : Below W.heap.size W w') : TiB w' B := ⟨keepb hb h.1, keepb hb h.2.1, keepb hb h.2.2⟩
set_option maxRecDepth 10000 in
theorem tiW {W : World} {B : Nat} (h : TiB W B) : NtW W (tiN B) := by
  refine ⟨fun i hi => ⟨B + 3, 0, rfl, ?_⟩, (show (1 : Nat) ≤ 9223372036854775807 by decide), (show (4 : Nat) ≤ 9223372036854775807 by decide)⟩
  change i < 1 at hi
  have hb := h.2.2
  obtain rfl : i = 0 := by omega
  refine ⟨⟨bcl hb rfl, bcl hb rfl, bcl hb rfl, bcl hb rfl, bcl hb rfl, bcl hb rfl, bcl hb rfl, bcl hb rfl, bcl hb rfl, bcl hb rfl, bcl hb rfl, bcl hb rfl, bcl hb rfl, bcl hb rfl, bcl hb rfl⟩, ⟨fun j hj => ⟨B + 1, 0, rfl, ?_⟩, fun j hj => absurd hj (Nat.not_lt_zero j), fun j hj => ⟨B + 2, 0, rfl, ?_⟩, (show (6 : Nat) ≤ 9223372036854775807 by decide), (show (0 : Nat) ≤ 9223372036854775807 by decide), (show (2 : Nat) ≤ 9223372036854775807 by decide)⟩⟩
  · change j < 6 at hj
    rcases (show j = 0 ∨ j = 1 ∨ j = 2 ∨ j = 3 ∨ j = 4 ∨ j = 5 by omega) with rfl | rfl | rfl | rfl | rfl | rfl <;> exact bcl h.1 rfl
  · change j < 2 at hj
    rcases (show j = 0 ∨ j = 1 by omega) with rfl | rfl <;> exact bcl h.2.1 rfl
set_option maxRecDepth 10000 in
theorem ti_ok (B : Nat) : chE (tiN B) = 0 ∧ chA (tiN B) = 0 := by
  have h0 : whE (tiN B) = 0 := by kernel_rfl
  refine ch_ok h0 fun j hj => ?_
  change j < 1 at hj
  obtain rfl : j = 0 := by omega
  kernel_rfl
def tiF (_ j : Nat) : Int := [-250, -389].getD j 0
def tiH (_ j : Nat) : Int := [260, 376].getD j 0
set_option maxRecDepth 10000 in
theorem ti_r (B : Nat) : cN (tiN B) 1 = 2 ∧ ∀ j, j < 2 → yLo (tiL B) (fanN (tiN B) 0) 0 j = tiF 0 j ∧ yHi (tiL B) (fanN (tiN B) 0) 0 j = tiH 0 j := by
  refine ⟨by kernel_rfl, fun j hj => ?_⟩
  rcases (show j = 0 ∨ j = 1 by omega) with rfl | rfl <;> exact ⟨by kernel_rfl, by kernel_rfl⟩
def emN : Nt := ⟨⟨#[]⟩, 0, 0, 0, none, 0, 0, fun _ => tiL 0⟩
theorem emW (W : World) : NtW W emN := ⟨fun i hi => absurd hi (Nat.not_lt_zero i), (show (0 : Nat) ≤ 9223372036854775807 by decide), (show (0 : Nat) ≤ 9223372036854775807 by decide)⟩
theorem em_no : chE emN = 50 ∧ chA emN = -1 := ch_whole (by decide)
abbrev bA (g : Nat) : Bt := ⟨4, some ⟨g, 0, none⟩, 1, 1, 3⟩
abbrev bB (g : Nat) : Bt := ⟨4, some ⟨g, 0, none⟩, 1, 1, 7⟩
theorem bA_rw {W : World} {g : Nat} (h : W.heap[g]? = some (.cells #[.int .u64 3] 131)) : Rw W (bA g) := ⟨(show 3 < 2 ^ (64 * 1) by decide), (show (1 : Nat) ≤ 9223372036854775807 by decide), fun k hk => ⟨g, 0, rfl, by
  have hk' : k < 1 := hk
  obtain rfl : k = 0 := by omega
  exact bcl h (by simp [wf, wd])⟩⟩
theorem bB_rw {W : World} {g : Nat} (h : W.heap[g]? = some (.cells #[.int .u64 7] 131)) : Rw W (bB g) := ⟨(show 7 < 2 ^ (64 * 1) by decide), (show (1 : Nat) ≤ 9223372036854775807 by decide), fun k hk => ⟨g, 0, rfl, by
  have hk' : k < 1 := hk
  obtain rfl : k = 0 := by omega
  exact bcl h (by simp [wf, wd])⟩⟩
set_option maxRecDepth 100000 in
theorem bAB (g h : Nat) : (Go.Proofs.YtlgjoepeibodkaaGreat.roE (bA g) (bB h) 0 5 = 0 ∧ roL (bA g) (bB h) 0 5 = -5 ∧ roH (bA g) (bB h) 0 5 = 10) ∧ Go.Proofs.YtlgjoepeibodkaaGreat.roE (bA g) (bB h) 2 1 = 1 ∧ roL (bA g) (bB h) 2 1 = 0 ∧ roH (bA g) (bB h) 2 1 = 0 := by
  refine ⟨⟨by kernel_rfl, by kernel_rfl, by kernel_rfl⟩, by kernel_rfl, by kernel_rfl, by kernel_rfl⟩
end Go.Proofs.YtlgjoepeibodkaaGreat.Nn
/- planeOf, Planes. -/
namespace Go.Proofs.YtlgjoepeibodkaaGreat
open Go.RowKit

/-- Bit p of a number of eight bits. -/
def plb (l : List Int) (p i : Nat) : Bool := ((ia l i % 256).toNat).testBit p
theorem plb_is (v : Int) (p : Nat) : (bits .and .u8 (v % 256 / 2 ^ p) 1 == 1) = ((v % 256).toNat).testBit p := by
  have e : v % 256 = (((v % 256).toNat : Nat) : Int) := by omega
  have hx : (v % 256).toNat < 256 := by omega
  generalize (v % 256).toNat = x at *
  rw [e]
  have e2 : (x : Int) / 2 ^ p = ((x / 2 ^ p : Nat) : Int) := by simp
  rw [e2]
  have e3 : bits .and .u8 ((x / 2 ^ p : Nat) : Int) 1 = _ := u8_and_nat (x / 2 ^ p) 1 (Nat.lt_of_le_of_lt (Nat.div_le_self _ _) hx) (by decide)
  rw [e3, Nat.and_one_is_mod, Nat.testBit_eq_decide_div_mod_eq]
  rcases Nat.mod_two_eq_zero_or_one (x / 2 ^ p) with h | h <;> simp [h]
theorem bn_set {f : Nat → Bool} {k : Nat} (h : f k = true) : bn f (k + 1) = bn f k ||| 2 ^ k := by simp only [bn]; rw [if_pos h]
theorem bn_not {f : Nat → Bool} {k : Nat} (h : f k = false) : bn f (k + 1) = bn f k := by simp only [bn]; rw [if_neg (by simp [h])]; simp

end Go.Proofs.YtlgjoepeibodkaaGreat
/- Planes. -/
namespace Go.Proofs.YtlgjoepeibodkaaGreat
open Go.RowKit

/-- Eight rows of bits as a value, and as cells. -/
abbrev pv (P : Nat → Bt) : Value := .agg #[.int .i64 (P 0).n, .slice (P 0).ao (P 0).m (P 0).cap, .int .i64 (P 1).n, .slice (P 1).ao (P 1).m (P 1).cap, .int .i64 (P 2).n, .slice (P 2).ao (P 2).m (P 2).cap, .int .i64 (P 3).n, .slice (P 3).ao (P 3).m (P 3).cap, .int .i64 (P 4).n, .slice (P 4).ao (P 4).m (P 4).cap, .int .i64 (P 5).n, .slice (P 5).ao (P 5).m (P 5).cap, .int .i64 (P 6).n, .slice (P 6).ao (P 6).m (P 6).cap, .int .i64 (P 7).n, .slice (P 7).ao (P 7).m (P 7).cap]
def pfc (P : Nat → Bt) : Nat → Value := fun j => if j % 2 = 0 then .int .i64 (P (j / 2)).n else .slice (P (j / 2)).ao (P (j / 2)).m (P (j / 2)).cap
theorem pfc_even (P : Nat → Bt) (p : Nat) : pfc P (p * 2) = .int .i64 (P p).n := by
  unfold pfc; rw [if_pos (by omega), show p * 2 / 2 = p by omega]
theorem pfc_odd (P : Nat → Bt) (p : Nat) : pfc P (p * 2 + 1) = .slice (P p).ao (P p).m (P p).cap := by
  unfold pfc; rw [if_neg (by omega), show (p * 2 + 1) / 2 = p by omega]
theorem p_new (w : World) (P : Nat → Bt) (t : TypeId) : (w.alloc (.cells #[.int .i64 (P 0).n, .slice (P 0).ao (P 0).m (P 0).cap, .int .i64 (P 1).n, .slice (P 1).ao (P 1).m (P 1).cap, .int .i64 (P 2).n, .slice (P 2).ao (P 2).m (P 2).cap, .int .i64 (P 3).n, .slice (P 3).ao (P 3).m (P 3).cap, .int .i64 (P 4).n, .slice (P 4).ao (P 4).m (P 4).cap, .int .i64 (P 5).n, .slice (P 5).ao (P 5).m (P 5).cap, .int .i64 (P 6).n, .slice (P 6).ao (P 6).m (P 6).cap, .int .i64 (P 7).n, .slice (P 7).ao (P 7).m (P 7).cap] t)).rowIs w.heap.size t 16 (pfc P) :=
  World.rowIs_alloc w _ t _ (fun i hi => by
    rcases i with _ | _ | _ | _ | _ | _ | _ | _ | _ | _ | _ | _ | _ | _ | _ | _ | i
    · rfl
    · rfl
    · rfl
    · rfl
    · rfl
    · rfl
    · rfl
    · rfl
    · rfl
    · rfl
    · rfl
    · rfl
    · rfl
    · rfl
    · rfl
    · rfl
    · simp at hi; omega)
/-- All sixteen cells. -/
def C16 (w : World) (b : Nat) (P : Nat → Bt) : Prop := w.cell? ⟨b, 0, none⟩ = some (.int .i64 (P 0).n) ∧ w.cell? ⟨b, 1, none⟩ = some (.slice (P 0).ao (P 0).m (P 0).cap) ∧ w.cell? ⟨b, 2, none⟩ = some (.int .i64 (P 1).n) ∧ w.cell? ⟨b, 3, none⟩ = some (.slice (P 1).ao (P 1).m (P 1).cap) ∧ w.cell? ⟨b, 4, none⟩ = some (.int .i64 (P 2).n) ∧ w.cell? ⟨b, 5, none⟩ = some (.slice (P 2).ao (P 2).m (P 2).cap) ∧ w.cell? ⟨b, 6, none⟩ = some (.int .i64 (P 3).n) ∧ w.cell? ⟨b, 7, none⟩ = some (.slice (P 3).ao (P 3).m (P 3).cap) ∧ w.cell? ⟨b, 8, none⟩ = some (.int .i64 (P 4).n) ∧ w.cell? ⟨b, 9, none⟩ = some (.slice (P 4).ao (P 4).m (P 4).cap) ∧ w.cell? ⟨b, 10, none⟩ = some (.int .i64 (P 5).n) ∧ w.cell? ⟨b, 11, none⟩ = some (.slice (P 5).ao (P 5).m (P 5).cap) ∧ w.cell? ⟨b, 12, none⟩ = some (.int .i64 (P 6).n) ∧ w.cell? ⟨b, 13, none⟩ = some (.slice (P 6).ao (P 6).m (P 6).cap) ∧ w.cell? ⟨b, 14, none⟩ = some (.int .i64 (P 7).n) ∧ w.cell? ⟨b, 15, none⟩ = some (.slice (P 7).ao (P 7).m (P 7).cap)
theorem c16 {w : World} {b t : Nat} {P : Nat → Bt} (h : w.rowIs b t 16 (pfc P)) : C16 w b P :=
  ⟨h.cell (by omega), h.cell (by omega), h.cell (by omega), h.cell (by omega), h.cell (by omega), h.cell (by omega), h.cell (by omega), h.cell (by omega), h.cell (by omega), h.cell (by omega), h.cell (by omega), h.cell (by omega), h.cell (by omega), h.cell (by omega), h.cell (by omega), h.cell (by omega)⟩
/-- The first k of the planes. -/
def frt (N : Nat) (G : Nat → Nat) (k : Nat) : Nat → Bt := fun p => if p < k then ob N (G p) 0 else zb
def upd (G : Nat → Nat) (k g : Nat) : Nat → Nat := fun p => if p = k then g else G p
theorem upd_same (G : Nat → Nat) (k g : Nat) : upd G k g k = g := by unfold upd; rw [if_pos rfl]
theorem upd_ne {G : Nat → Nat} {k g p : Nat} (h : p ≠ k) : upd G k g p = G p := by unfold upd; rw [if_neg h]
theorem frt_step {N k g : Nat} {G : Nat → Nat} (j : Nat) : (if j = k * 2 + 1 then Value.slice (some ⟨g, 0, none⟩) (nw N) (nw N) else if j = k * 2 then Value.int .i64 N else pfc (frt N G k) j) = pfc (frt N (upd G k g) (k + 1)) j := by
  unfold pfc frt
  by_cases e1 : j = k * 2 + 1
  · rw [if_pos e1, if_neg (by omega), show j / 2 = k by omega, if_pos (by omega), upd_same]
  · rw [if_neg e1]
    by_cases e2 : j = k * 2
    · rw [if_pos e2, if_pos (by omega), show j / 2 = k by omega, if_pos (by omega)]
    · have e3 : ¬ j / 2 = k := by omega
      have e4 : (j / 2 < k + 1) ↔ (j / 2 < k) := by omega
      rw [if_neg e2, upd_ne e3]
      simp only [e4]
end Go.Proofs.YtlgjoepeibodkaaGreat
/- Numbers. -/
namespace Go.Proofs.YtlgjoepeibodkaaGreat
open Go.RowKit
attribute [local go_sem ↓] Go.wp_at_zero Go.wp_at_succ

def aF (P : Nat → Bt) (len : Int) : Bool := (List.range 8).all fun p => ftB (P p).n (P p).m (P p).N len
theorem aF_iff (P : Nat → Bt) (len : Int) : aF P len = true ↔ ∀ p, p < 8 → ftB (P p).n (P p).m (P p).N len = true := by simp [aF, List.all_eq_true]
def nmE (A B : Bt) (P : Nat → Bt) : Int := if dck A B ≠ 0 then dck A B else if aF P A.n = true then 0 else 20
def nmV (A B : Bt) (P : Nat → Bt) : Int := if nmE A B P = 0 then npl A.N B.N (fun p => (P p).N) A.n.toNat 8 else 0
theorem nmE_bad {A B : Bt} {P : Nat → Bt} (h : dck A B ≠ 0) : nmE A B P = dck A B := by unfold nmE; rw [if_pos h]
theorem nmV_bad {A B : Bt} {P : Nat → Bt} (h : nmE A B P ≠ 0) : nmV A B P = 0 := by unfold nmV; rw [if_neg h]
theorem eight {p : Nat → Prop} {i : Nat} (h : i < 8) (h0 : p 0) (h1 : p 1) (h2 : p 2) (h3 : p 3) (h4 : p 4) (h5 : p 5) (h6 : p 6) (h7 : p 7) : p i := by
  match i, h with
  | 0, _ => exact h0
  | 1, _ => exact h1
  | 2, _ => exact h2
  | 3, _ => exact h3
  | 4, _ => exact h4
  | 5, _ => exact h5
  | 6, _ => exact h6
  | 7, _ => exact h7
theorem pw_bd {p : Nat} (h : p < 8) : -128 ≤ pw p ∧ pw p ≤ 64 := eight (p := fun p => -128 ≤ pw p ∧ pw p ≤ 64) h (by decide) (by decide) (by decide) (by decide) (by decide) (by decide) (by decide) (by decide)
theorem mul_bd {a b : Int} {n : Nat} (ha : -128 ≤ a ∧ a ≤ 64) (hb : -(n : Int) ≤ b ∧ b ≤ n) : -(128 * (n : Int)) ≤ a * b ∧ a * b ≤ 128 * n := by
  have h1 : (a * b).natAbs ≤ 128 * n := by
    rw [Int.natAbs_mul]
    exact Nat.mul_le_mul (by omega) (by omega)
  omega
theorem npl_bd (S M : Nat) (P : Nat → Nat) (n : Nat) : ∀ q : Nat, q ≤ 8 → -(128 * (q : Int) * n) ≤ npl S M P n q ∧ npl S M P n q ≤ 128 * (q : Int) * n
  | 0, _ => by simp [npl]
  | q + 1, h => by
    have := npl_bd S M P n q (by omega)
    have := mul_bd (pw_bd (show q < 8 by omega)) (tq_bd (M &&& P q) S (P q) n)
    have e : 128 * ((q + 1 : Nat) : Int) * n = 128 * (q : Int) * n + 128 * n := by
      rw [Int.natCast_add, Int.mul_add, Int.add_mul]; simp
    simp only [npl]; rw [e]; omega
theorem npl_lim (S M : Nat) (P : Nat → Nat) {n q : Nat} (hn : n ≤ 16777216) (hq : q ≤ 8) : -17179869184 ≤ npl S M P n q ∧ npl S M P n q ≤ 17179869184 := by
  have := npl_bd S M P n q hq
  have h1 : 128 * (q : Int) * n ≤ 17179869184 := by
    have h2 : 128 * q * n ≤ 128 * 8 * 16777216 := Nat.mul_le_mul (Nat.mul_le_mul (Nat.le_refl _) hq) hn
    have h3 : ((128 * q * n : Nat) : Int) = 128 * (q : Int) * n := by simp
    omega
  omega

theorem qp_new (w : World) (A B : Bt) (P : Nat → Bt) (t u : TypeId) : ((w.alloc (.cells #[.int .i64 A.n, .slice A.ao A.m A.cap, .int .i64 B.n, .slice B.ao B.m B.cap] t)).alloc (.cells #[.int .i64 (P 0).n, .slice (P 0).ao (P 0).m (P 0).cap, .int .i64 (P 1).n, .slice (P 1).ao (P 1).m (P 1).cap, .int .i64 (P 2).n, .slice (P 2).ao (P 2).m (P 2).cap, .int .i64 (P 3).n, .slice (P 3).ao (P 3).m (P 3).cap, .int .i64 (P 4).n, .slice (P 4).ao (P 4).m (P 4).cap, .int .i64 (P 5).n, .slice (P 5).ao (P 5).m (P 5).cap, .int .i64 (P 6).n, .slice (P 6).ao (P 6).m (P 6).cap, .int .i64 (P 7).n, .slice (P 7).ao (P 7).m (P 7).cap] u)).rowIs (w.heap.size + 1) u 16 (pfc P) := by
  have := p_new (w.alloc (.cells #[.int .i64 A.n, .slice A.ao A.m A.cap, .int .i64 B.n, .slice B.ao B.m B.cap] t)) P u
  rw [World.size_alloc] at this
  exact this
theorem kpn {W X : World} {bx t bz u v0 : Nat} {A B : Bt} {C : Bt} {k : Nat} (h1 : W.rowIs bx t 4 (qf A B)) (h2 : W.rowIs bz u 2 (sf C.n C.ao C.m C.cap)) (h3 : W.cell? ⟨v0, k, none⟩ = some (.int .i64 (pw k))) (hb : Below W.heap.size W X) :
    (X.cell? ⟨bx, 0, none⟩ = some (.int .i64 A.n) ∧ X.cell? ⟨bx, 1, none⟩ = some (.slice A.ao A.m A.cap) ∧ X.cell? ⟨bx, 2, none⟩ = some (.int .i64 B.n) ∧ X.cell? ⟨bx, 3, none⟩ = some (.slice B.ao B.m B.cap)) ∧ (X.cell? ⟨bz, 0, none⟩ = some (.int .i64 C.n) ∧ X.cell? ⟨bz, 1, none⟩ = some (.slice C.ao C.m C.cap)) ∧ X.cell? ⟨v0, k, none⟩ = some (.int .i64 (pw k)) := by
  have r := keepr hb h1
  have s := keepr hb h2
  exact ⟨⟨q0 r, q1 r, q2 r, q3 r⟩, ⟨sf_len s, sf_ws s⟩, keepc hb h3⟩
end Go.Proofs.YtlgjoepeibodkaaGreat
/- begun. -/
namespace Go.Proofs.YtlgjoepeibodkaaGreat
open Go.RowKit

/-- Rows of four bits. -/
abbrev o4 (g N : Nat) : Bt := ⟨4, some ⟨g, 0, none⟩, 1, 1, N⟩
theorem ob4 (g N : Nat) : ob 4 g N = o4 g N := rfl
theorem four_in {l : List Int} {p : Int → Prop} (h0 : p (ia l 0)) (h1 : p (ia l 1)) (h2 : p (ia l 2)) (h3 : p (ia l 3)) : ∀ i, i < 4 → p (ia l i) := by
  intro i hi
  match i, hi with
  | 0, _ => exact h0
  | 1, _ => exact h1
  | 2, _ => exact h2
  | 3, _ => exact h3
theorem r8_four {w : World} {t : TypeId} (a b c d : Int) : R8 (w.alloc (.cells #[.int .i8 a, .int .i8 b, .int .i8 c, .int .i8 d] t)) (some ⟨w.heap.size, 0, none⟩) [a, b, c, d] := by
  intro k hk
  refine ⟨w.heap.size, 0, rfl, ?_⟩
  rcases k with _ | _ | _ | _ | k
  · simp [go_sem, ia]
  · simp [go_sem, ia]
  · simp [go_sem, ia]
  · simp [go_sem, ia]
  · simp at hk; omega
theorem rw4 {w : World} {g N : Nat} (h : w.rowIs g 131 1 (wf N)) (hN : N < 16) : Rw w (o4 g N) :=
  ⟨by show N < 2 ^ (64 * 1); omega, by show 1 ≤ _; decide, fun k hk => ⟨g, 0, rfl, by rw [Nat.zero_add]; exact h.cell hk⟩⟩
theorem wok1 : Wok [1, 0, -1, 1] 4 := four_in (p := fun x => -1 ≤ x ∧ x ≤ 1) (by decide) (by decide) (by decide) (by decide)
theorem wok2 : Wok [0, 1, 1, -1] 4 := four_in (p := fun x => -1 ≤ x ∧ x ≤ 1) (by decide) (by decide) (by decide) (by decide)
theorem bn4_lt (f : Nat → Bool) : bn f 4 < 16 := bn_lt f 4
theorem w_one (w : World) (o : Obj) (t : TypeId) : ((w.alloc o).alloc (.cells #[.int .u64 1] t)).rowIs (w.heap.size + 1) t 1 (wf 1) := by
  have h : ((w.alloc o).alloc (.cells #[.int .u64 1] t)).rowIs (w.alloc o).heap.size t 1 (wf 1) := World.rowIs_alloc (w.alloc o) _ t _ (fun i hi => by
    rcases i with _ | i
    · rfl
    · simp at hi)
  rw [World.size_alloc] at h
  exact h
theorem sg4 {g1 g2 g : Nat} : sgV (o4 g1 9) (o4 g2 13) (o4 g 1) = 1 := by kernel_rfl
theorem sg4e {g1 g2 g : Nat} : sgE (o4 g1 9) (o4 g2 13) (o4 g 1) = 0 := by kernel_rfl
theorem so4 {g1 g2 g3 g4 : Nat} : soV (o4 g1 9) (o4 g2 13) (o4 g3 6) (o4 g4 14) = -2 := by kernel_rfl
theorem so4e {g1 g2 g3 g4 : Nat} : soE (o4 g1 9) (o4 g2 13) (o4 g3 6) (o4 g4 14) = 0 := by kernel_rfl
theorem nm4 {g1 g2 : Nat} {G : Nat → Nat} : nmV (o4 g1 9) (o4 g2 13) (fun p => o4 (G p) (bn (plb [5, 9, -7, -128] p) 4)) = -116 := by kernel_rfl
theorem nm4e {g1 g2 : Nat} {G : Nat → Nat} : nmE (o4 g1 9) (o4 g2 13) (fun p => o4 (G p) (bn (plb [5, 9, -7, -128] p) 4)) = 0 := by kernel_rfl
end Go.Proofs.YtlgjoepeibodkaaGreat
/- Lists of small numbers: own, copied, grown; tame, even, sameSmall. -/
namespace Go.Proofs.YtlgjoepeibodkaaGreat
open Go.RowKit

def rowL (f : Nat → Value) (m : Nat) : List Value := (List.range m).map f
theorem rowL_len (f : Nat → Value) (m : Nat) : (rowL f m).length = m * 1 := by simp [rowL]
theorem rowL_get {f : Nat → Value} {m j : Nat} {u : Value} (h : (rowL f m)[j]? = some u) : j < m ∧ u = f j := by
  unfold rowL at h
  rw [List.getElem?_map, Option.map_eq_some_iff] at h
  obtain ⟨x, hx, rfl⟩ := h
  obtain ⟨h1, h2⟩ := List.getElem?_eq_some_iff.1 hx
  simp at h1 h2
  subst h2
  exact ⟨h1, rfl⟩
theorem rowL_at {f : Nat → Value} {m j : Nat} (h : j < m) (v : Value) : (rowL f m ++ [v])[j]? = some (f j) := by
  rw [List.getElem?_append_left (by simpa [rowL] using h)]
  simp [rowL, h]
theorem rowL_last (f : Nat → Value) (m : Nat) (v : Value) : (rowL f m ++ [v])[m]? = some v := by
  rw [List.getElem?_append_right (by simp [rowL])]
  simp [rowL]
theorem rowL_wf {N m : Nat} : ∀ u ∈ rowL (wf N) m, u.oneCell' = true := by
  intro u hu
  obtain ⟨j, hj, e⟩ := List.getElem_of_mem hu
  obtain ⟨_, rfl⟩ := rowL_get (List.getElem?_eq_some_iff.2 ⟨hj, e⟩)
  rfl
/-- An own row, as a row of cells. -/
theorem own_row {w : World} {base e : Nat} {v : Value} {n : Nat} {xs : List Value} (h : w.ownsRow base e 1 v n xs) (hn : 0 < n) :
    ∃ g cap f, v = .slice (some ⟨g, 0, none⟩) n cap ∧ base ≤ g ∧ n ≤ cap ∧ cap ≤ maxLen ∧ w.rowIs g e cap f ∧ ∀ k, k < n → xs[k]? = some (f k) := by
  rcases h.2 with ⟨_, h0⟩ | ⟨g, cap, cur, hv, hb, hg, h4, h5, h6, h7⟩
  · omega
  · refine ⟨g, cap, fun k => cur[k]?.getD undef, hv, hb, h4, h5, ⟨cur, hg, by omega, fun i hi => ?_⟩, fun k hk => ?_⟩
    · simp [Array.getElem?_eq_getElem (show i < cur.size by omega)]
    · rw [← h7, Nat.mul_one, List.getElem?_take_of_lt hk]
      simp [Array.getElem?_eq_getElem (show k < cur.size by omega)]

def i8s (l : List Int) : List Value := l.map (Value.int .i8)
theorem i8s_len (l : List Int) : (i8s l).length = l.length * 1 := by simp [i8s]
theorem i8s_get {l : List Int} {j : Nat} {u : Value} (h : (i8s l)[j]? = some u) : j < l.length ∧ u = .int .i8 (ia l j) := by
  unfold i8s at h
  rw [List.getElem?_map, Option.map_eq_some_iff] at h
  obtain ⟨x, hx, rfl⟩ := h
  obtain ⟨h1, _⟩ := List.getElem?_eq_some_iff.1 hx
  refine ⟨h1, ?_⟩
  unfold ia
  rw [List.getD_eq_getElem?_getD, hx]
  rfl
theorem i8s_at {l : List Int} {j : Nat} (h : j < l.length) : (i8s l)[j]? = some (.int .i8 (ia l j)) := by
  unfold i8s ia
  rw [List.getElem?_map, List.getD_eq_getElem?_getD, List.getElem?_eq_getElem h]
  rfl
theorem i8s_one {l : List Int} : ∀ u ∈ i8s l, u.oneCell' = true := by
  intro u hu
  unfold i8s at hu
  obtain ⟨x, _, rfl⟩ := List.mem_map.1 hu
  rfl
theorem i8s_snoc (l : List Int) (x : Int) : i8s (l ++ [x]) = i8s l ++ [.int .i8 x] := by simp [i8s]
theorem r8_add {w : World} {a : Addr} {l : List Int} (h : R8 w (some a) l) {j : Nat} (hj : j < l.length) : w.cell? (a.add j) = some (.int .i8 (ia l j)) := by
  obtain ⟨g, o, e, c⟩ := h j hj
  obtain rfl : a = ⟨g, o, none⟩ := Option.some.inj e
  by_cases h0 : j = 0
  · subst h0; exact c
  · simp [Addr.add, h0, c]
theorem r8_take {w : World} {ao : Option Addr} {l : List Int} (h : R8 w ao l) (n : Nat) : R8 w ao (l.take n) := by
  intro k hk
  have hk' : k < n ∧ k < l.length := by simp at hk; omega
  obtain ⟨g, o, e, c⟩ := h k hk'.2
  exact ⟨g, o, e, by rw [ia_take hk'.1]; exact c⟩
/-- An own row of small numbers reads as they do. -/
theorem r8_own {w : World} {base : Nat} {v : Value} {l : List Int} (h : w.ownsRow base 39 1 v l.length (i8s l)) : ∃ ao cap, v = .slice ao l.length cap ∧ l.length ≤ cap ∧ cap ≤ maxLen ∧ (ao = none → l.length = 0 ∧ cap = 0) ∧ (∀ a, ao = some a → ∃ g, a = ⟨g, 0, none⟩) ∧ R8 w ao l := by
  rcases Nat.eq_zero_or_pos l.length with h0 | h0
  · rcases h.2 with ⟨h1, _⟩ | ⟨g, cap, cur, hv, _, _, h4, h5, _⟩
    · exact ⟨none, 0, by rw [h0]; exact h1, by omega, by simp [maxLen], fun _ => ⟨h0, rfl⟩, fun _ e => (by cases e), fun k hk => absurd hk (by omega)⟩
    · exact ⟨_, cap, hv, h4, h5, fun e => (by cases e), fun a e => ⟨g, (Option.some.inj e).symm⟩, fun k hk => absurd hk (by omega)⟩
  · obtain ⟨g, cap, f, hv, _, h4, h5, hr, hf⟩ := own_row h h0
    refine ⟨_, cap, hv, h4, h5, fun e => (by cases e), fun a e => ⟨g, (Option.some.inj e).symm⟩, fun k hk => ⟨g, 0, rfl, ?_⟩⟩
    rw [Nat.zero_add]
    refine (hr.cell (by omega)).trans ?_
    have := hf k hk
    rw [i8s_at hk] at this
    exact congrArg some (Option.some.inj this).symm

theorem app_nil {ops : Array Oper} {rest : List Oper} {o : Oper} {a : Act} {Q : Exit → Act → World → Prop} {w : World} (hgd : o.guard = none) (s x : Operand)
    (ho : o.op = .call { callee := .builtin .append, args := #[s, x], argTypes := #[34, 34] }) (hs : a.eval s = .slice none 0 0)
    (bo : Option Addr) (l : List Int) (cb : Nat) (hx : a.eval x = .slice bo l.length cb) (hr : R8 w bo l) (hn : bo = none → l.length = 0 ∧ cb = 0) (hM : l.length ≤ 140737488351232)
    (h : ∀ v' w', w'.ownsRow w.heap.size 39 1 v' l.length (i8s l) → Below w.heap.size w w' → wpList Tryz.prog ops Q rest (a.put o.dst v') w') : wpList Tryz.prog ops Q (o :: rest) a w := by
  obtain ⟨i0, hi, hz0, hz1, hz2⟩ := info_parts info_i8
  cases bo with
  | none =>
    obtain ⟨h0, rfl⟩ := hn rfl
    rw [h0] at hx
    refine wpList_append_own_none hgd s x _ ho w.heap.size 39 i0 1 und_i8s hi (.slice none 0 0) 0 [] hs (World.ownsRow_nil _ _ _ _) hx (h _ _ ?_ (Below.refl _ _))
    have e : l = [] := List.eq_nil_of_length_eq_zero h0
    subst e
    exact World.ownsRow_nil _ _ _ _
  | some ad =>
    refine wpList_append_own w hgd s x _ ho w.heap.size 39 i0 (.int .i8 0) 1 1 und_i8s hi hz0 hz1 hz2 rfl (by decide) (.slice none 0 0) 0 [] hs (World.ownsRow_nil _ _ _ _) ad l.length cb (i8s l) hx (i8s_len l)
      (fun j u hu => by obtain ⟨h1, rfl⟩ := i8s_get hu; exact r8_add hr h1) i8s_one (by unfold maxLen; omega) (by omega) (Nat.le_refl _) ?_
    intro v' w' h1 h2 _
    rw [Nat.zero_add, List.nil_append] at h1
    exact h v' w' h1 ((Below.refl _ _).grown h2 (Nat.le_refl _) (fun _ e => by cases e))

/-- One small number appended to a list of one's own. -/
theorem app_one {ops : Array Oper} {rest : List Oper} {o : Oper} {a : Act} {Q : Exit → Act → World → Prop} {w : World} (hgd : o.guard = none) (s x : Operand)
    (ho : o.op = .call { callee := .builtin .append, args := #[s, x], argTypes := #[34, 34] }) (base : Nat) (v : Value) (l : List Int) (hs : a.eval s = v) (hown : w.ownsRow base 39 1 v l.length (i8s l))
    (g : Nat) (y : Int) (cb : Nat) (hx : a.eval x = .slice (some ⟨g, 0, none⟩) 1 cb) (hr : w.cell? ⟨g, 0, none⟩ = some (.int .i8 y)) (hM : l.length < 140737488355328) (hb : base ≤ w.heap.size)
    (h : ∀ v' w', w'.ownsRow base 39 1 v' (l.length + 1) (i8s (l ++ [y])) → w.grownBy w' v.ownBlock → wpList Tryz.prog ops Q rest (a.put o.dst v') w') : wpList Tryz.prog ops Q (o :: rest) a w := by
  obtain ⟨i0, hi, hz0, hz1, hz2⟩ := info_parts info_i8
  refine wpList_append_own w hgd s x _ ho base 39 i0 (.int .i8 0) 1 1 und_i8s hi hz0 hz1 hz2 rfl (by decide) v l.length (i8s l) hs hown ⟨g, 0, none⟩ 1 cb [.int .i8 y] hx rfl
    (fun j u hu => ?_) (fun u hu => by simp at hu; subst hu; rfl) (by unfold maxLen; omega) (by omega) hb ?_
  · rcases j with _ | j
    · simp at hu; subst hu; exact hr
    · simp at hu
  · intro v' w' h1 h2 _
    exact h v' w' (by rw [i8s_snoc]; exact h1) h2

/-- Made weights. -/
def tml (l : List Int) : List Int := l.map fun x => x.tmod 2
theorem ia_snoc {l : List Int} {k : Nat} (h : k < l.length) : l.take (k + 1) = l.take k ++ [ia l k] := by
  rw [List.take_succ_eq_append_getElem h]
  congr 2
  unfold ia
  simp [List.getD, h]
theorem tml_len (l : List Int) : (tml l).length = l.length := by simp [tml]
theorem tml_ia {l : List Int} {k : Nat} (h : k < l.length) : ia (tml l) k = (ia l k).tmod 2 := by
  unfold ia tml
  simp [List.getD, h]
theorem tml_take {l : List Int} {k : Nat} (h : k < l.length) : (tml l).take (k + 1) = (tml l).take k ++ [(ia l k).tmod 2] := by
  rw [ia_snoc (by rw [tml_len]; exact h), tml_ia h]
theorem tmod2 (x : Int) : -1 ≤ x.tmod 2 ∧ x.tmod 2 ≤ 1 := by
  rcases Int.le_total 0 x with h | h
  · rw [Int.tmod_eq_emod_of_nonneg h]; omega
  · obtain ⟨y, rfl⟩ : ∃ y, x = -y := ⟨-x, by omega⟩
    rw [Int.neg_tmod, Int.tmod_eq_emod_of_nonneg (by omega)]; omega
theorem r8_nil {w : World} {ao : Option Addr} {l : List Int} (h : R8 w ao l) (h0 : 0 < l.length) : ∃ g o, ao = some ⟨g, o, none⟩ := by
  obtain ⟨g, o, e, _⟩ := h 0 h0
  exact ⟨g, o, e⟩
end Go.Proofs.YtlgjoepeibodkaaGreat
/- BoundRows: mathematics. -/
namespace Go.Proofs.YtlgjoepeibodkaaGreat
open Go.RowKit

/-- How many of the first k weights are above 0; below 0. -/
def cP (f : Nat → Int) : Nat → Nat
  | 0 => 0
  | k + 1 => cP f k + if 0 < f k then 1 else 0
def cM (f : Nat → Int) : Nat → Nat
  | 0 => 0
  | k + 1 => cM f k + if f k < 0 then 1 else 0
theorem cP_le (f : Nat → Int) : ∀ k, cP f k + cM f k ≤ k
  | 0 => Nat.le_refl _
  | k + 1 => by
    have := cP_le f k
    simp only [cP, cM]
    by_cases h : 0 < f k
    · rw [if_pos h, if_neg (by omega)]; omega
    · rw [if_neg h]; split <;> omega
theorem pc_pk (l : List Int) (N : Nat) : ∀ k, k ≤ N → pc (pk l N) k = cP (ia l) k
  | 0, _ => rfl
  | k + 1, h => by
    simp only [pc, cP]
    rw [pc_pk l N k (by omega), pk_bit]
    by_cases hp : 0 < ia l k
    · rw [if_pos hp]; simp [hp]; omega
    · rw [if_neg hp]; simp [hp]
theorem pc_nz (l : List Int) (N : Nat) : ∀ k, k ≤ N → pc (bn (nz l) N) k = cP (ia l) k + cM (ia l) k
  | 0, _ => rfl
  | k + 1, h => by
    simp only [pc, cP, cM]
    rw [pc_nz l N k (by omega), bn_bit]
    have hk : decide (k < N) = true := decide_eq_true (by omega)
    by_cases hp : 0 < ia l k
    · rw [if_pos hp, if_neg (by omega), hk]; simp [nz, show ia l k ≠ 0 by omega]; omega
    · by_cases hm : ia l k < 0
      · rw [if_neg hp, if_pos hm, hk]; simp [nz, show ia l k ≠ 0 by omega]; omega
      · rw [if_neg hp, if_neg hm, hk]; simp [nz, show ia l k = 0 by omega]
theorem pk_sub (l : List Int) (N : Nat) : pk l N &&& bn (nz l) N = pk l N := by
  refine Nat.eq_of_testBit_eq fun i => ?_
  rw [Nat.testBit_and, pk_bit, bn_bit]
  by_cases hp : 0 < ia l i
  · simp [nz, hp, show ia l i ≠ 0 by omega]
  · simp [hp]
theorem dck_ob4 {n g1 g2 S M : Nat} (h1 : n ≤ 16777216) (hS : S < 2 ^ n) (hM : M < 2 ^ n) (h : S &&& M = S) : dck (ob n g1 S) (ob n g2 M) = 0 := by
  have c1 := chk_ok h1 hS
  have c2 := chk_ok h1 hM
  unfold dck
  rw [if_neg (by simp [ftB, c1, c2]), if_pos h]
theorem mulS {p : Nat} {x : Int} (hp : p ≤ 300) (hx : -1000000 ≤ x ∧ x ≤ 1000000) : -300000000 ≤ (p : Int) * x ∧ (p : Int) * x ≤ 300000000 := by
  have h1 : (p : Int) * x ≤ 300 * 1000000 := by
    by_cases h0 : 0 ≤ x
    · exact Int.le_trans (Int.mul_le_mul_of_nonneg_right (show (p : Int) ≤ 300 by omega) h0) (Int.mul_le_mul_of_nonneg_left (by omega) (by decide))
    · exact Int.le_trans (Int.mul_nonpos_of_nonneg_of_nonpos (by omega) (by omega)) (by decide)
  have h2 : (p : Int) * (-x) ≤ 300 * 1000000 := by
    by_cases h0 : 0 ≤ -x
    · exact Int.le_trans (Int.mul_le_mul_of_nonneg_right (show (p : Int) ≤ 300 by omega) h0) (Int.mul_le_mul_of_nonneg_left (by omega) (by decide))
    · exact Int.le_trans (Int.mul_nonpos_of_nonneg_of_nonpos (by omega) (by omega)) (by decide)
  rw [Int.mul_neg] at h2
  omega
/-- What Row tells of packed weights. -/
theorem row_pack {l : List Int} {N g1 g2 : Nat} {lo hi : Int} (h1 : N ≤ 300) (hl : -1000000 ≤ lo) (hlh : lo ≤ hi) (hh : hi ≤ 1000000) :
    roE (ob N g1 (pk l N)) (ob N g2 (bn (nz l) N)) lo hi = 0 ∧ roL (ob N g1 (pk l N)) (ob N g2 (bn (nz l) N)) lo hi = (cP (ia l) N : Nat) * lo - (cM (ia l) N : Nat) * hi ∧ roH (ob N g1 (pk l N)) (ob N g2 (bn (nz l) N)) lo hi = (cP (ia l) N : Nat) * hi - (cM (ia l) N : Nat) * lo := by
  have hd := dck_ob4 (g1 := g1) (g2 := g2) (show N ≤ 16777216 by omega) (pk_lt l N) (bn_lt (nz l) N) (pk_sub l N)
  have e1 : rP (ob N g1 (pk l N)) = (cP (ia l) N : Nat) := by
    unfold rP
    show ((pc (pk l N) (64 * nw N) : Nat) : Int) = _
    rw [pc_above (pk_lt l N) (nw_le N), pc_pk l N N (Nat.le_refl _)]
  have e2 : rM (ob N g1 (pk l N)) (ob N g2 (bn (nz l) N)) = (cM (ia l) N : Nat) := by
    unfold rM
    show ((pc (bn (nz l) N) (64 * nw N) : Nat) : Int) - ((pc (pk l N) (64 * nw N) : Nat) : Int) = _
    rw [pc_above (pk_lt l N) (nw_le N), pc_pk l N N (Nat.le_refl _), pc_above (bn_lt (nz l) N) (nw_le N), pc_nz l N N (Nat.le_refl _)]
    omega
  have hb := cP_le (ia l) N
  generalize cP (ia l) N = P at *
  generalize cM (ia l) N = Q at *
  have eL : rL (ob N g1 (pk l N)) (ob N g2 (bn (nz l) N)) lo hi = (P : Nat) * lo - (Q : Nat) * hi := by unfold rL; rw [e1, e2]
  have eH : rH (ob N g1 (pk l N)) (ob N g2 (bn (nz l) N)) lo hi = (P : Nat) * hi - (Q : Nat) * lo := by unfold rH; rw [e1, e2]
  have m1 := mulS (p := P) (by omega) (show -1000000 ≤ lo ∧ lo ≤ 1000000 by omega)
  have m2 := mulS (p := P) (by omega) (show -1000000 ≤ hi ∧ hi ≤ 1000000 by omega)
  have m3 := mulS (p := Q) (by omega) (show -1000000 ≤ lo ∧ lo ≤ 1000000 by omega)
  have m4 := mulS (p := Q) (by omega) (show -1000000 ≤ hi ∧ hi ≤ 1000000 by omega)
  have n1 : (P : Int) * lo ≤ P * hi := Int.mul_le_mul_of_nonneg_left hlh (by omega)
  have n2 : (Q : Int) * lo ≤ Q * hi := Int.mul_le_mul_of_nonneg_left hlh (by omega)
  have e3 : roE (ob N g1 (pk l N)) (ob N g2 (bn (nz l) N)) lo hi = 0 := by
    unfold roE
    rw [if_neg (by simpa using hd), if_pos (show maR lo hi from ⟨by omega, hlh, by omega⟩), if_pos]
    rw [eL, eH]
    exact ⟨by omega, by omega, by omega⟩
  refine ⟨e3, ?_, ?_⟩
  · unfold roL; rw [if_pos e3, eL]
  · unfold roH; rw [if_pos e3, eH]
def clV (n lo hi : Int) : Int := if n < lo then lo else if n > hi then hi else n
theorem clV_in {n lo hi : Int} (h : lo ≤ hi) : lo ≤ clV n lo hi ∧ clV n lo hi ≤ hi := by unfold clV; split <;> (try split) <;> omega
end Go.Proofs.YtlgjoepeibodkaaGreat
/- BOUND MET: what the walk wants. -/
namespace Go.Proofs.YtlgjoepeibodkaaGreat.Nn
open Go.RowKit

def pkV (f : Nat → Int) (m i : Nat) (n : Int) : Int := if m = 0 then 0 else f (i % m) % n
theorem pkV_in {f : Nat → Int} {m i : Nat} {n : Int} (hn : 1 ≤ n) : 0 ≤ pkV f m i n ∧ pkV f m i n < n := by
  unfold pkV
  split
  · omega
  · exact ⟨Int.emod_nonneg _ (by omega), Int.emod_lt_of_pos _ (by omega)⟩
/-- The sums of the two inputs are both ends. -/
def loX (f : Nat → Int) (j : Nat) : Int := if f j < 0 then 127 else -128
def hiX (f : Nat → Int) (j : Nat) : Int := if f j < 0 then -128 else 127
theorem sm_lo {f : Nat → Int} : ∀ {m : Nat}, (∀ j, j < m → -1 ≤ f j ∧ f j ≤ 1) → smV f (loX f) m = (cnW f 1 m : Nat) * (-128) - (cnW f (-1) m : Nat) * 127
  | 0, _ => rfl
  | m + 1, h => by
    have ih := sm_lo (m := m) fun j hj => h j (by omega)
    have h3 := h m (by omega)
    simp only [smV, cnW, loX]
    rw [ih]
    rcases (show f m = -1 ∨ f m = 0 ∨ f m = 1 by omega) with e | e | e <;> simp [e] <;> omega
theorem sm_hi {f : Nat → Int} : ∀ {m : Nat}, (∀ j, j < m → -1 ≤ f j ∧ f j ≤ 1) → smV f (hiX f) m = (cnW f 1 m : Nat) * 127 - (cnW f (-1) m : Nat) * (-128)
  | 0, _ => rfl
  | m + 1, h => by
    have ih := sm_hi (m := m) fun j hj => h j (by omega)
    have h3 := h m (by omega)
    simp only [smV, cnW, hiX]
    rw [ih]
    rcases (show f m = -1 ∨ f m = 0 ∨ f m = 1 by omega) with e | e | e <;> simp [e] <;> omega
theorem info_i8P : (Tryz.prog.info? 39).map (fun i => (i.zero, i.size, i.bytes)) = some (some (.int .i8 0), 1, 1) := by kernel_rfl
theorem und_i8P : Tryz.prog.underlying 34 = some (.slice 39) := by kernel_rfl
def i8L (l : List Int) : List Value := l.map (Value.int .i8)
theorem i8L_snoc (l : List Int) (x : Int) : i8L (l ++ [x]) = i8L l ++ [.int .i8 x] := by simp [i8L]
theorem step_app8 {ops : Array Oper} {o : Oper} {a : Act} {w : World} {K : Act → World → Prop} {Q : Exit → Act → World → Prop} {E : Prop} (hgd : o.guard = none) (s x : Operand)
    (ho : o.op = .call { callee := .builtin .append, args := #[s, x], argTypes := #[34, 34] }) (base : Nat) (v : Value) (l : List Int) (n : Nat) (hs : a.eval s = v) (hown : w.ownsRow base 39 1 v n (i8L l))
    (g : Nat) (y : Int) (cb : Nat) (hx : a.eval x = .slice (some ⟨g, 0, none⟩) 1 cb) (hr : w.cell? ⟨g, 0, none⟩ = some (.int .i8 y)) (hM : n ≤ 1000000000) (hb : base ≤ w.heap.size)
    (h : ∀ v' w', w'.ownsRow base 39 1 v' (n + 1) (i8L (l ++ [y])) → w.grownBy w' v.ownBlock → K (a.put o.dst v') w') : if Region.wanted o (yielded ops a.tmps) = true then Oper.wp Tryz.prog o a w K Q else E := by
  have hw : Region.wanted o (yielded ops a.tmps) = true := by simp [Region.wanted, hgd]
  rw [if_pos hw]
  obtain ⟨i0, hi, hz0, hz1, hz2⟩ := info_parts info_i8P
  obtain ⟨v', w', hr2, h2, h3, h4, h5⟩ := run_append_own_at (P := Tryz.prog) w base 34 o.type 39 i0 (.int .i8 0) 1 1 und_i8P hi hz0 hz1 hz2 rfl (by decide) v n (i8L l) hown ⟨g, 0, none⟩ 1 cb [.int .i8 y] rfl
    (fun j u hu => by
      rcases j with _ | j
      · simp at hu; subst hu; exact hr
      · simp at hu) (fun u hu => by simp at hu; subst hu; rfl) (by unfold maxLen; omega) (by omega) hb
  unfold Oper.wp execOp
  simp only [ho, resolve, invoke, builtin, Sem.run_bind, Sem.run_pure, Result.andThen_ok, List.map_toArray, List.map_cons, List.map_nil, hs, hx, hr2]
  exact h v' w' (by rw [i8L_snoc]; exact h2) h3
theorem own_isP {W : World} {b T s n : Nat} {v : Value} {xs : List Value} (h : W.ownsRow b T s v n xs) : ∃ a c, v = .slice a n c := by
  rcases h.2 with ⟨e, hn⟩ | ⟨g, c, _, e, _⟩
  · exact ⟨none, 0, by rw [e, hn]⟩
  · exact ⟨_, _, e⟩
theorem info_u8P : (Tryz.prog.info? 5).map (fun i => (i.zero, i.size, i.bytes)) = some (some (.int .u8 0), 1, 1) := by kernel_rfl
theorem und_u8P : Tryz.prog.underlying 27 = some (.slice 5) := by kernel_rfl
def u8L (l : List Int) : List Value := l.map (Value.int .u8)
theorem u8L_snoc (l : List Int) (x : Int) : u8L (l ++ [x]) = u8L l ++ [.int .u8 x] := by simp [u8L]
theorem app_u8P {ops : Array Oper} {rest : List Oper} {o : Oper} {a : Act} {Q : Exit → Act → World → Prop} {w : World} (hgd : o.guard = none) (s x : Operand)
    (ho : o.op = .call { callee := .builtin .append, args := #[s, x], argTypes := #[27, 27] }) (base : Nat) (v : Value) (l : List Int) (n : Nat) (hs : a.eval s = v) (hown : w.ownsRow base 5 1 v n (u8L l))
    (g : Nat) (y : Int) (cb : Nat) (hx : a.eval x = .slice (some ⟨g, 0, none⟩) 1 cb) (hr : w.cell? ⟨g, 0, none⟩ = some (.int .u8 y)) (hM : n ≤ 1000000000) (hb : base ≤ w.heap.size)
    (h : ∀ v' w', w'.ownsRow base 5 1 v' (n + 1) (u8L (l ++ [y])) → w.grownBy w' v.ownBlock → (v'.ownBlock = v.ownBlock ∨ v'.ownBlock = some w.heap.size) → wpList Tryz.prog ops Q rest (a.put o.dst v') w') : wpList Tryz.prog ops Q (o :: rest) a w := by
  obtain ⟨i0, hi, hz0, hz1, hz2⟩ := info_parts info_u8P
  refine wpList_append_own_at w hgd s x _ ho base 5 i0 (.int .u8 0) 1 1 und_u8P hi hz0 hz1 hz2 rfl (by decide) v n (u8L l) hs hown ⟨g, 0, none⟩ 1 cb [.int .u8 y] hx rfl
    (fun j u hu => ?_) (fun u hu => by simp at hu; subst hu; rfl) (by unfold maxLen; omega) (by omega) hb ?_
  · rcases j with _ | j
    · simp at hu; subst hu; exact hr
    · simp at hu
  · intro v' w' h1 h2 _ h3
    exact h v' w' (by rw [u8L_snoc]; exact h1) h2 h3
end Go.Proofs.YtlgjoepeibodkaaGreat.Nn
/- NETWORKS THAT ARE MADE: pick, weights, norms, after. -/
namespace Go.Proofs.YtlgjoepeibodkaaGreat.Nn
open Go.RowKit

/-- What pick answers, as a number of a number. -/
def pk5 (f : Nat → Int) (m : Nat) (i n : Int) : Int := pkV f m i.toNat n
theorem pk5_in (f : Nat → Int) (m : Nat) (i : Int) {n : Int} (hn : 1 ≤ n) : 0 ≤ pk5 f m i n ∧ pk5 f m i n ≤ n - 1 := by have := pkV_in (f := f) (m := m) (i := i.toNat) hn; unfold pk5; omega
theorem app_i8P {ops : Array Oper} {rest : List Oper} {o : Oper} {a : Act} {Q : Exit → Act → World → Prop} {w : World} (hgd : o.guard = none) (s x : Operand)
    (ho : o.op = .call { callee := .builtin .append, args := #[s, x], argTypes := #[34, 34] }) (base : Nat) (v : Value) (l : List Int) (n : Nat) (hs : a.eval s = v) (hown : w.ownsRow base 39 1 v n (i8L l))
    (g : Nat) (y : Int) (cb : Nat) (hx : a.eval x = .slice (some ⟨g, 0, none⟩) 1 cb) (hr : w.cell? ⟨g, 0, none⟩ = some (.int .i8 y)) (hM : n ≤ 1000000000) (hb : base ≤ w.heap.size)
    (h : ∀ v' w', w'.ownsRow base 39 1 v' (n + 1) (i8L (l ++ [y])) → w.grownBy w' v.ownBlock → wpList Tryz.prog ops Q rest (a.put o.dst v') w') : wpList Tryz.prog ops Q (o :: rest) a w := by
  obtain ⟨i0, hi, hz0, hz1, hz2⟩ := info_parts info_i8P
  refine wpList_append_own_at w hgd s x _ ho base 39 i0 (.int .i8 0) 1 1 und_i8P hi hz0 hz1 hz2 rfl (by decide) v n (i8L l) hs hown ⟨g, 0, none⟩ 1 cb [.int .i8 y] hx rfl
    (fun j u hu => ?_) (fun u hu => by simp at hu; subst hu; rfl) (by unfold maxLen; omega) (by omega) hb ?_
  · rcases j with _ | j
    · simp at hu; subst hu; exact hr
    · simp at hu
  · intro v' w' h1 h2 _ _
    exact h v' w' (by rw [i8L_snoc]; exact h1) h2
theorem i8_idD {z : Int} (h1 : -128 ≤ z) (h2 : z ≤ 127) : IntKind.i8.wrap z = z := by
  simp [IntKind.wrap, IntKind.bits, IntKind.signed]
  omega
/-- The weights that are made. -/
def wgV (f : Nat → Int) (m : Nat) (kd : Int) (j : Nat) : Int := if pk5 f m (3 * j + 1) 3 - 1 = 0 ∧ kd = 1 then 1 else pk5 f m (3 * j + 1) 3 - 1
def wgL (f : Nat → Int) (m : Nat) (kd : Int) (n : Nat) : List Int := (List.range n).map (wgV f m kd)
theorem wgL_succ (f : Nat → Int) (m : Nat) (kd : Int) (i : Nat) : wgL f m kd (i + 1) = wgL f m kd i ++ [wgV f m kd i] := by unfold wgL; rw [List.range_succ, List.map_append]; rfl
theorem wgV_ok (f : Nat → Int) (m : Nat) (kd : Int) (j : Nat) : okW kd (wgV f m kd j) := by
  have := pk5_in f m (3 * j + 1) (n := 3) (by decide)
  unfold okW wgV
  split
  · omega
  · omega
end Go.Proofs.YtlgjoepeibodkaaGreat.Nn
/- NETWORKS THAT ARE MADE: norms, after. -/
namespace Go.Proofs.YtlgjoepeibodkaaGreat.Nn
open Go.RowKit

theorem info_nrD : (Tryz.prog.info? 43).map (fun i => (i.zero, i.size, i.bytes)) = some (some (.agg #[.int .i64 0, .int .i64 0, .int .i64 0, .int .i64 0, .int .i64 0, .int .i64 0, .int .i64 0, .int .i64 0]), 8, 64) := by kernel_rfl
theorem und_nrD : Tryz.prog.underlying 35 = some (.slice 43) := by kernel_rfl
/-- Norms, eight cells each. -/
def nmC (ns : Nat → Int) : List Value := [.int .i64 (ns 0), .int .i64 (ns 1), .int .i64 (ns 2), .int .i64 (ns 3), .int .i64 (ns 4), .int .i64 (ns 5), .int .i64 (ns 6), .int .i64 (ns 7)]
def nmL (ns : Nat → Nat → Int) : Nat → List Value
  | 0 => []
  | n + 1 => nmL ns n ++ nmC (ns n)
theorem app_nrD {ops : Array Oper} {rest : List Oper} {o : Oper} {a : Act} {Q : Exit → Act → World → Prop} {w : World} (hgd : o.guard = none) (s x : Operand)
    (ho : o.op = .call { callee := .builtin .append, args := #[s, x], argTypes := #[35, 35] }) (base : Nat) (v : Value) (xs : List Value) (n : Nat) (hs : a.eval s = v) (hown : w.ownsRow base 43 8 v n xs)
    (g : Nat) (y : Nat → Int) (cb : Nat) (hx : a.eval x = .slice (some ⟨g, 0, none⟩) 1 cb) (hr : w.cell? ⟨g, 0, none⟩ = some (.int .i64 (y 0)) ∧ w.cell? ⟨g, 1, none⟩ = some (.int .i64 (y 1)) ∧ w.cell? ⟨g, 2, none⟩ = some (.int .i64 (y 2)) ∧ w.cell? ⟨g, 3, none⟩ = some (.int .i64 (y 3)) ∧ w.cell? ⟨g, 4, none⟩ = some (.int .i64 (y 4)) ∧ w.cell? ⟨g, 5, none⟩ = some (.int .i64 (y 5)) ∧ w.cell? ⟨g, 6, none⟩ = some (.int .i64 (y 6)) ∧ w.cell? ⟨g, 7, none⟩ = some (.int .i64 (y 7))) (hM : n ≤ 1000000000) (hb : base ≤ w.heap.size)
    (h : ∀ v' w', w'.ownsRow base 43 8 v' (n + 1) (xs ++ nmC y) → w.grownBy w' v.ownBlock → wpList Tryz.prog ops Q rest (a.put o.dst v') w') : wpList Tryz.prog ops Q (o :: rest) a w := by
  obtain ⟨i0, hi, hz0, hz1, hz2⟩ := info_parts info_nrD
  obtain ⟨r0, r1, r2, r3, r4, r5, r6, r7⟩ := hr
  refine wpList_append_own_at w hgd s x _ ho base 43 i0 _ 8 64 und_nrD hi hz0 hz1 hz2 rfl (by decide) v n xs hs hown ⟨g, 0, none⟩ 1 cb (nmC y) hx rfl
    (fun j u hu => ?_) (fun u hu => by simp [nmC] at hu; rcases hu with rfl | rfl | rfl | rfl | rfl | rfl | rfl | rfl <;> rfl) (by unfold maxLen; omega) (by omega) hb ?_
  · rcases j with _ | _ | _ | _ | _ | _ | _ | _ | j
    · simp [nmC] at hu; subst hu; exact r0
    · simp [nmC] at hu; subst hu; exact r1
    · simp [nmC] at hu; subst hu; exact r2
    · simp [nmC] at hu; subst hu; exact r3
    · simp [nmC] at hu; subst hu; exact r4
    · simp [nmC] at hu; subst hu; exact r5
    · simp [nmC] at hu; subst hu; exact r6
    · simp [nmC] at hu; subst hu; exact r7
    · simp [nmC] at hu
  · intro v' w' h1 h2 _ _
    exact h v' w' h1 h2
/-- The norms that are made. -/
def nsV (f : Nat → Int) (m : Nat) (at' : Int) (i : Nat) (c : Nat) : Int := match c with
  | 0 => pk5 f m (at' + i) 7 - 3
  | 1 => 1 + pk5 f m (at' + i + 1) 4
  | 2 => pk5 f m (at' + i + 2) 9 - 4
  | 3 => 3
  | 4 => pk5 f m (at' + i + 3) 9 - 4
  | 5 => 2
  | 6 => 1 + i
  | _ => 2
theorem nsV_ok (f : Nat → Int) (m : Nat) (at' : Int) (i : Nat) (hi : i ≤ 1000) : noE (nsV f m at' i 0) (nsV f m at' i 1) (nsV f m at' i 2) (nsV f m at' i 3) (nsV f m at' i 4) (nsV f m at' i 5) (nsV f m at' i 6) (nsV f m at' i 7) = 0 := by
  have h1 := pk5_in f m (at' + i) (n := 7) (by decide)
  have h2 := pk5_in f m (at' + i + 1) (n := 4) (by decide)
  have h3 := pk5_in f m (at' + i + 2) (n := 9) (by decide)
  have h4 := pk5_in f m (at' + i + 3) (n := 9) (by decide)
  show noE (pk5 f m (at' + i) 7 - 3) (1 + pk5 f m (at' + i + 1) 4) (pk5 f m (at' + i + 2) 9 - 4) 3 (pk5 f m (at' + i + 3) 9 - 4) 2 (1 + i) 2 = 0
  unfold noE Fr
  rw [if_pos (by omega), if_neg (by omega)]
end Go.Proofs.YtlgjoepeibodkaaGreat.Nn
/- NETWORKS THAT ARE MADE: after. -/
namespace Go.Proofs.YtlgjoepeibodkaaGreat.Nn
open Go.RowKit

/-- The shape behind a layer that is made. -/
def afH (L : Ly) (h : Int) : Int := if L.kd = 2 then 1 else (h + L.t + L.b - L.r) / L.sy + 1
def afV (L : Ly) (v : Int) : Int := if L.kd = 2 then 1 else (v + L.l + L.q - L.s) / L.sx + 1
end Go.Proofs.YtlgjoepeibodkaaGreat.Nn
/- NETWORKS THAT ARE MADE: that they may be; how they lie. -/
namespace Go.Proofs.YtlgjoepeibodkaaGreat.Nn
open Go.RowKit

theorem mul3_le {a b c A B C : Int} (ha : 0 ≤ a ∧ a ≤ A) (hb : 0 ≤ b ∧ b ≤ B) (hc : 0 ≤ c ∧ c ≤ C) : 0 ≤ a * b * c ∧ a * b * c ≤ A * B * C := by
  have h1 : 0 ≤ a * b := Int.mul_nonneg ha.1 hb.1
  have h2 : a * b ≤ A * B := Int.mul_le_mul ha.2 hb.2 hb.1 (by omega)
  exact ⟨Int.mul_nonneg h1 hc.1, Int.mul_le_mul h2 hc.2 hc.1 (by have := Int.mul_nonneg (show 0 ≤ A by omega) (show 0 ≤ B by omega); omega)⟩
/-- A shape that is made: small. -/
def SmS (S : Sp) : Prop := (1 ≤ S.h ∧ S.h ≤ 15) ∧ (1 ≤ S.v ∧ S.v ≤ 15) ∧ (1 ≤ S.c ∧ S.c ≤ 4) ∧ 0 ≤ S.ah ∧ S.ah ≤ 1000000
theorem chk_small {h v c : Int} (a : 1 ≤ h ∧ h ≤ 100) (b : 1 ≤ v ∧ v ≤ 100) (d : 1 ≤ c ∧ c ≤ 100) : chk h v c = 0 := by
  have := mul3_le (a := h) (b := v) (c := c) (A := 100) (B := 100) (C := 100) (by omega) (by omega) (by omega)
  unfold chk
  rw [if_pos (show Sides h v c from ⟨by omega, by omega, by omega⟩), if_neg (by omega)]
theorem st_bd {n bf af wi st : Int} (h : wi ≤ bf + n + af) (h1 : 1 ≤ wi) (h2 : 1 ≤ st) : stN n bf af wi st = (n + bf + af - wi) / st + 1 ∧ 1 ≤ stN n bf af wi st ∧ stN n bf af wi st ≤ bf + n + af := by
  unfold stN
  rw [if_neg (by omega)]
  have e : bf + n + af - wi = n + bf + af - wi := by omega
  rw [e]
  have c1 : 0 ≤ (n + bf + af - wi) / st := Int.ediv_nonneg (by omega) (by omega)
  have c2 : (n + bf + af - wi) / st ≤ n + bf + af - wi := Int.ediv_le_self _ (by omega)
  exact ⟨rfl, by omega, by omega⟩
/-- The window of a layer that is made. -/
theorem sl_made {S : Sp} (hS : SmS S) {L : Ly} {k : Int} (hk : 1 ≤ k ∧ k ≤ 100) (hr : 1 ≤ L.r ∧ L.r ≤ S.h) (hs : 1 ≤ L.s ∧ L.s ≤ S.v) (hy : 1 ≤ L.sy ∧ L.sy ≤ 3) (hx : 1 ≤ L.sx ∧ L.sx ≤ 3) (ht : 0 ≤ L.t ∧ L.t ≤ 2) (hl : L.l = 0) (hb : L.b = 0) (hq : 0 ≤ L.q ∧ L.q ≤ 1) :
    WOk L.r L.s L.sy L.sx L.t L.l L.b L.q ∧ slE S.h S.v S.c L.r L.s L.sy L.sx L.t L.l L.b L.q k = 0 ∧ stN S.h L.t L.b L.r L.sy = (S.h + L.t + L.b - L.r) / L.sy + 1 ∧ stN S.v L.l L.q L.s L.sx = (S.v + L.l + L.q - L.s) / L.sx + 1 ∧ (1 ≤ stN S.h L.t L.b L.r L.sy ∧ stN S.h L.t L.b L.r L.sy ≤ S.h + 2) ∧ (1 ≤ stN S.v L.l L.q L.s L.sx ∧ stN S.v L.l L.q L.s L.sx ≤ S.v + 1) := by
  obtain ⟨a, b, c, -⟩ := hS
  have w : WOk L.r L.s L.sy L.sx L.t L.l L.b L.q := ⟨⟨by omega, by omega, by omega, by omega⟩, ⟨by omega, by omega, by omega, by omega⟩⟩
  obtain ⟨e1, e2, e3⟩ := st_bd (n := S.h) (bf := L.t) (af := L.b) (wi := L.r) (st := L.sy) (by omega) hr.1 hy.1
  obtain ⟨f1, f2, f3⟩ := st_bd (n := S.v) (bf := L.l) (af := L.q) (wi := L.s) (st := L.sx) (by omega) hs.1 hx.1
  refine ⟨w, ?_, e1, f1, ⟨e2, by omega⟩, ⟨f2, by omega⟩⟩
  unfold slE
  rw [if_neg (by rw [chk_small (by omega) (by omega) (by omega)]; decide), if_neg (by omega), if_neg (fun h => h w), if_neg (by unfold mn2; split <;> omega)]
  exact chk_small (by omega) (by omega) hk
/-- The weights, norms and biases of a layer that is made. -/
def WsOk (L : Ly) (F : Int) : Prop := (L.mw : Int) = L.k * F ∧ ∀ j, j < L.mw → okW L.wt (L.ws j)
def NsOk (L : Ly) : Prop := (L.mn : Int) = L.k ∧ L.mb = 0 ∧ ∀ j, j < L.mn → nno L j = 0
theorem made_conv {S : Sp} (hS : SmS S) (hla : S.la = false) {L : Ly} (h1 : L.kd = 1) (hwt : L.wt = 1 ∨ L.wt = 2) (hk : 1 ≤ L.k ∧ L.k ≤ 3) (hr : 1 ≤ L.r ∧ L.r ≤ S.h) (hs : 1 ≤ L.s ∧ L.s ≤ S.v) (hy : 1 ≤ L.sy ∧ L.sy ≤ 3) (hx : 1 ≤ L.sx ∧ L.sx ≤ 3) (ht : 0 ≤ L.t ∧ L.t ≤ 2) (hl : L.l = 0) (hb : L.b = 0) (hq : 0 ≤ L.q ∧ L.q ≤ 1) (hbd : L.bd = 0 ∨ (1 ≤ L.t + L.q ∧ -1 ≤ L.bd ∧ L.bd ≤ 1)) (hw : WsOk L (L.r * L.s * S.c)) (hn : NsOk L) : faE L S = 0 := by
  obtain ⟨w1, w2, -⟩ := sl_made hS (L := L) (k := L.k) (by omega) hr hs hy hx ht hl hb hq
  obtain ⟨a, b, c, d⟩ := hS
  have hf : fan L S.h S.v S.c = L.r * L.s * S.c := by unfold fan; rw [if_neg (by omega)]
  have hwc : wc L S.h S.v S.c = L.k * (L.r * L.s * S.c) := by unfold wc; rw [hf]
  have m1 := mul3_le (a := L.r) (b := L.s) (c := S.c) (A := 15) (B := 15) (C := 4) (by omega) (by omega) (by omega)
  have m2 : L.k * (L.r * L.s * S.c) ≤ 3 * (15 * 15 * 4) := Int.mul_le_mul hk.2 m1.2 m1.1 (by omega)
  unfold faE
  rw [if_pos h1]
  refine frF_ok fun j hj => ?_
  rcases (show j = 0 ∨ j = 1 ∨ j = 2 ∨ j = 3 ∨ j = 4 ∨ j = 5 ∨ j = 6 ∨ j = 7 ∨ j = 8 ∨ j = 9 by omega) with rfl | rfl | rfl | rfl | rfl | rfl | rfl | rfl | rfl | rfl
  · show (if S.la = true then (51 : Int) else 0) = 0
    rw [hla]; rfl
  · exact if_pos (by omega)
  · exact if_pos w1
  · refine if_pos ?_
    unfold Wz
    omega
  · show oE L S.h S.v S.c = 0
    unfold oE
    rw [if_neg (by omega), if_neg (by omega)]
    exact w2
  · exact if_pos hwt
  · show wrE L S = 0
    unfold wrE
    rw [hwc]
    exact if_pos (by omega)
  · show wsE L S = 0
    unfold wsE
    rw [hwc]
    exact if_pos ⟨hw.1, hw.2⟩
  · exact if_pos ⟨⟨hn.1, hn.2.1⟩, hn.2.2⟩
  · show reE L S = 0
    refine if_pos ⟨?_, fun j hj => by rw [hn.2.1] at hj; omega⟩
    unfold lef
    rw [hf]
    split <;> omega
theorem made_dense {S : Sp} (hS : SmS S) {L : Ly} (h2 : L.kd = 2) (hwt : L.wt = 1 ∨ L.wt = 2) (hk : 1 ≤ L.k ∧ L.k ≤ 3) (hz : L.r = 0 ∧ L.s = 0 ∧ L.sy = 0 ∧ L.sx = 0 ∧ L.t = 0 ∧ L.l = 0 ∧ L.b = 0 ∧ L.q = 0) (hbd : L.bd = 0) (hw : WsOk L (S.h * S.v * S.c)) (hn : (S.la = false ∧ NsOk L) ∨ (S.la = true ∧ (L.mb : Int) = L.k ∧ L.mn = 0 ∧ ∀ j, j < L.mb → -100 ≤ L.bs j ∧ L.bs j ≤ 100)) : faE L S = 0 := by
  obtain ⟨a, b, c, d⟩ := hS
  have hf : fan L S.h S.v S.c = S.h * S.v * S.c := by unfold fan; rw [if_pos h2]
  have hwc : wc L S.h S.v S.c = L.k * (S.h * S.v * S.c) := by unfold wc; rw [hf]
  have m1 := mul3_le (a := S.h) (b := S.v) (c := S.c) (A := 15) (B := 15) (C := 4) (by omega) (by omega) (by omega)
  have m2 : L.k * (S.h * S.v * S.c) ≤ 3 * (15 * 15 * 4) := Int.mul_le_mul hk.2 m1.2 m1.1 (by omega)
  unfold faE
  rw [if_neg (by omega), if_pos h2]
  refine frF_ok fun j hj => ?_
  rcases (show j = 0 ∨ j = 1 ∨ j = 2 ∨ j = 3 ∨ j = 4 ∨ j = 5 ∨ j = 6 by omega) with rfl | rfl | rfl | rfl | rfl | rfl | rfl
  · exact if_pos (by omega)
  · exact if_pos ⟨hz, hbd⟩
  · exact if_pos hwt
  · show wrE L S = 0
    unfold wrE
    rw [hwc]
    exact if_pos (by omega)
  · show wsE L S = 0
    unfold wsE
    rw [hwc]
    exact if_pos ⟨hw.1, hw.2⟩
  · show enE L S = 0
    unfold enE
    rcases hn with ⟨e, hn⟩ | ⟨e, hn⟩
    · rw [if_neg (by rw [e]; decide)]
      exact if_pos ⟨⟨hn.1, hn.2.1⟩, hn.2.2⟩
    · rw [if_pos e]
      exact if_pos ⟨hn.1, hn.2.1⟩
  · show reE L S = 0
    have hl : 2147000000 ≤ lef L S := by
      unfold lef
      rw [hf]
      split <;> omega
    refine if_pos ⟨by omega, fun j hj => ?_⟩
    unfold bok
    rcases hn with ⟨e, hn⟩ | ⟨e, hn⟩
    · rw [hn.2.1] at hj; omega
    · have := hn.2.2 j hj
      omega
theorem made_pool {S : Sp} (hS : SmS S) (hla : S.la = false) (hfs : S.fs = false) {L : Ly} (h3 : L.kd = 3) (hz : (L.k = 0 ∧ L.wt = 0 ∧ L.bd = 0) ∧ L.mw = 0 ∧ L.mn = 0 ∧ L.mb = 0) (hr : 1 ≤ L.r ∧ L.r ≤ S.h) (hs : 1 ≤ L.s ∧ L.s ≤ S.v) (hy : 1 ≤ L.sy ∧ L.sy ≤ 3) (hx : 1 ≤ L.sx ∧ L.sx ≤ 3) (hw : Wz L) : faE L S = 0 := by
  obtain ⟨z1, z2, z3, z4⟩ := hw
  obtain ⟨w1, w2, -⟩ := sl_made hS (L := L) (k := S.c) (by have := hS.2.2.1; omega) hr hs hy hx (by omega) z2 z3 (by omega)
  unfold faE
  rw [if_neg (by omega), if_neg (by omega), if_pos h3]
  refine frF_ok fun j hj => ?_
  rcases (show j = 0 ∨ j = 1 ∨ j = 2 ∨ j = 3 ∨ j = 4 ∨ j = 5 by omega) with rfl | rfl | rfl | rfl | rfl | rfl
  · show (if S.fs = true then (51 : Int) else 0) = 0
    rw [hfs]; rfl
  · show (if S.la = true then (51 : Int) else 0) = 0
    rw [hla]; rfl
  · exact if_pos hz
  · exact if_pos w1
  · exact if_pos ⟨z1, z2, z3, z4⟩
  · show oE L S.h S.v S.c = 0
    unfold oE
    rw [if_neg (by omega), if_pos h3]
    exact w2
/-- What comes out of a layer that is made, as after tells it. -/
theorem made_out {S : Sp} (hS : SmS S) {L : Ly} (h0 : faE L S = 0) (hw : L.kd = 2 ∨ ((1 ≤ L.r ∧ L.r ≤ S.h) ∧ (1 ≤ L.s ∧ L.s ≤ S.v) ∧ (1 ≤ L.sy ∧ L.sy ≤ 3) ∧ (1 ≤ L.sx ∧ L.sx ≤ 3) ∧ (0 ≤ L.t ∧ L.t ≤ 2) ∧ L.l = 0 ∧ L.b = 0 ∧ 0 ≤ L.q ∧ L.q ≤ 1)) :
    (L.kd = 2 ∨ (WOk L.r L.s L.sy L.sx L.t L.l L.b L.q ∧ L.r ≤ S.h + L.t + L.b ∧ L.s ≤ S.v + L.l + L.q)) ∧ oH L S.h S.v S.c = afH L S.h ∧ oV L S.h S.v S.c = afV L S.v ∧ (1 ≤ oH L S.h S.v S.c ∧ oH L S.h S.v S.c ≤ S.h + 2) ∧ (1 ≤ oV L S.h S.v S.c ∧ oV L S.h S.v S.c ≤ S.v + 1) ∧ oC L S.h S.v S.c = (if L.kd = 3 then S.c else L.k) := by
  have hS' := hS
  obtain ⟨a, b, c, d⟩ := hS'
  by_cases h2 : L.kd = 2
  · have e1 : oH L S.h S.v S.c = 1 := by unfold oH; rw [if_pos h2]
    have e2 : oV L S.h S.v S.c = 1 := by unfold oV; rw [if_pos h2]
    have e3 : oC L S.h S.v S.c = L.k := by unfold oC; rw [if_pos h2]
    have e4 : afH L S.h = 1 := by unfold afH; rw [if_pos h2]
    have e5 : afV L S.v = 1 := by unfold afV; rw [if_pos h2]
    rw [e1, e2, e3, e4, e5, if_neg (by omega)]
    exact ⟨.inl h2, rfl, rfl, by omega, by omega, rfl⟩
  · obtain ⟨hr, hs, hy, hx, ht, hl, hb, hq⟩ := hw.resolve_left h2
    obtain ⟨qo, q1, -⟩ := win_ok h0 h2
    obtain ⟨w1, -, e1, e2, e3, e4⟩ := sl_made hS (L := L) (k := 1) (by omega) hr hs hy hx ht hl hb hq
    have f1 : oH L S.h S.v S.c = stN S.h L.t L.b L.r L.sy := by unfold oH; rw [if_neg h2, if_pos qo]
    have f2 : oV L S.h S.v S.c = stN S.v L.l L.q L.s L.sx := by unfold oV; rw [if_neg h2, if_pos qo]
    have f3 : oC L S.h S.v S.c = (if L.kd = 3 then S.c else L.k) := by unfold oC; rw [if_neg h2, if_pos qo]
    have e6 : afH L S.h = stN S.h L.t L.b L.r L.sy := by unfold afH; rw [if_neg h2, e1]
    have e7 : afV L S.v = stN S.v L.l L.q L.s L.sx := by unfold afV; rw [if_neg h2, e2]
    rw [f1, f2, f3, e6, e7]
    exact ⟨.inr ⟨w1, by omega, by omega⟩, rfl, rfl, e3, e4, rfl⟩
/-- The network that is made: its name. -/
def nmX : ByteArray := ⟨#[78, 101, 116, 95, 55, 45, 120]⟩
theorem nmX_ok : nmB nmX = true := by decide +kernel
abbrev mkN (H V C : Int) (M : Nat) (al : Option Addr) (cl : Nat) (lf : Nat → Ly) : Nt := ⟨nmX, H, V, C, al, M, cl, lf⟩
theorem sp_mk (H V C : Int) (M : Nat) (al al' : Option Addr) (cl cl' : Nat) (lf lf' : Nat → Ly) : ∀ i, (∀ j, j < i → lf j = lf' j) → sp (mkN H V C M al cl lf) i = sp (mkN H V C M al' cl' lf') i
  | 0, _ => rfl
  | i + 1, h => by
    have ih := sp_mk H V C M al al' cl cl' lf lf' i fun j hj => h j (by omega)
    have e := h i (by omega)
    simp only [sp, mkN] at ih ⊢
    rw [ih, e]
/-- A network under way: its first i layers have no fault. -/
def Mk (H V C : Int) (M i : Nat) (lf : Nat → Ly) : Prop :=
  (∀ j, j < i → fl (mkN H V C M none 0 lf) j = 0 ∧ (lf j).mw ≤ (lf j).cw ∧ (sp (mkN H V C M none 0 lf) j).h ≤ 5 + 2 * j) ∧ (1 ≤ (sp (mkN H V C M none 0 lf) i).h ∧ (sp (mkN H V C M none 0 lf) i).h ≤ 5 + 2 * i) ∧ (1 ≤ (sp (mkN H V C M none 0 lf) i).v ∧ (sp (mkN H V C M none 0 lf) i).v ≤ 5 + i) ∧ (1 ≤ (sp (mkN H V C M none 0 lf) i).c ∧ (sp (mkN H V C M none 0 lf) i).c ≤ 4) ∧ (0 ≤ (sp (mkN H V C M none 0 lf) i).ah ∧ (sp (mkN H V C M none 0 lf) i).ah ≤ 10000 * i)
theorem Mk.sms {H V C : Int} {M i : Nat} {lf : Nat → Ly} (h : Mk H V C M i lf) (hi : i ≤ 4) : SmS (sp (mkN H V C M none 0 lf) i) := by
  obtain ⟨-, a, b, c, d⟩ := h
  exact ⟨by omega, by omega, by omega, by omega⟩
def sn (lf : Nat → Ly) (i : Nat) (L : Ly) : Nat → Ly := fun j => if j = i then L else lf j
theorem sn_ne {lf : Nat → Ly} {i : Nat} {L : Ly} {j : Nat} (h : j < i) : sn lf i L j = lf j := if_neg (by omega)
theorem sn_eq {lf : Nat → Ly} {i : Nat} {L : Ly} : sn lf i L i = L := if_pos rfl
theorem Mk.snoc {H V C : Int} {M i : Nat} {lf : Nat → Ly} (h : Mk H V C M i lf) (hi : i ≤ 3) {L : Ly} (h0 : faE L (sp (mkN H V C M none 0 lf) i) = 0) (hc : L.mw ≤ L.cw) (hk : 0 ≤ L.k ∧ L.k ≤ 3)
    (hw : L.kd = 2 ∨ ((1 ≤ L.r ∧ L.r ≤ (sp (mkN H V C M none 0 lf) i).h) ∧ (1 ≤ L.s ∧ L.s ≤ (sp (mkN H V C M none 0 lf) i).v) ∧ (1 ≤ L.sy ∧ L.sy ≤ 3) ∧ (1 ≤ L.sx ∧ L.sx ≤ 3) ∧ (0 ≤ L.t ∧ L.t ≤ 2) ∧ L.l = 0 ∧ L.b = 0 ∧ 0 ≤ L.q ∧ L.q ≤ 1)) : Mk H V C M (i + 1) (sn lf i L) ∧ (sp (mkN H V C M none 0 (sn lf i L)) (i + 1)).h = afH L (sp (mkN H V C M none 0 lf) i).h ∧ (sp (mkN H V C M none 0 (sn lf i L)) (i + 1)).v = afV L (sp (mkN H V C M none 0 lf) i).v ∧ (sp (mkN H V C M none 0 (sn lf i L)) (i + 1)).c = (if L.kd = 3 then (sp (mkN H V C M none 0 lf) i).c else L.k) := by
  have hS := h.sms (by omega)
  have es : ∀ j, j ≤ i → sp (mkN H V C M none 0 (sn lf i L)) j = sp (mkN H V C M none 0 lf) j := fun j hj => sp_mk _ _ _ _ _ _ _ _ _ _ j fun q hq => sn_ne (by omega)
  obtain ⟨-, q1, q2, q3, q4, q5⟩ := made_out hS h0 hw
  have hst := sp_step (L := L) ⟨⟨by have := hS.1; omega, by have := hS.2.1; omega, by have := hS.2.2.1; omega⟩, by have := hS.2.2.2; omega⟩ h0
  have hfk : 0 ≤ fan L (sp (mkN H V C M none 0 lf) i).h (sp (mkN H V C M none 0 lf) i).v (sp (mkN H V C M none 0 lf) i).c ∧ fan L (sp (mkN H V C M none 0 lf) i).h (sp (mkN H V C M none 0 lf) i).v (sp (mkN H V C M none 0 lf) i).c ≤ 15 * 15 * 4 := by
    obtain ⟨a, b, c, d⟩ := hS
    unfold fan
    split
    · exact mul3_le (by omega) (by omega) (by omega)
    · have hw := hw.resolve_left (by assumption)
      exact mul3_le (by omega) (by omega) (by omega)
  have hwc : 0 ≤ wc L (sp (mkN H V C M none 0 lf) i).h (sp (mkN H V C M none 0 lf) i).v (sp (mkN H V C M none 0 lf) i).c ∧ wc L (sp (mkN H V C M none 0 lf) i).h (sp (mkN H V C M none 0 lf) i).v (sp (mkN H V C M none 0 lf) i).c ≤ 3 * (15 * 15 * 4) := by
    unfold wc
    exact ⟨Int.mul_nonneg hk.1 hfk.1, Int.mul_le_mul hk.2 hfk.2 hfk.1 (by omega)⟩
  have eH : (sp (mkN H V C M none 0 (sn lf i L)) (i + 1)).h = oH L (sp (mkN H V C M none 0 lf) i).h (sp (mkN H V C M none 0 lf) i).v (sp (mkN H V C M none 0 lf) i).c := by
    show oH (sn lf i L i) _ _ _ = _
    rw [sn_eq, es i (Nat.le_refl _)]
  have eV : (sp (mkN H V C M none 0 (sn lf i L)) (i + 1)).v = oV L (sp (mkN H V C M none 0 lf) i).h (sp (mkN H V C M none 0 lf) i).v (sp (mkN H V C M none 0 lf) i).c := by
    show oV (sn lf i L i) _ _ _ = _
    rw [sn_eq, es i (Nat.le_refl _)]
  have eC : (sp (mkN H V C M none 0 (sn lf i L)) (i + 1)).c = oC L (sp (mkN H V C M none 0 lf) i).h (sp (mkN H V C M none 0 lf) i).v (sp (mkN H V C M none 0 lf) i).c := by
    show oC (sn lf i L i) _ _ _ = _
    rw [sn_eq, es i (Nat.le_refl _)]
  have eA : (sp (mkN H V C M none 0 (sn lf i L)) (i + 1)).ah = (sp (mkN H V C M none 0 lf) i).ah + wc L (sp (mkN H V C M none 0 lf) i).h (sp (mkN H V C M none 0 lf) i).v (sp (mkN H V C M none 0 lf) i).c := by
    show (sp (mkN H V C M none 0 (sn lf i L)) i).ah + wc (sn lf i L i) _ _ _ = _
    rw [sn_eq, es i (Nat.le_refl _)]
  obtain ⟨h1, h2, h3, h4, h5⟩ := h
  refine ⟨⟨fun j hj => ?_, ?_, ?_, ?_, ?_⟩, by rw [eH, q1], by rw [eV, q2], by rw [eC, q5]⟩
  · by_cases hji : j = i
    · subst hji
      refine ⟨?_, by rw [sn_eq]; exact hc, by rw [es j (Nat.le_refl _)]; exact h2.2⟩
      show faE (sn lf j L j) _ = 0
      rw [sn_eq, es j (Nat.le_refl _)]
      exact h0
    · obtain ⟨g1, g2, g3⟩ := h1 j (by omega)
      refine ⟨?_, by rw [sn_ne (by omega)]; exact g2, by rw [es j (by omega)]; exact g3⟩
      show faE (sn lf i L j) _ = 0
      rw [sn_ne (by omega), es j (by omega)]
      exact g1
  · rw [eH]; push_cast; omega
  · rw [eV]; push_cast; omega
  · rw [eC]
    have := hst.1.2.2
    rw [q5] at this ⊢
    split <;> omega
  · rw [eA]; push_cast; omega
end Go.Proofs.YtlgjoepeibodkaaGreat.Nn
/- NETWORKS THAT ARE MADE: how they lie in memory. -/
namespace Go.Proofs.YtlgjoepeibodkaaGreat.Nn
open Go.RowKit

/-- Lists of pieces. -/
def rl (F : Nat → List Value) : Nat → List Value
  | 0 => []
  | n + 1 => rl F n ++ F n
theorem rl_len {F : Nat → List Value} {s : Nat} (h : ∀ j, (F j).length = s) : ∀ n, (rl F n).length = n * s
  | 0 => by simp [rl]
  | n + 1 => by rw [rl, List.length_append, rl_len h n, h, Nat.succ_mul]
theorem rl_get {F : Nat → List Value} {s : Nat} (h : ∀ j, (F j).length = s) : ∀ n {j c : Nat}, j < n → c < s → (rl F n)[j * s + c]? = (F j)[c]?
  | 0, j, c, hj, hc => by omega
  | n + 1, j, c, hj, hc => by
    rw [rl]
    by_cases hjn : j < n
    · have hl : j * s + s ≤ n * s := by have := Nat.mul_le_mul_right s (show j + 1 ≤ n by omega); rw [Nat.succ_mul] at this; exact this
      rw [List.getElem?_append_left (by rw [rl_len h]; omega)]
      exact rl_get h n hjn hc
    · obtain rfl : j = n := by omega
      rw [List.getElem?_append_right (by rw [rl_len h]; omega), rl_len h, Nat.add_sub_cancel_left]
theorem rl_congr {F G : Nat → List Value} : ∀ n, (∀ j, j < n → F j = G j) → rl F n = rl G n
  | 0, _ => rfl
  | n + 1, h => by rw [rl, rl, rl_congr n fun j hj => h j (by omega), h n (by omega)]
theorem nmL_rl (ns : Nat → Nat → Int) : ∀ n, nmL ns n = rl (fun j => nmC (ns j)) n
  | 0 => rfl
  | n + 1 => by rw [nmL, rl, nmL_rl ns n]
/-- A layer's fifteen cells. -/
def lyC (L : Ly) : List Value := [.int .i64 L.kd, .int .i64 L.wt, .int .i64 L.k, .int .i64 L.r, .int .i64 L.s, .int .i64 L.sy, .int .i64 L.sx, .int .i64 L.t, .int .i64 L.l, .int .i64 L.b, .int .i64 L.q, .int .i64 L.bd, .slice L.aw L.mw L.cw, .slice L.an L.mn L.cn, .slice L.ab L.mb L.cb]
abbrev lyLs (lf : Nat → Ly) (n : Nat) : List Value := rl (fun j => lyC (lf j)) n
theorem own_cellsS {W : World} {base e s n uc : Nat} {ua : Option Addr} {xs : List Value} (h : W.ownsRow base e s (.slice ua n uc) n xs) (hn : 1 ≤ n) : ∃ g, ua = some ⟨g, 0, none⟩ ∧ n ≤ uc ∧ base ≤ g ∧ g < W.heap.size ∧ ∀ k, k < n * s → W.cell? ⟨g, k, none⟩ = xs[k]? := by
  rcases h.2 with ⟨_, h0⟩ | ⟨g, cap, cur, hv, hb, hg, h4, h5, h6, h7⟩
  · omega
  · cases hv
    refine ⟨g, rfl, h4, hb, (Array.getElem?_eq_some_iff.1 hg).1, fun k hk => ?_⟩
    rw [← h7, List.getElem?_take_of_lt hk]
    rw [Array.getElem?_toList]
    simp [World.cell?, hg]
theorem own_setD {W : World} {base e size n c j : Nat} {v : Value} {xs : List Value} {u : Value} (h : W.ownsRow base e size v n xs) (hc : c < base) : (W.setCell ⟨c, j, none⟩ u).ownsRow base e size v n xs :=
  h.kept (row := some c) ⟨rfl, rfl, rfl, by simp, fun k _ hne => Below.heap_setCell _ _ _ _ (fun e => hne (by rw [e]))⟩ (by
    cases hv : v.ownBlock with
    | none => exact .inl rfl
    | some q => exact .inr (fun e => by cases e; have := (h.lt c hv).1; omega))
theorem own_neD {W : World} {b1 b2 e1 e2 s1 s2 n1 n2 : Nat} {v1 v2 : Value} {x1 x2 : List Value} (h1 : W.ownsRow b1 e1 s1 v1 n1 x1) (h2 : W.ownsRow b2 e2 s2 v2 n2 x2) (hne : e1 ≠ e2) : v1.ownBlock = none ∨ v1.ownBlock ≠ v2.ownBlock := by
  rcases h1.2 with ⟨e, _⟩ | ⟨g, c, cu, e, _, hg, _⟩
  · subst e; exact .inl rfl
  · refine .inr fun he => ?_
    rcases h2.2 with ⟨e', _⟩ | ⟨g', c', cu', e', _, hg', _⟩
    · subst e e'; cases he
    · subst e e'
      have : g = g' := by simpa [Value.ownBlock] using he
      subst this
      rw [hg] at hg'
      simp at hg'
      exact hne hg'.2
/-- A layer's lists, each in memory of its own. -/
def Lo (W : World) (base : Nat) (L : Ly) : Prop := W.ownsRow base 39 1 (.slice L.aw L.mw L.cw) L.mw (i8L ((List.range L.mw).map L.ws)) ∧ W.ownsRow base 43 8 (.slice L.an L.mn L.cn) L.mn (nmL L.ns L.mn) ∧ W.ownsRow base 2 1 (.slice L.ab L.mb L.cb) L.mb (i64L ((List.range L.mb).map L.bs))
theorem Lo.mono {W : World} {b1 b2 : Nat} {L : Ly} (h : Lo W b1 L) (hb : b2 ≤ b1) : Lo W b2 L := ⟨h.1.mono hb, h.2.1.mono hb, h.2.2.mono hb⟩
theorem Lo.bl {W X : World} {base : Nat} {L : Ly} (h : Lo W base L) (hb : Below W.heap.size W X) : Lo X base L := ⟨own_bl h.1 hb, own_bl h.2.1 hb, own_bl h.2.2 hb⟩
theorem Lo.set {W : World} {base c j : Nat} {L : Ly} {u : Value} (h : Lo W base L) (hc : c < base) : Lo (W.setCell ⟨c, j, none⟩ u) base L := ⟨own_setD h.1 hc, own_setD h.2.1 hc, own_setD h.2.2 hc⟩
theorem Lo.but {W X : World} {base c : Nat} {L : Ly} (h : Lo W base L) (hg : W.grownBy X (some c)) (hc : c < base) : Lo X base L := by
  have k : ∀ {e s n : Nat} {v : Value} {xs : List Value}, W.ownsRow base e s v n xs → X.ownsRow base e s v n xs := fun {e s n v xs} h => h.kept hg (by
    cases hv : v.ownBlock with
    | none => exact .inl rfl
    | some q => exact .inr (fun e => by cases e; have := (h.lt c hv).1; omega))
  exact ⟨k h.1, k h.2.1, k h.2.2⟩
theorem Lo.grow {W X : World} {base b2 s2 n2 e2 : Nat} {v2 : Value} {x2 : List Value} {L : Ly} (h : Lo W base L) (h2 : W.ownsRow b2 e2 s2 v2 n2 x2) (h8 : 39 ≠ e2) (hn : 43 ≠ e2) (h6 : 2 ≠ e2) (hg : W.grownBy X v2.ownBlock) : Lo X base L :=
  ⟨h.1.kept hg (own_neD h.1 h2 h8), h.2.1.kept hg (own_neD h.2.1 h2 hn), h.2.2.kept hg (own_neD h.2.2 h2 h6)⟩
theorem Lo.lst {W : World} {base : Nat} {L : Ly} (h : Lo W base L) (h1 : L.mw ≤ 1000000) (h2 : L.mn ≤ 1000000) (h3 : L.mb ≤ 1000000) : Lst W L := by
  refine ⟨fun j hj => ?_, fun j hj => ?_, fun j hj => ?_, by omega, by omega, by omega⟩
  · obtain ⟨g, e, -, -, -, hc⟩ := own_cellsS h.1 (by omega)
    refine ⟨g, 0, e, ?_⟩
    rw [Nat.zero_add, hc j (by omega)]
    simp [i8L, hj]
  · obtain ⟨g, e, -, -, -, hc⟩ := own_cellsS h.2.1 (by omega)
    refine ⟨g, 0, e, ?_⟩
    have hm : j * 8 + 8 ≤ L.mn * 8 := by omega
    have key : ∀ c, c < 8 → W.cell? ⟨g, 0 + j * 8 + c, none⟩ = (nmC (L.ns j))[c]? := fun c hc' => by
      rw [Nat.zero_add, hc _ (by omega), nmL_rl]
      exact rl_get (s := 8) (fun _ => rfl) L.mn hj hc'
    exact ⟨key 0 (by decide), key 1 (by decide), key 2 (by decide), key 3 (by decide), key 4 (by decide), key 5 (by decide), key 6 (by decide), key 7 (by decide)⟩
  · obtain ⟨g, e, -, -, -, hc⟩ := own_cellsS h.2.2 (by omega)
    refine ⟨g, 0, e, ?_⟩
    rw [Nat.zero_add, hc j (by omega)]
    simp [i64L, hj]
theorem info_lyD : (Tryz.prog.info? 38).map (fun i => (i.zero, i.size, i.bytes)) = some (some (.agg #[.int .i64 0, .int .i64 0, .int .i64 0, .int .i64 0, .int .i64 0, .int .i64 0, .int .i64 0, .int .i64 0, .int .i64 0, .int .i64 0, .int .i64 0, .int .i64 0, .slice none 0 0, .slice none 0 0, .slice none 0 0]), 15, 168) := by kernel_rfl
theorem und_lyD : Tryz.prog.underlying 24 = some (.slice 38) := by kernel_rfl
theorem app_lyD {ops : Array Oper} {rest : List Oper} {o : Oper} {a : Act} {Q : Exit → Act → World → Prop} {w : World} (hgd : o.guard = none) (s x : Operand)
    (ho : o.op = .call { callee := .builtin .append, args := #[s, x], argTypes := #[24, 24] }) (base : Nat) (v : Value) (xs : List Value) (n : Nat) (hs : a.eval s = v) (hown : w.ownsRow base 38 15 v n xs)
    (g : Nat) (L : Ly) (cb : Nat) (hx : a.eval x = .slice (some ⟨g, 0, none⟩) 1 cb) (hr : Lp w g L) (hM : n ≤ 1000000000) (hb : base ≤ w.heap.size)
    (h : ∀ v' w', w'.ownsRow base 38 15 v' (n + 1) (xs ++ lyC L) → w.grownBy w' v.ownBlock → wpList Tryz.prog ops Q rest (a.put o.dst v') w') : wpList Tryz.prog ops Q (o :: rest) a w := by
  obtain ⟨i0, hi, hz0, hz1, hz2⟩ := info_parts info_lyD
  obtain ⟨r0, r1, r2, r3, r4, r5, r6, r7, r8, r9, r10, r11, r12, r13, r14⟩ := hr
  refine wpList_append_own_at w hgd s x _ ho base 38 i0 _ 15 168 und_lyD hi hz0 hz1 hz2 rfl (by decide) v n xs hs hown ⟨g, 0, none⟩ 1 cb (lyC L) hx rfl
    (fun j u hu => ?_) (fun u hu => by simp [lyC] at hu; rcases hu with rfl | rfl | rfl | rfl | rfl | rfl | rfl | rfl | rfl | rfl | rfl | rfl | rfl | rfl | rfl <;> rfl) (by unfold maxLen; omega) (by omega) hb ?_
  · rcases j with _ | _ | _ | _ | _ | _ | _ | _ | _ | _ | _ | _ | _ | _ | _ | j
    · simp [lyC] at hu; subst hu; exact r0
    · simp [lyC] at hu; subst hu; exact r1
    · simp [lyC] at hu; subst hu; exact r2
    · simp [lyC] at hu; subst hu; exact r3
    · simp [lyC] at hu; subst hu; exact r4
    · simp [lyC] at hu; subst hu; exact r5
    · simp [lyC] at hu; subst hu; exact r6
    · simp [lyC] at hu; subst hu; exact r7
    · simp [lyC] at hu; subst hu; exact r8
    · simp [lyC] at hu; subst hu; exact r9
    · simp [lyC] at hu; subst hu; exact r10
    · simp [lyC] at hu; subst hu; exact r11
    · simp [lyC] at hu; subst hu; exact r12
    · simp [lyC] at hu; subst hu; exact r13
    · simp [lyC] at hu; subst hu; exact r14
    · simp [lyC] at hu
  · intro v' w' h1 h2 _ _
    exact h v' w' h1 h2
/-- A network that lies so is one that may be asked. -/
theorem mk_net {W : World} {base : Nat} {H V C : Int} {M : Nat} {ua : Option Addr} {uc : Nat} {lf : Nat → Ly} (hM : 1 ≤ M ∧ M ≤ 64) (hrow : W.ownsRow base 38 15 (.slice ua M uc) M (lyLs lf M)) (hlo : ∀ j, j < M → Lo W base (lf j) ∧ (lf j).mw ≤ 1000000 ∧ (lf j).mn ≤ 1000000 ∧ (lf j).mb ≤ 1000000) : NtW W (mkN H V C M ua uc lf) := by
  obtain ⟨g, e, -, -, -, hc⟩ := own_cellsS hrow hM.1
  refine ⟨fun j hj => ?_, by show M ≤ _; omega, (show (7 : Nat) ≤ 9223372036854775807 by decide)⟩
  have hj : j < M := hj
  have key : ∀ c, c < 15 → W.cell? ⟨g, 0 + j * 15 + c, none⟩ = (lyC (lf j))[c]? := fun c hc' => by
    rw [Nat.zero_add, hc _ (by omega)]
    exact rl_get (s := 15) (fun _ => rfl) M hj hc'
  obtain ⟨h1, h2, h3, h4⟩ := hlo j hj
  exact ⟨g, 0, e, ⟨key 0 (by decide), key 1 (by decide), key 2 (by decide), key 3 (by decide), key 4 (by decide), key 5 (by decide), key 6 (by decide), key 7 (by decide), key 8 (by decide), key 9 (by decide), key 10 (by decide), key 11 (by decide), key 12 (by decide), key 13 (by decide), key 14 (by decide)⟩, h1.lst h2 h3 h4⟩
end Go.Proofs.YtlgjoepeibodkaaGreat.Nn
/- NETWORKS THAT ARE MADE: the state under way. -/
namespace Go.Proofs.YtlgjoepeibodkaaGreat.Nn
open Go.RowKit

def netF (s : ByteArray) (H V C : Int) (u : Value) : Nat → Value := fun i => if i = 0 then .string s else if i = 1 then .int .i64 H else if i = 2 then .int .i64 V else if i = 3 then .int .i64 C else u
def shF (h v c : Int) : Nat → Value := fun i => if i = 0 then .int .i64 h else if i = 1 then .int .i64 v else .int .i64 c
def wnF (r s sy sx : Int) : Nat → Value := fun i => if i = 0 then .int .i64 r else if i = 1 then .int .i64 s else if i = 2 then .int .i64 sy else if i = 3 then .int .i64 sx else .int .i64 0
def lyf (L : Ly) : Nat → Value := fun i => if i = 0 then .int .i64 L.kd else if i = 1 then .int .i64 L.wt else if i = 2 then .int .i64 L.k else if i = 3 then .int .i64 L.r else if i = 4 then .int .i64 L.s else if i = 5 then .int .i64 L.sy else if i = 6 then .int .i64 L.sx else if i = 7 then .int .i64 L.t else if i = 8 then .int .i64 L.l else if i = 9 then .int .i64 L.b else if i = 10 then .int .i64 L.q else if i = 11 then .int .i64 L.bd else if i = 12 then .slice L.aw L.mw L.cw else if i = 13 then .slice L.an L.mn L.cn else .slice L.ab L.mb L.cb
theorem fif {i : Nat} (hi : i < 15) {p : Nat → Prop} (h : p 0 ∧ p 1 ∧ p 2 ∧ p 3 ∧ p 4 ∧ p 5 ∧ p 6 ∧ p 7 ∧ p 8 ∧ p 9 ∧ p 10 ∧ p 11 ∧ p 12 ∧ p 13 ∧ p 14) : p i := by
  obtain ⟨h0, h1, h2, h3, h4, h5, h6, h7, h8, h9, h10, h11, h12, h13, h14⟩ := h
  rcases (show i = 0 ∨ i = 1 ∨ i = 2 ∨ i = 3 ∨ i = 4 ∨ i = 5 ∨ i = 6 ∨ i = 7 ∨ i = 8 ∨ i = 9 ∨ i = 10 ∨ i = 11 ∨ i = 12 ∨ i = 13 ∨ i = 14 by omega) with rfl | rfl | rfl | rfl | rfl | rfl | rfl | rfl | rfl | rfl | rfl | rfl | rfl | rfl | rfl <;> assumption
theorem lyf_new (W : World) (L : Ly) (t : TypeId) : (W.alloc (.cells #[.int .i64 L.kd, .int .i64 L.wt, .int .i64 L.k, .int .i64 L.r, .int .i64 L.s, .int .i64 L.sy, .int .i64 L.sx, .int .i64 L.t, .int .i64 L.l, .int .i64 L.b, .int .i64 L.q, .int .i64 L.bd, .slice L.aw L.mw L.cw, .slice L.an L.mn L.cn, .slice L.ab L.mb L.cb] t)).rowIs W.heap.size t 15 (lyf L) :=
  World.rowIs_alloc W _ t _ fun i hi => by
    have hi' : i < 15 := by simpa using hi
    rcases (show i = 0 ∨ i = 1 ∨ i = 2 ∨ i = 3 ∨ i = 4 ∨ i = 5 ∨ i = 6 ∨ i = 7 ∨ i = 8 ∨ i = 9 ∨ i = 10 ∨ i = 11 ∨ i = 12 ∨ i = 13 ∨ i = 14 by omega) with rfl | rfl | rfl | rfl | rfl | rfl | rfl | rfl | rfl | rfl | rfl | rfl | rfl | rfl | rfl <;> rfl
theorem lyf_newD (W : World) (L : Ly) : ((W.alloc (lyo L)).drew).rowIs W.heap.size 38 15 (lyf L) := World.rowIs.of_block (lyf_new W L _) rfl
theorem lyf_set {W : World} {g : Nat} {t : TypeId} {L : Ly} (h : W.rowIs g t 15 (lyf L)) (L' : Ly) (c : Nat) (u : Value) (e : (if 0 = c then u else lyf L 0) = lyf L' 0 ∧ (if 1 = c then u else lyf L 1) = lyf L' 1 ∧ (if 2 = c then u else lyf L 2) = lyf L' 2 ∧ (if 3 = c then u else lyf L 3) = lyf L' 3 ∧ (if 4 = c then u else lyf L 4) = lyf L' 4 ∧ (if 5 = c then u else lyf L 5) = lyf L' 5 ∧ (if 6 = c then u else lyf L 6) = lyf L' 6 ∧ (if 7 = c then u else lyf L 7) = lyf L' 7 ∧ (if 8 = c then u else lyf L 8) = lyf L' 8 ∧ (if 9 = c then u else lyf L 9) = lyf L' 9 ∧ (if 10 = c then u else lyf L 10) = lyf L' 10 ∧ (if 11 = c then u else lyf L 11) = lyf L' 11 ∧ (if 12 = c then u else lyf L 12) = lyf L' 12 ∧ (if 13 = c then u else lyf L 13) = lyf L' 13 ∧ (if 14 = c then u else lyf L 14) = lyf L' 14) : (W.setCell ⟨g, c, none⟩ u).rowIs g t 15 (lyf L') := by
  refine (h.set c u).congr fun i hi => ?_
  exact fif (p := fun i => (if i = c then u else lyf L i) = lyf L' i) hi e
theorem lyf_cells {W : World} {g : Nat} {t : TypeId} {L : Ly} (h : W.rowIs g t 15 (lyf L)) : Lp W g L := ⟨h.cell (i := 0) (by decide), h.cell (i := 1) (by decide), h.cell (i := 2) (by decide), h.cell (i := 3) (by decide), h.cell (i := 4) (by decide), h.cell (i := 5) (by decide), h.cell (i := 6) (by decide), h.cell (i := 7) (by decide), h.cell (i := 8) (by decide), h.cell (i := 9) (by decide), h.cell (i := 10) (by decide), h.cell (i := 11) (by decide), h.cell (i := 12) (by decide), h.cell (i := 13) (by decide), h.cell (i := 14) (by decide)⟩
/-- The network under way: the answer's place, the network, the shape, the layers so far. -/
def MS (W : World) (b : Nat) (H V C h v c : Int) (lf : Nat → Ly) (i : Nat) (ua : Option Addr) (uc : Nat) : Prop :=
  W.rowIs b 26 5 (netF ⟨#[]⟩ 0 0 0 (.slice none 0 0)) ∧ W.rowIs (b + 1) 26 5 (netF nmX H V C (.slice ua i uc)) ∧ W.rowIs (b + 1 + 1) 23 3 (shF h v c) ∧ W.ownsRow (b + 3) 38 15 (.slice ua i uc) i (lyLs lf i) ∧ (∀ j, j < i → Lo W (b + 3) (lf j) ∧ (lf j).mw ≤ 1000000 ∧ (lf j).mn ≤ 1000000 ∧ (lf j).mb ≤ 1000000) ∧ b + 3 ≤ W.heap.size
theorem MS.keep {W X : World} {b : Nat} {H V C h v c : Int} {lf : Nat → Ly} {i : Nat} {ua : Option Addr} {uc : Nat} (k : MS W b H V C h v c lf i ua uc) (hb : Below W.heap.size W X) : MS X b H V C h v c lf i ua uc := by
  obtain ⟨a1, a2, a3, a4, a5, a6⟩ := k
  exact ⟨World.rowIs.of_block a1 (hb.block _ a1.lt), World.rowIs.of_block a2 (hb.block _ a2.lt), World.rowIs.of_block a3 (hb.block _ a3.lt), own_bl a4 hb, fun j hj => ⟨(a5 j hj).1.bl hb, (a5 j hj).2⟩, Nat.le_trans a6 hb.size⟩
/-- A layer of its kind and window, with nothing yet. -/
abbrev L0 (kd r s sy sx : Int) : Ly := ⟨kd, 0, 0, r, s, sy, sx, 0, 0, 0, 0, 0, none, 0, 0, none, 0, 0, none, 0, 0, fun _ => 0, fun _ _ => 0, fun _ => 0⟩
abbrev LK (kd wt k r s sy sx : Int) : Ly := ⟨kd, wt, k, r, s, sy, sx, 0, 0, 0, 0, 0, none, 0, 0, none, 0, 0, none, 0, 0, fun _ => 0, fun _ _ => 0, fun _ => 0⟩
/-- A layer with its norms. -/
abbrev L1 (kd wt : Int) (K : Nat) (r s sy sx : Int) (an : Option Addr) (cn : Nat) (ns : Nat → Nat → Int) : Ly := ⟨kd, wt, K, r, s, sy, sx, 0, 0, 0, 0, 0, none, 0, 0, an, K, cn, none, 0, 0, fun _ => 0, ns, fun _ => 0⟩
theorem lyf_i {P Q : Nat → Value} {i : Nat} (hi : i < 15) (h : P 0 = Q 0 ∧ P 1 = Q 1 ∧ P 2 = Q 2 ∧ P 3 = Q 3 ∧ P 4 = Q 4 ∧ P 5 = Q 5 ∧ P 6 = Q 6 ∧ P 7 = Q 7 ∧ P 8 = Q 8 ∧ P 9 = Q 9 ∧ P 10 = Q 10 ∧ P 11 = Q 11 ∧ P 12 = Q 12 ∧ P 13 = Q 13 ∧ P 14 = Q 14) : P i = Q i := fif (p := fun i => P i = Q i) hi h
/-- A layer with its window, its weights and its norms. -/
abbrev LV (kd wt : Int) (K : Nat) (r s sy sx t q bd : Int) (aw : Option Addr) (mw cw : Nat) (an : Option Addr) (cn : Nat) (ws : Nat → Int) (ns : Nat → Nat → Int) : Ly := ⟨kd, wt, K, r, s, sy, sx, t, 0, 0, q, bd, aw, mw, cw, an, K, cn, none, 0, 0, ws, ns, fun _ => 0⟩
theorem own_cap {W : World} {base e s n c : Nat} {a : Option Addr} {xs : List Value} (h : W.ownsRow base e s (.slice a n c) n xs) : n ≤ c := by
  by_cases hn : n = 0
  · omega
  · obtain ⟨g, -, h2, -⟩ := own_cellsS h (by omega)
    exact h2
/-- The last layer, under way. -/
def bsV (f : Nat → Int) (m t : Nat) : Int := pk5 f m t 200 - 100
def bsLL (f : Nat → Int) (m j : Nat) : List Int := (List.range j).map (bsV f m)
theorem bsLL_succ (f : Nat → Int) (m j : Nat) : bsLL f m (j + 1) = bsLL f m j ++ [bsV f m j] := by unfold bsLL; rw [List.range_succ, List.map_append]; rfl
abbrev LE (f : Nat → Int) (m K : Nat) (aw : Option Addr) (N cw : Nat) (za : Option Addr) (j zc : Nat) : Ly := ⟨2, 2, K, 0, 0, 0, 0, 0, 0, 0, 0, 0, aw, N, cw, none, 0, 0, za, j, zc, wgV f m 2, fun _ _ => 0, bsV f m⟩
theorem row5 {W : World} {g t : Nat} {F : Nat → Value} (h : W.rowIs g t 5 F) : W.heap[g]? = some (.cells #[F 0, F 1, F 2, F 3, F 4] t (0, 0)) := by
  obtain ⟨c, hc, hn, hF⟩ := h
  rw [hc]
  congr 2
  apply Array.ext_getElem?
  intro i
  by_cases hi : i < 5
  · rw [hF i hi]
    rcases (show i = 0 ∨ i = 1 ∨ i = 2 ∨ i = 3 ∨ i = 4 by omega) with rfl | rfl | rfl | rfl | rfl <;> rfl
  · rw [Array.getElem?_eq_none (by omega), Array.getElem?_eq_none (by simp; omega)]
theorem lo_nil (W : World) (base : Nat) (kd wt k r s sy sx t l b q bd : Int) : Lo W base ⟨kd, wt, k, r, s, sy, sx, t, l, b, q, bd, none, 0, 0, none, 0, 0, none, 0, 0, fun _ => 0, fun _ _ => 0, fun _ => 0⟩ := ⟨World.ownsRow_nil _ _ _ _, World.ownsRow_nil _ _ _ _, World.ownsRow_nil _ _ _ _⟩
theorem net_newF (W : World) (s : ByteArray) (H V C : Int) (u : Value) (t : TypeId) : (W.alloc (.cells #[.string s, .int .i64 H, .int .i64 V, .int .i64 C, u] t)).rowIs W.heap.size t 5 (netF s H V C u) :=
  World.rowIs_alloc W _ t _ fun i hi => by
    have hi' : i < 5 := by simpa using hi
    rcases (show i = 0 ∨ i = 1 ∨ i = 2 ∨ i = 3 ∨ i = 4 by omega) with rfl | rfl | rfl | rfl | rfl <;> rfl
theorem sh_newF (W : World) (h v c : Int) (t : TypeId) : (W.alloc (.cells #[.int .i64 h, .int .i64 v, .int .i64 c] t)).rowIs W.heap.size t 3 (shF h v c) :=
  World.rowIs_alloc W _ t _ fun i hi => by
    have hi' : i < 3 := by simpa using hi
    rcases (show i = 0 ∨ i = 1 ∨ i = 2 by omega) with rfl | rfl | rfl <;> rfl
theorem wn_newF (W : World) (r s sy sx : Int) (t : TypeId) : (W.alloc (.cells #[.int .i64 r, .int .i64 s, .int .i64 sy, .int .i64 sx, .int .i64 0, .int .i64 0, .int .i64 0, .int .i64 0] t)).rowIs W.heap.size t 8 (wnF r s sy sx) :=
  World.rowIs_alloc W _ t _ fun i hi => by
    have hi' : i < 8 := by simpa using hi
    rcases (show i = 0 ∨ i = 1 ∨ i = 2 ∨ i = 3 ∨ i = 4 ∨ i = 5 ∨ i = 6 ∨ i = 7 by omega) with rfl | rfl | rfl | rfl | rfl | rfl | rfl | rfl <;> rfl
theorem ms_new {w : World} {b : Nat} (hb0 : w.heap.size = b) (H V C : Int) (lf : Nat → Ly) : MS (((w.alloc (.cells #[.string ⟨#[]⟩, .int .i64 0, .int .i64 0, .int .i64 0, .slice none 0 0] 26)).alloc (.cells #[.string nmX, .int .i64 H, .int .i64 V, .int .i64 C, .slice none 0 0] 26)).alloc (.cells #[.int .i64 H, .int .i64 V, .int .i64 C] 23)) b H V C H V C lf 0 none 0 := by
  subst hb0
  refine ⟨((net_newF w _ _ _ _ _ _).alloc _).alloc _, ?_, ?_, World.ownsRow_nil _ _ _ _, fun j hj => absurd hj (Nat.not_lt_zero j), by simp⟩
  · have := (net_newF (w.alloc (.cells #[.string ⟨#[]⟩, .int .i64 0, .int .i64 0, .int .i64 0, .slice none 0 0] 26)) nmX H V C (.slice none 0 0) 26).alloc (.cells #[.int .i64 H, .int .i64 V, .int .i64 C] 23)
    simpa using this
  · have := sh_newF ((w.alloc (.cells #[.string ⟨#[]⟩, .int .i64 0, .int .i64 0, .int .i64 0, .slice none 0 0] 26)).alloc (.cells #[.string nmX, .int .i64 H, .int .i64 V, .int .i64 C, .slice none 0 0] 26)) H V C 23
    simpa using this
/-- A row of its own stays where a block of another type is set. -/
theorem own_setHi {W : World} {base e size n g j k t : Nat} {v : Value} {xs : List Value} {u : Value} {F : Nat → Value} (h : W.ownsRow base e size v n xs) (hl : g < W.heap.size) (hr : W.rowIs g t k F) (hne : e ≠ t) : (W.setCell ⟨g, j, none⟩ u).ownsRow base e size v n xs :=
  h.kept (row := some g) ⟨rfl, rfl, rfl, by simp, fun k _ hne => Below.heap_setCell _ _ _ _ (fun e => hne (by rw [e]))⟩ (by
    rcases h.2 with ⟨e', _⟩ | ⟨g', c', cu', e', _, hg', _⟩
    · subst e'; exact .inl rfl
    · subst e'
      refine .inr fun e => ?_
      have : g' = g := by simpa [Value.ownBlock] using e
      subst this
      obtain ⟨cs, hcs, -⟩ := hr
      rw [hg'] at hcs
      simp at hcs
      exact hne hcs.2)
theorem own_ne_row {W : World} {base e size n g k t : Nat} {v : Value} {xs : List Value} {F : Nat → Value} (h : W.ownsRow base e size v n xs) (hr : W.rowIs g t k F) (hne : e ≠ t) : ∀ q, v.ownBlock = some q → q ≠ g := by
  intro q hq e
  subst e
  rcases h.2 with ⟨e', _⟩ | ⟨g', c', cu', e', _, hg', _⟩
  · subst e'; cases hq
  · subst e'
    have : g' = q := by simpa [Value.ownBlock] using hq
    subst this
    obtain ⟨cs, hcs, -⟩ := hr
    rw [hg'] at hcs
    simp at hcs
    exact hne hcs.2
theorem own_setNe {W : World} {base e size n g j : Nat} {v : Value} {xs : List Value} {u : Value} (h : W.ownsRow base e size v n xs) (hne : ∀ q, v.ownBlock = some q → q ≠ g) : (W.setCell ⟨g, j, none⟩ u).ownsRow base e size v n xs :=
  h.kept (row := some g) ⟨rfl, rfl, rfl, by simp, fun k _ hne => Below.heap_setCell _ _ _ _ (fun e => hne (by rw [e]))⟩ (by
    cases hv : v.ownBlock with
    | none => exact .inl rfl
    | some q => exact .inr (fun e => by cases e; exact hne g hv rfl))
/-- What a layer that is made right has. -/
def Ld (L : Ly) (S : Sp) (c' : Int) : Prop := faE L S = 0 ∧ L.mw ≤ L.cw ∧ (0 ≤ L.k ∧ L.k ≤ 3) ∧ (L.kd = 2 ∨ ((1 ≤ L.r ∧ L.r ≤ S.h) ∧ (1 ≤ L.s ∧ L.s ≤ S.v) ∧ (1 ≤ L.sy ∧ L.sy ≤ 3) ∧ (1 ≤ L.sx ∧ L.sx ≤ 3) ∧ (0 ≤ L.t ∧ L.t ≤ 2) ∧ L.l = 0 ∧ L.b = 0 ∧ 0 ≤ L.q ∧ L.q ≤ 1)) ∧ c' = (if L.kd = 3 then S.c else L.k) ∧ L.mw ≤ 1000000 ∧ L.mn ≤ 1000000 ∧ L.mb ≤ 1000000
theorem lyLs_sn (lf : Nat → Ly) (i : Nat) (L : Ly) : lyLs (sn lf i L) (i + 1) = lyLs lf i ++ lyC L := by
  show rl _ i ++ lyC (sn lf i L i) = _
  rw [sn_eq, rl_congr (G := fun j => lyC (lf j)) i fun j hj => by rw [sn_ne hj]]
/-- One layer more. -/
theorem MS.snoc {X Y : World} {b : Nat} {H V C h v c : Int} {lf : Nat → Ly} {i : Nat} {ua a3 : Option Addr} {uc c3 : Nat} {L : Ly} (k : MS X b H V C h v c lf i ua uc) (lo : Lo X (b + 3) L) (hL : L.mw ≤ 1000000 ∧ L.mn ≤ 1000000 ∧ L.mb ≤ 1000000) (own : Y.ownsRow (b + 3) 38 15 (.slice a3 (i + 1) c3) (i + 1) (lyLs lf i ++ lyC L)) (gr : (X.alloc (lyo L)).grownBy Y (Value.slice ua i uc).ownBlock) : MS (Y.setCell ⟨b + 1, 4, none⟩ (.slice a3 (i + 1) c3)) b H V C h v c (sn lf i L) (i + 1) a3 c3 := by
  have hb1 : Below X.heap.size X (X.alloc (lyo L)) := bl_alloc (Below.refl _ _) _
  obtain ⟨a1, a2, a4, a5, a6, a7⟩ := k.keep hb1
  have huo : ∀ q, (Value.slice ua i uc).ownBlock = some q → b + 3 ≤ q := fun q hq => (a5.lt q hq).1
  have blk : ∀ {g t n F}, g < b + 3 → (X.alloc (lyo L)).rowIs g t n F → Y.rowIs g t n F := fun {g t n F} hg r => World.rowIs.of_block r (gr.block g r.lt (fun e => by have := huo g e.symm; omega))
  have hsz : (X.alloc (lyo L)).heap.size ≤ Y.heap.size := gr.size
  refine ⟨(blk (by omega) a1).setOther (by show b ≠ b + 1; omega) _, ?_, (blk (by omega) a4).setOther (by show b + 1 + 1 ≠ b + 1; omega) _, own_setD (by rw [lyLs_sn]; exact own) (by omega), fun j hj => ?_, by simp; omega⟩
  · refine ((blk (by omega) a2).set 4 (.slice a3 (i + 1) c3)).congr fun q hq => ?_
    rcases (show q = 0 ∨ q = 1 ∨ q = 2 ∨ q = 3 ∨ q = 4 by omega) with rfl | rfl | rfl | rfl | rfl <;> rfl
  · by_cases hji : j = i
    · subst hji
      rw [sn_eq]
      exact ⟨((lo.bl hb1).grow a5 (by decide) (by decide) (by decide) gr).set (by omega), hL⟩
    · rw [sn_ne (by omega)]
      obtain ⟨l1, l2⟩ := a6 j (by omega)
      exact ⟨(l1.grow a5 (by decide) (by decide) (by decide) gr).set (by omega), l2⟩
theorem MS.shape {W : World} {b : Nat} {H V C h v c : Int} {lf : Nat → Ly} {i : Nat} {ua : Option Addr} {uc : Nat} (k : MS W b H V C h v c lf i ua uc) (h' v' c' : Int) : MS (((W.setCell ⟨b + 1 + 1, 0, none⟩ (.int .i64 h')).setCell ⟨b + 1 + 1, 1, none⟩ (.int .i64 v')).setCell ⟨b + 1 + 1, 2, none⟩ (.int .i64 c')) b H V C h' v' c' lf i ua uc := by
  obtain ⟨a1, a2, a3, a4, a5, a6⟩ := k
  refine ⟨((a1.setOther (by show b ≠ b + 1 + 1; omega) _).setOther (by show b ≠ b + 1 + 1; omega) _).setOther (by show b ≠ b + 1 + 1; omega) _, ((a2.setOther (by show b + 1 ≠ b + 1 + 1; omega) _).setOther (by show b + 1 ≠ b + 1 + 1; omega) _).setOther (by show b + 1 ≠ b + 1 + 1; omega) _, ?_, own_setD (own_setD (own_setD a4 (by omega)) (by omega)) (by omega), fun j hj => ⟨(((a5 j hj).1.set (by omega)).set (by omega)).set (by omega), (a5 j hj).2⟩, by simp; omega⟩
  refine (((a3.set 0 (.int .i64 h')).set 1 (.int .i64 v')).set 2 (.int .i64 c')).congr fun q hq => ?_
  rcases (show q = 0 ∨ q = 1 ∨ q = 2 by omega) with rfl | rfl | rfl <;> rfl
theorem netF_all {W : World} {b : Nat} {H V C : Int} {u : Value} {F : Nat → Value} (h : W.rowIs b 26 5 F) : (((((W.setCell ⟨b, 0, none⟩ (.string nmX)).setCell ⟨b, 1, none⟩ (.int .i64 H)).setCell ⟨b, 2, none⟩ (.int .i64 V)).setCell ⟨b, 3, none⟩ (.int .i64 C)).setCell ⟨b, 4, none⟩ u).rowIs b 26 5 (netF nmX H V C u) := by
  refine (((((h.set 0 (.string nmX)).set 1 (.int .i64 H)).set 2 (.int .i64 V)).set 3 (.int .i64 C)).set 4 u).congr fun q hq => ?_
  rcases (show q = 0 ∨ q = 1 ∨ q = 2 ∨ q = 3 ∨ q = 4 by omega) with rfl | rfl | rfl | rfl | rfl <;> rfl
end Go.Proofs.YtlgjoepeibodkaaGreat.Nn
/- PLAIN'S STATEMENTS: heddleref6.Work. -/
namespace Go.Proofs.YtlgjoepeibodkaaGreat.Nn
open Go.RowKit

theorem kd_of {L : Ly} {S : Sp} (h : faE L S = 0) : L.kd = 1 ∨ L.kd = 2 ∨ L.kd = 3 := by
  unfold faE at h
  by_cases h1 : L.kd = 1
  · exact .inl h1
  · by_cases h2 : L.kd = 2
    · exact .inr (.inl h2)
    · by_cases h3 : L.kd = 3
      · exact .inr (.inr h3)
      · rw [if_neg h1, if_neg h2, if_neg h3] at h; cases h
theorem sh_cells {W : World} {g t : Nat} {h v c : Int} (r : W.rowIs g t 3 (shF h v c)) : W.cell? ⟨g, 0, none⟩ = some (.int .i64 h) ∧ W.cell? ⟨g, 1, none⟩ = some (.int .i64 v) ∧ W.cell? ⟨g, 2, none⟩ = some (.int .i64 c) := ⟨r.cell (i := 0) (by decide), r.cell (i := 1) (by decide), r.cell (i := 2) (by decide)⟩
theorem sh_setW {W : World} {g t : Nat} {h v c h' v' c' : Int} (r : W.rowIs g t 3 (shF h v c)) : (((W.setCell ⟨g, 0, none⟩ (.int .i64 h')).setCell ⟨g, 1, none⟩ (.int .i64 v')).setCell ⟨g, 2, none⟩ (.int .i64 c')).rowIs g t 3 (shF h' v' c') := by
  refine (((r.set 0 _).set 1 _).set 2 _).congr fun q hq => ?_
  rcases (show q = 0 ∨ q = 1 ∨ q = 2 by omega) with rfl | rfl | rfl <;> rfl
theorem wrap_of {x : Int} (h1 : -9223372036854775808 ≤ x) (h2 : x ≤ 9223372036854775807) : IntKind.i64.wrap x = x := by rw [IntKind.wrap_i64]; omega
set_option maxHeartbeats 3200000 in
set_option maxRecDepth 100000 in
theorem work_bad (N : Nt) (hz : ¬ chE N = 0) (w : World) (hN : NtW w N) : Calls Tryz.prog 16 #[ntv N] w fun e w' => e = .returned (.int .i64 0) ∧ Below w.heap.size w w' := by
  have CS := hid1 (fun W (h : Below w.heap.size w W) => rnshapes_any N W (hN.keep h))
  clear hN
  generalize chE N = E at CS hz
  go_enter Tryz.func16, Tryz.ntmps16
  go_wp2_with fail
  refine gen_calls (fun X => Below w.heap.size w X) (by repeat (first | (with_reducible exact Below.refl _ _) | (with_reducible refine bl_alloc ?_ _) | (with_reducible refine Below.drew ?_) | (with_reducible refine bl_drewN ?_ _) | (with_reducible refine bl_set ?_ (by omega) _) | (with_reducible refine bl_step ?_ (by assumption)))) ?_
  rintro X BX
  refine (CS.out X BX).mono ?_
  rintro e w1 ⟨v, rfl, hb, -⟩
  replace BX := bl_step BX hb
  clear hb CS
  go_wp2_with fail
  go_ret
  exact ⟨rfl, BX⟩
set_option maxHeartbeats 6400000 in
set_option maxRecDepth 100000 in
theorem work_ok (N : Nt) (hz : chE N = 0) (w : World) (hN : NtW w N) : Calls Tryz.prog 16 #[ntv N] w fun e w' => e = .returned (.int .i64 (woV N N.ml)) ∧ Below w.heap.size w w' := by
  have HW := hid1 hN
  have HZ := hid1 hz
  have hml := (wh_parts (fl_all hz).1).2.2
  clear hN hz
  obtain ⟨b, hb0⟩ : ∃ b, w.heap.size = b := ⟨_, rfl⟩
  go_enter Tryz.func16, Tryz.ntmps16
  go_wp2_with fail
  refine gen_calls (fun X => Below w.heap.size w X ∧ Nb X b N) ⟨by repeat (first | (with_reducible exact Below.refl _ _) | (with_reducible refine bl_alloc ?_ _) | (with_reducible refine Below.drew ?_) | (with_reducible refine bl_drewN ?_ _) | (with_reducible refine bl_set ?_ (by omega) _) | (with_reducible refine bl_step ?_ (by assumption))), by rw [← hb0]; exact nb_new _ _ _⟩ ?_
  rintro X ⟨BX, NX⟩
  have CS := rnshapes_any N X (HW.out.keep BX)
  rw [HZ.out] at CS
  refine CS.mono ?_
  rintro e w1 ⟨v, rfl, hb, hv⟩
  obtain ⟨gs, gc, hg, rfl, RG⟩ := hv.2 HZ.out
  replace BX := bl_step BX hb
  replace NX := NX.keep hb
  have HNX := hid1 NX
  have HRG := hid1 RG
  have HBX := hid1 BX
  obtain ⟨n0, n1, n2, n3, n4⟩ := NX
  obtain ⟨b5, hb5⟩ : ∃ g, w1.heap.size = g := ⟨_, rfl⟩
  clear hb hv CS hg RG BX
  go_upto_region 5 with fail
  refine gen_world (fun Y => Below w1.heap.size w1 Y ∧ Y.rowIs b5 23 3 (shF (sp N 0).h (sp N 0).v (sp N 0).c)) ⟨bl_alloc (Below.refl _ _) _, by rw [← hb5]; exact sh_newF w1 N.h N.v N.c _⟩ ?_
  clear n0 n1 n2 n3 n4
  rintro Y ⟨BY, RY⟩
  have HRY := hid1 RY
  have HBY := hid1 BY
  have lb5 : w1.heap.size ≤ b5 := by omega
  clear RY BY hb5
  go_wp2_with fail
  go_loopw [6, 7] (fun s6 i wr => ∃ k : Nat, k ≤ N.ml ∧ i = .int .i64 k ∧ s6 = .int .i64 (woV N k) ∧ Hid (Below w1.heap.size w1 wr) ∧ Hid (wr.rowIs b5 23 3 (shF (sp N k).h (sp N k).v (sp N k).c))) (fun _ i _ => N.ml - (intOf i).toNat)
  case atStart => exact ⟨0, Nat.zero_le _, rfl, rfl, HBY, HRY⟩
  case round =>
    clear HRY HBY
    obtain ⟨k, hk, rfl, rfl, HB, HR⟩ := hrel
    have ik0 : (0 : Int) ≤ (k : Int) := by omega
    by_cases hlt : k < N.ml
    · have ik : (k : Int) < (N.ml : Int) := by omega
      obtain ⟨gl, o, ea, LC, -⟩ := (HW.out.keep (bl_step HBX.out HB.out)).1 k hlt
      have n4 := (HNX.out.keep HB.out).2.2.2.2
      obtain ⟨fb1, fb2, fb3⟩ := fw_bd HZ.out hlt
      obtain ⟨⟨i1, i2⟩, i3, i4⟩ := el_sp HZ.out (Nat.le_of_lt hlt)
      obtain ⟨⟨o1, o2⟩, o3, o4⟩ := el_sp HZ.out (show k + 1 ≤ N.ml from hlt)
      have wb := wo_bd HZ.out k hk
      have hkd := kd_of ((fl_all HZ.out).2 k hlt)
      obtain ⟨s0, s1, s2⟩ := shL_at N N.ml k hlt
      have t0 := keepc HB.out ((HRG.out (k * 3) (by omega)).trans s0)
      have t1 := keepc HB.out ((HRG.out (k * 3 + 1) (by omega)).trans s1)
      have t2 := keepc HB.out ((HRG.out (k * 3 + 2) (by omega)).trans s2)
      have HWO : Hid (woV N (k + 1) = woV N k + (sp N (k + 1)).h * (sp N (k + 1)).v * (sp N (k + 1)).c * fwV (N.lf k) (sp N k).h (sp N k).v (sp N k).c) := hid1 rfl
      obtain ⟨f0, hf0⟩ : ∃ f, fwV (N.lf k) (sp N k).h (sp N k).v (sp N k).c = f := ⟨_, rfl⟩
      rw [hf0] at fb1 fb2 HWO
      have hf1 : (N.lf k).kd = 1 → (N.lf k).r * (N.lf k).s * (sp N k).c = f0 := fun h => by rw [← hf0]; exact (if_pos h).symm
      have hf3 : (N.lf k).kd = 3 → (N.lf k).r * (N.lf k).s = f0 := fun h => by rw [← hf0]; unfold fwV; rw [if_neg (by omega), if_pos h]
      have hf2 : (N.lf k).kd = 2 → (sp N k).h * (sp N k).v * (sp N k).c = f0 := fun h => by rw [← hf0]; unfold fwV; rw [if_neg (by omega), if_neg (by omega)]
      have hrs : ¬ (N.lf k).kd = 2 → IntKind.i64.wrap ((N.lf k).r * (N.lf k).s) = (N.lf k).r * (N.lf k).s := fun h => by
        obtain ⟨⟨r1, r2⟩, z1, z2⟩ := fb3 h
        have m1 := Int.mul_le_mul r2 z2 (by omega) (by decide : (0 : Int) ≤ 15)
        have m2 := Int.mul_nonneg (show 0 ≤ (N.lf k).r by omega) (show 0 ≤ (N.lf k).s by omega)
        exact wrap_of (by omega) (by omega)
      have m1 := Int.mul_le_mul o4 fb2 (by omega) (by decide : (0 : Int) ≤ 16777216)
      have m2 := Int.mul_nonneg (show 0 ≤ (sp N (k + 1)).h * (sp N (k + 1)).v * (sp N (k + 1)).c by omega) (show 0 ≤ f0 by omega)
      have wA : IntKind.i64.wrap ((sp N k).h * (sp N k).v) = (sp N k).h * (sp N k).v := wrap_of (by omega) (by omega)
      have wB : IntKind.i64.wrap ((sp N k).h * (sp N k).v * (sp N k).c) = (sp N k).h * (sp N k).v * (sp N k).c := wrap_of (by omega) (by omega)
      have wC : IntKind.i64.wrap ((sp N (k + 1)).h * (sp N (k + 1)).v) = (sp N (k + 1)).h * (sp N (k + 1)).v := wrap_of (by omega) (by omega)
      have wD : IntKind.i64.wrap ((sp N (k + 1)).h * (sp N (k + 1)).v * (sp N (k + 1)).c) = (sp N (k + 1)).h * (sp N (k + 1)).v * (sp N (k + 1)).c := wrap_of (by omega) (by omega)
      have wE : IntKind.i64.wrap ((sp N (k + 1)).h * (sp N (k + 1)).v * (sp N (k + 1)).c * f0) = (sp N (k + 1)).h * (sp N (k + 1)).v * (sp N (k + 1)).c * f0 := wrap_of (by omega) (by omega)
      have wF : IntKind.i64.wrap (woV N k + (sp N (k + 1)).h * (sp N (k + 1)).v * (sp N (k + 1)).c * f0) = woV N k + (sp N (k + 1)).h * (sp N (k + 1)).v * (sp N (k + 1)).c * f0 := wrap_of (by omega) (by omega)
      have wf : IntKind.i64.wrap f0 = f0 := wrap_of (by omega) (by omega)
      clear i1 i2 i3 i4 o1 o2 o3 o4 wb m1 m2 fb1 fb2 fb3 hf0 s0 s1 s2
      generalize hLk : N.lf k = L at LC hkd hf1 hf2 hf3 hrs
      clear hLk
      generalize (sp N k).h = ih at HR hf2 wA wB
      generalize (sp N k).v = iv at HR hf2 wA wB
      generalize (sp N k).c = ic at HR hf1 hf2 wB
      generalize woV N k = wo at HWO wF ⊢
      obtain ⟨oh, hoh⟩ : ∃ z, (sp N (k + 1)).h = z := ⟨_, rfl⟩
      obtain ⟨ov, hov⟩ : ∃ z, (sp N (k + 1)).v = z := ⟨_, rfl⟩
      obtain ⟨oc, hoc⟩ : ∃ z, (sp N (k + 1)).c = z := ⟨_, rfl⟩
      rw [hoh] at t0
      rw [hov] at t1
      rw [hoc] at t2
      rw [hoh, hov, hoc] at HWO wD wE wF
      rw [hoh, hov] at wC
      have HOH := hid1 (And.intro hoh (And.intro hov hoc))
      clear hoh hov hoc
      obtain ⟨c0, c1, c2, c3, c4, c5, c6, c7, c8, c9, c10, c11, c12, c13, c14⟩ := LC
      obtain ⟨bl, hbl⟩ : ∃ x, wr.heap.size = x := ⟨_, rfl⟩
      have HT := hid1 (And.intro t0 (And.intro t1 t2))
      go_upto_region 10 with fail
      clear c0 c1 c2 c3 c4 c5 c6 c7 c8 c9 c10 c11 c12 c13 c14 t0 t1 t2 ea n4
      refine gen_world (fun V => Below wr.heap.size wr V ∧ Lp V bl L) ⟨bl_alloc (Below.refl _ _) _, lp_new' hbl L _⟩ ?_
      rintro V ⟨BV, LV⟩
      have RV := World.rowIs.of_block HR.out (BV.block _ HR.out.lt)
      obtain ⟨u0, u1, u2⟩ := sh_cells RV
      have f0' := RV.frozen 0
      have f1' := RV.frozen 1
      have f2' := RV.frozen 2
      have t0 := keepc BV HT.out.1
      have t1 := keepc BV HT.out.2.1
      have t2 := keepc BV HT.out.2.2
      have HRV := hid1 RV
      have HBV := hid1 (bl_step HB.out BV)
      have l0 := LV.1
      have l3 := LV.2.2.2.1
      have l4 := LV.2.2.2.2.1
      clear RV BV LV HR HB HT hbl
      rcases hkd with h1 | h2 | h3
      · have hf := hf1 h1
        have wG := hrs (by omega)
        rw [h1] at l0
        have wH : IntKind.i64.wrap (L.r * L.s * ic) = f0 := by rw [hf]; exact wf
        clear hf1 hf2 hf3 hrs
        go_wp2_with fail
        go_quiet (fail)
        go_wp2_with fail
        exact ⟨⟨k + 1, hlt, by go_num, by rw [HWO.out], hid1 (bl_set (bl_set (bl_set (bl_drewN HBV.out _) lb5 _) lb5 _) lb5 _), hid1 (by rw [HOH.out.1, HOH.out.2.1, HOH.out.2.2]; exact sh_setW (World.rowIs.of_block HRV.out rfl))⟩, by simp [intOf]; omega⟩
      · have hf := hf2 h2
        rw [h2] at l0
        rw [hf] at wB
        have wI : IntKind.i64.wrap (ih * iv * ic) = f0 := by rw [hf]; exact wf
        clear hf1 hf2 hf3 hrs wB
        go_wp2_with fail
        go_quiet (fail)
        go_wp2_with fail
        exact ⟨⟨k + 1, hlt, by go_num, by rw [HWO.out], hid1 (bl_set (bl_set (bl_set (bl_drewN HBV.out _) lb5 _) lb5 _) lb5 _), hid1 (by rw [HOH.out.1, HOH.out.2.1, HOH.out.2.2]; exact sh_setW (World.rowIs.of_block HRV.out rfl))⟩, by simp [intOf]; omega⟩
      · have hf := hf3 h3
        have wG := hrs (by omega)
        rw [h3] at l0
        rw [hf] at wG
        have wI : IntKind.i64.wrap (L.r * L.s) = f0 := by rw [hf]; exact wf
        clear hf1 hf2 hf3 hrs wG
        go_wp2_with fail
        go_quiet (fail)
        go_wp2_with fail
        exact ⟨⟨k + 1, hlt, by go_num, by rw [HWO.out], hid1 (bl_set (bl_set (bl_set (bl_drewN HBV.out _) lb5 _) lb5 _) lb5 _), hid1 (by rw [HOH.out.1, HOH.out.2.1, HOH.out.2.2]; exact sh_setW (World.rowIs.of_block HRV.out rfl))⟩, by simp [intOf]; omega⟩
    · have ik : ¬ (k : Int) < (N.ml : Int) := by omega
      obtain rfl : k = N.ml := by omega
      go_wp2_with fail
      go_ret
      exact ⟨rfl, hb0 ▸ bl_step HBX.out HB.out⟩
end Go.Proofs.YtlgjoepeibodkaaGreat.Nn
/- PLAIN'S STATEMENTS: Fits. -/
namespace Go.Proofs.YtlgjoepeibodkaaGreat.Nn
open Go.RowKit

/-- May it be, has the input its size, is the run not too long? -/
def FiP (N : Nt) (m : Nat) : Prop := chE N = 0 ∧ (m : Int) = N.h * N.v * N.c ∧ woV N N.ml ≤ 4194304
set_option maxHeartbeats 3200000 in
set_option maxRecDepth 100000 in
theorem fits6_any (N : Nt) (ao : Option Addr) (m cap : Nat) (w : World) (hN : NtW w N) : Calls Tryz.prog 6 #[ntv N, .slice ao m cap] w fun e w' => ∃ bo : Bool, e = .returned (.bool bo) ∧ (bo = true ↔ FiP N m) ∧ Below w.heap.size w w' := by
  have HW := hid1 hN
  have CC := hid1 (fun W (h : Below w.heap.size w W) => rncheck_any N W (hN.keep h))
  clear hN
  obtain ⟨b, hb0⟩ : ∃ b, w.heap.size = b := ⟨_, rfl⟩
  go_enter Tryz.func6, Tryz.ntmps6
  go_wp2_with fail
  refine gen_calls (fun X => Below w.heap.size w X ∧ Nb X b N) ⟨by repeat (first | (with_reducible exact Below.refl _ _) | (with_reducible refine bl_alloc ?_ _) | (with_reducible refine Below.drew ?_)), by rw [← hb0]; exact nb_new _ _ _⟩ ?_
  rintro X ⟨BX, NX⟩
  refine (CC.out X BX).mono ?_
  rintro e w1 ⟨rfl, hb⟩
  replace BX := bl_step BX hb
  replace NX := NX.keep hb
  have HNX := hid1 NX
  have HBX := hid1 BX
  clear hb CC BX NX
  by_cases hz : chE N = 0
  · rw [hz]
    have HZ := hid1 hz
    obtain ⟨⟨i1, i2⟩, i3, i4⟩ := el_sp hz (Nat.zero_le _)
    have wA : IntKind.i64.wrap (N.h * N.v) = N.h * N.v := wrap_of (by show _ ≤ (sp N 0).h * (sp N 0).v; omega) (by show (sp N 0).h * (sp N 0).v ≤ _; omega)
    have wB : IntKind.i64.wrap (N.h * N.v * N.c) = N.h * N.v * N.c := wrap_of (by show _ ≤ (sp N 0).h * (sp N 0).v * (sp N 0).c; omega) (by show (sp N 0).h * (sp N 0).v * (sp N 0).c ≤ _; omega)
    obtain ⟨n0, n1, n2, n3, n4⟩ := HNX.out
    have CW := hid1 (fun W (h : Below w.heap.size w W) => work_ok N HZ.out W (HW.out.keep h))
    clear i1 i2 i3 i4 hz
    by_cases hl : (m : Int) = N.h * N.v * N.c
    · have HL := hid1 hl
      have he : ((m : Int) == N.h * N.v * N.c) = true := by rw [hl]; simp
      clear hl
      go_wp2_with fail
      refine (CW.out _ HBX.out).mono ?_
      rintro e w2 ⟨rfl, hb⟩
      have HB2 := hid1 (bl_step HBX.out hb)
      clear hb n0 n1 n2 n3 n4 CW
      have HD : Hid (decide (woV N N.ml ≤ 4194304) = true ↔ FiP N m) := hid1 (by simp [FiP, HZ.out, HL.out])
      go_wp2_with fail
      go_ret
      exact ⟨_, rfl, HD.out, hb0 ▸ HB2.out⟩
    · have HL := hid1 hl
      have he : ((m : Int) == N.h * N.v * N.c) = false := by simpa using hl
      clear hl
      go_wp2_with fail
      go_ret
      exact ⟨_, rfl, ⟨fun h => (by cases h), fun h => absurd h.2.1 HL.out⟩, hb0 ▸ HBX.out⟩
  · have HZ := hid1 hz
    have he : (chE N == 0) = false := by simpa using hz
    generalize chE N = E at he ⊢
    go_wp2_with fail
    go_ret
    exact ⟨_, rfl, ⟨fun h => (by cases h), fun h => absurd h.1 HZ.out⟩, hb0 ▸ HBX.out⟩
end Go.Proofs.YtlgjoepeibodkaaGreat.Nn
/- PLAIN'S STATEMENTS: a network with another layer: its layers copied. -/
namespace Go.Proofs.YtlgjoepeibodkaaGreat.Nn
open Go.RowKit

theorem rl_mem {F : Nat → List Value} {u : Value} : ∀ {n : Nat}, u ∈ rl F n → ∃ j, u ∈ F j
  | 0, h => by cases h
  | n + 1, h => by
    rw [rl] at h
    rcases List.mem_append.1 h with h | h
    · exact rl_mem h
    · exact ⟨n, h⟩
theorem app_clL {ops : Array Oper} {rest : List Oper} {o : Oper} {a : Act} {Q : Exit → Act → World → Prop} {w : World} (hgd : o.guard = none) (s x : Operand)
    (ho : o.op = .call { callee := .builtin .append, args := #[s, x], argTypes := #[24, 24] }) (N : Nt) (hs : a.eval s = .slice none 0 0) (hx : a.eval x = .slice N.al N.ml N.cl) (hN : NtW w N) (hm : 1 ≤ N.ml ∧ N.ml ≤ 64)
    (h : ∀ v' w', w'.ownsRow w.heap.size 38 15 v' N.ml (lyLs N.lf N.ml) → Below w.heap.size w w' → wpList Tryz.prog ops Q rest (a.put o.dst v') w') : wpList Tryz.prog ops Q (o :: rest) a w := by
  obtain ⟨i0, hi, hz0, hz1, hz2⟩ := info_parts info_lyD
  obtain ⟨g, o0, e, -⟩ := hN.1 0 (by omega)
  rw [e] at hx
  refine wpList_append_own w hgd s x _ ho w.heap.size 38 i0 _ 15 168 und_lyD hi hz0 hz1 hz2 rfl (by decide) (.slice none 0 0) 0 [] hs (World.ownsRow_nil _ _ _ _) ⟨g, o0, none⟩ N.ml N.cl (lyLs N.lf N.ml) hx (rl_len (s := 15) (fun _ => rfl) N.ml) ?_ (fun u hu => ?_) (by unfold maxLen; omega) (by omega) (Nat.le_refl _) ?_
  · intro j u hu
    have hl := rl_len (F := fun j => lyC (N.lf j)) (s := 15) (fun _ => rfl) N.ml
    have hj : j < N.ml * 15 := by
      by_cases hj : j < N.ml * 15
      · exact hj
      · rw [List.getElem?_eq_none (by show (rl (fun j => lyC (N.lf j)) N.ml).length ≤ j; rw [hl]; omega)] at hu; cases hu
    have hq : j / 15 < N.ml := by omega
    have hc : j % 15 < 15 := by omega
    have ej : j / 15 * 15 + j % 15 = j := by omega
    rw [← ej, rl_get (s := 15) (fun _ => rfl) N.ml hq hc] at hu
    obtain ⟨g2, o2, e2, LC, -⟩ := hN.1 (j / 15) hq
    rw [e] at e2
    cases e2
    rw [show (⟨g, o0, none⟩ : Addr).add j = ⟨g, o0 + j, none⟩ by simp [Addr.add], show o0 + j = o0 + j / 15 * 15 + j % 15 by omega]
    generalize j / 15 = q at LC hu
    generalize j % 15 = c at hc hu
    obtain ⟨c0, c1, c2, c3, c4, c5, c6, c7, c8, c9, c10, c11, c12, c13, c14⟩ := LC
    rcases (show c = 0 ∨ c = 1 ∨ c = 2 ∨ c = 3 ∨ c = 4 ∨ c = 5 ∨ c = 6 ∨ c = 7 ∨ c = 8 ∨ c = 9 ∨ c = 10 ∨ c = 11 ∨ c = 12 ∨ c = 13 ∨ c = 14 by omega) with rfl | rfl | rfl | rfl | rfl | rfl | rfl | rfl | rfl | rfl | rfl | rfl | rfl | rfl | rfl
    · exact c0.trans hu
    · exact c1.trans hu
    · exact c2.trans hu
    · exact c3.trans hu
    · exact c4.trans hu
    · exact c5.trans hu
    · exact c6.trans hu
    · exact c7.trans hu
    · exact c8.trans hu
    · exact c9.trans hu
    · exact c10.trans hu
    · exact c11.trans hu
    · exact c12.trans hu
    · exact c13.trans hu
    · exact c14.trans hu
  · obtain ⟨j, hj⟩ := rl_mem hu
    simp [lyC] at hj
    rcases hj with rfl | rfl | rfl | rfl | rfl | rfl | rfl | rfl | rfl | rfl | rfl | rfl | rfl | rfl | rfl <;> rfl
  · intro v' w' k1 k2 _
    rw [Nat.zero_add, List.nil_append] at k1
    exact h v' w' k1 (gr_bel k2 (Below.refl _ _) (fun q hq => by cases hq))
end Go.Proofs.YtlgjoepeibodkaaGreat.Nn
