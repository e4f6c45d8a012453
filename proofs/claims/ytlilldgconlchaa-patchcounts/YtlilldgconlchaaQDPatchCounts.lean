import Derived.Test.YtlilldgconlchaaQCPatchCounts
import Derived.Test.YtlilldgconlchaaQAPatchCounts
/- PatchCounts: the walk. -/
namespace Go.Proofs.Ytlilldgconlchaa
open Go.RowKit Go.Shelf
attribute [local go_sem ↓] Go.wp_at_zero Go.wp_at_succ

theorem kp8 {W X : World} {b3 g1 o : Nat} {v0 v1 v2 v3 v4 v5 v6 v7 : Value} (r : W.cell? ⟨b3, 0, none⟩ = some v0 ∧ W.cell? ⟨b3, 1, none⟩ = some v1 ∧ W.cell? ⟨b3, 2, none⟩ = some v2 ∧ W.cell? ⟨b3, 3, none⟩ = some v3) (a : W.cell? ⟨g1, o, none⟩ = some v4 ∧ W.cell? ⟨g1, o + 1, none⟩ = some v5 ∧ W.cell? ⟨g1, o + 2, none⟩ = some v6 ∧ W.cell? ⟨g1, o + 3, none⟩ = some v7) (hb : Below W.heap.size W X) :
    (X.cell? ⟨b3, 0, none⟩ = some v0 ∧ X.cell? ⟨b3, 1, none⟩ = some v1 ∧ X.cell? ⟨b3, 2, none⟩ = some v2 ∧ X.cell? ⟨b3, 3, none⟩ = some v3) ∧ X.cell? ⟨g1, o, none⟩ = some v4 ∧ X.cell? ⟨g1, o + 1, none⟩ = some v5 ∧ X.cell? ⟨g1, o + 2, none⟩ = some v6 ∧ X.cell? ⟨g1, o + 3, none⟩ = some v7 :=
  ⟨⟨keepc hb r.1, keepc hb r.2.1, keepc hb r.2.2.1, keepc hb r.2.2.2⟩, keepc hb a.1, keepc hb a.2.1, keepc hb a.2.2.1, keepc hb a.2.2.2⟩
/-- The last window ends within, one more would not. -/
theorem oA_ends {H T B R sy : Nat} (hR : R ≤ H + T + B) (hs : 1 ≤ sy) : (oA H T B R sy - 1) * sy + R ≤ H + T + B ∧ H + T + B < oA H T B R sy * sy + R := by
  unfold oA
  have h1 := Nat.div_mul_le_self (T + H + B - R) sy
  have h2 := Nat.lt_div_mul_add (a := T + H + B - R) (b := sy) (by omega)
  rw [Nat.add_sub_cancel, Nat.succ_mul]
  omega
/-- What the walk keeps: the case, its lists, the cube. -/
structure Sc (w W : World) (bC bP G gu gx : Nat) (K : Ks) (u x : List Int) (H V C m N : Nat) : Prop where
  k : W.rowIs bC 29 14 K.f
  ru : R8 W (some ⟨gu, 0, none⟩) u
  rx : R8 W (some ⟨gx, 0, none⟩) x
  p : W.rowIs bP 33 4 (cf H V C (some ⟨G, 0, none⟩) m m)
  g : Wr W (some ⟨G, 0, none⟩) m N
  o : Below w.heap.size w W
theorem Sc.below {w W X : World} {bC bP G gu gx : Nat} {K : Ks} {u x : List Int} {H V C m N : Nat} (h : Sc w W bC bP G gu gx K u x H V C m N) (hb : Below W.heap.size W X) : Sc w X bC bP G gu gx K u x H V C m N :=
  ⟨keepr hb h.k, r8_below h.ru hb, r8_below h.rx hb, keepr hb h.p, h.g.below hb, bl_step h.o hb⟩
set_option maxHeartbeats 6400000 in
set_option maxRecDepth 100000 in
theorem patchCounts_any (h v c r s sy sx t l b q bd : Int) (ao : Option Addr) (lv : List Int) (n ca : Nat) (hn : lv.length = n) (bo : Option Addr) (lw : List Int) (m cb : Nat) (hm : lw.length = m) (w : World) (hnb : n ≤ 140737488351232) (hmb : m ≤ 140737488351232) (ra : R8 w ao lv) (rb : R8 w bo lw) :
    Calls Try.prog 4 #[Sg.shp h v c, Sg.win r s sy sx t l b q, .int .i64 bd, .slice ao n ca, .slice bo m cb] w fun e w' => e = .returned (.bool true) ∧ Below w.heap.size w w' := by
  obtain ⟨H, V, C, R, S, SY, SX, T, L, B, Q, D, cn, hD, hmade⟩ := madeN h v c r s sy sx t l b q bd ao lv n ca hn bo lw m cb hm hnb hmb
  have HMD := hid1 hmade
  have CN := hid1 cn
  have RA := hid1 ra
  have RB := hid1 rb
  clear hmade ra rb hn hm cn
  go_enter Try.func4, Try.ntmps4
  go_wp2_with fail
  refine gen_calls (fun X => X.rowIs w.heap.size 23 3 (hf h v c) ∧ X.rowIs (w.heap.size + 1) 25 8 (wiI r s sy sx t l b q) ∧ Below w.heap.size w X) ⟨(hf_new w _ _ _ _).alloc _, alloc_at (wiI_new _ _ _ _ _ _ _ _ _) (by simp), bl_alloc (bl_alloc (Below.refl _ _) _) _⟩ ?_
  rintro X ⟨b0, b1, BX⟩
  refine (pbegun_any X).mono ?_
  rintro e w1 ⟨rfl, hb⟩
  replace b0 := keepr hb b0
  replace b1 := keepr hb b1
  have BW := bl_step BX hb
  have c0 := hf0 b0
  have c1 := hf1 b0
  have c2 := hf2 b0
  have d0 : w1.cell? ⟨w.heap.size + 1, 0, none⟩ = some (.int .i64 r) := b1.cell (i := 0) (by omega)
  have d1 : w1.cell? ⟨w.heap.size + 1, 1, none⟩ = some (.int .i64 s) := b1.cell (i := 1) (by omega)
  have d2 : w1.cell? ⟨w.heap.size + 1, 2, none⟩ = some (.int .i64 sy) := b1.cell (i := 2) (by omega)
  have d3 : w1.cell? ⟨w.heap.size + 1, 3, none⟩ = some (.int .i64 sx) := b1.cell (i := 3) (by omega)
  have d4 : w1.cell? ⟨w.heap.size + 1, 4, none⟩ = some (.int .i64 t) := b1.cell (i := 4) (by omega)
  have d5 : w1.cell? ⟨w.heap.size + 1, 5, none⟩ = some (.int .i64 l) := b1.cell (i := 5) (by omega)
  have d6 : w1.cell? ⟨w.heap.size + 1, 6, none⟩ = some (.int .i64 b) := b1.cell (i := 6) (by omega)
  have d7 : w1.cell? ⟨w.heap.size + 1, 7, none⟩ = some (.int .i64 q) := b1.cell (i := 7) (by omega)
  have HBW := hid1 BW
  clear b0 b1 BX hb BW
  go_wp2_with fail
  refine (HMD.out w1 (r8_below RA.out HBW.out) (r8_below RB.out HBW.out)).mono ?_
  rintro e w2 ⟨gu, uc, gx, xc, rfl, huc, ru, rx, hb⟩
  replace HBW := hid1 (bl_step HBW.out hb)
  have RU := hid1 ru
  have RX := hid1 rx
  clear c0 c1 c2 d0 d1 d2 d3 d4 d5 d6 d7 hb ru rx HMD RA RB
  go_upto_region 5 with fail
  obtain ⟨bC, ebC⟩ : ∃ x, w2.heap.size = x := ⟨_, rfl⟩
  obtain ⟨u, eu⟩ : ∃ u, vlM lv (H * V * C) = u := ⟨_, rfl⟩
  obtain ⟨x, ex⟩ : ∃ x, wtM lw (R * S * C) = x := ⟨_, rfl⟩
  obtain ⟨un, eun⟩ : ∃ x, H * V * C = x := ⟨_, rfl⟩
  obtain ⟨xn, exn⟩ : ∃ x, R * S * C = x := ⟨_, rfl⟩
  have hul : u.length = un := by rw [← eu, vlM_len]; exact eun
  have hxl : x.length = xn := by rw [← ex, wtM_len]; exact exn
  have hpm : ∀ i, i < H * V * C → ia u i = 1 ∨ ia u i = -1 := fun i hi => by rw [← eu]; exact vlM_pm lv hi
  have hwb : ∀ i, i < R * S * C → -1 ≤ ia x i ∧ ia x i ≤ 1 := fun i hi => by rw [← ex]; exact wtM_bd lw hi
  rw [eu] at RU
  rw [ex] at RX
  rw [eun] at huc
  rw [eun, exn]
  have EUN := hid1 eun
  have EXN := hid1 exn
  have HUL := hid1 hul
  have HXL := hid1 hxl
  have HPM := hid1 hpm
  have HWB := hid1 hwb
  refine gen_world (fun Y => Y.rowIs bC 29 14 (kN H V C (some ⟨gu, 0, none⟩) un uc R S SY SX T L B Q D (some ⟨gx, 0, none⟩) xn xc).f ∧ R8 Y (some ⟨gu, 0, none⟩) u ∧ R8 Y (some ⟨gx, 0, none⟩) x ∧ Below w.heap.size w Y) ⟨ebC ▸ ks_new w2 (kN H V C (some ⟨gu, 0, none⟩) un uc R S SY SX T L B Q D (some ⟨gx, 0, none⟩) xn xc), r8_below RU.out (bl_alloc (Below.refl _ _) _), r8_below RX.out (bl_alloc (Below.refl _ _) _), bl_alloc HBW.out _⟩ ?_
  rw [ebC]
  clear RU RX HBW hul hxl hpm hwb eu ex eun exn ebC
  rintro Y ⟨kc, ru, rx, BY⟩
  obtain ⟨mm, emm⟩ : ∃ x, H * V * nw C = x := ⟨_, rfl⟩
  obtain ⟨N, eN⟩ : ∃ x, cNE u C (H * V) = x := ⟨_, rfl⟩
  have HPK := hid1 (packC CN.out.hH CN.out.hV CN.out.hC u HUL.out EUN.out.symm emm eN gu 0 uc Y huc.1 huc.2 ru)
  have k0 : Y.cell? ⟨bC, 0, none⟩ = some (.int .i64 H) := kc.cell (i := 0) (by omega)
  have k1 : Y.cell? ⟨bC, 1, none⟩ = some (.int .i64 V) := kc.cell (i := 1) (by omega)
  have k2 : Y.cell? ⟨bC, 2, none⟩ = some (.int .i64 C) := kc.cell (i := 2) (by omega)
  have k3 : Y.cell? ⟨bC, 3, none⟩ = some (.slice (some ⟨gu, 0, none⟩) un uc) := kc.cell (i := 3) (by omega)
  have KC := hid1 kc
  have RU := hid1 ru
  have RX := hid1 rx
  have HBY := hid1 BY
  have EMM := hid1 emm
  have EN := hid1 eN
  clear kc ru rx BY emm eN
  go_wp2_with fail
  refine HPK.out.mono ?_
  rintro e y1 ⟨G, rfl, wg, hb⟩
  have KC1 := hid1 (keepr hb KC.out)
  have RU1 := hid1 (r8_below RU.out hb)
  have RX1 := hid1 (r8_below RX.out hb)
  have HB1 := hid1 (bl_step HBY.out hb)
  have WG := hid1 wg
  clear hb k0 k1 k2 k3 KC RU RX HBY wg HPK
  go_upto_region 6 with fail
  obtain ⟨bP, ebP⟩ : ∃ x, y1.heap.size = x := ⟨_, rfl⟩
  have bel1 := bl_alloc (Below.refl y1.heap.size y1) (.cells #[.int .i64 H, .int .i64 V, .int .i64 C, .slice (some ⟨G, 0, none⟩) mm mm] 33)
  refine gen_world (fun Z => Sc w Z bC bP G gu gx (kN H V C (some ⟨gu, 0, none⟩) un uc R S SY SX T L B Q D (some ⟨gx, 0, none⟩) xn xc) u x H V C mm N) ⟨keepr bel1 KC1.out, r8_below RU1.out bel1, r8_below RX1.out bel1, ebP ▸ cu_new _ _ _ _ _ _ _ _, WG.out.below bel1, bl_alloc HB1.out _⟩ ?_
  rw [ebP]
  clear bel1 KC1 RU1 RX1 WG HB1 ebP
  intro Z sc
  obtain ⟨A, eA⟩ : ∃ x, oA H T B R SY = x := ⟨_, rfl⟩
  obtain ⟨Bq, eB⟩ : ∃ x, oA V L Q S SX = x := ⟨_, rfl⟩
  obtain ⟨P, eP⟩ : ∃ x, A * Bq = x := ⟨_, rfl⟩
  obtain ⟨M, eM⟩ : ∃ x, R * S * nw C = x := ⟨_, rfl⟩
  obtain ⟨xs, hxs⟩ : ∃ x, x = if 0 < D then ful C else 0 := ⟨_, rfl⟩
  obtain ⟨xm, hxm⟩ : ∃ x, x = if D = 0 then 0 else ful C := ⟨_, rfl⟩
  have HXS := hid1 hxs
  have HXM := hid1 hxm
  have HS1 := hid1 (fun W rd => seeC CN.out u G D hD mm A Bq P M N EMM.out eA eB eP eM EN.out xs xm HXS.out HXM.out W rd)
  have HS2 := hid1 (fun W rd => seeC CN.out u G 0 (by omega) mm A Bq P M N EMM.out eA eB eP eM EN.out 0 0 (by simp) (by simp) W rd)
  have EA := hid1 eA
  have EB := hid1 eB
  have EP := hid1 eP
  have EM := hid1 eM
  clear eA eB eP eM hxs hxm
  have k4 : Z.cell? ⟨bC, 4, none⟩ = some (.int .i64 R) := sc.k.cell (i := 4) (by omega)
  have k5 : Z.cell? ⟨bC, 5, none⟩ = some (.int .i64 S) := sc.k.cell (i := 5) (by omega)
  have k6 : Z.cell? ⟨bC, 6, none⟩ = some (.int .i64 SY) := sc.k.cell (i := 6) (by omega)
  have k7 : Z.cell? ⟨bC, 7, none⟩ = some (.int .i64 SX) := sc.k.cell (i := 7) (by omega)
  have k8 : Z.cell? ⟨bC, 8, none⟩ = some (.int .i64 T) := sc.k.cell (i := 8) (by omega)
  have k9 : Z.cell? ⟨bC, 9, none⟩ = some (.int .i64 L) := sc.k.cell (i := 9) (by omega)
  have k10 : Z.cell? ⟨bC, 10, none⟩ = some (.int .i64 B) := sc.k.cell (i := 10) (by omega)
  have k11 : Z.cell? ⟨bC, 11, none⟩ = some (.int .i64 Q) := sc.k.cell (i := 11) (by omega)
  have k12 : Z.cell? ⟨bC, 12, none⟩ = some (.int .i64 D) := sc.k.cell (i := 12) (by omega)
  have p0 := cf0 sc.p
  have p1 := cf1 sc.p
  have p2 := cf2 sc.p
  have p3 := cf3 sc.p
  have SC := hid1 sc
  clear sc
  go_wp2_with fail
  refine (HS1.out Z SC.out.g).mono ?_
  rintro e z1 ⟨g1, cap1, rfl, pr1, hb⟩
  have sc := SC.out.below hb
  have PR1 := hid1 pr1
  have SC1 := hid1 sc
  clear hb pr1 sc SC HS1 k4 k5 k6 k7 k8 k9 k10 k11 k12 p0 p1 p2 p3
  go_upto_region 7 with fail
  obtain ⟨b1, eb1⟩ : ∃ x, z1.heap.size = x := ⟨_, rfl⟩
  have bel1 := bl_alloc (Below.refl z1.heap.size z1) (.cells #[.int .i64 A, .int .i64 Bq, .int .i64 1] 23)
  refine gen_world (fun W => Sc w W bC bP G gu gx (kN H V C (some ⟨gu, 0, none⟩) un uc R S SY SX T L B Q D (some ⟨gx, 0, none⟩) xn xc) u x H V C mm N ∧ Prw W g1 P M (seS H V C N S R SY SX T L Bq xs) (seM H V C S R SY SX T L Bq xm) ∧ W.rowIs b1 23 3 (hf A Bq 1)) ⟨SC1.out.below bel1, PR1.out.below bel1, eb1 ▸ hf_new _ _ _ _ _⟩ ?_
  rw [eb1]
  clear bel1 SC1 PR1 eb1
  rintro Z2 ⟨sc, pr1, s1⟩
  have k4 : Z2.cell? ⟨bC, 4, none⟩ = some (.int .i64 R) := sc.k.cell (i := 4) (by omega)
  have k5 : Z2.cell? ⟨bC, 5, none⟩ = some (.int .i64 S) := sc.k.cell (i := 5) (by omega)
  have k6 : Z2.cell? ⟨bC, 6, none⟩ = some (.int .i64 SY) := sc.k.cell (i := 6) (by omega)
  have k7 : Z2.cell? ⟨bC, 7, none⟩ = some (.int .i64 SX) := sc.k.cell (i := 7) (by omega)
  have k8 : Z2.cell? ⟨bC, 8, none⟩ = some (.int .i64 T) := sc.k.cell (i := 8) (by omega)
  have k9 : Z2.cell? ⟨bC, 9, none⟩ = some (.int .i64 L) := sc.k.cell (i := 9) (by omega)
  have k10 : Z2.cell? ⟨bC, 10, none⟩ = some (.int .i64 B) := sc.k.cell (i := 10) (by omega)
  have k11 : Z2.cell? ⟨bC, 11, none⟩ = some (.int .i64 Q) := sc.k.cell (i := 11) (by omega)
  have k12 : Z2.cell? ⟨bC, 12, none⟩ = some (.int .i64 D) := sc.k.cell (i := 12) (by omega)
  have p0 := cf0 sc.p
  have p1 := cf1 sc.p
  have p2 := cf2 sc.p
  have p3 := cf3 sc.p
  have SC := hid1 sc
  have PR1 := hid1 pr1
  have S1 := hid1 s1
  clear sc pr1 s1
  go_wp2_with fail
  refine (HS2.out Z2 SC.out.g).mono ?_
  rintro e z3 ⟨g2, cap2, rfl, pr2, hb⟩
  have SC1 := hid1 (SC.out.below hb)
  have PR2 := hid1 pr2
  replace PR1 := hid1 (PR1.out.below hb)
  replace S1 := hid1 (keepr hb S1.out)
  clear hb pr2 SC HS2 k4 k5 k6 k7 k8 k9 k10 k11 k12 p0 p1 p2 p3
  go_upto_region 8 with fail
  obtain ⟨b2, eb2⟩ : ∃ x, z3.heap.size = x := ⟨_, rfl⟩
  have bel1 := bl_alloc (Below.refl z3.heap.size z3) (.cells #[.int .i64 A, .int .i64 Bq, .int .i64 1] 23)
  refine gen_world (fun W => Sc w W bC bP G gu gx (kN H V C (some ⟨gu, 0, none⟩) un uc R S SY SX T L B Q D (some ⟨gx, 0, none⟩) xn xc) u x H V C mm N ∧ Prw W g1 P M (seS H V C N S R SY SX T L Bq xs) (seM H V C S R SY SX T L Bq xm) ∧ W.rowIs b1 23 3 (hf A Bq 1) ∧ Prw W g2 P M (seS H V C N S R SY SX T L Bq 0) (seM H V C S R SY SX T L Bq 0) ∧ W.rowIs b2 23 3 (hf A Bq 1)) ⟨SC1.out.below bel1, PR1.out.below bel1, keepr bel1 S1.out, PR2.out.below bel1, eb2 ▸ hf_new _ _ _ _ _⟩ ?_
  rw [eb2]
  clear bel1 SC1 PR1 PR2 S1 eb2
  rintro Z4 ⟨sc, pr1, s1, pr2, s2⟩
  have k2 : Z4.cell? ⟨bC, 2, none⟩ = some (.int .i64 C) := sc.k.cell (i := 2) (by omega)
  have k13 : Z4.cell? ⟨bC, 13, none⟩ = some (.slice (some ⟨gx, 0, none⟩) xn xc) := sc.k.cell (i := 13) (by omega)
  have hRS : 1 ≤ R * S ∧ R * S ≤ 144 := by
    obtain ⟨⟨_, _⟩, ⟨_, _⟩, ⟨_, _⟩, ⟨_, _⟩, ⟨_, _⟩, ⟨_, _⟩, ⟨_, _⟩, _, _, _, _⟩ := CN.out
    exact ⟨Nat.mul_pos (by omega) (by omega), Nat.mul_le_mul (show R ≤ 12 by omega) (show S ≤ 12 by omega)⟩
  have HSP := hid1 (spreadC CN.out.hC hRS EM.out x HXL.out EXN.out.symm HWB.out gx 0 xc Z4 sc.rx)
  have SC := hid1 sc
  have PR1 := hid1 pr1
  have S1 := hid1 s1
  have PR2 := hid1 pr2
  have S2 := hid1 s2
  clear sc pr1 s1 pr2 s2
  go_wp2_with fail
  refine HSP.out.mono ?_
  rintro e z5 ⟨G1, G2, rfl, wr1, wr2, hb⟩
  have SC1 := hid1 (SC.out.below hb)
  replace PR1 := hid1 (PR1.out.below hb)
  replace S1 := hid1 (keepr hb S1.out)
  replace PR2 := hid1 (PR2.out.below hb)
  replace S2 := hid1 (keepr hb S2.out)
  have WR1 := hid1 wr1
  have WR2 := hid1 wr2
  clear hb wr1 wr2 SC HSP k2 k13
  go_upto_region 9 with fail
  obtain ⟨b3, eb3⟩ : ∃ x, z5.heap.size = x := ⟨_, rfl⟩
  have bel1 := bl_alloc (Below.refl z5.heap.size z5) (.cells #[.int .i64 (64 * M : Nat), .slice (some ⟨G1, 0, none⟩) M M, .int .i64 (64 * M : Nat), .slice (some ⟨G2, 0, none⟩) M M] 46)
  refine gen_world (fun W => Sc w W bC bP G gu gx (kN H V C (some ⟨gu, 0, none⟩) un uc R S SY SX T L B Q D (some ⟨gx, 0, none⟩) xn xc) u x H V C mm N ∧ Prw W g1 P M (seS H V C N S R SY SX T L Bq xs) (seM H V C S R SY SX T L Bq xm) ∧ W.rowIs b1 23 3 (hf A Bq 1) ∧ Prw W g2 P M (seS H V C N S R SY SX T L Bq 0) (seM H V C S R SY SX T L Bq 0) ∧ W.rowIs b2 23 3 (hf A Bq 1) ∧ W.rowIs b3 46 4 (qf ⟨(64 * M : Nat), some ⟨G1, 0, none⟩, M, M, 0⟩ ⟨(64 * M : Nat), some ⟨G2, 0, none⟩, M, M, 0⟩) ∧ Wr W (some ⟨G1, 0, none⟩) M (spN x C (R * S)) ∧ Wr W (some ⟨G2, 0, none⟩) M (spN (nzl x) C (R * S))) ⟨SC1.out.below bel1, PR1.out.below bel1, keepr bel1 S1.out, PR2.out.below bel1, keepr bel1 S2.out, eb3 ▸ q_new z5 ⟨(64 * M : Nat), some ⟨G1, 0, none⟩, M, M, 0⟩ ⟨(64 * M : Nat), some ⟨G2, 0, none⟩, M, M, 0⟩ _, WR1.out.below bel1, WR2.out.below bel1⟩ ?_
  rw [eb3]
  clear bel1 SC1 PR1 PR2 S1 S2 WR1 WR2 eb3
  rintro U ⟨sc, pr1, s1, pr2, s2, r3, wr1, wr2⟩
  obtain ⟨⟨_, _⟩, ⟨_, _⟩, ⟨_, _⟩, ⟨_, hR2⟩, ⟨_, hS2⟩, ⟨hs1, _⟩, ⟨hs2, _⟩, hT, hL, hB, hQ⟩ := CN.out
  have ab := oA_bd (sy := SY) (H := H) (T := T) (B := B) (R := R) (by omega) (by omega) (by omega) (by omega)
  have bb := oA_bd (sy := SX) (H := V) (T := L) (B := Q) (R := S) (by omega) (by omega) (by omega) (by omega)
  rw [EA.out] at ab
  rw [EB.out] at bb
  obtain ⟨e1a, e1b⟩ := oA_ends (H := H) (T := T) (B := B) (R := R) (sy := SY) hR2 hs1
  rw [EA.out] at e1a e1b
  have j11 : (A - 1) * SY ≤ 12 * 4 := Nat.mul_le_mul (by omega) (by omega)
  have j12 : A * SY ≤ 12 * 4 := Nat.mul_le_mul (by omega) (by omega)
  obtain ⟨a1, ea1⟩ : ∃ a : Int, (A : Int) - 1 = a := ⟨_, rfl⟩
  obtain ⟨x11, ex11⟩ : ∃ a : Int, ((A - 1 : Nat) : Int) * (SY : Int) = a := ⟨_, rfl⟩
  obtain ⟨x13, ex13⟩ : ∃ a : Int, (A : Int) * (SY : Int) = a := ⟨_, rfl⟩
  obtain ⟨x12, ex12⟩ : ∃ a : Int, x11 + (R : Int) = a := ⟨_, rfl⟩
  obtain ⟨x14, ex14⟩ : ∃ a : Int, x13 + (R : Int) = a := ⟨_, rfl⟩
  obtain ⟨h11, eh11⟩ : ∃ a : Int, (H : Int) + (T : Int) = a := ⟨_, rfl⟩
  obtain ⟨h13, eh13⟩ : ∃ a : Int, h11 + (B : Int) = a := ⟨_, rfl⟩
  have ca1 : a1 = ((A - 1 : Nat) : Int) := by omega
  have cx11 : x11 = (((A - 1) * SY : Nat) : Int) := by rw [← ex11]; push_cast; rfl
  have cx13 : x13 = ((A * SY : Nat) : Int) := by rw [← ex13]; push_cast; rfl
  have wA11 : IntKind.i64.wrap ((A : Int) - 1) = a1 := by rw [IntKind.wrap_i64]; omega
  have wA12 : IntKind.i64.wrap (a1 * (SY : Int)) = x11 := by rw [ca1, ex11, IntKind.wrap_i64]; omega
  have wA13 : IntKind.i64.wrap (x11 + (R : Int)) = x12 := by rw [IntKind.wrap_i64]; omega
  have wA14 : IntKind.i64.wrap ((H : Int) + (T : Int)) = h11 := by rw [IntKind.wrap_i64]; omega
  have wA15 : IntKind.i64.wrap (h11 + (B : Int)) = h13 := by rw [IntKind.wrap_i64]; omega
  have wA16 : IntKind.i64.wrap ((A : Int) * (SY : Int)) = x13 := by rw [ex13, IntKind.wrap_i64]; omega
  have wA17 : IntKind.i64.wrap (x13 + (R : Int)) = x14 := by rw [IntKind.wrap_i64]; omega
  have gA11 : decide (h13 < x12) = false := decide_eq_false (by omega)
  have gA12 : decide (x14 ≤ h13) = false := decide_eq_false (by omega)
  obtain ⟨e2a, e2b⟩ := oA_ends (H := V) (T := L) (B := Q) (R := S) (sy := SX) hS2 hs2
  rw [EB.out] at e2a e2b
  have j21 : (Bq - 1) * SX ≤ 12 * 4 := Nat.mul_le_mul (by omega) (by omega)
  have j22 : Bq * SX ≤ 12 * 4 := Nat.mul_le_mul (by omega) (by omega)
  obtain ⟨a2, ea2⟩ : ∃ a : Int, (Bq : Int) - 1 = a := ⟨_, rfl⟩
  obtain ⟨x21, ex21⟩ : ∃ a : Int, ((Bq - 1 : Nat) : Int) * (SX : Int) = a := ⟨_, rfl⟩
  obtain ⟨x23, ex23⟩ : ∃ a : Int, (Bq : Int) * (SX : Int) = a := ⟨_, rfl⟩
  obtain ⟨x22, ex22⟩ : ∃ a : Int, x21 + (S : Int) = a := ⟨_, rfl⟩
  obtain ⟨x24, ex24⟩ : ∃ a : Int, x23 + (S : Int) = a := ⟨_, rfl⟩
  obtain ⟨h21, eh21⟩ : ∃ a : Int, (V : Int) + (L : Int) = a := ⟨_, rfl⟩
  obtain ⟨h23, eh23⟩ : ∃ a : Int, h21 + (Q : Int) = a := ⟨_, rfl⟩
  have ca2 : a2 = ((Bq - 1 : Nat) : Int) := by omega
  have cx21 : x21 = (((Bq - 1) * SX : Nat) : Int) := by rw [← ex21]; push_cast; rfl
  have cx23 : x23 = ((Bq * SX : Nat) : Int) := by rw [← ex23]; push_cast; rfl
  have wA21 : IntKind.i64.wrap ((Bq : Int) - 1) = a2 := by rw [IntKind.wrap_i64]; omega
  have wA22 : IntKind.i64.wrap (a2 * (SX : Int)) = x21 := by rw [ca2, ex21, IntKind.wrap_i64]; omega
  have wA23 : IntKind.i64.wrap (x21 + (S : Int)) = x22 := by rw [IntKind.wrap_i64]; omega
  have wA24 : IntKind.i64.wrap ((V : Int) + (L : Int)) = h21 := by rw [IntKind.wrap_i64]; omega
  have wA25 : IntKind.i64.wrap (h21 + (Q : Int)) = h23 := by rw [IntKind.wrap_i64]; omega
  have wA26 : IntKind.i64.wrap ((Bq : Int) * (SX : Int)) = x23 := by rw [ex23, IntKind.wrap_i64]; omega
  have wA27 : IntKind.i64.wrap (x23 + (S : Int)) = x24 := by rw [IntKind.wrap_i64]; omega
  have gA21 : decide (h23 < x22) = false := decide_eq_false (by omega)
  have gA22 : decide (x24 ≤ h23) = false := decide_eq_false (by omega)
  have hPb : A * Bq ≤ 12 * 12 := Nat.mul_le_mul ab.2 bb.2
  have wP : IntKind.i64.wrap ((A : Int) * (Bq : Int)) = (P : Int) := by rw [show (A : Int) * (Bq : Int) = ((A * Bq : Nat) : Int) by push_cast; rfl, EP.out, IntKind.wrap_i64]; have := EP.out; omega
  have hP1 : 1 ≤ P ∧ P ≤ 144 := by rw [← EP.out]; exact ⟨Nat.mul_pos (by omega) (by omega), hPb⟩
  have nA1 : ¬ (A : Int) < 1 := by omega
  have nB1 : ¬ (Bq : Int) < 1 := by omega
  have nA2 : ¬ A = 0 := by omega
  have nB2 : ¬ Bq = 0 := by omega
  have gA0 : decide ((A : Int) < 1) = false := decide_eq_false nA1
  have gB0 : decide ((Bq : Int) < 1) = false := decide_eq_false nB1
  have gA9 : decide (A < 1) = false := decide_eq_false (by omega)
  have gB9 : decide (Bq < 1) = false := decide_eq_false (by omega)
  have gA8 : decide (A = 0) = false := decide_eq_false (by omega)
  have gB8 : decide (Bq = 0) = false := decide_eq_false (by omega)
  clear ea1 ex11 ex13 ex12 ex14 eh11 eh13 ca1 cx11 cx13 j11 j12 e1a e1b ea2 ex21 ex23 ex22 ex24 eh21 eh23 ca2 cx21 cx23 j21 j22 e2a e2b hR2 hS2 hs1 hs2 hT hL hB hQ
  have u0 := hf0 s1
  have u1 := hf1 s1
  have u2 := hf2 s1
  have v0 := hf0 s2
  have v1 := hf1 s2
  have v2 := hf2 s2
  have k0 : U.cell? ⟨bC, 0, none⟩ = some (.int .i64 H) := sc.k.cell (i := 0) (by omega)
  have k1 : U.cell? ⟨bC, 1, none⟩ = some (.int .i64 V) := sc.k.cell (i := 1) (by omega)
  have k4 : U.cell? ⟨bC, 4, none⟩ = some (.int .i64 R) := sc.k.cell (i := 4) (by omega)
  have k5 : U.cell? ⟨bC, 5, none⟩ = some (.int .i64 S) := sc.k.cell (i := 5) (by omega)
  have k6 : U.cell? ⟨bC, 6, none⟩ = some (.int .i64 SY) := sc.k.cell (i := 6) (by omega)
  have k7 : U.cell? ⟨bC, 7, none⟩ = some (.int .i64 SX) := sc.k.cell (i := 7) (by omega)
  have k8 : U.cell? ⟨bC, 8, none⟩ = some (.int .i64 T) := sc.k.cell (i := 8) (by omega)
  have k9 : U.cell? ⟨bC, 9, none⟩ = some (.int .i64 L) := sc.k.cell (i := 9) (by omega)
  have k10 : U.cell? ⟨bC, 10, none⟩ = some (.int .i64 B) := sc.k.cell (i := 10) (by omega)
  have k11 : U.cell? ⟨bC, 11, none⟩ = some (.int .i64 Q) := sc.k.cell (i := 11) (by omega)
  have SC := hid1 sc
  have PR1 := hid1 pr1
  have S1 := hid1 s1
  have PR2 := hid1 pr2
  have R3 := hid1 r3
  have WR1 := hid1 wr1
  have WR2 := hid1 wr2
  clear sc pr1 s1 pr2 s2 r3 wr1 wr2
  go_upto_region 9 with fail
  go_cut [125] from 75 to 125 (fun s125 wx => s125 = .bool false ∧ wx = U)
  case first =>
    as_aux_lemma =>
      go_wp2_with fail
      go_meet
      exact ⟨rfl, rfl⟩
  case rest =>
    obtain ⟨rfl, rfl⟩ := hcut
    rename World => U1
    go_upto_region 11 with fail
    go_cut [221] from 126 to 221 (fun s221 wx => s221 = .bool false ∧ wx = U1)
    case first =>
      as_aux_lemma =>
        go_wp2_with fail
        go_meet
        exact ⟨rfl, rfl⟩
    case rest =>
      obtain ⟨rfl, rfl⟩ := hcut
      rename World => U2
      go_wp2_with fail
      have HSZ := hid1 (Below.refl U2.heap.size U2)
      go_loopw [23] (fun j wr => ∃ p : Nat, p ≤ P ∧ j = .int .i64 p ∧ Below U2.heap.size U2 wr) (fun j _ => P - (intOf j).toNat)
      case atStart => exact ⟨0, Nat.zero_le _, rfl, HSZ.out⟩
      case round =>
        rename World => Z9
        clear u0 u1 u2 v0 v1 v2 k0 k1 k4 k5 k6 k7 k8 k9 k10 k11 HSZ
        obtain ⟨p, hp, rfl, BZ⟩ := hrel
        have p0 : (0 : Int) ≤ (p : Int) := by omega
        by_cases hpl : p < P
        · have pp : (p : Int) < (P : Int) := by omega
          as_aux_lemma =>
            obtain ⟨yy, eyy⟩ : ∃ y, p / Bq = y := ⟨_, rfl⟩
            obtain ⟨xx, exx⟩ : ∃ y, p % Bq = y := ⟨_, rfl⟩
            have hyy : yy < A := by rw [← eyy]; exact Nat.div_lt_of_lt_mul (by rw [Nat.mul_comm, EP.out]; exact hpl)
            have hxx : xx < Bq := by rw [← exx]; exact Nat.mod_lt _ (by omega)
            have idv : (p : Int) / (Bq : Int) = (yy : Int) := by rw [← eyy]; simp
            have idt : (p : Int).tdiv (Bq : Int) = (yy : Int) := by rw [Int.tdiv_eq_ediv_of_nonneg (by omega)]; exact idv
            have imo : (p : Int) % (Bq : Int) = (xx : Int) := by rw [← exx]; simp
            have imt : (p : Int).tmod (Bq : Int) = (xx : Int) := by rw [Int.tmod_eq_emod_of_nonneg (by omega)]; exact imo
            have wyy : IntKind.i64.wrap (yy : Int) = (yy : Int) := by rw [IntKind.wrap_i64]; omega
            have wxx : IntKind.i64.wrap (xx : Int) = (xx : Int) := by rw [IntKind.wrap_i64]; omega
            have nB3 : ¬ (Bq : Int) = 0 := by omega
            obtain ⟨y0, ey0⟩ : ∃ y0 : Int, y0 = (yy : Int) * SY - T := ⟨_, rfl⟩
            obtain ⟨x0, ex0⟩ : ∃ x0 : Int, x0 = (xx : Int) * SX - L := ⟨_, rfl⟩
            have sc := SC.out.below BZ
            obtain ⟨A1, K1, A2, K2, ⟨a0, a1, a2, a3⟩, w1, w2⟩ := (PR1.out.below BZ) p hpl
            obtain ⟨A3, K3, A4, K4, ⟨a4, a5, a6, a7⟩, w3, w4⟩ := (PR2.out.below BZ) p hpl
            have es : ∀ z, seS H V C N S R SY SX T L Bq z p = js (64 * nw C) (plP H V (nw C) N y0 x0 S z) (R * S) := fun z => by unfold seS; rw [eyy, exx, ey0, ex0]
            have em : ∀ z, seM H V C S R SY SX T L Bq z p = js (64 * nw C) (mkP H V C y0 x0 S z) (R * S) := fun z => by unfold seM; rw [eyy, exx, ey0, ex0]
            rw [es] at w1 w3
            rw [em] at w2 w4
            have hub : ∀ i, i < un → -1 ≤ ia u i ∧ ia u i ≤ 1 := fun i hi => by have := HPM.out i (by rw [EUN.out]; exact hi); omega
            have hxb : ∀ i, i < xn → -1 ≤ ia x i ∧ ia x i ≤ 1 := fun i hi => HWB.out i (by rw [EXN.out]; exact hi)
            have HSUM := hid1 (fun W r1 r2 => csum_any H V C (some ⟨gu, 0, none⟩) u un uc R S SY SX T L B Q D (some ⟨gx, 0, none⟩) x xn xc yy xx W CN.out (by omega) (by omega) EUN.out.symm HUL.out EXN.out.symm HXL.out r1 r2 hub hxb hD y0 x0 ey0 ex0)
            have HSA := hid1 (fun W r1 r2 q1 q2 => someC CN.out.hC hRS.2 EM.out u x HPM.out HWB.out EN.out D hD xs xm HXS.out HXM.out y0 x0 G1 M G2 M A1 K1 A2 K2 W r1 r2 q1 q2)
            have HSB := hid1 (fun W r1 r2 q1 q2 => someC CN.out.hC hRS.2 EM.out u x HPM.out HWB.out EN.out 0 (by omega) 0 0 (by simp) (by simp) y0 x0 G1 M G2 M A3 K3 A4 K4 W r1 r2 q1 q2)
            have HLO := hid1 (fun W r1 r2 q1 q2 => lostC CN.out.hC hRS.2 EM.out u x HPM.out HWB.out EN.out D y0 x0 G1 M G2 M A3 K3 A4 K4 W r1 r2 q1 q2)
            obtain ⟨want, ewant⟩ : ∃ z, cvS H V C u x D y0 x0 R S = z := ⟨_, rfl⟩
            obtain ⟨w0, ew0⟩ : ∃ z, cvS H V C u x 0 y0 x0 R S = z := ⟨_, rfl⟩
            have bw := cv_bd (y0 := y0) (x0 := x0) (by omega) hRS.2 (fun i hi => hub i (by rw [← EUN.out]; exact hi)) HWB.out hD
            have b0w := cv_bd (bd := 0) (y0 := y0) (x0 := x0) (by omega) hRS.2 (fun i hi => hub i (by rw [← EUN.out]; exact hi)) HWB.out (by omega)
            rw [ewant] at HSUM HSA HLO bw
            rw [ew0] at HSB HLO b0w
            have d1 := hf1 (keepr BZ S1.out)
            have SC9 := hid1 sc
            have R9 := hid1 (keepr BZ R3.out)
            have X1 := hid1 (WR1.out.below BZ)
            have X2 := hid1 (WR2.out.below BZ)
            have Q1 := hid1 w1
            have Q2 := hid1 w2
            have Q3 := hid1 w3
            have Q4 := hid1 w4
            have HBZ := hid1 BZ
            obtain ⟨M64, e64⟩ : ∃ z : Int, ((64 * M : Nat) : Int) = z := ⟨_, rfl⟩
            rw [e64] at a0 a2 a4 a6 HSA HSB HLO R9
            clear sc w1 w2 w3 w4 es em hub hxb ewant ew0 eyy exx ey0 ex0 BZ e64
            go_upto_region 16 with fail
            refine still_tail 9 (by kernel_rfl) ?_
            simp only [List.take_succ_cons, List.take_zero, List.drop_succ_cons, List.drop_zero]
            refine still_load_mid rfl 29 _ rfl bC 0 (by go_simp) (kN H V C (some ⟨gu, 0, none⟩) un uc R S SY SX T L B Q D (some ⟨gx, 0, none⟩) xn xc).ls _ (ks_range SC9.out.k.drew) Try.underlying29 rfl info_ks ?_
            repeat still_step
            refine wpStill_nil ?_
            go_wp2_with fail
            refine (HSUM.out _ (r8_below SC9.out.ru (Below.refl _ _).drew) (r8_below SC9.out.rx (Below.refl _ _).drew)).mono ?_
            rintro e zA ⟨rfl, hb⟩
            have bb1 : Below Z9.heap.size Z9 zA := bl_step (Below.refl _ _).drew hb
            replace SC9 := hid1 (SC9.out.below bb1)
            replace R9 := hid1 (keepr bb1 R9.out)
            replace X1 := hid1 (X1.out.below bb1)
            replace X2 := hid1 (X2.out.below bb1)
            replace Q1 := hid1 (Q1.out.below bb1)
            replace Q2 := hid1 (Q2.out.below bb1)
            replace Q3 := hid1 (Q3.out.below bb1)
            replace Q4 := hid1 (Q4.out.below bb1)
            replace HBZ := hid1 (bl_step HBZ.out bb1)
            replace a0 := keepc bb1 a0
            replace a1 := keepc bb1 a1
            replace a2 := keepc bb1 a2
            replace a3 := keepc bb1 a3
            replace a4 := keepc bb1 a4
            replace a5 := keepc bb1 a5
            replace a6 := keepc bb1 a6
            replace a7 := keepc bb1 a7
            clear hb bb1 d1 HSUM
            have r0 := q0 R9.out
            have r1 := q1 R9.out
            have r2 := q2 R9.out
            have r3 := q3 R9.out
            have HC8 := hid1 (And.intro (And.intro r0 (And.intro r1 (And.intro r2 r3))) (And.intro a0 (And.intro a1 (And.intro a2 a3))))
            go_upto_region 17 with fail
            go_region_held3 (fun X => (X.cell? ⟨b3, 0, none⟩ = some (.int .i64 M64) ∧ X.cell? ⟨b3, 1, none⟩ = some (.slice (some ⟨G1, 0, none⟩) M M) ∧ X.cell? ⟨b3, 2, none⟩ = some (.int .i64 M64) ∧ X.cell? ⟨b3, 3, none⟩ = some (.slice (some ⟨G2, 0, none⟩) M M)) ∧ X.cell? ⟨g1, p * 4, none⟩ = some (.int .i64 M64) ∧ X.cell? ⟨g1, p * 4 + 1, none⟩ = some (.slice (some ⟨A1, 0, none⟩) M K1) ∧ X.cell? ⟨g1, p * 4 + 2, none⟩ = some (.int .i64 M64) ∧ X.cell? ⟨g1, p * 4 + 3, none⟩ = some (.slice (some ⟨A2, 0, none⟩) M K2))
              (((try dsimp only); (with_reducible refine kp8 (W := zA) HC8.out.1 HC8.out.2 ?_); repeat (first | (with_reducible exact Below.refl _ _) | (with_reducible assumption) | (with_reducible refine Below.drew ?_))))
              ((go_at_call 18; refine (HSA.out _ (X1.out.below (Below.refl _ _).drew) (X2.out.below (Below.refl _ _).drew) (Q1.out.below (Below.refl _ _).drew) (Q2.out.below (Below.refl _ _).drew)).mono ?_; rintro e zB ⟨rfl, hb⟩; have bb1 : Below zA.heap.size zA zB := bl_step (Below.refl _ _).drew hb; clear hb))
            replace SC9 := hid1 (SC9.out.below bb1)
            replace R9 := hid1 (keepr bb1 R9.out)
            replace X1 := hid1 (X1.out.below bb1)
            replace X2 := hid1 (X2.out.below bb1)
            replace Q1 := hid1 (Q1.out.below bb1)
            replace Q2 := hid1 (Q2.out.below bb1)
            replace Q3 := hid1 (Q3.out.below bb1)
            replace Q4 := hid1 (Q4.out.below bb1)
            replace HBZ := hid1 (bl_step HBZ.out bb1)
            replace a4 := keepc bb1 a4
            replace a5 := keepc bb1 a5
            replace a6 := keepc bb1 a6
            replace a7 := keepc bb1 a7
            clear bb1 r0 r1 r2 r3 HC8
            have r0 := q0 R9.out
            have r1 := q1 R9.out
            have r2 := q2 R9.out
            have r3 := q3 R9.out
            have HC8 := hid1 (And.intro (And.intro r0 (And.intro r1 (And.intro r2 r3))) (And.intro a4 (And.intro a5 (And.intro a6 a7))))
            go_upto_region 18 with fail
            go_region_held3 (fun X => (X.cell? ⟨b3, 0, none⟩ = some (.int .i64 M64) ∧ X.cell? ⟨b3, 1, none⟩ = some (.slice (some ⟨G1, 0, none⟩) M M) ∧ X.cell? ⟨b3, 2, none⟩ = some (.int .i64 M64) ∧ X.cell? ⟨b3, 3, none⟩ = some (.slice (some ⟨G2, 0, none⟩) M M)) ∧ X.cell? ⟨g2, p * 4, none⟩ = some (.int .i64 M64) ∧ X.cell? ⟨g2, p * 4 + 1, none⟩ = some (.slice (some ⟨A3, 0, none⟩) M K3) ∧ X.cell? ⟨g2, p * 4 + 2, none⟩ = some (.int .i64 M64) ∧ X.cell? ⟨g2, p * 4 + 3, none⟩ = some (.slice (some ⟨A4, 0, none⟩) M K4))
              (((try dsimp only); (with_reducible refine kp8 (W := zB) HC8.out.1 HC8.out.2 ?_); repeat (first | (with_reducible exact Below.refl _ _) | (with_reducible assumption) | (with_reducible refine Below.drew ?_))))
              ((go_at_call 18; refine (HSB.out _ (X1.out.below (Below.refl _ _).drew) (X2.out.below (Below.refl _ _).drew) (Q3.out.below (Below.refl _ _).drew) (Q4.out.below (Below.refl _ _).drew)).mono ?_; rintro e zC ⟨rfl, hb⟩; have bb1 : Below zB.heap.size zB zC := bl_step (Below.refl _ _).drew hb; clear hb))
            replace SC9 := hid1 (SC9.out.below bb1)
            replace R9 := hid1 (keepr bb1 R9.out)
            replace X1 := hid1 (X1.out.below bb1)
            replace X2 := hid1 (X2.out.below bb1)
            replace Q1 := hid1 (Q1.out.below bb1)
            replace Q2 := hid1 (Q2.out.below bb1)
            replace Q3 := hid1 (Q3.out.below bb1)
            replace Q4 := hid1 (Q4.out.below bb1)
            replace HBZ := hid1 (bl_step HBZ.out bb1)
            replace a4 := keepc bb1 a4
            replace a5 := keepc bb1 a5
            replace a6 := keepc bb1 a6
            replace a7 := keepc bb1 a7
            clear bb1 r0 r1 r2 r3 HC8
            have r0 := q0 R9.out
            have r1 := q1 R9.out
            have r2 := q2 R9.out
            have r3 := q3 R9.out
            have HC8 := hid1 (And.intro (And.intro r0 (And.intro r1 (And.intro r2 r3))) (And.intro a4 (And.intro a5 (And.intro a6 a7))))
            go_upto_region 19 with fail
            go_region_held3 (fun X => (X.cell? ⟨b3, 0, none⟩ = some (.int .i64 M64) ∧ X.cell? ⟨b3, 1, none⟩ = some (.slice (some ⟨G1, 0, none⟩) M M) ∧ X.cell? ⟨b3, 2, none⟩ = some (.int .i64 M64) ∧ X.cell? ⟨b3, 3, none⟩ = some (.slice (some ⟨G2, 0, none⟩) M M)) ∧ X.cell? ⟨g2, p * 4, none⟩ = some (.int .i64 M64) ∧ X.cell? ⟨g2, p * 4 + 1, none⟩ = some (.slice (some ⟨A3, 0, none⟩) M K3) ∧ X.cell? ⟨g2, p * 4 + 2, none⟩ = some (.int .i64 M64) ∧ X.cell? ⟨g2, p * 4 + 3, none⟩ = some (.slice (some ⟨A4, 0, none⟩) M K4))
              (((try dsimp only); (with_reducible refine kp8 (W := zC) HC8.out.1 HC8.out.2 ?_); repeat (first | (with_reducible exact Below.refl _ _) | (with_reducible assumption) | (with_reducible refine Below.drew ?_))))
              ((go_at_call 19; refine (HLO.out _ (X1.out.below (Below.refl _ _).drew) (X2.out.below (Below.refl _ _).drew) (Q3.out.below (Below.refl _ _).drew) (Q4.out.below (Below.refl _ _).drew)).mono ?_; rintro e zD ⟨nl, rfl, bnl, hsum, hb⟩; have bb1 : Below zC.heap.size zC zD := bl_step (Below.refl _ _).drew hb; clear hb))
            replace SC9 := hid1 (SC9.out.below bb1)
            replace R9 := hid1 (keepr bb1 R9.out)
            replace X1 := hid1 (X1.out.below bb1)
            replace X2 := hid1 (X2.out.below bb1)
            replace Q1 := hid1 (Q1.out.below bb1)
            replace Q2 := hid1 (Q2.out.below bb1)
            replace Q3 := hid1 (Q3.out.below bb1)
            replace Q4 := hid1 (Q4.out.below bb1)
            replace HBZ := hid1 (bl_step HBZ.out bb1)
            clear bb1 r0 r1 r2 r3 HC8
            have kd : zD.cell? ⟨bC, 12, none⟩ = some (.int .i64 D) := SC9.out.k.cell (i := 12) (by omega)
            obtain ⟨dn, edn⟩ : ∃ z, D * nl = z := ⟨_, rfl⟩
            rw [edn] at hsum
            have bdn : -20000 ≤ dn ∧ dn ≤ 20000 := by
              have h1 : D = -1 ∨ D = 0 ∨ D = 1 := by omega
              rw [← edn]
              rcases h1 with h | h | h <;> rw [h] <;> omega
            have wd1 : IntKind.i64.wrap (D * nl) = dn := by rw [edn, IntKind.wrap_i64]; omega
            have wd2 : IntKind.i64.wrap (w0 + dn) = want := by rw [hsum, IntKind.wrap_i64]; omega
            clear edn hsum
            go_wp2_with fail
            exact ⟨⟨p + 1, by omega, by go_num, HBZ.out⟩, by simp [intOf]; omega⟩
        · obtain rfl : p = P := by omega
          go_wp2_with fail
          go_ret
          exact ⟨rfl, bl_step SC.out.o BZ⟩
end Go.Proofs.Ytlilldgconlchaa
namespace Go.Proofs.Ytlilldgconlchaa
open Go.ChangeShapes Go.WideShapes Go.ChangeAt Go.RowKit

set_option maxRecDepth 100000 in
theorem patchCounts_lifted (os : Os) (started : os.Started) (H : Type) (enc : TypeId × Value → H) :
    ReturnsInHanded {} Try.checked os 4 .any (Rows.patchCountsSpec.pre6 enc Try.prog Try.f4 Rows.patchCountsRow.domain false) (Rows.patchCountsSpec.post enc Try.prog Try.f4 false true false false) := by
  refine returnsInHanded_of_change_sized (C := Try.checked) own started (by kernel_rfl) Try.func4
    (ChangeSpec.witness6 (enc := enc) (C := Try.checked) false ⟨#[], #[.agg #[.int .i64 0, .int .i64 0, .int .i64 0], .agg #[.int .i64 0, .int .i64 0, .int .i64 0, .int .i64 0, .int .i64 0, .int .i64 0, .int .i64 0, .int .i64 0], .int .i64 0, .slice none 0 0, .slice none 0 0], []⟩ 8 (by kernel_rfl) (by kernel_rfl) (by kernel_rfl) (by kernel_rfl)) ?_
  intro W base args ds gs before hval0 hW hcnd hsz _
  have hval : ∀ (j : Nat) t v, Try.f4.params[j]? = some t → args[j]? = some v → Value.okWide Try.prog W .any base t v := hval0
  have hW' := hW
  obtain ⟨p, q, hA0, hV, rfl, hfz, hnd⟩ := hW
  have hA : DataW.TrodAll enc Try.prog W 0 (fun _ => true) true Try.f4.params.toList args.toList ds p := hA0
  rw [Try.params4] at hA hval hsz
  obtain ⟨v0, vs0, d0, ds0, p0, q0, hargs, rfl, rfl, h0, r0⟩ := trodAll_cons hA
  obtain ⟨v1, vs1, d1, ds1, p1, q1, rfl, rfl, rfl, h1, r1⟩ := trodAll_cons r0
  obtain ⟨v2, vs2, d2, ds2, p2, q2, rfl, rfl, rfl, h2, r2⟩ := trodAll_cons r1
  obtain ⟨v3, vs3, d3, ds3, p3, q3, rfl, rfl, rfl, h3, r3⟩ := trodAll_cons r2
  obtain ⟨v4, vs4, d4, ds4, p4, q4, rfl, rfl, rfl, h4, r4⟩ := trodAll_cons r3
  obtain ⟨rfl, rfl, rfl⟩ := trodAll_nil r4
  obtain rfl : args = #[v0, v1, v2, v3, v4] := by cases args; simp_all
  obtain ⟨rfl, rfl⟩ := trodVars_none hV
  have lt0 : ∀ x ∈ p0, x.block < W.heap.size := by obtain ⟨m, hm⟩ := h0; exact DataW.trod_lt m _ _ _ hm
  have k0 := h0
  have lt1 : ∀ x ∈ p1, x.block < W.heap.size := by obtain ⟨m, hm⟩ := h1; exact DataW.trod_lt m _ _ _ hm
  have k1 := h1
  have lt2 : ∀ x ∈ p2, x.block < W.heap.size := by obtain ⟨m, hm⟩ := h2; exact DataW.trod_lt m _ _ _ hm
  have k2 := h2
  have lt3 : ∀ x ∈ p3, x.block < W.heap.size := by obtain ⟨m, hm⟩ := h3; exact DataW.trod_lt m _ _ _ hm
  have k3 := h3
  have lt4 : ∀ x ∈ p4, x.block < W.heap.size := by obtain ⟨m, hm⟩ := h4; exact DataW.trod_lt m _ _ _ hm
  have k4 := h4
  obtain ⟨a0, b0, d0', rfl⟩ := open_shape (hval 0 23 v0 rfl rfl) h0
  obtain ⟨wa1, wb1, wc1, wd1, we1, wf1, wg1, wh1, rfl⟩ := open_win (hval 1 25 v1 rfl rfl) h1
  obtain ⟨x2, rfl, rfl, rfl, w2⟩ := open_int Try.underlying3 (hval 2 3 v2 rfl rfl) h2
  obtain ⟨ao3, l3, c3, rfl, hl3, hn3, rr3, hd3⟩ := open_i8 (hval 3 26 v3 rfl rfl) h3
  have hc3 : c3 ≤ 140737488351232 := by
    rcases hd3 with ⟨_, h0⟩ | ⟨es, sp, h0, h1⟩
    · omega
    · have hs : (es.length + sp.length) * Try.prog.bytesOf 69 ≤ reachBytes := sized_slice hsz (j := 3) (t := 26) (e := 69) (elems := es) (spare := sp) rfl (by rw [h0]; rfl) und_i8s
      rw [bytes_i8, Nat.mul_one, h1] at hs
      have := reach_is
      omega
  obtain ⟨ao4, l4, c4, rfl, hl4, hn4, rr4, hd4⟩ := open_i8 (hval 4 26 v4 rfl rfl) h4
  have hc4 : c4 ≤ 140737488351232 := by
    rcases hd4 with ⟨_, h0⟩ | ⟨es, sp, h0, h1⟩
    · omega
    · have hs : (es.length + sp.length) * Try.prog.bytesOf 69 ≤ reachBytes := sized_slice hsz (j := 4) (t := 26) (e := 69) (elems := es) (spare := sp) rfl (by rw [h0]; rfl) und_i8s
      rw [bytes_i8, Nat.mul_one, h1] at hs
      have := reach_is
      omega
  clear hA0 hval0
  refine (patchCounts_any a0 b0 d0' wa1 wb1 wc1 wd1 we1 wf1 wg1 wh1 x2 ao3 l3 _ c3 rfl ao4 l4 _ c4 rfl W (by omega) (by omega) rr3 rr4).mono fun e W' ⟨he, bel⟩ => ?_
  subst he
  exact ⟨_, rfl, _, _, _, [], _, [], hW', trodAll_mk1 (shut_bool Try.underlying4 _), (trodAll_cons_mk (Below.trod laidOut (by kernel_rfl) (of_decide_eq_true (by kernel_rfl)) k0 bel lt0) (trodAll_cons_mk (Below.trod laidOut (by kernel_rfl) (of_decide_eq_true (by kernel_rfl)) k1 bel lt1) (trodAll_cons_mk (Below.trod laidOut (by kernel_rfl) (of_decide_eq_true (by kernel_rfl)) k2 bel lt2) (trodAll_cons_mk (Below.trod laidOut (by kernel_rfl) (of_decide_eq_true (by kernel_rfl)) k3 bel lt3) (trodAll_cons_mk (Below.trod laidOut (by kernel_rfl) (of_decide_eq_true (by kernel_rfl)) k4 bel lt4) trodAll_mk0))))), rfl, bel.frame _, fun h => by cases h⟩

theorem patchCounts_holds : Rows.PatchCountsSaid :=
  OpenClaim.holds_of_wide 4 Try.f4 rfl rfl rfl rfl rfl rfl rfl ⟨rfl, rfl, rfl, rfl, rfl⟩ rfl rfl rfl rfl rfl (by kernel_rfl) Try.func4 (by kernel_rfl)
    (of_decide_eq_true (by kernel_rfl)) (by unfold Func.isWrapper; first | (rw [if_pos (by decide +kernel)]; kernel_rfl) | (rw [if_neg (by decide +kernel)]; exact ⟨rfl, rfl⟩))
    (fun os started H enc _ => patchCounts_lifted os started H enc)
#print axioms patchCounts_holds
end Go.Proofs.Ytlilldgconlchaa
