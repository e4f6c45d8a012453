/- NETBIG, WALKED. -/
import Derived.Test.YtfljnpeidadpjaaNG4
namespace Go.Proofs.Ytfljnpeidadpjaa
open Go.RowKit

set_option maxHeartbeats 3200000 in
set_option maxRecDepth 100000 in
theorem netBig_walk (n : Int) (w : World) : Calls Try.prog 3 #[.int .i64 n] w fun e w' => e = .returned (.bool true) ∧ Below w.heap.size w w' := by
  obtain ⟨i0, hi, hz0, hz1, hz2⟩ := info_parts info_norm
  by_cases hn : n.tmod 50 = 0
  · have hn2 : (n.tmod 50 != 0) = false := by simp [hn]
    clear hn
    go_enter Try.func3, Try.ntmps3
    go_wp2_with fail
    refine (nbegun_any w).mono ?_
    rintro e w1 ⟨rfl, B1⟩
    obtain ⟨b1, hb1⟩ : ∃ b, w1.heap.size = b := ⟨_, rfl⟩
    go_upto_region 6 with fail
    refine gen_world (fun X => Below w.heap.size w X ∧ X.heap[b1]? = some (.cells #[.int .i64 1, .int .i64 1] 24) ∧ X.heap.size = b1 + 1) ⟨by repeat (first | (with_reducible exact Below.refl _ _) | (with_reducible refine bl_alloc ?_ _) | (with_reducible refine Below.drew ?_) | (with_reducible refine bl_drewN ?_ _) | (with_reducible refine bl_set ?_ (by omega) _) | (with_reducible refine bl_step ?_ (by assumption))), new_at hb1 _, by simp [hb1]⟩ ?_
    have hbw : w.heap.size ≤ b1 := by rw [← hb1]; exact B1.size
    clear B1 hb1
    rintro X ⟨BX, EX, zX⟩
    obtain ⟨w2, mk, BY, RY, zY⟩ := make_i8 16773120 (by decide) X (b1 + 1) zX
    have KE := hid1 (keepb BY EX)
    have KA := hid1 RY
    have B2 := bl_step BX BY
    have mk' : (Instr.makeSlice 25 (.int .i64 16773120) (.int .i64 16773120)).run Try.prog X = .ok (.slice (some ⟨b1 + 1, 0, none⟩) 16773120 16773120) w2 := mk
    clear mk BX EX zX BY RY w1
    go_upto_region 8 with fail
    refine gen_world (fun Z => Below w.heap.size w Z ∧ Z.heap[b1]? = some (.cells #[.int .i64 1, .int .i64 1] 24) ∧ Z.rowIs (b1 + 1) 54 16773120 (fun _ => .int .i8 0) ∧ Z.rowIs (b1 + 2) 31 15 (laf (bgK (b1 + 1) none 0 0)) ∧ Z.heap.size = b1 + 3) ⟨by repeat (first | (with_reducible exact Below.refl _ _) | (with_reducible refine bl_alloc ?_ _) | (with_reducible refine Below.drew ?_) | (with_reducible refine bl_drewN ?_ _) | (with_reducible refine bl_set ?_ (by omega) _) | (with_reducible refine bl_step ?_ (by assumption))), old_at KE.out _, KA.out.alloc _, laf_new zY (bgK (b1 + 1) none 0 0) _, by simp [zY]⟩ ?_
    clear KE KA B2 zY mk' X w2
    rintro Z ⟨BZ, EZ, AZ, LZ, zZ⟩
    have K1 := hid1 BZ
    have K2 := hid1 EZ
    have K3 := hid1 AZ
    have K4 := hid1 LZ
    clear BZ EZ AZ LZ
    go_loopw [5] (fun i wr => ∃ k : Nat, k ≤ 4095 ∧ i = .int .i64 k ∧ Hid (∃ ao cap, wr.ownsRow (b1 + 3) 33 8 (.slice ao k cap) k (oneL k) ∧ wr.rowIs (b1 + 2) 31 15 (laf (bgK (b1 + 1) ao k cap))) ∧ Hid (Below (b1 + 2) Z wr) ∧ b1 + 3 ≤ wr.heap.size) (fun i _ => 4095 - (intOf i).toNat)
    case atStart => exact ⟨0, by decide, rfl, hid1 ⟨none, 0, World.ownsRow_nil _ _ _ _, K4.out⟩, hid1 (Below.refl _ _), by omega⟩
    case round =>
      obtain ⟨k, hk, rfl, HR, HB, hz⟩ := hrel
      obtain ⟨ao, cap, hown, RL⟩ := HR.out
      have HO := hid1 hown
      have HL := hid1 RL
      clear HR hown
      have c13 : wr.cell? ⟨b1 + 2, 13, none⟩ = some (.slice ao k cap) := RL.cell (i := 13) (by decide)
      have hone := (HB.out.block b1 (by omega)).trans K2.out
      have p0 := bcl hone (j := 0) rfl
      have p1 := bcl hone (j := 1) rfl
      have ik0 : (0 : Int) ≤ (k : Int) := by omega
      clear RL hone
      by_cases hlt : k < 4095
      · have ik : (k : Int) < 4095 := by omega
        obtain ⟨gz, hgz⟩ : ∃ x, wr.heap.size = x := ⟨_, rfl⟩
        go_wp2_with ((at_builtin; refine wpList_append_lies _ rfl _ _ 28 rfl (b1 + 3) 33 i0 zNo 8 64 und_norms hi hz0 hz1 hz2 rfl (by decide) (.slice ao k cap) k (oneL k) (by go_simp) (HO.out.alloc _) ⟨gz, 0, none⟩ 1 1 ones8 (by go_simp) rfl (news8 hgz _) ones_one (by decide) (by unfold maxLen; omega) (by omega) (by simp; omega) (gz + 1) (by simp [hgz]) ?_; intro g1 cap1 w3 hown1 hgrow hat hlt1; have rl3 := (HL.out.alloc (.cells #[.int .i64 1, .int .i64 1, .int .i64 1, .int .i64 1, .int .i64 1, .int .i64 1, .int .i64 1, .int .i64 1] 33)).of_block (hgrow.block (b1 + 2) (by simp; omega) (fun h => by have := (HO.out.lt _ h.symm).1; omega)); have d13 : w3.cell? ⟨b1 + 1 + 1, 13, none⟩ = some (.slice ao k cap) := rl3.cell (i := 13) (by decide); have f13 : w3.frozen? ⟨b1 + 1 + 1, 13, none⟩ = false := rl3.frozen 13))
        have hB3 : Below (b1 + 2) Z w3 := ((HB.out.alloc (by omega) _).grown hgrow (by simp; omega) (fun k h => by have := (HO.out.lt _ h).1; omega))
        have hs3 := hgrow.size
        refine ⟨⟨k + 1, by omega, by go_num, hid1 ⟨some ⟨g1, 0, none⟩, cap1, ownsRow_setCell_below (oneL_succ k ▸ hown1) (by show b1 + 2 < b1 + 3; omega) _, laf_norms rl3⟩, hid1 (hB3.setCell (Nat.le_refl _) _), ?_⟩, by simp [intOf]; omega⟩
        simp at hs3 ⊢
        omega
      · have : k = 4095 := by omega
        subst this
        obtain ⟨gn, rfl⟩ := own_some HO.out (by decide)
        have KA := hid1 (bgA_lst (K3.out.of_block (HB.out.block _ (by omega))) HO.out)
        have KL := hid1 (show wr.rowIs (b1 + 2) 31 15 (laf (bgA (b1 + 1) gn cap)) from HL.out)
        have HW := hid1 (K1.out.trans (HB.out.mono (by omega)))
        obtain ⟨g2, hg2⟩ : ∃ x, wr.heap.size = x := ⟨_, rfl⟩
        obtain ⟨w4, mk, B4, R4, z4⟩ := make_i8 4095 (by decide) wr g2 hg2
        have mk' : (Instr.makeSlice 25 (.int .i64 4095) (.int .i64 4095)).run Try.prog wr = .ok (.slice (some ⟨g2, 0, none⟩) 4095 4095) w4 := mk
        clear mk HO HL HB K1 K2 K3 K4 c13 p0 p1
        go_upto_region 12 with fail
        refine gen_world (fun X => Below wr.heap.size wr X ∧ X.rowIs g2 54 4095 (fun _ => .int .i8 0) ∧ X.rowIs (g2 + 1) 2 1 (fun _ => .int .i64 0) ∧ X.rowIs (g2 + 2) 31 15 (laf (bgB 1 g2 4095 (g2 + 1) 1)) ∧ X.heap.size = g2 + 3) ⟨by repeat (first | (with_reducible exact Below.refl _ _) | (with_reducible refine bl_alloc ?_ _) | (with_reducible refine Below.drew ?_) | (with_reducible refine bl_drewN ?_ _) | (with_reducible refine bl_set ?_ (by omega) _) | (with_reducible refine bl_step ?_ (by assumption))), (R4.alloc _).alloc _, (zero_row z4 1 #[.int .i64 0] _ rfl (fun i hi => by have h0 : i = 0 := (by omega); subst h0; rfl)).alloc _, laf_new (by simp [z4]) (bgB 1 g2 4095 (g2 + 1) 1) _, by simp [z4]⟩ ?_
        clear mk' B4 R4 z4 w4
        rintro X ⟨BX, RW, RB, LB, zX⟩
        have KW := hid1 RW
        have KB := hid1 RB
        have KY := hid1 LB
        have LA1 : Lp X (b1 + 1 + 1) (bgA (b1 + 1) gn cap) := laf_lp (rowIs_keep KL.out BX)
        have LB1 : Lp X (g2 + 1 + 1) (bgB 1 g2 4095 (g2 + 1) 1) := laf_lp LB
        clear RW RB LB
        obtain ⟨a0, a1, a2, a3, a4, a5, a6, a7, a8, a9, a10, a11, a12, a13, a14⟩ := LA1
        obtain ⟨d0, d1, d2, d3, d4, d5, d6, d7, d8, d9, d10, d11, d12, d13, d14⟩ := LB1
        go_upto_region 13 with fail
        clear a0 a1 a2 a3 a4 a5 a6 a7 a8 a9 a10 a11 a12 a13 a14 d0 d1 d2 d3 d4 d5 d6 d7 d8 d9 d10 d11 d12 d13 d14
        refine gen_world (fun Y => Below wr.heap.size wr Y ∧ Y.rowIs g2 54 4095 (fun _ => .int .i8 0) ∧ Y.rowIs (g2 + 1) 2 1 (fun _ => .int .i64 0) ∧ Y.rowIs (g2 + 2) 31 15 (laf (bgB 1 g2 4095 (g2 + 1) 1)) ∧ Y.heap[g2 + 3]? = some (.cells (row2 (bgA (b1 + 1) gn cap) (bgB 1 g2 4095 (g2 + 1) 1)) 31) ∧ Y.rowIs (g2 + 4) 38 5 (nbf (bgN (g2 + 3) (bgA (b1 + 1) gn cap) (bgB 1 g2 4095 (g2 + 1) 1)))) ⟨by repeat (first | (with_reducible exact Below.refl _ _) | (with_reducible refine bl_alloc ?_ _) | (with_reducible refine Below.drew ?_) | (with_reducible refine bl_drewN ?_ _) | (with_reducible refine bl_set ?_ (by omega) _) | (with_reducible refine bl_step ?_ (by assumption))), (KW.out.alloc _).alloc _, (KB.out.alloc _).alloc _, (KY.out.alloc _).alloc _, old_at (new_at zX _) _, nbf_new (by simp [zX]) (bgN (g2 + 3) (bgA (b1 + 1) gn cap) (bgB 1 g2 4095 (g2 + 1) 1)) _⟩ ?_
        clear BX KW KB KY zX X
        rintro Y ⟨BY, RW, RB, LB, EL, RN⟩
        have KW := hid1 RW
        have KB := hid1 RB
        have KY := hid1 LB
        have KN := hid1 RN
        have CK := ncheck_any (bgN (g2 + 3) (bgA (b1 + 1) gn cap) (bgB 1 g2 4095 (g2 + 1) 1)) Y (bgW EL (KA.out.keep BY) (bgB_lst (by decide) (by decide) RW RB))
        rw [(bg_good _ _ _ _ _ _).1, (bg_good _ _ _ _ _ _).2] at CK
        obtain ⟨n0, n1, n2, n3, n4⟩ := nbf_nb RN
        clear RW RB LB EL RN
        go_wp2_with fail
        refine CK.mono ?_
        rintro e X ⟨rfl, hb⟩
        replace BY := bl_step BY hb
        replace KY := hid1 (rowIs_keep KY.out hb)
        replace KN := hid1 (rowIs_keep KN.out hb)
        clear hb CK n0 n1 n2 n3 n4 KW KB
        have k2 : X.cell? ⟨g2 + 1 + 1, 2, none⟩ = some (.int .i64 1) := KY.out.cell (i := 2) (by decide)
        have f2 : X.frozen? ⟨g2 + 1 + 1, 2, none⟩ = false := KY.out.frozen 2
        go_upto_region 15 with fail
        refine gen_world (fun V => Below wr.heap.size wr V ∧ V.rowIs (g2 + 2) 31 15 (laf (bgB 2 g2 4095 (g2 + 1) 1)) ∧ V.rowIs (g2 + 4) 38 5 (nbf (bgN (g2 + 3) (bgA (b1 + 1) gn cap) (bgB 1 g2 4095 (g2 + 1) 1))) ∧ g2 + 4 < V.heap.size) ⟨by repeat (first | (with_reducible exact Below.refl _ _) | (with_reducible refine bl_alloc ?_ _) | (with_reducible refine Below.drew ?_) | (with_reducible refine bl_drewN ?_ _) | (with_reducible refine bl_set ?_ (by omega) _) | (with_reducible refine bl_step ?_ (by assumption))), laf_k KY.out, KN.out.setOther (by show g2 + 4 ≠ g2 + 1 + 1; omega) _, by have := KN.out.lt; simp; omega⟩ ?_
        clear KY KN BY k2 f2 X Y
        rintro V ⟨BV, LV, NV, zV⟩
        obtain ⟨g3, hg3⟩ : ∃ x, V.heap.size = x := ⟨_, rfl⟩
        obtain ⟨w5, mk, B5, R5, z5⟩ := make_i8 8190 (by decide) V g3 hg3
        have mk' : (Instr.makeSlice 25 (.int .i64 8190) (.int .i64 8190)).run Try.prog V = .ok (.slice (some ⟨g3, 0, none⟩) 8190 8190) w5 := mk
        have KY := hid1 (rowIs_keep LV B5)
        have KN := hid1 (rowIs_keep NV B5)
        have KW := hid1 R5
        have k12 : w5.cell? ⟨g2 + 1 + 1, 12, none⟩ = some (.slice (some ⟨g2, 0, none⟩) 4095 4095) := KY.out.cell (i := 12) (by decide)
        have f12 : w5.frozen? ⟨g2 + 1 + 1, 12, none⟩ = false := KY.out.frozen 12
        clear mk LV NV R5
        go_upto_region 16 with fail
        refine gen_world (fun U => Below wr.heap.size wr U ∧ U.rowIs (g2 + 2) 31 15 (laf (bgB 2 g3 8190 (g2 + 1) 1)) ∧ U.rowIs (g2 + 4) 38 5 (nbf (bgN (g2 + 3) (bgA (b1 + 1) gn cap) (bgB 1 g2 4095 (g2 + 1) 1))) ∧ U.rowIs g3 54 8190 (fun _ => .int .i8 0) ∧ U.heap.size = g3 + 1) ⟨by repeat (first | (with_reducible exact Below.refl _ _) | (with_reducible refine bl_alloc ?_ _) | (with_reducible refine Below.drew ?_) | (with_reducible refine bl_drewN ?_ _) | (with_reducible refine bl_set ?_ (by omega) _) | (with_reducible refine bl_step ?_ (by assumption))), laf_w KY.out, KN.out.setOther (by show g2 + 4 ≠ g2 + 1 + 1; omega) _, KW.out.setOther (by show g3 ≠ g2 + 1 + 1; omega) _, by simp [z5]⟩ ?_
        clear KY KN KW k12 f12 mk' B5 z5 w5 BV
        rintro U ⟨BU, LU, NU, WU, zU⟩
        have KY := hid1 LU
        have KN := hid1 NU
        have KW := hid1 WU
        have k14 : U.cell? ⟨g2 + 1 + 1, 14, none⟩ = some (.slice (some ⟨g2 + 1, 0, none⟩) 1 1) := KY.out.cell (i := 14) (by decide)
        have f14 : U.frozen? ⟨g2 + 1 + 1, 14, none⟩ = false := KY.out.frozen 14
        have hne14 : g2 + 1 + 1 < U.heap.size := by omega
        obtain ⟨g4, hg4⟩ : ∃ x, x = U.heap.size := ⟨_, rfl⟩
        have hg34 : g3 < g4 := by omega
        clear LU NU WU zU
        go_upto_region 17 with fail
        refine gen_world (fun T => Below wr.heap.size wr T ∧ T.rowIs (g2 + 2) 31 15 (laf (bgB 2 g3 8190 g4 2)) ∧ T.rowIs (g2 + 4) 38 5 (nbf (bgN (g2 + 3) (bgA (b1 + 1) gn cap) (bgB 1 g2 4095 (g2 + 1) 1))) ∧ T.rowIs g3 54 8190 (fun _ => .int .i8 0) ∧ T.rowIs g4 2 2 (fun _ => .int .i64 0)) ⟨by repeat (first | (with_reducible exact Below.refl _ _) | (with_reducible refine bl_alloc ?_ _) | (with_reducible refine Below.drew ?_) | (with_reducible refine bl_drewN ?_ _) | (with_reducible refine bl_set ?_ (by omega) _) | (with_reducible refine bl_step ?_ (by assumption))), by rw [hg4]; first | exact laf_b (KY.out.alloc _) | exact (laf_b KY.out).alloc _, by first | exact (KN.out.alloc _).setOther (by show g2 + 4 ≠ g2 + 1 + 1; omega) _ | exact (KN.out.setOther (by show g2 + 4 ≠ g2 + 1 + 1; omega) _).alloc _, by first | exact (KW.out.alloc _).setOther (by show g3 ≠ g2 + 1 + 1; omega) _ | exact (KW.out.setOther (by show g3 ≠ g2 + 1 + 1; omega) _).alloc _, by first | exact (zero_row hg4.symm 2 #[.int .i64 0, .int .i64 0] _ rfl (fun i hi => by have h0 : i = 0 ∨ i = 1 := (by omega); rcases h0 with rfl | rfl <;> rfl)).setOther (by show g4 ≠ g2 + 1 + 1; omega) _ | exact zero_row (by simp [hg4]) 2 #[.int .i64 0, .int .i64 0] _ rfl (fun i hi => by have h0 : i = 0 ∨ i = 1 := (by omega); rcases h0 with rfl | rfl <;> rfl)⟩ ?_
        clear KY KN KW k14 f14 hne14 BU hg4
        rintro T ⟨BT, LT, NT, WT, ZT⟩
        have KN := hid1 NT
        have KW := hid1 WT
        have KZ := hid1 ZT
        have LA1 : Lp T (b1 + 1 + 1) (bgA (b1 + 1) gn cap) := laf_lp (rowIs_keep KL.out BT)
        have LB1 : Lp T (g2 + 1 + 1) (bgB 2 g3 8190 g4 2) := laf_lp LT
        obtain ⟨a0, a1, a2, a3, a4, a5, a6, a7, a8, a9, a10, a11, a12, a13, a14⟩ := LA1
        obtain ⟨d0, d1, d2, d3, d4, d5, d6, d7, d8, d9, d10, d11, d12, d13, d14⟩ := LB1
        have q4 : T.cell? ⟨g2 + 3 + 1, 4, none⟩ = some (.slice (some ⟨g2 + 3, 0, none⟩) 2 2) := KN.out.cell (i := 4) (by decide)
        have fq : T.frozen? ⟨g2 + 3 + 1, 4, none⟩ = false := KN.out.frozen 4
        have hq4 : g2 + 3 + 1 < T.heap.size := KN.out.lt
        obtain ⟨g5, hg5⟩ : ∃ x, x = T.heap.size := ⟨_, rfl⟩
        clear LT NT WT ZT
        go_upto_region 18 with fail
        clear a0 a1 a2 a3 a4 a5 a6 a7 a8 a9 a10 a11 a12 a13 a14 d0 d1 d2 d3 d4 d5 d6 d7 d8 d9 d10 d11 d12 d13 d14
        refine gen_world (fun S => Below wr.heap.size wr S ∧ S.heap[g5]? = some (.cells (row2 (bgA (b1 + 1) gn cap) (bgB 2 g3 8190 g4 2)) 31) ∧ S.rowIs (g2 + 4) 38 5 (nbf (bgN g5 (bgA (b1 + 1) gn cap) (bgB 2 g3 8190 g4 2))) ∧ S.rowIs g3 54 8190 (fun _ => .int .i8 0) ∧ S.rowIs g4 2 2 (fun _ => .int .i64 0)) ⟨by repeat (first | (with_reducible exact Below.refl _ _) | (with_reducible refine bl_alloc ?_ _) | (with_reducible refine Below.drew ?_) | (with_reducible refine bl_drewN ?_ _) | (with_reducible refine bl_set ?_ (by omega) _) | (with_reducible refine bl_step ?_ (by assumption))), by rw [hg5]; exact new_at (W := T.setCell ⟨g2 + 3 + 1, 4, none⟩ (.slice (some ⟨T.heap.size, 0, none⟩) 2 2)) (g := T.heap.size) (by simp) _, by rw [hg5]; first | exact nbf_set (KN.out.alloc _) | exact (nbf_set KN.out).alloc _, by first | exact (KW.out.alloc _).setOther (by show g3 ≠ g2 + 3 + 1; omega) _ | exact (KW.out.setOther (by show g3 ≠ g2 + 3 + 1; omega) _).alloc _, by first | exact (KZ.out.alloc _).setOther (by show g4 ≠ g2 + 3 + 1; omega) _ | exact (KZ.out.setOther (by show g4 ≠ g2 + 3 + 1; omega) _).alloc _⟩ ?_
        clear KN KW KZ q4 fq hq4 BT hg5
        rintro S ⟨BS, ES, NS, WS, ZS⟩
        have CK := ncheck_any (bgN g5 (bgA (b1 + 1) gn cap) (bgB 2 g3 8190 g4 2)) S (bgW ES (KA.out.keep BS) (bgB_lst (by decide) (by decide) WS ZS))
        rw [(bg_bad _ _ _ _ _ _).1, (bg_bad _ _ _ _ _ _).2] at CK
        obtain ⟨n0, n1, n2, n3, n4⟩ := nbf_nb NS
        clear ES NS WS ZS
        go_wp2_with fail
        refine CK.mono ?_
        rintro e R ⟨rfl, hb⟩
        replace BS := bl_step BS hb
        clear hb CK n0 n1 n2 n3 n4
        go_wp2_with fail
        go_ret
        exact ⟨rfl, bl_step HW.out BS⟩
  · have hn2 : (n.tmod 50 != 0) = true := by simp [hn]
    clear hn
    go_enter Try.func3, Try.ntmps3
    go_wp2_with fail
    refine (nbegun_any w).mono ?_
    rintro e w1 ⟨rfl, B1⟩
    go_wp2_with fail
    go_ret
    exact ⟨rfl, B1⟩
end Go.Proofs.Ytfljnpeidadpjaa
