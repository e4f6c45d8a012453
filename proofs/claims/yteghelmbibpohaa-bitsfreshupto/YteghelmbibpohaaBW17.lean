/- BitsBack. -/
import Derived.Test.YteghelmbibpohaaBW13
import Derived.Test.YteghelmbibpohaaBW16
namespace Go.Proofs.Yteghelmbibpohaa
open Go.RowKit

theorem sg_pk {l : List Int} {n k : Nat} (h : k < n) : sg (pk l n) k = if 0 < ia l k then 1 else -1 := by
  unfold sg
  rw [pk_bit]
  by_cases h0 : 0 < ia l k <;> simp [h, h0]
theorem sg_sl (A c n k : Nat) (h : k < n - c) : sg (sl A c n) k = sg A (c + k) := by
  unfold sg
  rw [sl_bit]
  simp [h]

set_option maxHeartbeats 8000000 in
set_option maxRecDepth 100000 in
theorem back_walk (l : List Int) (ct : Int) (ao : Option Addr) (ca : Nat) (w : World) (hct : -9223372036854775808 ≤ ct ∧ ct ≤ 9223372036854775807) (hl : l.length ≤ ca) (hca : ca ≤ 140737488351232)
    (ra : R8 w ao l) :
    Calls Try.prog 5 #[.slice ao l.length ca, .int .i64 ct] w fun e w' => e = .returned (.bool true) ∧ Below w.heap.size w w' := by
  obtain ⟨n, l', hn1, hn2, hn3, ra'⟩ : ∃ n l', n ≤ 5000 ∧ l'.length = n ∧ ((l.length ≤ 5000 ∧ l.length = n) ∨ (5000 < l.length ∧ n = 5000)) ∧ R8 w ao l' := by
    by_cases h : l.length ≤ 5000
    · exact ⟨l.length, l, h, rfl, .inl ⟨h, rfl⟩, ra⟩
    · exact ⟨5000, l.take 5000, by omega, by simp; omega, .inr ⟨by omega, rfl⟩, r8_take ra 5000⟩
  obtain ⟨c, hc1, hc⟩ : ∃ c : Nat, c ≤ n ∧ ((ct < 0 ∧ (-1 - ct) % ((n : Int) + 1) = (c : Int)) ∨ (0 ≤ ct ∧ ct % ((n : Int) + 1) = (c : Int))) := by
    by_cases h : ct < 0
    · have h1 := Int.emod_nonneg (-1 - ct) (show (n : Int) + 1 ≠ 0 by omega)
      have h2 := Int.emod_lt_of_pos (-1 - ct) (show (0 : Int) < (n : Int) + 1 by omega)
      exact ⟨((-1 - ct) % ((n : Int) + 1)).toNat, by omega, .inl ⟨h, by omega⟩⟩
    · have h1 := Int.emod_nonneg ct (show (n : Int) + 1 ≠ 0 by omega)
      have h2 := Int.emod_lt_of_pos ct (show (0 : Int) < (n : Int) + 1 by omega)
      exact ⟨(ct % ((n : Int) + 1)).toNat, by omega, .inr ⟨by omega, by omega⟩⟩
  obtain ⟨ct1, ct2⟩ := hct
  have HA := hid1 ra'
  have HL := hid1 hn2
  have HCC := hid1 hc
  have hb : nw n ≤ 79 := by unfold nw; omega
  have h16 : n ≤ 16777216 := by omega
  have in0 : (0 : Int) ≤ (n : Int) := by omega
  have in1 : (n : Int) ≤ 5000 := by omega
  have HN3 := hid1 hn3
  clear ra ra' hn2 hn3 hc
  go_enter Try.func5, Try.ntmps5
  go_wp2_with fail
  refine (begun_any _).mono ?_
  rintro e w0 ⟨rfl, B0⟩
  go_upto_if 19 with fail
  go_cut [0] (fun s0 wx => s0 = .slice ao n ca ∧ wx = w0)
  case first =>
    rcases HN3.out with ⟨hc, hc2⟩ | ⟨hc, hc2⟩
    · have hc' : ¬ (5000 : Int) < (l.length : Int) := by omega
      go_wp2_with fail
      go_meet
      exact ⟨by first | rfl | rw [hc2], rfl⟩
    · have hc' : (5000 : Int) < (l.length : Int) := by omega
      have hc3 : 5000 ≤ ca := by omega
      obtain ⟨ga, oa, rfl, _⟩ := HA.out 0 (by rw [HL.out]; omega)
      go_wp2_with fail
      go_meet
      exact ⟨by first | rfl | rw [hc2], rfl⟩
  case rest =>
    obtain ⟨rfl, rfl⟩ := hcut
    clear HN3
    go_wp2_with fail
    refine (made_any l' n HL.out ao ca wc h16 (HA.out.below B0)).mono ?_
    rintro e w2 ⟨gA, rfl, _, rA, hbx⟩
    have hA := pk_lt l' n
    have HSG := hid1 (fun k (hk : k < n) => sg_pk (l := l') hk)
    generalize pk l' n = A at *
    have B2 := bl_step B0 hbx
    clear hbx
    go_wp2_with fail
    refine gen_calls (fun W' => Below w.heap.size w W' ∧ W'.rowIs w2.heap.size 27 2 (sf n (some ⟨gA, 0, none⟩) (nw n) (nw n)) ∧ W'.rowIs gA 35 (nw n) (wf A)) ⟨bl_alloc B2 _, row_new _ _ _ _ _ _, rA.alloc _⟩ ?_
    clear B2 rA
    rintro V0 ⟨B2, sA, rA⟩
    refine (check_any n _ (nw n) _ A V0 (by omega) (Rd.row rA (lt_nw hA))).mono ?_
    rintro e w3 ⟨rfl, hbx⟩
    rw [chk_ok h16 hA]
    replace sA := keepr hbx sA
    replace rA := keepr hbx rA
    replace B2 := bl_step B2 hbx
    clear hbx
    have cA0 := sf_len sA
    have cA1 := sf_ws sA
    go_wp2_with fail
    refine (unpack_any n A _ _ w3 h16 hA (Rd.row rA (lt_nw hA))).mono ?_
    rintro e w4 ⟨gs, rfl, _, rs, hbx⟩
    replace sA := keepr hbx sA
    replace rA := keepr hbx rA
    replace B2 := bl_step B2 hbx
    clear hbx cA0 cA1
    go_wp2_with fail
    go_loopw [9] (fun i wr => ∃ k : Nat, k ≤ n ∧ i = .int .i64 k ∧ Below w4.heap.size w4 wr) (fun i _ => n - (intOf i).toNat)
    case atStart => exact ⟨0, Nat.zero_le _, rfl, Below.refl _ _⟩
    case round =>
      obtain ⟨k, hk, rfl, hnx⟩ := hrel
      have ik0 : (0 : Int) ≤ (k : Int) := by omega
      by_cases hlt : k < n
      · have ik : (k : Int) < (n : Int) := by omega
        obtain ⟨ga, oa, rfl, c8⟩ := HA.out k (by rw [HL.out]; omega)
        replace c8 := keepc (bl_step B2 hnx) c8
        have d8 := (keepr hnx rs).cell hlt
        have e1 := HSG.out k hlt
        unfold gf at d8
        rw [e1] at d8
        clear e1
        by_cases h0 : 0 < ia l' k
        · rw [if_pos h0] at d8
          have h0' : ¬ ia l' k ≤ 0 := by omega
          have g1 : decide (0 < ia l' k) = true := by simpa using h0
          have g2 : decide (ia l' k ≤ 0) = false := by simpa using h0
          go_wp2_with fail
          go_quiet (fail)
          go_wp2
          exact ⟨⟨k + 1, by omega, by go_num, bl_drewN hnx _⟩, by simp [intOf]; omega⟩
        · rw [if_neg h0] at d8
          have h0' : ia l' k ≤ 0 := by omega
          have g1 : decide (0 < ia l' k) = false := by simpa using h0
          have g2 : decide (ia l' k ≤ 0) = true := by simpa using h0'
          go_wp2_with fail
          go_quiet (fail)
          go_wp2
          exact ⟨⟨k + 1, by omega, by go_num, bl_drewN hnx _⟩, by simp [intOf]; omega⟩
      · have hkN : k = n := by omega
        subst hkN
        replace sA := keepr hnx sA
        replace rA := keepr hnx rA
        replace rs := keepr hnx rs
        replace B2 := bl_step B2 hnx
        clear hnx hlt hk ik0 HSG
        go_upto_if 86 with fail
        go_cut [1] (fun s1 wx => (∃ x, s1 = .int .i64 x ∧ 0 ≤ x ∧ x ≤ 9223372036854775807 ∧ x % ((k : Int) + 1) = (c : Int)) ∧ wx = wr)
        case first =>
          rcases HCC.out with ⟨q1, q2⟩ | ⟨q1, q2⟩
          · go_wp2_with fail
            go_meet
            exact ⟨⟨_, rfl, by omega, by omega, q2⟩, rfl⟩
          · go_wp2_with fail
            go_meet
            exact ⟨⟨_, rfl, q1, ct2, q2⟩, rfl⟩
        case rest =>
          obtain ⟨⟨x, rfl, x0, x1, hx⟩, rfl⟩ := hcut
          clear HCC
          have cA0 := sf_len sA
          have cA1 := sf_ws sA
          have ik1 : (0 : Int) < (k : Int) + 1 := by omega
          have ik2 : ¬ (k : Int) + 1 = 0 := by omega
          have ic0 : (0 : Int) ≤ (c : Int) := by omega
          have ic1 : (c : Int) ≤ (k : Int) := by omega
          have lA := sA.lt
          obtain ⟨d, hd⟩ : ∃ d, k - c = d := ⟨_, rfl⟩
          have HD := hid1 hd
          have id0 : (0 : Int) ≤ (d : Int) := by omega
          have id1 : (d : Int) ≤ 5000 := by omega
          have hcd : c + d = k := by omega
          have HCD := hid1 hcd
          have h16c : c ≤ 16777216 := by omega
          have h16d : d ≤ 16777216 := by omega
          have hX := sl_lt A 0 c
          rw [Nat.sub_zero] at hX
          have hY := sl_lt A c k
          rw [hd] at hY
          have HJN := hid1 (cut_join hA hc1)
          clear hd hcd
          go_wp2_with fail
          refine gen_calls (fun W' => Below w.heap.size w W' ∧ W'.rowIs gs 24 k (gf A) ∧ W'.rowIs w2.heap.size 27 2 (sf k (some ⟨gA, 0, none⟩) (nw k) (nw k)) ∧ W'.rowIs gA 35 (nw k) (wf A)) ⟨B2, rs, sA, rA⟩ ?_
          clear B2 rs sA cA0 cA1 lA rA
          rintro V1 ⟨B2, rs, sA, rA⟩
          refine (slice_any k A 0 c _ _ V1 h16 hA (Rd.row rA (lt_nw hA)) (by omega) hc1).mono ?_
          rintro e w5 ⟨gX, rfl, _, rX, hbx⟩
          rw [Nat.sub_zero] at rX ⊢
          replace sA := keepr hbx sA
          replace rA := keepr hbx rA
          replace rs := keepr hbx rs
          replace B2 := bl_step B2 hbx
          clear hbx
          have cA0 := sf_len sA
          have cA1 := sf_ws sA
          have lA := sA.lt
          go_wp2_with fail
          refine gen_calls (fun W' => Below w.heap.size w W' ∧ W'.rowIs gs 24 k (gf A) ∧ W'.rowIs w2.heap.size 27 2 (sf k (some ⟨gA, 0, none⟩) (nw k) (nw k)) ∧ W'.rowIs gA 35 (nw k) (wf A) ∧ W'.rowIs w5.heap.size 27 2 (sf c (some ⟨gX, 0, none⟩) (nw c) (nw c)) ∧ W'.rowIs gX 35 (nw c) (wf (sl A 0 c))) ⟨bl_alloc B2 _, rs.alloc _, sA.alloc _, rA.alloc _, row_new _ _ _ _ _ _, rX.alloc _⟩ ?_
          clear B2 rs sA cA0 cA1 lA rA rX
          rintro V2 ⟨B2, rs, sA, rA, sX, rX⟩
          refine (slice_any k A c k _ _ V2 h16 hA (Rd.row rA (lt_nw hA)) hc1 (Nat.le_refl _)).mono ?_
          rintro e w6 ⟨gY, rfl, _, rY, hbx⟩
          rw [HD.out] at rY ⊢
          replace sA := keepr hbx sA
          replace rA := keepr hbx rA
          replace sX := keepr hbx sX
          replace rX := keepr hbx rX
          replace rs := keepr hbx rs
          replace B2 := bl_step B2 hbx
          clear hbx
          have cA0 := sf_len sA
          have cA1 := sf_ws sA
          have lA := sA.lt
          have cX0 := sf_len sX
          have cX1 := sf_ws sX
          have lX := sX.lt
          go_wp2_with fail
          refine gen_calls (fun W' => Below w.heap.size w W' ∧ W'.rowIs gs 24 k (gf A) ∧ W'.rowIs w2.heap.size 27 2 (sf k (some ⟨gA, 0, none⟩) (nw k) (nw k)) ∧ W'.rowIs gA 35 (nw k) (wf A) ∧ W'.rowIs w5.heap.size 27 2 (sf c (some ⟨gX, 0, none⟩) (nw c) (nw c)) ∧ W'.rowIs gX 35 (nw c) (wf (sl A 0 c)) ∧ W'.rowIs w6.heap.size 27 2 (sf d (some ⟨gY, 0, none⟩) (nw d) (nw d)) ∧ W'.rowIs gY 35 (nw d) (wf (sl A c k))) ⟨bl_alloc B2 _, rs.alloc _, sA.alloc _, rA.alloc _, sX.alloc _, rX.alloc _, row_new _ _ _ _ _ _, rY.alloc _⟩ ?_
          clear B2 rs sA cA0 cA1 lA sX cX0 cX1 lX rA rX rY
          rintro V3 ⟨B2, rs, sA, rA, sX, rX, sY, rY⟩
          refine (check_any c _ (nw c) _ (sl A 0 c) V3 (by unfold nw; omega) (Rd.row rX (lt_nw hX))).mono ?_
          rintro e w7 ⟨rfl, hbx⟩
          rw [chk_ok h16c hX]
          replace sA := keepr hbx sA
          replace rA := keepr hbx rA
          replace sX := keepr hbx sX
          replace rX := keepr hbx rX
          replace sY := keepr hbx sY
          replace rY := keepr hbx rY
          replace rs := keepr hbx rs
          replace B2 := bl_step B2 hbx
          clear hbx
          have cA0 := sf_len sA
          have cA1 := sf_ws sA
          have lA := sA.lt
          have cX0 := sf_len sX
          have cX1 := sf_ws sX
          have lX := sX.lt
          have cY0 := sf_len sY
          have cY1 := sf_ws sY
          have lY := sY.lt
          go_wp2_with fail
          refine gen_calls (fun W' => Below w.heap.size w W' ∧ W'.rowIs gs 24 k (gf A) ∧ W'.rowIs w2.heap.size 27 2 (sf k (some ⟨gA, 0, none⟩) (nw k) (nw k)) ∧ W'.rowIs gA 35 (nw k) (wf A) ∧ W'.rowIs w5.heap.size 27 2 (sf c (some ⟨gX, 0, none⟩) (nw c) (nw c)) ∧ W'.rowIs gX 35 (nw c) (wf (sl A 0 c)) ∧ W'.rowIs w6.heap.size 27 2 (sf d (some ⟨gY, 0, none⟩) (nw d) (nw d)) ∧ W'.rowIs gY 35 (nw d) (wf (sl A c k))) ⟨B2, rs, sA, rA, sX, rX, sY, rY⟩ ?_
          clear B2 rs sA cA0 cA1 lA sX cX0 cX1 lX sY cY0 cY1 lY rA rX rY
          rintro V4 ⟨B2, rs, sA, rA, sX, rX, sY, rY⟩
          refine (check_any d _ (nw d) _ (sl A c k) V4 (by unfold nw; omega) (Rd.row rY (lt_nw hY))).mono ?_
          rintro e w8 ⟨rfl, hbx⟩
          rw [chk_ok h16d hY]
          replace sA := keepr hbx sA
          replace rA := keepr hbx rA
          replace sX := keepr hbx sX
          replace rX := keepr hbx rX
          replace sY := keepr hbx sY
          replace rY := keepr hbx rY
          replace rs := keepr hbx rs
          replace B2 := bl_step B2 hbx
          clear hbx
          have cA0 := sf_len sA
          have cA1 := sf_ws sA
          have lA := sA.lt
          have cX0 := sf_len sX
          have cX1 := sf_ws sX
          have lX := sX.lt
          have cY0 := sf_len sY
          have cY1 := sf_ws sY
          have lY := sY.lt
          go_wp2_with fail
          refine gen_calls (fun W' => Below w.heap.size w W' ∧ W'.rowIs gs 24 k (gf A) ∧ W'.rowIs w2.heap.size 27 2 (sf k (some ⟨gA, 0, none⟩) (nw k) (nw k)) ∧ W'.rowIs gA 35 (nw k) (wf A) ∧ W'.rowIs w6.heap.size 27 2 (sf d (some ⟨gY, 0, none⟩) (nw d) (nw d)) ∧ W'.rowIs gY 35 (nw d) (wf (sl A c k)) ∧ W'.cell? ⟨w8.heap.size, 0, none⟩ = some (.int .i64 c) ∧ W'.cell? ⟨w8.heap.size, 1, none⟩ = some (.slice (some ⟨gX, 0, none⟩) (nw c) (nw c)) ∧ W'.cell? ⟨w8.heap.size, 2, none⟩ = some (.int .i64 d) ∧ W'.cell? ⟨w8.heap.size, 3, none⟩ = some (.slice (some ⟨gY, 0, none⟩) (nw d) (nw d)) ∧ W'.rowIs gX 35 (nw c) (wf (sl A 0 c))) ⟨bl_alloc B2 _, rs.alloc _, sA.alloc _, rA.alloc _, sY.alloc _, rY.alloc _, (cell4 _ _ _ _ _ _).1, (cell4 _ _ _ _ _ _).2.1, (cell4 _ _ _ _ _ _).2.2.1, (cell4 _ _ _ _ _ _).2.2.2, rX.alloc _⟩ ?_
          clear B2 rs sA cA0 cA1 lA sX cX0 cX1 lX sY cY0 cY1 lY rA rX rY
          rintro V5 ⟨B2, rs, sA, rA, sY, rY, k0, k1, k2, k3, rX⟩
          have hcd := HCD.out
          refine (join_two c d (sl A 0 c) (sl A c k) _ _ _ _ _ _ V5 hX hY (by omega) k0 k1 k2 k3 (Rd.row rX (lt_nw hX)) (Rd.row rY (lt_nw hY))).mono ?_
          rw [HCD.out, HJN.out]
          rintro e w9 ⟨gZ, rfl, _, rZ, hbx⟩
          clear k0 k1 k2 k3 rX hcd
          replace sA := keepr hbx sA
          replace rA := keepr hbx rA
          replace sY := keepr hbx sY
          replace rY := keepr hbx rY
          replace rs := keepr hbx rs
          replace B2 := bl_step B2 hbx
          clear hbx
          have cA0 := sf_len sA
          have cA1 := sf_ws sA
          have lA := sA.lt
          have cY0 := sf_len sY
          have cY1 := sf_ws sY
          have lY := sY.lt
          go_wp2_with fail
          refine gen_calls (fun W' => Below w.heap.size w W' ∧ W'.rowIs gs 24 k (gf A) ∧ W'.rowIs w2.heap.size 27 2 (sf k (some ⟨gA, 0, none⟩) (nw k) (nw k)) ∧ W'.rowIs gA 35 (nw k) (wf A) ∧ W'.rowIs w6.heap.size 27 2 (sf d (some ⟨gY, 0, none⟩) (nw d) (nw d)) ∧ W'.rowIs gY 35 (nw d) (wf (sl A c k)) ∧ W'.rowIs w9.heap.size 27 2 (sf k (some ⟨gZ, 0, none⟩) (nw k) (nw k)) ∧ W'.rowIs gZ 35 (nw k) (wf A)) ⟨bl_alloc B2 _, rs.alloc _, sA.alloc _, rA.alloc _, sY.alloc _, rY.alloc _, row_new _ _ _ _ _ _, rZ.alloc _⟩ ?_
          clear B2 rs sA cA0 cA1 lA sY cY0 cY1 lY rA rY rZ
          rintro V6 ⟨B2, rs, sA, rA, sY, rY, sZ, rZ⟩
          refine (unpack_any d (sl A c k) _ _ V6 h16d hY (Rd.row rY (lt_nw hY))).mono ?_
          rintro e w10 ⟨gu, rfl, _, ru, hbx⟩
          replace sA := keepr hbx sA
          replace rA := keepr hbx rA
          replace sY := keepr hbx sY
          replace rY := keepr hbx rY
          replace sZ := keepr hbx sZ
          replace rZ := keepr hbx rZ
          replace rs := keepr hbx rs
          replace B2 := bl_step B2 hbx
          clear hbx
          have cA0 := sf_len sA
          have cA1 := sf_ws sA
          have lA := sA.lt
          have cY0 := sf_len sY
          have cY1 := sf_ws sY
          have lY := sY.lt
          have cZ0 := sf_len sZ
          have cZ1 := sf_ws sZ
          have lZ := sZ.lt
          have HU := hid1 ru
          clear ru
          go_wp2_with fail
          refine (eq_same k (nw k) A _ _ _ _ w10 (by omega) (Rd.row rZ (lt_nw hA)) (Rd.row rA (lt_nw hA))).mono ?_
          rintro e w11 ⟨rfl, hbx⟩
          have ru := keepr hbx HU.out
          replace rs := keepr hbx rs
          replace B2 := bl_step B2 hbx
          clear hbx sA rA sY rY sZ rZ cA0 cA1 cY0 cY1 cZ0 cZ1 lA lY lZ HU
          by_cases hck : c = k
          · subst hck
            have hd0 : d = 0 := by have := HCD.out; omega
            subst hd0
            go_wp2_with fail
            refine (eqs_same 0 (fun _ => 0) _ _ _ _ w11 (by omega) (fun j hj => absurd hj (by omega)) (fun j hj => absurd hj (by omega))).mono ?_
            rintro e w12 ⟨rfl, hbx⟩
            go_wp2_with fail
            go_ret
            exact ⟨rfl, bl_step B2 hbx⟩
          · have ic2 : (c : Int) < (k : Int) := by omega
            have hck' : c < k := by omega
            go_wp2_with fail
            rw [HD.out]
            refine (eqs_same d (fun j => sg A (c + j)) _ _ _ _ w11 (by omega) (fun j hj => ⟨gu, 0, rfl, ?_⟩) (fun j hj => ⟨gs, c, rfl, ?_⟩)).mono ?_
            · rw [Nat.zero_add]
              refine (ru.cell hj).trans ?_
              unfold gf
              rw [sg_sl A c k j (by rw [HD.out]; exact hj)]
            · exact rs.cell (by have := HCD.out; omega)
            rintro e w12 ⟨rfl, hbx⟩
            go_wp2_with fail
            go_ret
            exact ⟨rfl, bl_step B2 hbx⟩
end Go.Proofs.Yteghelmbibpohaa
