/- The document's Numbers. -/
import Derived.Test.YtgciefmjbaphiaaDoorDR3
import Derived.Test.YtgciefmjbaphiaaDoorDW10
import Derived.Test.YtgciefmjbaphiaaDoorDM2
namespace Go.Proofs.YtgciefmjbaphiaaDoor
open Go.RowKit

/-- The number at a place, made from the highest plane down. -/
def nh (P : Nat → Nat) (i : Nat) : Nat → Int
  | 0 => 0
  | t + 1 => if t = 0 then -(2 * nh P i t + ((P (7 - t)).testBit i).toNat) else 2 * nh P i t + ((P (7 - t)).testBit i).toNat
theorem nh_is (P : Nat → Nat) (i : Nat) : nh P i 8 = nat8 P i 8 := by
  simp only [nh, nat8, pw]
  simp
  omega
theorem nh_bd (P : Nat → Nat) (i : Nat) : ∀ t : Nat, -(2 ^ t : Int) ≤ nh P i t ∧ nh P i t ≤ 2 ^ t - 1
  | 0 => by simp [nh]
  | t + 1 => by
    obtain ⟨h1, h2⟩ := nh_bd P i t
    have hb := Bool.toNat_le ((P (7 - t)).testBit i)
    simp only [nh]
    rw [Int.pow_succ]
    generalize ((P (7 - t)).testBit i).toNat = b at *
    by_cases e : t = 0
    · subst e
      rw [if_pos rfl]
      simp only [nh] at *
      simp at *
      omega
    · rw [if_neg e]
      generalize (2 : Int) ^ t = z at *
      omega
theorem nh_lim (P : Nat → Nat) (i : Nat) {t : Nat} (h : t ≤ 8) : -256 ≤ nh P i t ∧ nh P i t ≤ 256 := by
  obtain ⟨h1, h2⟩ := nh_bd P i t
  have h3 : (2 : Int) ^ t ≤ 256 := by
    have : (2 : Nat) ^ t ≤ 2 ^ 8 := Nat.pow_le_pow_right (by decide) h
    have e : ((2 ^ t : Nat) : Int) = (2 : Int) ^ t := by simp
    omega
  omega
/-- The number that eight planes have at a place. -/
def n8 (P : Nat → Bt) (i : Nat) : Int := nat8 (fun p => (P p).N) i 8
theorem n8_bd (P : Nat → Bt) (i : Nat) : -128 ≤ n8 P i ∧ n8 P i ≤ 128 := by have := nat8_bd (fun p => (P p).N) i; unfold n8; omega
theorem nh_n8 (P : Nat → Bt) (i : Nat) {t : Nat} (h : t = 8) : nh (fun p => (P p).N) i t = n8 P i := by subst h; exact nh_is _ _
theorem npl_n8 (A B n : Nat) (P : Nat → Bt) : npl A B (fun p => (P p).N) n 8 = sm (fun i => wt A B i * n8 P i) n := npl_is A B (fun p => (P p).N) n 8
set_option maxHeartbeats 3200000 in
set_option maxRecDepth 100000 in
theorem rnumbers_any (A B : Bt) (P : Nat → Bt) (w : World) (hA : Rw w A) (hB : Rw w B) (hP : ∀ p, p < 8 → Rw w (P p)) :
    Calls Tryd.prog 33 #[rwv A B, pv P] w fun e w' => e = .returned (.tuple #[.int .i64 (nmV A B P), .int .i64 (nmE A B P)]) ∧ Below w.heap.size w w' := by
  have HA := hid1 hA
  have HB := hid1 hB
  have HP := hid1 hP
  clear hA hB hP
  obtain ⟨vv, ev⟩ : ∃ x, nmV A B P = x := ⟨_, rfl⟩
  obtain ⟨vE, eE⟩ : ∃ x, nmE A B P = x := ⟨_, rfl⟩
  rw [ev, eE]
  have HV := hid1 ev
  have HE := hid1 eE
  clear ev eE
  go_enter Tryd.func33, Tryd.ntmps33
  go_wp2_with fail
  refine gen_calls (fun W => Below w.heap.size w W ∧ W.rowIs w.heap.size 26 4 (qf A B) ∧ W.rowIs (w.heap.size + 1) 36 16 (pfc P)) ⟨bl_alloc (bl_alloc (Below.refl _ _) _) _, (q_new w A B _).alloc _, qp_new w A B P _ _⟩ ?_
  rintro W ⟨B0, r1, r2⟩
  refine (rcheck_any A B W (HA.out.below B0) (HB.out.below B0)).mono ?_
  rintro e w1 ⟨rfl, hb1⟩
  have R1 := hid1 (keepr hb1 r1)
  have R2 := hid1 (keepr hb1 r2)
  replace B0 := bl_step B0 hb1
  clear hb1 r1 r2
  by_cases hd0 : dck A B ≠ 0
  · have h1 : dck A B = vE := (nmE_bad hd0).symm.trans HE.out
    have h2 := HV.out.symm.trans (nmV_bad (by rw [nmE_bad hd0]; exact hd0))
    subst h2
    rw [h1] at hd0
    rw [h1]
    clear h1 HE HV
    go_wp2_with fail
    go_ret2
    exact ⟨rfl, B0⟩
  have hd : dck A B = 0 := Classical.byContradiction hd0
  clear hd0
  obtain ⟨n, e1, e2, e3, e4, e5, e6, e7, _⟩ := dck_zero hd
  rw [hd]
  have HEQ : Hid (nmE A B P = if aF P A.n = true then 0 else 20) := hid1 (by unfold nmE; rw [if_neg (by simp [hd])])
  have HN1 := hid1 e1
  have HN2 := hid1 e2
  have M1 := hid1 e4
  have M2 := hid1 e5
  have in1 : (n : Int) ≤ 16777216 := by omega
  have hbd := nw_bd e3
  have hle := nw_le n
  clear hd e1 e2 e4 e5
  go_wp2_with fail
  go_loopw [7] (fun i wr => ∃ k : Nat, k ≤ 8 ∧ i = .int .i64 k ∧ (∀ p, p < k → ftB (P p).n (P p).m (P p).N A.n = true) ∧ wr.rowIs w.heap.size 26 4 (qf A B) ∧ wr.rowIs (w.heap.size + 1) 36 16 (pfc P) ∧ Below w.heap.size w wr) (fun i _ => 8 - (intOf i).toNat)
  case atStart => exact ⟨0, Nat.zero_le _, rfl, fun p hp => by omega, R1.out, R2.out, B0⟩
  case round =>
    clear R1 R2 B0
    obtain ⟨k, hk, rfl, hall, r1, r2, B0⟩ := hrel
    have HALL := hid1 hall
    have R1 := hid1 r1
    have R2 := hid1 r2
    clear hall r1 r2
    by_cases hlt : k < 8
    · have ik : (k : Int) < 8 := by omega
      have ik0 : (0 : Int) ≤ (k : Int) := by omega
      have d0 : wr.cell? ⟨w.heap.size + 1, k * 2, none⟩ = some (.int .i64 (P k).n) := by rw [← pfc_even P k]; exact R2.out.cell (by omega)
      have d1 : wr.cell? ⟨w.heap.size + 1, k * 2 + 1, none⟩ = some (.slice (P k).ao (P k).m (P k).cap) := by rw [← pfc_odd P k]; exact R2.out.cell (by omega)
      go_wp2_with fail
      refine (may_any (P k) wr ((HP.out k hlt).below B0)).mono ?_
      rintro e w2 ⟨rfl, hb2⟩
      replace R1 := hid1 (keepr hb2 R1.out)
      replace R2 := hid1 (keepr hb2 R2.out)
      replace B0 := bl_step B0 hb2
      clear d0 d1 hb2
      have d0 : w2.cell? ⟨w.heap.size + 1, k * 2, none⟩ = some (.int .i64 (P k).n) := by rw [← pfc_even P k]; exact R2.out.cell (by omega)
      have c2 := q2 R1.out
      rw [HN2.out] at c2
      have BAD : Hid (ftB (P k).n (P k).m (P k).N A.n = false → vE = 20 ∧ vv = 0) := fun hf => by
        have h20 : vE = 20 := by
          have h := HEQ.out
          rw [HE.out, if_neg (fun h => by have := (aF_iff _ _).1 h k hlt; rw [hf] at this; cases this)] at h
          exact h
        exact ⟨h20, HV.out.symm.trans (nmV_bad (by rw [HE.out, h20]; decide))⟩
      cases hm : myB (P k)
      · obtain ⟨h20, h0⟩ := BAD.out (by
          unfold ftB
          rw [decide_eq_false]
          rintro ⟨h2, _⟩
          rw [myB_zero h2] at hm
          cases hm)
        subst h20 h0
        go_wp2_with fail
        go_quiet (fail)
        go_wp2_with fail
        go_ret2
        exact ⟨rfl, bl_drewN B0 _⟩
      · by_cases hnn : (P k).n = (n : Int)
        · have hft : ftB (P k).n (P k).m (P k).N A.n = true := by
            unfold ftB
            rw [decide_eq_true]
            exact ⟨of_decide_eq_true hm, by rw [hnn, HN1.out]⟩
          rw [hnn] at d0
          have HFT := hid1 hft
          clear hft hnn BAD
          go_wp2_with fail
          go_quiet (fail)
          go_wp2_with fail
          exact ⟨⟨k + 1, by omega, by go_num, fun p hp => by
            by_cases e : p = k
            · subst e; exact HFT.out
            · exact HALL.out p (by omega), row_drewN R1.out _, row_drewN R2.out _, bl_drewN B0 _⟩, by simp [intOf]; omega⟩
        · obtain ⟨h20, h0⟩ := BAD.out (by
            unfold ftB
            rw [decide_eq_false]
            rintro ⟨_, h2⟩
            exact hnn (by rw [h2, HN1.out]))
          subst h20 h0
          have hnb : ((P k).n != (n : Int)) = true := by simpa using hnn
          have hnc : ((P k).n == (n : Int)) = false := by simpa using hnn
          go_wp2_with fail
          go_quiet (fail)
          go_wp2_with fail
          go_ret2
          exact ⟨rfl, bl_drewN B0 _⟩
    · have hk8 : k = 8 := by omega
      subst hk8
      have V1 : Hid (vE = 0) := by
        have h := HEQ.out
        rw [HE.out, if_pos ((aF_iff _ _).2 HALL.out)] at h
        exact h
      have V2 : Hid (vv = sm (fun i => wt A.N B.N i * n8 P i) n) := by
        have h := HV.out
        unfold nmV at h
        rw [if_pos (by rw [HE.out, V1.out]), HN1.out, Int.toNat_natCast, npl_n8] at h
        exact h.symm
      have HM : Hid (∀ p, p < 8 → (P p).m = nw n) := fun p hp => by
        have h := HALL.out p hp
        simp only [ftB, decide_eq_true_eq] at h
        obtain ⟨j, f1, f2, f3, f4⟩ := chk_zero h.1
        have : j = n := by have := h.2; have := HN1.out; omega
        subst this
        exact f3
      clear HALL HEQ HV HE
      go_wp2_with fail
      go_loopw [9, 10] (fun x j wy => ∃ (u : Value) (i : Nat), i ≤ n ∧ x = u ∧ j = .int .i64 i ∧ wy.ownsRow (w.heap.size + 2) 2 1 u i (fl (n8 P) i) ∧ wy.rowIs w.heap.size 26 4 (qf A B) ∧ wy.rowIs (w.heap.size + 1) 36 16 (pfc P) ∧ Below w.heap.size w wy) (fun _ j _ => n - (intOf j).toNat)
      case atStart => exact ⟨_, 0, Nat.zero_le _, rfl, rfl, World.ownsRow_nil _ _ _ _, R1.out, R2.out, B0⟩
      case round =>
        rename World => V
        clear R1 R2 B0
        obtain ⟨u, i, hi, ev, rfl, hown, r1, r2, B0⟩ := hrel
        replace ev := ev.symm
        subst ev
        have HO := hid1 hown
        have R1 := hid1 r1
        have R2 := hid1 r2
        have c2 := q2 r1
        rw [HN2.out] at c2
        have sz : w.heap.size + 2 ≤ V.heap.size := by have := r2.lt; omega
        clear hown r1 r2
        by_cases hin : i < n
        · have ii : (i : Int) < (n : Int) := by omega
          have ii0 : (0 : Int) ≤ (i : Int) := by omega
          go_wp2_with fail
          go_loopw [11, 12] (fun x j wy => ∃ t : Nat, t ≤ 8 ∧ j = .int .i64 (7 - (t : Int)) ∧ x = .int .i64 (nh (fun p => (P p).N) i t) ∧ wy.ownsRow (w.heap.size + 2) 2 1 u i (fl (n8 P) i) ∧ wy.rowIs w.heap.size 26 4 (qf A B) ∧ wy.rowIs (w.heap.size + 1) 36 16 (pfc P) ∧ Below w.heap.size w wy) (fun _ j _ => ((intOf j) + 1).toNat)
          case atStart => exact ⟨0, Nat.zero_le _, rfl, rfl, HO.out, R1.out, R2.out, B0⟩
          case round =>
            rename World => Y
            clear R1 R2 B0 HO c2 sz
            obtain ⟨t, ht, rfl, rfl, hown, r1, r2, B0⟩ := hrel
            have HO := hid1 hown
            have R1 := hid1 r1
            have R2 := hid1 r2
            have sz : w.heap.size + 2 ≤ Y.heap.size := by have := r2.lt; omega
            have hlim := nh_lim (fun p => (P p).N) i ht
            clear hown r1 r2
            by_cases ht8 : t < 8
            · obtain ⟨q, hq7⟩ : ∃ q, 7 - t = q := ⟨_, rfl⟩
              have hq8 : q < 8 := by omega
              have eq7 : (7 : Int) - (t : Int) = (q : Int) := by omega
              rw [eq7]
              have iq0 : (0 : Int) ≤ (q : Int) := by omega
              have iq1 : (q : Int) < 8 := by omega
              have d0 : Y.cell? ⟨w.heap.size + 1, q * 2, none⟩ = some (.int .i64 (P q).n) := by rw [← pfc_even P q]; exact R2.out.cell (by omega)
              have d1 : Y.cell? ⟨w.heap.size + 1, q * 2 + 1, none⟩ = some (.slice (P q).ao (P q).m (P q).cap) := by rw [← pfc_odd P q]; exact R2.out.cell (by omega)
              obtain ⟨v, ev⟩ : ∃ v, nh (fun p => (P p).N) i t = v := ⟨_, rfl⟩
              have HVV := hid1 ev
              rw [ev] at hlim ⊢
              obtain ⟨hl1, hl2⟩ := hlim
              clear ev eq7
              go_wp2_with fail
              refine (tbit_any (P q) i Y (by rw [HM.out q hq8]; omega) (by rw [HM.out q hq8]; exact hbd) ((HP.out q hq8).below B0)).mono ?_
              rintro e wB ⟨rfl, hbB⟩
              clear d0 d1
              by_cases ht0 : t = 0
              · have hq : q = 7 := by omega
                have iq7 : (q : Int) = 7 := by omega
                have iq7b : ((q : Int) == 7) = true := by simp; omega
                cases hbit : (P q).N.testBit i
                · have HT : Hid (nh (fun p => (P p).N) i (t + 1) = -(2 * v)) := hid1 (by
                    show (if t = 0 then -(2 * nh (fun p => (P p).N) i t + (((P (7 - t)).N.testBit i).toNat : Nat)) else 2 * nh (fun p => (P p).N) i t + (((P (7 - t)).N.testBit i).toNat : Nat)) = _
                    rw [hq7, hbit, HVV.out, if_pos ht0]
                    simp)
                  clear HVV
                  go_wp2_with fail
                  refine ⟨?_, by first | (simp [intOf]; done) | (simp [intOf]; omega)⟩
                  (repeat apply Exists.intro)
                  exact ⟨⟨t + 1, by omega, by go_num, by rw [HT.out]; exact congrArg (Value.int .i64) (by omega), own_keep HO.out hbB, keepr hbB R1.out, keepr hbB R2.out, bl_step B0 hbB⟩, rfl⟩
                · have HT : Hid (nh (fun p => (P p).N) i (t + 1) = -(2 * v + 1)) := hid1 (by
                    show (if t = 0 then -(2 * nh (fun p => (P p).N) i t + (((P (7 - t)).N.testBit i).toNat : Nat)) else 2 * nh (fun p => (P p).N) i t + (((P (7 - t)).N.testBit i).toNat : Nat)) = _
                    rw [hq7, hbit, HVV.out, if_pos ht0]
                    simp)
                  clear HVV
                  go_wp2_with fail
                  refine ⟨?_, by first | (simp [intOf]; done) | (simp [intOf]; omega)⟩
                  (repeat apply Exists.intro)
                  exact ⟨⟨t + 1, by omega, by go_num, by rw [HT.out]; exact congrArg (Value.int .i64) (by omega), own_keep HO.out hbB, keepr hbB R1.out, keepr hbB R2.out, bl_step B0 hbB⟩, rfl⟩
              · have iq7 : ¬ (q : Int) = 7 := by omega
                have iq7b : ((q : Int) == 7) = false := by simp; omega
                cases hbit : (P q).N.testBit i
                · have HT : Hid (nh (fun p => (P p).N) i (t + 1) = (2 * v)) := hid1 (by
                    show (if t = 0 then -(2 * nh (fun p => (P p).N) i t + (((P (7 - t)).N.testBit i).toNat : Nat)) else 2 * nh (fun p => (P p).N) i t + (((P (7 - t)).N.testBit i).toNat : Nat)) = _
                    rw [hq7, hbit, HVV.out, if_neg ht0]
                    simp)
                  clear HVV
                  go_wp2_with fail
                  refine ⟨?_, by first | (simp [intOf]; done) | (simp [intOf]; omega)⟩
                  (repeat apply Exists.intro)
                  exact ⟨⟨t + 1, by omega, by go_num, by rw [HT.out]; exact congrArg (Value.int .i64) (by omega), own_keep HO.out hbB, keepr hbB R1.out, keepr hbB R2.out, bl_step B0 hbB⟩, rfl⟩
                · have HT : Hid (nh (fun p => (P p).N) i (t + 1) = (2 * v + 1)) := hid1 (by
                    show (if t = 0 then -(2 * nh (fun p => (P p).N) i t + (((P (7 - t)).N.testBit i).toNat : Nat)) else 2 * nh (fun p => (P p).N) i t + (((P (7 - t)).N.testBit i).toNat : Nat)) = _
                    rw [hq7, hbit, HVV.out, if_neg ht0]
                    simp)
                  clear HVV
                  go_wp2_with fail
                  refine ⟨?_, by first | (simp [intOf]; done) | (simp [intOf]; omega)⟩
                  (repeat apply Exists.intro)
                  exact ⟨⟨t + 1, by omega, by go_num, by rw [HT.out]; exact congrArg (Value.int .i64) (by omega), own_keep HO.out hbB, keepr hbB R1.out, keepr hbB R2.out, bl_step B0 hbB⟩, rfl⟩
            · have ht88 : t = 8 := by omega
              have hnh := nh_n8 P i ht88
              obtain ⟨v, ev⟩ : ∃ v, nh (fun p => (P p).N) i t = v := ⟨_, rfl⟩
              rw [ev] at hnh hlim ⊢
              have HNH := hid1 hnh
              rw [show (7 : Int) - (t : Int) = -1 by omega]
              clear ev hnh ht88 ht8 ht
              go_wp2_with (at_builtin; refine app64 rfl _ _ rfl (w.heap.size + 2) u (n8 P) i (by go_simp) (HO.out.alloc _) Y.heap.size v 1 (by go_simp) (by simp [go_sem]) (by omega) (by simp; omega) HNH.out ?_; intro v' w' hown hgrow)
              have BQ := grown_below HO.out sz hgrow
              refine ⟨?_, by simp [intOf]; omega⟩
              (repeat apply Exists.intro)
              exact ⟨⟨v', i + 1, by omega, rfl, by go_num, hown, R1.out.of_block (BQ.block _ (by omega)), R2.out.of_block (BQ.block _ (by omega)), B0.trans (BQ.mono (by omega))⟩, rfl⟩
        · have hin2 : i = n := by omega
          subst hin2
          obtain ⟨lo, lc, rfl, hr⟩ := r64_own HO.out
          have HRR := hid1 hr
          clear HO hr
          have d0 := q0 R1.out
          have d1 := q1 R1.out
          have d3 := q3 R1.out
          have CW := weights_any A B i V (HA.out.below B0) (HB.out.below B0) e3 HN2.out M1.out M2.out
          unfold rwv at CW
          rw [HN2.out] at CW
          have HCW := hid1 CW
          clear CW
          go_wp2_with fail
          refine HCW.out.mono ?_
          rintro e w4 ⟨ao, ca, rfl, hw, hb4⟩
          replace B0 := bl_step B0 hb4
          have HL := hid1 (HRR.out.below hb4)
          have HWW := hid1 hw
          clear c2 d0 d1 d3 hw hb4 R1 R2
          go_wp2_with fail
          refine (rsum_any (wt A.N B.N) (n8 P) i ao lo ca lc w4 e3 (fun i _ => wt_bd _ _ _) (fun i _ => n8_bd P i) HWW.out HL.out).mono ?_
          rintro e w5 ⟨rfl, hb5⟩
          rw [← V2.out]
          have V3 := V1.out
          subst V3
          go_wp2_with fail
          go_ret2
          exact ⟨rfl, bl_step B0 hb5⟩
end Go.Proofs.YtgciefmjbaphiaaDoor
