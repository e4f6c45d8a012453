/- The document's Signs and Some. -/
import Derived.Test.YtpinmfhabbcflabDoorDR2
namespace Go.Proofs.YtpinmfhabbcflabDoor
open Go.RowKit
attribute [local go_sem ↓] Go.wp_at_zero Go.wp_at_succ

theorem xs1_bd (X i : Nat) : -128 ≤ xs1 X i ∧ xs1 X i ≤ 128 := by unfold xs1; split <;> omega
theorem sg_good {A B X : Bt} {n : Nat} (hd : dck A B = 0) (hn : A.n = n) (hf : ftB X.n X.m X.N A.n = true) : sgE A B X = 0 ∧ sgV A B X = sm (fun i => wt A.N B.N i * xs1 X.N i) n := by
  have e : sgE A B X = 0 := by unfold sgE; rw [if_neg (by simp [hd]), if_pos hf]
  refine ⟨e, ?_⟩
  unfold sgV
  rw [if_pos e, hn, Int.toNat_natCast, tq_signs]
theorem sg_no {A B X : Bt} (hd : dck A B = 0) (hf : ¬ ftB X.n X.m X.N A.n = true) : sgE A B X = 20 ∧ sgV A B X = 0 := by
  have e : sgE A B X = 20 := by unfold sgE; rw [if_neg (by simp [hd]), if_neg hf]
  exact ⟨e, by unfold sgV; rw [if_neg (by rw [e]; decide)]⟩
set_option maxHeartbeats 3200000 in
set_option maxRecDepth 100000 in
theorem rsigns_any (A B X : Bt) (w : World) (hA : Rw w A) (hB : Rw w B) (hX : Rw w X) :
    Calls Tryd.prog 47 #[rwv A B, X.v] w fun e w' => e = .returned (.tuple #[.int .i64 (sgV A B X), .int .i64 (sgE A B X)]) ∧ Below w.heap.size w w' := by
  have HA := hid1 hA
  have HB := hid1 hB
  have HX := hid1 hX
  clear hA hB hX
  obtain ⟨vv, ev⟩ : ∃ x, sgV A B X = x := ⟨_, rfl⟩
  obtain ⟨vE, eE⟩ : ∃ x, sgE A B X = x := ⟨_, rfl⟩
  rw [ev, eE]
  have HV := hid1 ev
  have HE := hid1 eE
  clear ev eE
  go_enter Tryd.func47, Tryd.ntmps47
  go_wp2_with fail
  refine gen_calls (fun W => Below w.heap.size w W ∧ W.rowIs w.heap.size 33 4 (qf A B) ∧ W.rowIs (w.heap.size + 1) 31 2 (sf X.n X.ao X.m X.cap)) ⟨bl_alloc (bl_alloc (Below.refl _ _) _) _, (q_new w A B _).alloc _, by have := row_new (w.alloc (.cells #[.int .i64 A.n, .slice A.ao A.m A.cap, .int .i64 B.n, .slice B.ao B.m B.cap] 33)) X.n X.ao X.m X.cap 31; simpa using this⟩ ?_
  rintro W ⟨B0, r1, r2⟩
  refine (rcheck_any A B W (HA.out.below B0) (HB.out.below B0)).mono ?_
  rintro e w1 ⟨rfl, hb1⟩
  have R1 := hid1 (keepr hb1 r1)
  have R2 := hid1 (keepr hb1 r2)
  replace B0 := bl_step B0 hb1
  clear hb1 r1 r2
  by_cases hd0 : dck A B ≠ 0
  · have h1 : dck A B = vE := (sgE_bad hd0).symm.trans HE.out
    have h2 := HV.out.symm.trans (sgV_bad hd0)
    subst h2
    rw [h1] at hd0
    rw [h1]
    clear h1 HE HV
    go_wp2_with fail
    go_ret2
    exact ⟨rfl, B0⟩
  have hd : dck A B = 0 := Classical.byContradiction hd0
  clear hd0
  obtain ⟨n, e1, e2, e3, e4, e5, e6, e7, _⟩ := dck_zero hd
  rw [hd]
  have HD := hid1 hd
  clear hd
  have c2 := sf_len R2.out
  have c3 := sf_ws R2.out
  go_wp2_with fail
  refine (may_any X w1 (HX.out.below B0)).mono ?_
  rintro e w2 ⟨rfl, hb2⟩
  replace R1 := hid1 (keepr hb2 R1.out)
  replace R2 := hid1 (keepr hb2 R2.out)
  replace B0 := bl_step B0 hb2
  clear c2 c3 hb2
  have c2 := sf_len R2.out
  have c3 := q2 R1.out
  rw [e2] at c3
  by_cases hf : ftB X.n X.m X.N A.n = true
  · obtain ⟨h1, h2⟩ := sg_good HD.out e1 hf
    have hfa := hf
    simp only [ftB, decide_eq_true_eq] at hfa
    obtain ⟨j, f1, f2, f3, f4⟩ := chk_zero hfa.1
    have : j = n := by have := hfa.2; omega
    subst this
    have hm : myB X = true := myB_zero hfa.1
    rw [hm]
    rw [f1] at c2
    have HXN := hid1 f1
    have M1 := hid1 e4
    have M2 := hid1 e5
    have M3 := hid1 f3
    have HN2 := hid1 e2
    have V1 := hid1 (HE.out.symm.trans h1)
    have V2 := hid1 (HV.out.symm.trans h2)
    have hbd := nw_bd e3
    have hle := nw_le j
    have in1 : (j : Int) ≤ 16777216 := by omega
    clear h1 h2 hf hfa hm e1 e2 e4 e5 f1 f3 f2 HV HE
    go_wp2_with fail
    clear c2 c3
    go_loopw [8, 9] (fun v i wr => ∃ (u : Value) (k : Nat), k ≤ j ∧ v = u ∧ i = .int .i64 k ∧ wr.ownsRow (w.heap.size + 2) 2 1 u k (fl (xs1 X.N) k) ∧ wr.rowIs w.heap.size 33 4 (qf A B) ∧ wr.rowIs (w.heap.size + 1) 31 2 (sf X.n X.ao X.m X.cap) ∧ Below w.heap.size w wr) (fun _ i _ => j - (intOf i).toNat)
    case atStart => exact ⟨_, 0, Nat.zero_le _, rfl, rfl, World.ownsRow_nil _ _ _ _, R1.out, R2.out, B0⟩
    case round =>
      clear R1 R2 B0
      obtain ⟨v, k, hk, ev, rfl, hown, r1, r2, B0⟩ := hrel
      replace ev := ev.symm
      subst ev
      have c0 := sf_len r2
      have c1 := sf_ws r2
      rw [HXN.out] at c0
      have R1 := hid1 r1
      have R2 := hid1 r2
      have HO := hid1 hown
      have sz : w.heap.size + 2 ≤ wr.heap.size := by have := r2.lt; omega
      clear hown r2 r1
      by_cases hlt : k < j
      · have ik : (k : Int) < (j : Int) := by omega
        have ik0 : (0 : Int) ≤ (k : Int) := by omega
        have CX : Hid (∀ Y, Below w.heap.size w Y → Calls Tryd.prog 46 #[X.v, .int .i64 k] Y fun e w' => e = .returned (.bool (X.N.testBit k)) ∧ Below Y.heap.size Y w') := fun Y hY => tbit_any X k Y (by rw [M3.out]; omega) (by rw [M3.out]; exact hbd) (HX.out.below hY)
        unfold Bt.v at CX
        rw [HXN.out] at CX
        have HWT : Hid (xs1 X.N k = if X.N.testBit k then 1 else -1) := rfl
        go_wp2_with fail
        refine (CX.out wr B0).mono ?_
        rintro e w3 ⟨rfl, hb3⟩
        replace B0 := bl_step B0 hb3
        replace R1 := hid1 (keepr hb3 R1.out)
        replace R2 := hid1 (keepr hb3 R2.out)
        replace HO := hid1 (own_keep HO.out hb3)
        replace sz : w.heap.size + 2 ≤ w3.heap.size := by have := hb3.size; omega
        clear c0 c1 hb3 CX
        cases hbb : X.N.testBit k
        · rw [hbb] at HWT
          replace HWT : Hid (xs1 X.N k = -1) := HWT.out.trans (by simp)
          go_wp2_with (at_builtin; refine app64 rfl _ _ rfl (w.heap.size + 2) v (xs1 X.N) k (by go_simp) (HO.out.alloc _) w3.heap.size (-1) 1 (by go_simp) (by simp [go_sem]) (by omega) (by simp; omega) HWT.out.symm ?_; intro v' w' hown hgrow)
          have BQ := grown_below HO.out sz hgrow
          exact ⟨⟨v', k + 1, by omega, rfl, by go_num, hown, R1.out.of_block (BQ.block _ (by omega)), R2.out.of_block (BQ.block _ (by omega)), B0.trans (BQ.mono (by omega))⟩, by simp [intOf]; omega⟩
        · rw [hbb] at HWT
          replace HWT : Hid (xs1 X.N k = 1) := HWT.out.trans (by simp)
          go_wp2_with (at_builtin; refine app64 rfl _ _ rfl (w.heap.size + 2) v (xs1 X.N) k (by go_simp) (HO.out.alloc _) w3.heap.size 1 1 (by go_simp) (by simp [go_sem]) (by omega) (by simp; omega) HWT.out.symm ?_; intro v' w' hown hgrow)
          have BQ := grown_below HO.out sz hgrow
          exact ⟨⟨v', k + 1, by omega, rfl, by go_num, hown, R1.out.of_block (BQ.block _ (by omega)), R2.out.of_block (BQ.block _ (by omega)), B0.trans (BQ.mono (by omega))⟩, by simp [intOf]; omega⟩
      · have hkN : k = j := by omega
        subst hkN
        obtain ⟨lo, lc, rfl, hr⟩ := r64_own HO.out
        have HR := hid1 hr
        clear HO hr
        rename World => W0
        have d0 := q0 R1.out
        have d1 := q1 R1.out
        have d2 := q2 R1.out
        have d3 := q3 R1.out
        go_wp2_with fail
        refine (weights_any A B k W0 (HA.out.below B0) (HB.out.below B0) e3 HN2.out M1.out M2.out).mono ?_
        rintro e w4 ⟨ao, ca, rfl, hw, hb4⟩
        replace B0 := bl_step B0 hb4
        have HL := hid1 (HR.out.below hb4)
        have HWW := hid1 hw
        clear d0 d1 d2 d3 hw hb4 R1 R2
        go_wp2_with fail
        refine (rsum_any (wt A.N B.N) (xs1 X.N) k ao lo ca lc w4 e3 (fun i _ => wt_bd _ _ _) (fun i _ => xs1_bd _ _) HWW.out HL.out).mono ?_
        rintro e w5 ⟨rfl, hb5⟩
        rw [← V2.out]
        have V3 := V1.out
        subst V3
        go_wp2_with fail
        go_ret2
        exact ⟨rfl, bl_step B0 hb5⟩
  · obtain ⟨h1, h2⟩ := sg_no HD.out hf
    have h3 := HE.out.symm.trans h1
    have h4 := HV.out.symm.trans h2
    subst h3 h4
    clear h1 h2 HV HE
    cases hm : myB X
    · clear hf
      go_wp2_with fail
      go_ret2
      exact ⟨rfl, B0⟩
    · have hne : ¬ X.n = (n : Int) := fun h => hf (by
        unfold ftB
        rw [decide_eq_true]
        exact ⟨of_decide_eq_true hm, by rw [h, e1]⟩)
      clear hf
      go_wp2_with fail
      go_ret2
      exact ⟨rfl, B0⟩

theorem kp8d {W Y : World} {b1 b2 t : Nat} {A B C D : Bt} (h1 : W.rowIs b1 t 4 (qf A B)) (h2 : W.rowIs b2 t 4 (qf C D)) (hb : Below W.heap.size W Y) :
    (Y.cell? ⟨b1, 0, none⟩ = some (.int .i64 A.n) ∧ Y.cell? ⟨b1, 1, none⟩ = some (.slice A.ao A.m A.cap) ∧ Y.cell? ⟨b1, 2, none⟩ = some (.int .i64 B.n) ∧ Y.cell? ⟨b1, 3, none⟩ = some (.slice B.ao B.m B.cap)) ∧ Y.cell? ⟨b2, 0, none⟩ = some (.int .i64 C.n) ∧ Y.cell? ⟨b2, 1, none⟩ = some (.slice C.ao C.m C.cap) ∧ Y.cell? ⟨b2, 2, none⟩ = some (.int .i64 D.n) ∧ Y.cell? ⟨b2, 3, none⟩ = some (.slice D.ao D.m D.cap) := by
  have r := keepr hb h1
  have s := keepr hb h2
  exact ⟨⟨q0 r, q1 r, q2 r, q3 r⟩, q0 s, q1 s, q2 s, q3 s⟩
theorem so_good {A B C D : Bt} {n : Nat} (hd : dck A B = 0) (hd2 : dck C D = 0) (hn : A.n = n) (hc : C.n = n) : soE A B C D = 0 ∧ soV A B C D = sm (fun i => wt A.N B.N i * wt C.N D.N i) n := by
  have e : soE A B C D = 0 := by unfold soE; rw [if_neg (by simp [hd]), if_neg (by simp [hd2]), if_pos (by rw [hn, hc])]
  refine ⟨e, ?_⟩
  unfold soV
  rw [if_pos e, hn, Int.toNat_natCast, tq_some]
set_option maxHeartbeats 3200000 in
set_option maxRecDepth 100000 in
theorem rsome_any (A B C D : Bt) (w : World) (hA : Rw w A) (hB : Rw w B) (hC : Rw w C) (hD : Rw w D) :
    Calls Tryd.prog 48 #[rwv A B, rwv C D] w fun e w' => e = .returned (.tuple #[.int .i64 (soV A B C D), .int .i64 (soE A B C D)]) ∧ Below w.heap.size w w' := by
  have HA := hid1 hA
  have HB := hid1 hB
  have HC := hid1 hC
  have HD := hid1 hD
  clear hA hB hC hD
  obtain ⟨vv, ev⟩ : ∃ x, soV A B C D = x := ⟨_, rfl⟩
  obtain ⟨vE, eE⟩ : ∃ x, soE A B C D = x := ⟨_, rfl⟩
  rw [ev, eE]
  have HV := hid1 ev
  have HE := hid1 eE
  clear ev eE
  go_enter Tryd.func48, Tryd.ntmps48
  go_wp2_with fail
  refine gen_calls (fun W => Below w.heap.size w W ∧ W.rowIs w.heap.size 33 4 (qf A B) ∧ W.rowIs (w.heap.size + 1) 33 4 (qf C D)) ⟨bl_alloc (bl_alloc (Below.refl _ _) _) _, (q_new w A B _).alloc _, q_new2 w A B C D _⟩ ?_
  rintro W ⟨B0, r1, r2⟩
  refine (rcheck_any A B W (HA.out.below B0) (HB.out.below B0)).mono ?_
  rintro e w1 ⟨rfl, hb1⟩
  have R1 := hid1 (keepr hb1 r1)
  have R2 := hid1 (keepr hb1 r2)
  replace B0 := bl_step B0 hb1
  clear hb1 r1 r2
  by_cases hd0 : dck A B ≠ 0
  · have h1 : dck A B = vE := (soE_bad hd0).symm.trans HE.out
    have h2 := HV.out.symm.trans (soV_bad (by rw [soE_bad hd0]; exact hd0))
    subst h2
    rw [h1] at hd0
    rw [h1]
    clear h1 HE HV
    go_wp2_with fail
    go_ret2
    exact ⟨rfl, B0⟩
  have hd : dck A B = 0 := Classical.byContradiction hd0
  clear hd0
  rw [hd]
  have HZ := hid1 hd
  clear hd
  have c0 := q0 R2.out
  have c1 := q1 R2.out
  have c2 := q2 R2.out
  have c3 := q3 R2.out
  go_wp2_with fail
  refine (rcheck_any C D w1 (HC.out.below B0) (HD.out.below B0)).mono ?_
  rintro e w2 ⟨rfl, hb2⟩
  replace R1 := hid1 (keepr hb2 R1.out)
  replace R2 := hid1 (keepr hb2 R2.out)
  replace B0 := bl_step B0 hb2
  clear hb2 c0 c1 c2 c3
  by_cases hd0 : dck C D ≠ 0
  · have h0 : soE A B C D = dck C D := by unfold soE; rw [if_neg (by simp [HZ.out]), if_pos hd0]
    have h1 : dck C D = vE := h0.symm.trans HE.out
    have h2 := HV.out.symm.trans (soV_bad (by rw [h0]; exact hd0))
    subst h2
    rw [h1] at hd0
    rw [h1]
    clear h0 h1 HE HV
    go_wp2_with fail
    go_ret2
    exact ⟨rfl, B0⟩
  have hd : dck C D = 0 := Classical.byContradiction hd0
  clear hd0
  rw [hd]
  have HZ2 := hid1 hd
  obtain ⟨n, e1, e2, e3, e4, e5, e6, e7, _⟩ := dck_zero HZ.out
  obtain ⟨m, f1, f2, f3, f4, f5, f6, f7, _⟩ := dck_zero HZ2.out
  clear hd
  have c2 := q2 R1.out
  have c3 := q2 R2.out
  rw [e2] at c2
  rw [f2] at c3
  by_cases hn : m = n
  · subst hn
    obtain ⟨h1, h2⟩ := so_good HZ.out HZ2.out e1 f1
    have V1 := hid1 (HE.out.symm.trans h1)
    have V2 := hid1 (HV.out.symm.trans h2)
    have CA : Hid (∀ Y, Below w.heap.size w Y → Calls Tryd.prog 28 #[rwv A B] Y fun e w' => ∃ ao cap, e = .returned (.slice ao m cap) ∧ R64 w' ao (wt A.N B.N) m ∧ Below Y.heap.size Y w') := fun Y hY => weights_any A B m Y (HA.out.below hY) (HB.out.below hY) e3 e2 e4 e5
    have CC : Hid (∀ Y, Below w.heap.size w Y → Calls Tryd.prog 28 #[rwv C D] Y fun e w' => ∃ ao cap, e = .returned (.slice ao m cap) ∧ R64 w' ao (wt C.N D.N) m ∧ Below Y.heap.size Y w') := fun Y hY => weights_any C D m Y (HC.out.below hY) (HD.out.below hY) e3 f2 f4 f5
    clear h1 h2 e1 f1 e2 f2 e4 e5 f4 f5 HV HE
    go_wp2_with fail
    clear c2 c3
    go_region_held3 (fun Y => (Y.cell? ⟨w.heap.size, 0, none⟩ = some (.int .i64 A.n) ∧ Y.cell? ⟨w.heap.size, 1, none⟩ = some (.slice A.ao A.m A.cap) ∧ Y.cell? ⟨w.heap.size, 2, none⟩ = some (.int .i64 B.n) ∧ Y.cell? ⟨w.heap.size, 3, none⟩ = some (.slice B.ao B.m B.cap)) ∧ Y.cell? ⟨w.heap.size + 1, 0, none⟩ = some (.int .i64 C.n) ∧ Y.cell? ⟨w.heap.size + 1, 1, none⟩ = some (.slice C.ao C.m C.cap) ∧ Y.cell? ⟨w.heap.size + 1, 2, none⟩ = some (.int .i64 D.n) ∧ Y.cell? ⟨w.heap.size + 1, 3, none⟩ = some (.slice D.ao D.m D.cap))
      (((try dsimp only); (with_reducible refine kp8d R1.out R2.out ?_); repeat (first | (with_reducible exact Below.refl _ _) | (with_reducible refine Below.drew ?_) | (with_reducible refine bl_step ?_ (by assumption)))))
      (first
      | (go_at_call 53; refine (rsum_any (wt A.N B.N) (wt C.N D.N) m ao co ca cc _ e3 (fun i _ => wt_bd _ _ _) (fun i _ => by have := wt_bd C.N D.N i; omega) (hwa.below hb4) hwc).mono ?_; rintro e y3 ⟨rfl, hb5⟩)
      | (go_at_call 28; have tst := hb3; refine gen_calls (fun Y => Below y1.heap.size y1 Y) (by repeat (first | (with_reducible exact Below.refl _ _) | (with_reducible refine Below.drew ?_))) ?_; intro Y2 hY2; refine (CC.out Y2 (bl_step (bl_step (bl_step B0 hY1) hb3) hY2)).mono ?_; rintro e y2 ⟨co, cc, rfl, hwc, hb4'⟩; have hb4 := bl_step hY2 hb4')
      | (go_at_call 28; refine gen_calls (fun Y => Below w2.heap.size w2 Y) (by repeat (first | (with_reducible exact Below.refl _ _) | (with_reducible refine Below.drew ?_))) ?_; intro Y1 hY1; refine (CA.out Y1 (bl_step B0 hY1)).mono ?_; rintro e y1 ⟨ao, ca, rfl, hwa, hb3⟩))
    rw [← V2.out]
    have V3 := V1.out
    subst V3
    go_wp2_with fail
    go_ret2
    exact ⟨rfl, bl_step (bl_step (bl_step (bl_step B0 hY1) hb3) hb4) hb5⟩
  · have hne : ¬ (n : Int) = (m : Int) := by omega
    have h0 : soE A B C D = 20 := by unfold soE; rw [if_neg (by simp [HZ.out]), if_neg (by simp [HZ2.out]), if_neg (by rw [e1, f1]; exact hne)]
    have h1 := HE.out.symm.trans h0
    have h2 := HV.out.symm.trans (soV_bad (by rw [h0]; decide))
    subst h1 h2
    clear h0
    go_wp2_with fail
    go_ret2
    exact ⟨rfl, B0⟩
end Go.Proofs.YtpinmfhabbcflabDoor
