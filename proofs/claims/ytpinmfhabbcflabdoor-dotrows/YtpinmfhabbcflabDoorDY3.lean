/- DotRows. -/
import Derived.Test.YtpinmfhabbcflabDoorDY2
import Derived.Test.YtpinmfhabbcflabDoorDP3
namespace Go.Proofs.YtpinmfhabbcflabDoor
open Go.RowKit
attribute [local go_sem ↓] Go.wp_at_zero Go.wp_at_succ

/-- What the walk keeps behind the twin of a row. -/
structure Py (W Y : World) (M rb : Nat) (L : List (Bt × Value)) (A B : Bt) : Prop where
  m : Rm Y M L
  r : Y.rowIs rb 33 4 (qf A B)
  b : Below M W Y
  z : M ≤ W.heap.size
theorem Py.below {W Y Y' : World} {M rb : Nat} {L : List (Bt × Value)} {A B : Bt} (h : Py W Y M rb L A B) (hb : Below Y.heap.size Y Y') : Py W Y' M rb L A B :=
  ⟨h.m.below hb, keepr hb h.r, h.b.trans (hb.mono (Nat.le_trans h.z h.b.size)), h.z⟩
theorem mks_pre' {w : World} {ao : Option Addr} {l : List Int} (h : R8 w ao (mks l 20)) : R8 w ao l := by
  have := r8_take h l.length
  rwa [show (mks l 20).take l.length = l by simp [mks]] at this
theorem gen_anyy {F : Act → World → Prop} {a : Act} {W : World} (p : World → Prop) (hp : p W) (h : ∀ W', p W' → F a W') : F a W := h W hp
set_option maxHeartbeats 6400000 in
set_option maxRecDepth 100000 in
theorem lawRows_any (ao : Option Addr) (l1 : List (Bt × Bt)) (c1 : Nat) (h1 : l1.length ≤ 9223372036854775807) (bo : Option Addr) (l2 : List Sl) (c2 : Nat) (h2 : l2.length ≤ 9223372036854775807) (w : World) (LD : LaidP w) (r1 : Lr w ao l1) (r2 : Lsm w bo l2) :
    Calls Tryd.prog 3 #[.slice ao l1.length c1, .slice bo l2.length c2] w fun e w' => e = .returned (.bool true) ∧ Below w.heap.size w w' := by
  have R1 := hid1 r1
  have R2 := hid1 r2
  have HLD := hid1 LD
  obtain ⟨N1, e1⟩ : ∃ N, l1.length = N := ⟨_, rfl⟩
  obtain ⟨N2, e2⟩ : ∃ N, l2.length = N := ⟨_, rfl⟩
  have E1 := hid1 e1
  have E2 := hid1 e2
  rw [e1] at h1
  rw [e2] at h2
  rw [e1, e2]
  clear r1 r2 LD e1 e2
  go_enter Tryd.func3, Tryd.ntmps3
  go_wp2_with fail
  refine (dbegun_any w HLD.out).mono ?_
  rintro e w1 ⟨rfl, hb1⟩
  go_wp2_with fail
  go_loopw [6] (fun v wr => ∃ i : Nat, i ≤ N1 ∧ v = .int .i64 i ∧ Below w.heap.size w wr) (fun v _ => N1 - (intOf v).toNat)
  case atStart => exact ⟨0, Nat.zero_le _, rfl, hb1⟩
  case round =>
    clear hb1
    rename World => V
    obtain ⟨i, hi, rfl, B0⟩ := hrel
    by_cases hlt : i < N1
    · as_aux_lemma =>
        have hl1 : i < l1.length := by rw [E1.out]; exact hlt
        have ii : (i : Int) < (N1 : Int) := by omega
        have ii0 : (0 : Int) ≤ (i : Int) := by omega
        obtain ⟨⟨g1, o1, rfl, hcr⟩, hzA, hzB⟩ := R1.out i hl1
        generalize l1[i] = ab at *
        obtain ⟨A, B⟩ := ab
        dsimp only at hcr hzA hzB
        have gl1 := lt_of_cell (hcr.below B0).1
        have HCR := hid1 (hcr.below B0)
        have ZA := hid1 (hzA.below B0)
        have ZB := hid1 (hzB.below B0)
        clear hcr hzA hzB
        go_upto_region 8 with fail
        have bel : Below V.heap.size V (V.alloc (.cells #[.slice none 0 0, .slice none 0 0] 28)) := bl_alloc (Below.refl _ _) _
        refine gen_world (fun W => Rm W V.heap.size [] ∧ Below V.heap.size V W) ⟨rm_new V, bel⟩ ?_
        rintro W ⟨hRm, hVW⟩
        clear bel
        obtain ⟨M, eM⟩ : ∃ M, V.heap.size = M := ⟨_, rfl⟩
        have HVW := hid1 hVW
        have hMW : M ≤ W.heap.size := by rw [← eM]; exact hVW.size
        rw [eM] at hRm gl1
        rw [eM]
        have EM := hid1 eM
        have HBY : Hid (∀ Y, Below M W Y → Below V.heap.size V Y) := fun Y hY => by
          have h := (HVW.out.mono (Nat.le_of_eq EM.out.symm)).trans hY
          rw [← EM.out] at h
          exact h
        have RZ : Hid (∀ Y, Below M W Y → Rz Y A ∧ Rz Y B ∧ Cr Y g1 (o1 + i * 4) A B) := fun Y hY => ⟨ZA.out.below (HBY.out Y hY), ZB.out.below (HBY.out Y hY), HCR.out.below (HBY.out Y hY)⟩
        have HRm := hid1 hRm
        clear hRm hVW eM
        obtain ⟨_, _, a0, a1, a2, a3⟩ := RZ.out W (Below.refl _ _)
        go_wp2_with fail
        refine (room_row A B M [] W (by simp) HRm.out (fun Y hY => (RZ.out Y hY).1) (fun Y hY => (RZ.out Y hY).2.1)).mono ?_
        rintro e y1 ⟨g8, c8, g9, c9, rfl, hrm1, hbm1, hfr1⟩
        have HL2 := hid1 (And.intro hrm1 hbm1)
        clear hrm1 hbm1 hfr1 a0 a1 a2 a3 HRm
        go_wp2_with fail
        refine gen_calls (fun Y => Py W Y M y1.heap.size ([] ++ [(A, tv A g8 c8)] ++ [(B, tv B g9 c9)]) (tw A g8) (tw B g9)) ⟨HL2.out.1.below (bl_alloc (Below.refl _ _) _), q_new y1 (tw A g8) (tw B g9) _, HL2.out.2.trans ((bl_alloc (Below.refl _ _) _).mono (Nat.le_trans hMW HL2.out.2.size)), hMW⟩ ?_
        intro Y2 hp2
        obtain ⟨rb, erb⟩ : ∃ rb, y1.heap.size = rb := ⟨_, rfl⟩
        rw [erb] at hp2
        rw [erb]
        clear HL2 erb
        have TW : Hid (∀ Y, Py W Y M rb ([] ++ [(A, tv A g8 c8)] ++ [(B, tv B g9 c9)]) (tw A g8) (tw B g9) → Rw Y (tw A g8) ∧ Rw Y (tw B g9)) := fun Y hY => ⟨hY.m.twin (c := c8) (by simp) (RZ.out Y hY.b).1.1, hY.m.twin (c := c9) (by simp) (RZ.out Y hY.b).2.1.1⟩
        have CD := dcheck_any (tw A g8) (tw B g9) Y2 (TW.out Y2 hp2).1 (TW.out Y2 hp2).2
        rw [show dck (tw A g8) (tw B g9) = dck A B from rfl] at CD
        obtain ⟨q, eq⟩ : ∃ q, dck A B = q := ⟨_, rfl⟩
        have EQ := hid1 eq
        rw [eq] at CD
        clear eq
        refine CD.mono ?_
        rintro e y3 ⟨rfl, hb3⟩
        have HP3 := hid1 (hp2.below hb3)
        clear CD hp2 hb3
        obtain ⟨_, _, a0, a1, a2, a3⟩ := RZ.out y3 HP3.out.b
        have CR := rcheck_any A B y3 (RZ.out y3 HP3.out.b).1.1 (RZ.out y3 HP3.out.b).2.1.1
        rw [EQ.out] at CR
        go_wp2_with fail
        refine CR.mono ?_
        rintro e y4 ⟨rfl, hb4⟩
        have HP4 := hid1 (HP3.out.below hb4)
        clear CR HP3 hb4 a0 a1 a2 a3
        have b0 := q0 HP4.out.r
        have b1 := q1 HP4.out.r
        have b2 := q2 HP4.out.r
        have b3 := q3 HP4.out.r
        have CU := unpack_w (tw A g8) (tw B g9) y4 (TW.out y4 HP4.out).1 (TW.out y4 HP4.out).2
        rw [show dck (tw A g8) (tw B g9) = dck A B from rfl, show ul (tw A g8) (tw B g9) = ul A B from rfl, EQ.out] at CU
        obtain ⟨lu, elu⟩ : ∃ lu, ul A B = lu := ⟨_, rfl⟩
        have ELU := hid1 elu
        rw [elu] at CU
        obtain ⟨nu, enu⟩ : ∃ nu, lu.length = nu := ⟨_, rfl⟩
        have ENU := hid1 enu
        rw [enu] at CU
        have hnu : nu ≤ 9223372036854775807 := by
          rw [← enu, ← elu]
          unfold ul
          split
          · rename_i hd
            obtain ⟨n, e1, _, e3, _⟩ := dck_zero hd
            rw [wtl_len, e1, Int.toNat_natCast]; omega
          · simp
        clear elu enu
        go_wp2_with fail
        refine CU.mono ?_
        rintro e y5 ⟨aa, ac, rfl, hr5, hb5⟩
        have HP5 := hid1 (HP4.out.below hb5)
        have H85 := hid1 hr5
        clear CU HP4 hr5 hb5 b0 b1 b2 b3
        obtain ⟨_, _, a0, a1, a2, a3⟩ := RZ.out y5 HP5.out.b
        have CU2 := runpack_w A B y5 (RZ.out y5 HP5.out.b).1.1 (RZ.out y5 HP5.out.b).2.1.1
        rw [ELU.out, EQ.out, ENU.out] at CU2
        go_wp2_with fail
        refine CU2.mono ?_
        rintro e y6 ⟨ba, bc, rfl, hr6, hb6⟩
        have HP6 := hid1 (HP5.out.below hb6)
        have H86 := hid1 hr6
        have H856 := hid1 (H85.out.below hb6)
        clear CU2 HP5 H85 hr6 hb6 a0 a1 a2 a3
        go_wp2_with fail
        refine (sameSmall_true lu nu ENU.out aa ba ac bc y6 hnu H856.out H86.out).mono ?_
        rintro e y7 ⟨rfl, hb7⟩
        have HP7 := hid1 (HP6.out.below hb7)
        clear HP6 hb7 H86 H856
        go_wp2_with fail
        refine (kept_any y7 M ([] ++ [(A, tv A g8 c8)] ++ [(B, tv B g9 c9)]) (by simp) HP7.out.m (fun e he => by
          obtain ⟨za, zb', _⟩ := RZ.out y7 HP7.out.b
          simp at he
          rcases he with rfl | rfl
          · exact za
          · exact zb')).mono ?_
        rintro e y8 ⟨rfl, hb8⟩
        have BF := hid1 (bl_step B0 (HBY.out y8 (HP7.out.below hb8).b))
        clear HP7 hb8 RZ HBY HVW TW B0
        go_wp2_with fail
        exact ⟨⟨i + 1, by omega, by go_num, BF.out⟩, by simp [intOf]; omega⟩
    · have hkN : i = N1 := by omega
      subst hkN
      go_wp2_with fail
      go_loopw [15] (fun v wr => ∃ k : Nat, k ≤ N2 ∧ v = .int .i64 k ∧ Below w.heap.size w wr) (fun v _ => N2 - (intOf v).toNat)
      case atStart => exact ⟨0, Nat.zero_le _, rfl, B0⟩
      case round =>
        clear B0
        rename World => V
        obtain ⟨k, hk, rfl, B0⟩ := hrel
        by_cases hkl : k < N2
        · as_aux_lemma =>
            have hl2 : k < l2.length := by rw [E2.out]; exact hkl
            have kk : (k : Int) < (N2 : Int) := by omega
            have kk0 : (0 : Int) ≤ (k : Int) := by omega
            obtain ⟨⟨g, o, rfl, c0⟩, hso⟩ := R2.out k hl2
            generalize l2[k] = s at *
            obtain ⟨sl, sao, scap⟩ := s
            obtain ⟨so1, so2, so3, so4, so5⟩ := hso
            dsimp only at c0 so1 so2 so3 so4 so5
            obtain ⟨N, eNN⟩ : ∃ N, sl.length = N := ⟨_, rfl⟩
            rw [eNN] at c0 so1
            have ENN := hid1 eNN
            have hN : N ≤ 140737488351232 := by omega
            have HS4 := hid1 so4
            have HS5 := hid1 so5
            have HC0 := hid1 c0
            have CN : Hid (∀ Y, Below w.heap.size w Y → Calls Tryd.prog 13 #[.slice sao N scap] Y fun e w' => ∃ g cap, e = .returned (.slice (some ⟨g, 0, none⟩) (N + 20) cap) ∧ N + 20 ≤ cap ∧ cap ≤ maxLen ∧ R8 w' (some ⟨g, 0, none⟩) (mks sl 20) ∧ Below Y.heap.size Y w') := fun Y hY => by
              refine (lnumbers_any sl N ENN.out sao scap Y hN HS4.out (HS5.out.below hY)).mono ?_
              rintro e w' ⟨v, rfl, hown, hb⟩
              have hlen : (mks sl 20).length = N + 20 := by rw [mks_len, ENN.out]
              rcases hown.2 with ⟨_, h0⟩ | ⟨g, cap, cur, rfl, _, _, h4, h5, _⟩
              · omega
              · have hown2 := hown
                rw [← hlen] at hown2
                obtain ⟨ao', cap', e2, hr8⟩ := r8_own hown2
                injection e2 with e3 e4 e5
                subst e3
                exact ⟨g, cap, rfl, h4, h5, hr8.2.2.2.2, hb⟩
            clear so1 so2 so3 so4 so5 c0 eNN
            have c0 := keepc B0 HC0.out
            go_wp2_with fail
            refine (CN.out V B0).mono ?_
            rintro e y2 ⟨g2, cap2, rfl, hc2, hc2', hr2, hb2⟩
            have HB2 := hid1 (bl_step B0 hb2)
            have HR2 := hid1 hr2
            clear B0 hr2 hb2 c0
            have c0 := keepc HB2.out HC0.out
            have hcm : cap2 ≤ 9223372036854775807 := by have := hc2'; unfold maxLen at this; omega
            have icm : (cap2 : Int) ≤ 9223372036854775807 := by omega
            have iN : (N : Int) ≤ (cap2 : Int) := by omega
            have iN2 : (N : Int) + 20 ≤ (cap2 : Int) := by omega
            have hNi : (N : Int) ≤ 140737488351232 := by omega
            obtain ⟨E, eE⟩ : ∃ E, pkE sl N = E := ⟨_, rfl⟩
            have EE := hid1 eE
            clear eE
            have CP := pack_w sl N ENN.out (some ⟨g2, 0, none⟩) (N + 20) y2 (by omega) (mks_pre' HR2.out)
            rw [EE.out] at CP
            go_wp2_with fail
            refine CP.mono ?_
            rintro e y3 ⟨S, T, rfl, hEx, ruS, ruT, hb3⟩
            have HB3 := hid1 (bl_step HB2.out hb3)
            have HR3 := hid1 (HR2.out.below hb3)
            have HU3 := hid1 (And.intro ruS ruT)
            have HEX := hid1 hEx
            clear HB2 HR2 ruS ruT hEx hb3 CP c0
            have c0 := keepc (bl_step HB3.out (bl_alloc (Below.refl _ y3) (.cells #[.int .i64 S.n, .slice S.ao S.m S.cap, .int .i64 T.n, .slice T.ao T.m T.cap] 33))) HC0.out
            go_wp2_with fail
            refine gen_calls (fun Y => Below y3.heap.size y3 Y ∧ Y.rowIs y3.heap.size 33 4 (qf S T)) ⟨bl_alloc (Below.refl _ _) _, q_new y3 S T _⟩ ?_
            rintro Y4 ⟨hb4, rP⟩
            have HB4 := hid1 (bl_step HB3.out hb4)
            have HR4 := hid1 (HR3.out.below hb4)
            have HU4 := hid1 (And.intro (HU3.out.1.below hb4) (HU3.out.2.below hb4))
            obtain ⟨pb, epb⟩ : ∃ pb, y3.heap.size = pb := ⟨_, rfl⟩
            rw [epb] at rP
            rw [epb]
            have RP4 := hid1 rP
            clear HB3 HR3 HU3 hb4 rP epb c0
            have CR := rpack_w sl N ENN.out sao scap Y4 (by omega) (HS5.out.below HB4.out)
            rw [EE.out] at CR
            refine CR.mono ?_
            rintro e y5 ⟨S', T', rfl, hEx', ruS', ruT', hb5⟩
            have HB5 := hid1 (bl_step HB4.out hb5)
            have HR5 := hid1 (HR4.out.below hb5)
            have HU5 := hid1 (And.intro (HU4.out.1.below hb5) (HU4.out.2.below hb5))
            have HV5 := hid1 (And.intro ruS' ruT')
            have RP5 := hid1 (keepr hb5 RP4.out)
            have HEX' := hid1 hEx'
            clear HB4 HR4 HU4 RP4 hb5 ruS' ruT' hEx' CR
            have c0 := keepc (bl_step HB5.out (bl_alloc (Below.refl _ y5) (.cells #[.int .i64 S'.n, .slice S'.ao S'.m S'.cap, .int .i64 T'.n, .slice T'.ao T'.m T'.cap] 33))) HC0.out
            have p0 := keepc (bl_alloc (Below.refl _ y5) (.cells #[.int .i64 S'.n, .slice S'.ao S'.m S'.cap, .int .i64 T'.n, .slice T'.ao T'.m T'.cap] 33)) (q0 RP5.out)
            have p1 := keepc (bl_alloc (Below.refl _ y5) (.cells #[.int .i64 S'.n, .slice S'.ao S'.m S'.cap, .int .i64 T'.n, .slice T'.ao T'.m T'.cap] 33)) (q1 RP5.out)
            have p2 := keepc (bl_alloc (Below.refl _ y5) (.cells #[.int .i64 S'.n, .slice S'.ao S'.m S'.cap, .int .i64 T'.n, .slice T'.ao T'.m T'.cap] 33)) (q2 RP5.out)
            have p3 := keepc (bl_alloc (Below.refl _ y5) (.cells #[.int .i64 S'.n, .slice S'.ao S'.m S'.cap, .int .i64 T'.n, .slice T'.ao T'.m T'.cap] 33)) (q3 RP5.out)
            go_wp2_with fail
            refine gen_calls (fun Y => Below y5.heap.size y5 Y) (bl_alloc (Below.refl _ _) _) ?_
            intro Y6 hb6
            have HB6 := hid1 (bl_step HB5.out hb6)
            have HR6 := hid1 (HR5.out.below hb6)
            clear c0 p0 p1 p2 p3
            have hm1 : S.m ≤ 9223372036854775807 := by
              rw [HEX.out.1.2.1]
              have : pkn sl N ≤ N := by unfold pkn; split <;> omega
              unfold nw; omega
            have hm2 : T.m ≤ 9223372036854775807 := by
              rw [HEX.out.2.2.1]
              have : pkn sl N ≤ N := by unfold pkn; split <;> omega
              unfold nw; omega
            have CSR := sameRow_true S T S' T' Y6 ⟨by rw [HEX.out.1.1, HEX'.out.1.1], by rw [HEX.out.1.2.1, HEX'.out.1.2.1], by rw [HEX.out.1.2.2, HEX'.out.1.2.2]⟩ ⟨by rw [HEX.out.2.1, HEX'.out.2.1], by rw [HEX.out.2.2.1, HEX'.out.2.2.1], by rw [HEX.out.2.2.2, HEX'.out.2.2.2]⟩ hm1 hm2 (HU5.out.1.below hb6) (HU5.out.2.below hb6) (HV5.out.1.below hb6) (HV5.out.2.below hb6)
            refine CSR.mono ?_
            rintro e y7 ⟨rfl, hb7⟩
            have HB7 := hid1 (bl_step HB6.out hb7)
            have HR7 := hid1 (HR6.out.below hb7)
            clear CSR HB5 HR5 HB6 HR6 HU5 HV5 RP5 hb6 hb7 HEX HEX'
            have c0 := keepc HB7.out HC0.out
            go_wp2_with fail
            refine (CN.out y7 HB7.out).mono ?_
            rintro e y8 ⟨g7, cap7, rfl, _, _, hr8, hb8⟩
            have HB8 := hid1 (bl_step HB7.out hb8)
            have HR8 := hid1 (HR7.out.below hb8)
            have HR8' := hid1 hr8
            clear HB7 HR7 hr8 hb8 c0
            go_wp2_with fail
            refine (sameSmall_true (mks sl 20) (N + 20) (by rw [mks_len, ENN.out]) (some ⟨g2, 0, none⟩) (some ⟨g7, 0, none⟩) cap2 cap7 y8 (by omega) HR8.out HR8'.out).mono ?_
            rintro e y9 ⟨rfl, hb9⟩
            have BF := hid1 (bl_step HB8.out hb9)
            clear HB8 HR8 HR8' hb9
            go_wp2_with fail
            exact ⟨⟨k + 1, by omega, by go_num, BF.out⟩, by simp [intOf]; omega⟩
        · have hkN : k = N2 := by omega
          subst hkN
          go_wp2_with fail
          go_ret
          exact ⟨rfl, B0⟩
end Go.Proofs.YtpinmfhabbcflabDoor
