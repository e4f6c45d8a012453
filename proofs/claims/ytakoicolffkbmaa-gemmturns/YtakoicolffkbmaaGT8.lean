/- GemmTurns. -/
import Derived.Test.YtakoicolffkbmaaGT7
namespace Go.Proofs.Ytakoicolffkbmaa
open Go.RowKit

theorem texts_own (ao : Option Addr) (n ca len K : Nat) (w : World) (hK : K ≤ 100) (hlen : len ≤ 1000) (h : Lby w ao n) :
    Calls Try.prog 12 #[.slice ao n ca, .int .i64 K, .int .i64 len] w fun e w' => ∃ bo L cb, e = .returned (.slice bo (min n K) cb) ∧ L.length = min n K ∧ ((bo = none ∧ cb = 0) ∨ ∃ g, bo = some ⟨g, 0, none⟩) ∧ Ls w' bo L ∧ (∀ s ∈ L, OkS len s) ∧ Below w.heap.size w w' := by
  refine (texts_any ao n ca len K w hK hlen h).mono ?_
  rintro e w' ⟨v, L, rfl, hl, ht⟩
  obtain ⟨bo, cb, e, h1, h2⟩ := ls_own ht.o
  have hf : (bo = none ∧ cb = 0) ∨ ∃ g, bo = some ⟨g, 0, none⟩ := by
    rcases own_forms ht.o with ⟨e2, _⟩ | ⟨g, cap, e2, _⟩
    · rw [e2] at e
      injection e with e3 e4 e5
      exact .inl ⟨e3.symm, e5.symm⟩
    · rw [e2] at e
      injection e with e3 e4 e5
      exact .inr ⟨g, e3.symm⟩
  rw [hl] at e
  exact ⟨bo, L, cb, by rw [e], hl, hf, h2, ht.k, ht.b⟩
/-- The lines and, behind them, the same ones turned, as far as they are. -/
def mo (L : List ByteArray) (i : Nat) : List ByteArray := L ++ (L.take i).map tS
theorem mo_len {L : List ByteArray} {i : Nat} (h : i ≤ L.length) : (mo L i).length = L.length + i := by simp [mo]; omega
theorem mo_step {L : List ByteArray} {i : Nat} (h : i < L.length) : mo L (i + 1) = mo L i ++ [tS L[i]] := by
  unfold mo
  rw [List.take_succ_eq_append_getElem h, List.map_append, List.append_assoc]; rfl
theorem mo_ok {n i : Nat} {L : List ByteArray} (h : ∀ s ∈ L, OkS n s) : ∀ s ∈ mo L i, OkS n s := fun s hs => by
  rcases List.mem_append.1 hs with h1 | h1
  · exact h s h1
  · obtain ⟨t, ht, rfl⟩ := List.mem_map.1 h1
    exact tS_ok (h t (List.mem_of_mem_take ht))
theorem mo_first {L : List ByteArray} {n i : Nat} (h : i < L.length) : (mo L n).getD i ByteArray.empty = L[i] := by
  unfold mo
  rw [List.getD_eq_getElem?_getD, List.getElem?_append_left h, List.getElem?_eq_getElem h]; rfl
theorem mo_then {L : List ByteArray} {i : Nat} (h : i < L.length) : (mo L L.length).getD (L.length + i) ByteArray.empty = tS L[i] := by
  unfold mo
  rw [List.getD_eq_getElem?_getD, List.getElem?_append_right (by omega), Nat.add_sub_cancel_left, List.take_length, List.getElem?_map, List.getElem?_eq_getElem h]; rfl
set_option maxHeartbeats 6400000 in
set_option maxRecDepth 100000 in
theorem gemmTurns_any (ao bo : Option Addr) (n1 c1 n2 c2 : Nat) (x : Int) (w : World) (hx0 : -9223372036854775808 ≤ x) (hx1 : x ≤ 9223372036854775807) (h1 : Lby w ao n1) (h2 : Lby w bo n2) :
    Calls Try.prog 5 #[.slice ao n1 c1, .slice bo n2 c2, .int .i64 x] w fun e w' => e = .returned (.bool true) ∧ Below w.heap.size w w' := by
  have H1 := hid1 h1
  have H2 := hid1 h2
  clear h1 h2
  go_enter Try.func5, Try.ntmps5
  go_wp2_with fail
  refine (gbegun_any w).mono ?_
  rintro e w1 ⟨rfl, B1⟩
  go_upto_if 23 with fail
  go_cut [2] (fun s wx => ∃ len : Nat, s = .int .i64 len ∧ len ≤ 9223372036854775807 ∧ wx = w1)
  case first =>
    by_cases hn : x < 0
    · go_wp2_with fail
      go_meet
      exact ⟨(-1 - x).toNat, by congr 1; omega, by omega, rfl⟩
    · have hn' : (0 : Int) ≤ x := by omega
      go_wp2_with fail
      go_meet
      exact ⟨x.toNat, by congr 1; omega, by omega, rfl⟩
  case rest =>
    obtain ⟨len0, rfl, hl0, rfl⟩ := hcut
    obtain ⟨len, elen⟩ : ∃ len : Nat, len0 % 200 = len := ⟨_, rfl⟩
    have hlen : len < 200 := by omega
    have er : (len0 : Int).tmod 200 = (len : Int) := by rw [Int.tmod_eq_emod_of_nonneg (by omega)]; omega
    have hlen' : len ≤ 1000 := by omega
    have hln : len ≤ 16777216 := by omega
    clear elen
    go_wp2_with fail
    refine (texts_own ao n1 c1 len 8 wc (by omega) hlen' (H1.out.below B1)).mono ?_
    rintro e w2 ⟨a2, LA, ca2, rfl, ela, hfa, hla, hoa, hb2⟩
    have B2 := bl_step B1 hb2
    have HLA := hid1 hla
    have HOA := hid1 hoa
    have ELA := hid1 ela
    have HFA := hid1 hfa
    obtain ⟨N, eN⟩ : ∃ N, min n1 8 = N := ⟨_, rfl⟩
    have hN8 : N ≤ 8 := by omega
    have hN : N ≤ 1000 := by omega
    rw [eN] at ELA ⊢
    clear hla hoa ela hb2 B1 eN hfa
    go_wp2_with fail
    refine (texts_ls bo n2 c2 len 8 w2 (by omega) hlen' (H2.out.below B2)).mono ?_
    rintro e w3 ⟨a3, LB, ca3, rfl, elb, hcb, hlb, hob, hb3⟩
    replace HLA := hid1 (HLA.out.below hb3)
    replace B2 := bl_step B2 hb3
    have HLB := hid1 hlb
    have HOB := hid1 hob
    have ELB := hid1 elb
    obtain ⟨K, eK⟩ : ∃ K, min n2 8 = K := ⟨_, rfl⟩
    have hK : K ≤ 1000 := by omega
    rw [eK] at hcb ELB ⊢
    clear hlb hob elb hb3 eK H1 H2
    go_wp2_with fail
    refine (packed_pr a2 LA N ca2 len w3 ELA.out hN hln HOA.out HLA.out).mono ?_
    rintro e w4 ⟨p1, k1, rfl, hp1, hb1⟩
    replace HLA := hid1 (HLA.out.below hb1)
    replace HLB := hid1 (HLB.out.below hb1)
    replace B2 := bl_step B2 hb1
    have HP1 := hid1 hp1
    clear hp1 hb1
    go_wp2_with fail
    refine (packed_pr a3 LB K ca3 len w4 ELB.out hK hln HOB.out HLB.out).mono ?_
    rintro e w5 ⟨p2, k2, rfl, hp2, hb2⟩
    replace HLA := hid1 (HLA.out.below hb2)
    replace HLB := hid1 (HLB.out.below hb2)
    replace HP1 := hid1 (HP1.out.below hb2)
    replace B2 := bl_step B2 hb2
    have HP2 := hid1 hp2
    clear hp2 hb2
    go_wp2_with fail
    refine (plain_lines w5 hln hN hK HP1.out HP2.out).mono ?_
    rintro e w6 ⟨G1, rfl, hl1, hbx⟩
    replace HLA := hid1 (HLA.out.below hbx)
    replace HLB := hid1 (HLB.out.below hbx)
    replace HP1 := hid1 (HP1.out.below hbx)
    replace HP2 := hid1 (HP2.out.below hbx)
    replace B2 := bl_step B2 hbx
    have HG1 := hid1 hl1
    clear hl1 hbx HP1 HP2
    go_wp2_with fail
    refine (packed_pr a3 LB K ca3 len w6 ELB.out hK hln HOB.out HLB.out).mono ?_
    rintro e w7 ⟨p3, k3, rfl, hp3, hb3⟩
    replace HLA := hid1 (HLA.out.below hb3)
    replace HLB := hid1 (HLB.out.below hb3)
    replace HG1 := hid1 (HG1.out.below hb3)
    replace B2 := bl_step B2 hb3
    have HP3 := hid1 hp3
    clear hp3 hb3
    go_wp2_with fail
    refine (packed_pr a2 LA N ca2 len w7 ELA.out hN hln HOA.out HLA.out).mono ?_
    rintro e w8 ⟨p4, k4, rfl, hp4, hb4⟩
    replace HLA := hid1 (HLA.out.below hb4)
    replace HLB := hid1 (HLB.out.below hb4)
    replace HG1 := hid1 (HG1.out.below hb4)
    replace HP3 := hid1 (HP3.out.below hb4)
    replace B2 := bl_step B2 hb4
    have HP4 := hid1 hp4
    clear hp4 hb4
    go_wp2_with fail
    refine (block_lines (p := 2) (q := 2) w8 hln hK hN (by omega) (by omega) HP3.out HP4.out).mono ?_
    rintro e w9 ⟨G2, rfl, hl2, hbx⟩
    replace HLA := hid1 (HLA.out.below hbx)
    replace HLB := hid1 (HLB.out.below hbx)
    replace HG1 := hid1 (HG1.out.below hbx)
    replace HP3 := hid1 (HP3.out.below hbx)
    replace HP4 := hid1 (HP4.out.below hbx)
    replace B2 := bl_step B2 hbx
    have HG2 := hid1 hl2
    clear hl2 hbx HP3 HP4
    have HB2 := hid1 B2
    clear B2
    go_wp2_with (at_builtin; refine appSAll rfl _ _ rfl w9.heap.size N ca2 a2 LA (by go_simp) (by go_simp) ELA.out HFA.out (by omega) (Nat.le_refl _) HLA.out ?_; intro v' wm hown hbm)
    have HO0 := hid1 hown
    have HBM := hid1 hbm
    clear hown hbm
    go_loopw [13, 14] (fun v x wr => ∃ (u : Value) (i : Nat), v = u ∧ i ≤ N ∧ x = .int .i64 i ∧ wr.ownsRow w9.heap.size 9 1 u (mo LA i).length (sts (mo LA i)) ∧ Below w9.heap.size w9 wr) (fun _ x _ => N - (intOf x).toNat)
    case atStart => exact ⟨_, 0, rfl, Nat.zero_le _, rfl, by have h := HO0.out; simpa [mo] using h, HBM.out⟩
    case round =>
      clear HO0 HBM
      obtain ⟨v, i, ev, hi, rfl, hown, hB⟩ := hrel
      replace ev := ev.symm
      subst ev
      have HO := hid1 hown
      clear hown
      by_cases hlt : i < N
      · have hil : i < LA.length := by rw [ELA.out]; exact hlt
        have ii : (i : Int) < (N : Int) := by omega
        have ii0 : (0 : Int) ≤ (i : Int) := by omega
        obtain ⟨g, o, rfl, c0⟩ := HLA.out.below hB i hil
        have hs := HOA.out LA[i] (List.getElem_mem hil)
        have HST := hid1 (mo_step hil)
        have hml : (mo LA i).length ≤ 16777216 := by rw [mo_len (by omega), ELA.out]; omega
        generalize LA[i] = s at *
        go_wp2_with fail
        refine (turned_any s len wr hlen' hs).mono ?_
        rintro e wt ⟨rfl, hbt⟩
        have HOt := hid1 (own_keepg HO.out hbt)
        have hBt := bl_step hB hbt
        have hsz := hBt.size
        have HBt := hid1 hBt
        clear HO hbt hB c0 hBt
        go_wp2_with (at_builtin; refine appSg rfl _ _ rfl w9.heap.size v (mo LA i) (by go_simp) HOt.out (tS s) (by go_simp) hml hsz ?_; intro v' w' hown hgrow)
        have BQ := grown_belowg HOt.out hsz hgrow
        exact ⟨⟨v', i + 1, rfl, by omega, by go_num, by rw [HST.out]; exact hown, HBt.out.trans BQ⟩, by simp [intOf]; omega⟩
      · have hiN : i = N := by omega
        subst hiN
        have ELM : Hid ((mo LA i).length = i + i) := hid1 (by rw [mo_len (by rw [ELA.out]; omega), ELA.out])
        obtain ⟨a4, ca4, ev, h4, hl4⟩ := ls_own HO.out
        rw [ELM.out] at ev
        subst ev
        have HLM := hid1 hl4
        replace HLA := hid1 (HLA.out.below hB)
        replace HLB := hid1 (HLB.out.below hB)
        replace HG1 := hid1 (HG1.out.below hB)
        replace HG2 := hid1 (HG2.out.below hB)
        have B2 := bl_step HB2.out hB
        clear HB2 hB HO hl4 h4
        go_wp2_with fail
        refine (packed_pr a4 (mo LA i) (i + i) ca4 len wr ELM.out (by omega) hln (mo_ok HOA.out) HLM.out).mono ?_
        rintro e w10 ⟨p5, k5, rfl, hp5, hb5⟩
        replace HLA := hid1 (HLA.out.below hb5)
        replace HLB := hid1 (HLB.out.below hb5)
        replace HG1 := hid1 (HG1.out.below hb5)
        replace HG2 := hid1 (HG2.out.below hb5)
        replace HLM := hid1 (HLM.out.below hb5)
        replace B2 := bl_step B2 hb5
        have HP5 := hid1 hp5
        clear hp5 hb5
        go_wp2_with fail
        refine (packed_pr a3 LB K ca3 len w10 ELB.out hK hln HOB.out HLB.out).mono ?_
        rintro e w11 ⟨p6, k6, rfl, hp6, hb6⟩
        replace HLA := hid1 (HLA.out.below hb6)
        replace HLB := hid1 (HLB.out.below hb6)
        replace HG1 := hid1 (HG1.out.below hb6)
        replace HG2 := hid1 (HG2.out.below hb6)
        replace HLM := hid1 (HLM.out.below hb6)
        replace HP5 := hid1 (HP5.out.below hb6)
        replace B2 := bl_step B2 hb6
        have HP6 := hid1 hp6
        clear hp6 hb6
        go_wp2_with fail
        refine (strip_lines (p := 1) w11 hln (by omega) hK (by omega) HP5.out HP6.out).mono ?_
        rintro e w12 ⟨G3, rfl, hl3, hbx⟩
        replace HLA := hid1 (HLA.out.below hbx)
        replace HLB := hid1 (HLB.out.below hbx)
        replace HG1 := hid1 (HG1.out.below hbx)
        replace HG2 := hid1 (HG2.out.below hbx)
        replace HLM := hid1 (HLM.out.below hbx)
        replace HP5 := hid1 (HP5.out.below hbx)
        replace HP6 := hid1 (HP6.out.below hbx)
        replace B2 := bl_step B2 hbx
        have HG3 := hid1 hl3
        clear hl3 hbx HP5 HP6 HLM
        have HB2 := hid1 B2
        clear B2
        go_wp2_with fail
        go_loopw [18] (fun x wq => ∃ k : Nat, k ≤ i ∧ x = .int .i64 k ∧ Qt w12 wq) (fun x _ => i - (intOf x).toNat)
        case atStart => exact ⟨0, Nat.zero_le _, rfl, Qt.refl _⟩
        case round =>
          rename World => V0
          obtain ⟨k, hk, rfl, hqk⟩ := hrel
          by_cases hkl : k < i
          · have kk : (k : Int) < (i : Int) := by omega
            have kk0 : (0 : Int) ≤ (k : Int) := by omega
            have kA : k < LA.length := by rw [ELA.out]; exact hkl
            have iw : IntKind.i64.wrap ((i : Int) + (k : Int)) = (i : Int) + (k : Int) := by rw [IntKind.wrap_i64]; omega
            have it : ((i : Int) + (k : Int)).toNat = i + k := by omega
            have iz0 : (0 : Int) ≤ (i : Int) + (k : Int) := by omega
            have iz1 : (i : Int) + (k : Int) < (i : Int) + (i : Int) := by omega
            have hBV := hqk.below (Below.refl _ w12)
            obtain ⟨g1, o1, r1, k1, e1, d1, l1⟩ := HG1.out.below hBV k hkl
            cases e1
            obtain ⟨g3, o3, r3, k3, e3, d3, l3⟩ := HG3.out.below hBV k (by omega)
            cases e3
            obtain ⟨g4, o4, r4, k4, e4, d4, l4⟩ := HG3.out.below hBV (i + k) (by omega)
            cases e4
            rw [Nat.zero_add] at d1 d3 d4
            have CT : Hid (∀ X, Qt V0 X → Calls Try.prog 17 #[.slice r3 K k3, .slice r1 K k1] X fun e w' => e = .returned (.bool true) ∧ ∃ n, w' = V0.drewN n) := fun X hX => by
              have hBX := hX.below (Below.refl _ V0)
              refine (eqNums_same r3 r1 K k3 k1 (lf len (mo LA i) LB k) (lf len LA LB k) X (by omega) (l3.below hBX) (l1.below hBX) (fun j hj => ?_)).mono ?_
              · have jB : j < LB.length := by rw [ELB.out]; exact hj
                rw [lf_at kA jB]
                unfold lf
                rw [mo_first kA]
                simp [List.getD, jB]
              · rintro e w' ⟨rfl, q', rfl⟩
                exact ⟨rfl, hX.drewN q'⟩
            clear l1 l3 l4 hBV
            go_wp2_with fail
            go_quiet ((go_at_call 17; exact CT.out _ ⟨_, by rfl⟩))
            go_wp2_with fail
            go_loopw [19] (fun x wr => ∃ j : Nat, j ≤ K ∧ x = .int .i64 j ∧ Qt w12 wr) (fun x _ => K - (intOf x).toNat)
            case atStart => exact ⟨0, Nat.zero_le _, rfl, hqk.drewN _⟩
            case round =>
              clear hqk d1 d3 d4 CT
              rename World => V
              obtain ⟨j, hj, rfl, hqj⟩ := hrel
              by_cases hjl : j < K
              · have jj : (j : Int) < (K : Int) := by omega
                have jj0 : (0 : Int) ≤ (j : Int) := by omega
                have jB : j < LB.length := by rw [ELB.out]; exact hjl
                have hBV := hqj.below (Below.refl _ w12)
                obtain ⟨g1, o1, r1, k1, e1, d1, l1⟩ := HG1.out.below hBV k hkl
                cases e1
                obtain ⟨g2, o2, r2, k2, e2, d2, l2⟩ := HG2.out.below hBV j hjl
                cases e2
                obtain ⟨g4, o4, r4, k4, e4, d4, l4⟩ := HG3.out.below hBV (i + k) (by omega)
                cases e4
                rw [Nat.zero_add] at d1 d2 d4
                obtain ⟨g5, o5, rfl, d5⟩ := l1 j hjl
                obtain ⟨g6, o6, rfl, d6⟩ := l2 k hkl
                obtain ⟨g7, o7, rfl, d7⟩ := l4 j hjl
                have hs := HOA.out LA[k] (List.getElem_mem kA)
                have z1 : lf len (mo LA i) LB (i + k) j = - lsm len LA[k] LB[j] := by
                  unfold lf
                  have h := mo_then kA
                  rw [ELA.out] at h
                  rw [h, show LB.getD j ByteArray.empty = LB[j] by simp [List.getD, jB], lsm_turned hs]
                rw [lf_at kA jB] at d5
                rw [lf_at jB kA, lsm_comm] at d6
                rw [z1] at d7
                have bv := lsm_bd len LA[k] LB[j]
                generalize lsm len LA[k] LB[j] = v at *
                have bv1 : -1000 ≤ v := by omega
                have bv2 : v ≤ 1000 := by omega
                have iv : IntKind.i64.wrap (-v) = -v := by rw [IntKind.wrap_i64]; omega
                clear hs z1 bv l1 l2 l4 hBV
                go_wp2_with fail
                go_quiet (fail)
                go_wp2_with fail
                exact ⟨⟨j + 1, by omega, by go_num, hqj.drewN _⟩, by simp [intOf]; omega⟩
              · have hjN : j = K := by omega
                subst hjN
                go_wp2_with fail
                exact ⟨⟨k + 1, by omega, by go_num, hqj⟩, by simp [intOf]; omega⟩
          · have hkN : k = i := by omega
            subst hkN
            go_wp2_with fail
            go_ret
            exact ⟨rfl, bl_step HB2.out (hqk.below (Below.refl _ _))⟩
end Go.Proofs.Ytakoicolffkbmaa
