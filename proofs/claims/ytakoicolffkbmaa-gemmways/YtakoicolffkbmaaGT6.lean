/- GemmWays. -/
import Derived.Test.YtakoicolffkbmaaGT5
namespace Go.Proofs.Ytakoicolffkbmaa
open Go.RowKit

set_option maxHeartbeats 3200000 in
set_option maxRecDepth 100000 in
theorem gemmWays_any (ao bo : Option Addr) (n1 c1 n2 c2 : Nat) (x y z : Int) (w : World) (hx0 : -9223372036854775808 ≤ x) (hx1 : x ≤ 9223372036854775807) (h1 : Lby w ao n1) (h2 : Lby w bo n2) :
    Calls Try.prog 4 #[.slice ao n1 c1, .slice bo n2 c2, .int .i64 x, .int .i64 y, .int .i64 z] w fun e w' => e = .returned (.bool true) ∧ Below w.heap.size w w' := by
  have H1 := hid1 h1
  have H2 := hid1 h2
  clear h1 h2
  go_enter Try.func4, Try.ntmps4
  go_wp2_with fail
  refine (gbegun_any w).mono ?_
  rintro e w1 ⟨rfl, B1⟩
  go_upto_if 24 with fail
  go_cut [2] (fun s wx => ∃ len : Nat, s = .int .i64 len ∧ len ≤ 9223372036854775807 ∧ wx = w1)
  case first =>
    by_cases hn : x < 0
    · go_wp2_with fail
      go_meet
      exact ⟨(-1 - x).toNat, by congr 1; omega, by omega, rfl⟩
    · have hn' : (0 : Int) ≤ x := by omega
      go_wp2_with fail
      go_meet
      exact ⟨x.toNat, by congr 1; omega, by omega, rfl⟩
  case rest =>
    obtain ⟨len0, rfl, hl0, rfl⟩ := hcut
    obtain ⟨len, elen⟩ : ∃ len : Nat, len0 % 300 = len := ⟨_, rfl⟩
    have hlen : len < 300 := by omega
    have er : (len0 : Int).tmod 300 = (len : Int) := by rw [Int.tmod_eq_emod_of_nonneg (by omega)]; omega
    have hlen' : len ≤ 1000 := by omega
    have hln : len ≤ 16777216 := by omega
    clear elen
    go_wp2_with fail
    refine (texts_ls ao n1 c1 len 12 wc (by omega) hlen' (H1.out.below B1)).mono ?_
    rintro e w2 ⟨a2, LA, ca2, rfl, ela, hca, hla, hoa, hb2⟩
    have B2 := bl_step B1 hb2
    have HLA := hid1 hla
    have HOA := hid1 hoa
    have ELA := hid1 ela
    obtain ⟨N, eN⟩ : ∃ N, min n1 12 = N := ⟨_, rfl⟩
    have hN : N ≤ 1000 := by omega
    rw [eN] at hca ELA ⊢
    clear hla hoa ela hb2 B1 eN
    go_wp2_with fail
    refine (texts_ls bo n2 c2 len 12 w2 (by omega) hlen' (H2.out.below B2)).mono ?_
    rintro e w3 ⟨a3, LB, ca3, rfl, elb, hcb, hlb, hob, hb3⟩
    replace HLA := hid1 (HLA.out.below hb3)
    replace B2 := bl_step B2 hb3
    have HLB := hid1 hlb
    have HOB := hid1 hob
    have ELB := hid1 elb
    obtain ⟨K, eK⟩ : ∃ K, min n2 12 = K := ⟨_, rfl⟩
    have hK : K ≤ 1000 := by omega
    rw [eK] at hcb ELB ⊢
    clear hlb hob elb hb3 eK H1 H2
    go_wp2_with fail
    refine (packed_pr a2 LA N ca2 len w3 ELA.out hN hln HOA.out HLA.out).mono ?_
    rintro e w4 ⟨p1, k1, rfl, hp1, hb1⟩
    replace HLA := hid1 (HLA.out.below hb1)
    replace HLB := hid1 (HLB.out.below hb1)
    replace B2 := bl_step B2 hb1
    have HP1 := hid1 hp1
    clear hp1 hb1
    go_wp2_with fail
    refine (packed_pr a3 LB K ca3 len w4 ELB.out hK hln HOB.out HLB.out).mono ?_
    rintro e w5 ⟨p2, k2, rfl, hp2, hb2⟩
    replace HLA := hid1 (HLA.out.below hb2)
    replace HLB := hid1 (HLB.out.below hb2)
    replace HP1 := hid1 (HP1.out.below hb2)
    replace B2 := bl_step B2 hb2
    have HP2 := hid1 hp2
    clear hp2 hb2
    go_wp2_with fail
    refine (plain_lines w5 hln hN hK HP1.out HP2.out).mono ?_
    rintro e w6 ⟨G1, rfl, hl1, hbx⟩
    replace HLA := hid1 (HLA.out.below hbx)
    replace HLB := hid1 (HLB.out.below hbx)
    replace HP1 := hid1 (HP1.out.below hbx)
    replace HP2 := hid1 (HP2.out.below hbx)
    replace B2 := bl_step B2 hbx
    have HG1 := hid1 hl1
    clear hl1 hbx HP1 HP2
    go_upto_region 9 with fail
    go_cut [48] (fun s wx => ∃ b, s = .bool b ∧ (b = false → 1 ≤ y ∧ y ≤ 4096) ∧ wx = w6)
    case first =>
      by_cases hy1 : y < 1
      · have hy1' : decide (y < 1) = true := by simpa using hy1
        go_wp2_with fail
        go_meet
        exact ⟨true, rfl, by simp, rfl⟩
      · by_cases hy2 : 4096 < y
        · have hy1' : (1 : Int) ≤ y := by omega
          go_wp2_with fail
          go_meet
          exact ⟨true, rfl, by simp, rfl⟩
        · have hy1' : (1 : Int) ≤ y := by omega
          have hy2' : y ≤ 4096 := by omega
          go_wp2_with fail
          go_meet
          exact ⟨false, rfl, fun _ => ⟨hy1', hy2'⟩, rfl⟩
    case rest =>
      obtain ⟨bq, rfl, hbq, rfl⟩ := hcut
      go_upto_if 48 with fail
      go_cut [3] (fun s wx => ∃ p : Nat, s = .int .i64 p ∧ (1 ≤ p ∧ p ≤ 4096) ∧ wx = wc)
      case first =>
        cases bq
        · obtain ⟨hy1, hy2⟩ := hbq rfl
          go_wp2_with fail
          go_meet
          exact ⟨y.toNat, by congr 1; omega, by omega, rfl⟩
        · go_wp2_with fail
          go_meet
          exact ⟨3, rfl, by omega, rfl⟩
      case rest =>
        obtain ⟨p, rfl, hp, rfl⟩ := hcut
        clear hbq
        go_upto_region 11 with fail
        go_cut [54] (fun s wx => ∃ b, s = .bool b ∧ (b = false → 1 ≤ z ∧ z ≤ 4096) ∧ wx = wc)
        case first =>
          by_cases hy1 : z < 1
          · have hy1' : decide (z < 1) = true := by simpa using hy1
            go_wp2_with fail
            go_meet
            exact ⟨true, rfl, by simp, rfl⟩
          · by_cases hy2 : 4096 < z
            · have hy1' : (1 : Int) ≤ z := by omega
              go_wp2_with fail
              go_meet
              exact ⟨true, rfl, by simp, rfl⟩
            · have hy1' : (1 : Int) ≤ z := by omega
              have hy2' : z ≤ 4096 := by omega
              go_wp2_with fail
              go_meet
              exact ⟨false, rfl, fun _ => ⟨hy1', hy2'⟩, rfl⟩
        case rest =>
          obtain ⟨bq, rfl, hbq, rfl⟩ := hcut
          go_upto_if 54 with fail
          go_cut [4] (fun s wx => ∃ q : Nat, s = .int .i64 q ∧ (1 ≤ q ∧ q ≤ 4096) ∧ wx = wc)
          case first =>
            cases bq
            · obtain ⟨hy1, hy2⟩ := hbq rfl
              go_wp2_with fail
              go_meet
              exact ⟨z.toNat, by congr 1; omega, by omega, rfl⟩
            · go_wp2_with fail
              go_meet
              exact ⟨2, rfl, by omega, rfl⟩
          case rest =>
            obtain ⟨q, rfl, hq, rfl⟩ := hcut
            clear hbq
            go_wp2_with fail
            refine (packed_pr a2 LA N ca2 len wc ELA.out hN hln HOA.out HLA.out).mono ?_
            rintro e w7 ⟨p3, k3, rfl, hp3, hb3⟩
            replace HLA := hid1 (HLA.out.below hb3)
            replace HLB := hid1 (HLB.out.below hb3)
            replace HG1 := hid1 (HG1.out.below hb3)
            replace B2 := bl_step B2 hb3
            have HP3 := hid1 hp3
            clear hp3 hb3
            go_wp2_with fail
            refine (packed_pr a3 LB K ca3 len w7 ELB.out hK hln HOB.out HLB.out).mono ?_
            rintro e w8 ⟨p4, k4, rfl, hp4, hb4⟩
            replace HLA := hid1 (HLA.out.below hb4)
            replace HLB := hid1 (HLB.out.below hb4)
            replace HG1 := hid1 (HG1.out.below hb4)
            replace HP3 := hid1 (HP3.out.below hb4)
            replace B2 := bl_step B2 hb4
            have HP4 := hid1 hp4
            clear hp4 hb4
            go_wp2_with fail
            refine (block_lines w8 hln hN hK hp hq HP3.out HP4.out).mono ?_
            rintro e w9 ⟨G2, rfl, hl2, hbx⟩
            replace HLA := hid1 (HLA.out.below hbx)
            replace HLB := hid1 (HLB.out.below hbx)
            replace HG1 := hid1 (HG1.out.below hbx)
            replace HP3 := hid1 (HP3.out.below hbx)
            replace HP4 := hid1 (HP4.out.below hbx)
            replace B2 := bl_step B2 hbx
            have HG2 := hid1 hl2
            clear hl2 hbx HP3 HP4
            go_wp2_with fail
            refine (packed_pr a2 LA N ca2 len w9 ELA.out hN hln HOA.out HLA.out).mono ?_
            rintro e w10 ⟨p5, k5, rfl, hp5, hb5⟩
            replace HLA := hid1 (HLA.out.below hb5)
            replace HLB := hid1 (HLB.out.below hb5)
            replace HG1 := hid1 (HG1.out.below hb5)
            replace HG2 := hid1 (HG2.out.below hb5)
            replace B2 := bl_step B2 hb5
            have HP5 := hid1 hp5
            clear hp5 hb5
            go_wp2_with fail
            refine (packed_pr a3 LB K ca3 len w10 ELB.out hK hln HOB.out HLB.out).mono ?_
            rintro e w11 ⟨p6, k6, rfl, hp6, hb6⟩
            replace HLA := hid1 (HLA.out.below hb6)
            replace HLB := hid1 (HLB.out.below hb6)
            replace HG1 := hid1 (HG1.out.below hb6)
            replace HG2 := hid1 (HG2.out.below hb6)
            replace HP5 := hid1 (HP5.out.below hb6)
            replace B2 := bl_step B2 hb6
            have HP6 := hid1 hp6
            clear hp6 hb6
            go_wp2_with fail
            refine (strip_lines w11 hln hN hK hq HP5.out HP6.out).mono ?_
            rintro e w12 ⟨G3, rfl, hl3, hbx⟩
            replace HLA := hid1 (HLA.out.below hbx)
            replace HLB := hid1 (HLB.out.below hbx)
            replace HG1 := hid1 (HG1.out.below hbx)
            replace HG2 := hid1 (HG2.out.below hbx)
            replace HP5 := hid1 (HP5.out.below hbx)
            replace HP6 := hid1 (HP6.out.below hbx)
            replace B2 := bl_step B2 hbx
            have HG3 := hid1 hl3
            clear hl3 hbx HP5 HP6
            go_wp2_with fail
            refine (eq_same (some ⟨G1, 0, none⟩) (some ⟨G2, 0, none⟩) N K N N (lf len LA LB) (lf len LA LB) w12 (by omega) (.inr (by omega)) HG1.out HG2.out (fun _ _ _ _ => rfl)).mono ?_
            rintro e w13 ⟨rfl, hqt⟩
            have hbq := hqt.below (Below.refl _ w12)
            replace HLA := hid1 (HLA.out.below hbq)
            replace HLB := hid1 (HLB.out.below hbq)
            replace HG1 := hid1 (HG1.out.below hbq)
            replace HG2 := hid1 (HG2.out.below hbq)
            replace HG3 := hid1 (HG3.out.below hbq)
            replace B2 := bl_step B2 hbq
            clear hqt hbq
            go_wp2_with fail
            refine (eq_same (some ⟨G1, 0, none⟩) (some ⟨G3, 0, none⟩) N K N N (lf len LA LB) (lf len LA LB) w13 (by omega) (.inr (by omega)) HG1.out HG3.out (fun _ _ _ _ => rfl)).mono ?_
            rintro e w14 ⟨rfl, hqt⟩
            have hbq := hqt.below (Below.refl _ w13)
            replace HLA := hid1 (HLA.out.below hbq)
            replace HLB := hid1 (HLB.out.below hbq)
            replace HG1 := hid1 (HG1.out.below hbq)
            replace HG2 := hid1 (HG2.out.below hbq)
            replace HG3 := hid1 (HG3.out.below hbq)
            replace B2 := bl_step B2 hbq
            clear hqt hbq
            clear HG2 HG3
            have HB2 := hid1 B2
            clear B2
            go_wp2_with fail
            go_loopw [19] (fun x wr => ∃ i : Nat, i ≤ N ∧ x = .int .i64 i ∧ Qt w14 wr) (fun x _ => N - (intOf x).toNat)
            case atStart => exact ⟨0, Nat.zero_le _, rfl, Qt.refl _⟩
            case round =>
              obtain ⟨i, hi, rfl, hqi⟩ := hrel
              by_cases hil : i < N
              · have ii : (i : Int) < (N : Int) := by omega
                have ii0 : (0 : Int) ≤ (i : Int) := by omega
                obtain ⟨g1, o1, r1, k1, e1, d1, l1⟩ := HG1.out.below (hqi.below (Below.refl _ _)) i hil
                cases e1
                rw [Nat.zero_add] at d1
                go_wp2_with fail
                go_loopw [20] (fun x wr => ∃ j : Nat, j ≤ K ∧ x = .int .i64 j ∧ Qt w14 wr) (fun x _ => K - (intOf x).toNat)
                case atStart => exact ⟨0, Nat.zero_le _, rfl, hqi⟩
                case round =>
                  clear hqi d1 l1
                  rename World => V
                  obtain ⟨j, hj, rfl, hqi⟩ := hrel
                  by_cases hjl : j < K
                  · have jj : (j : Int) < (K : Int) := by omega
                    have jj0 : (0 : Int) ≤ (j : Int) := by omega
                    have hBV := hqi.below (Below.refl _ w14)
                    obtain ⟨g1, o1, r1, k1, e1, d1, l1⟩ := HG1.out.below hBV i hil
                    cases e1
                    rw [Nat.zero_add] at d1
                    obtain ⟨g5, o5, rfl, d5⟩ := l1 j hjl
                    have iL : i < LA.length := by rw [ELA.out]; exact hil
                    have jL : j < LB.length := by rw [ELB.out]; exact hjl
                    obtain ⟨g6, o6, rfl, d6⟩ := HLA.out.below hBV i iL
                    obtain ⟨g7, o7, rfl, d7⟩ := HLB.out.below hBV j jL
                    have hs := HOA.out LA[i] (List.getElem_mem iL)
                    have ht := HOB.out LB[j] (List.getElem_mem jL)
                    rw [lf_at iL jL] at d5
                    generalize LA[i] = s at *
                    generalize LB[j] = t at *
                    have CT : Hid (∀ X, Qt V X → Calls Try.prog 15 #[.string s, .string t] X fun e w' => e = .returned (.int .i64 (lsm len s t)) ∧ ∃ n, w' = V.drewN n) := fun X hX => by
                      refine (times_any s t len X hln hs ht).mono ?_
                      rintro e w' ⟨rfl, q', rfl⟩
                      exact ⟨rfl, hX.drewN q'⟩
                    generalize lsm len s t = v at *
                    clear hs ht l1 hBV
                    go_wp2_with fail
                    go_quiet ((go_at_call 15; exact CT.out _ ⟨_, by rfl⟩))
                    go_wp2_with fail
                    exact ⟨⟨j + 1, by omega, by go_num, hqi.drewN _⟩, by simp [intOf]; omega⟩
                  · have hjN : j = K := by omega
                    subst hjN
                    go_wp2_with fail
                    exact ⟨⟨i + 1, by omega, by go_num, hqi⟩, by simp [intOf]; omega⟩
              · have hiN : i = N := by omega
                subst hiN
                go_wp2_with fail
                go_ret
                exact ⟨rfl, bl_step HB2.out (hqi.below (Below.refl _ _))⟩
end Go.Proofs.Ytakoicolffkbmaa
