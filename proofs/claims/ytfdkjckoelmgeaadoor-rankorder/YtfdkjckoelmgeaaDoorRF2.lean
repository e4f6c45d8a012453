/- RankFull: the walk. -/
import Derived.Test.YtfdkjckoelmgeaaDoorRF1
namespace Go.Proofs.YtfdkjckoelmgeaaDoor
open Go.RowKit Go.Sort

theorem kgo {P : Program} {c : Code} {Q : Exit → Act → World → Prop} {K : Act → World → Prop} {a : Act} {w : World} (h : ∀ a w, c.wp P Q a w → K a w) (h2 : c.wp P Q a w) : K a w := h _ _ h2
set_option maxHeartbeats 4000000 in
set_option maxRecDepth 100000 in
theorem rankFull_any (x0 x1 x2 : Int) (h0 : -9223372036854775808 ≤ x0 ∧ x0 ≤ 9223372036854775807) (h1 : -9223372036854775808 ≤ x1 ∧ x1 ≤ 9223372036854775807) (h2 : -9223372036854775808 ≤ x2 ∧ x2 ≤ 9223372036854775807) (w : World) (L : LaidP w) :
    Calls Tryd.prog 4 #[.int .i64 x0, .int .i64 x1, .int .i64 x2] w fun e w' => e = .returned (.bool true) ∧ Below w.heap.size w w' := by
  have HL := hid1 L
  clear L
  have HB := fun X hX => begun_any X hX
  go_enter Tryd.func4, Tryd.ntmps4
  go_upto_region 3 with (go_at_call 8; refine (HB _ HL.out).mono ?_; rintro e w1 ⟨rfl, hb1⟩)
  go_cut [23] from 18 to 23 (fun s wx => s = .bool (decide (x0 < 1 ∨ 9 < x0)) ∧ w1 = wx)
  case first =>
    by_cases c1 : x0 < 1
    · go_wp2_with fail
      go_meet
      exact ⟨by simp [c1], rfl⟩
    · by_cases c2 : 9 < x0
      · go_wp2_with fail
        go_meet
        exact ⟨by simp [c2], rfl⟩
      · go_wp2_with fail
        go_meet
        exact ⟨by simp [c1, c2], rfl⟩
  case rest =>
    obtain ⟨rfl, rfl⟩ := hcut
    go_upto_if 23 with fail
    go_cut [0] (fun s wx => (∃ k : Nat, 1 ≤ k ∧ k ≤ 9 ∧ s = .int .i64 (k : Int)) ∧ w1 = wx)
    case first =>
      by_cases c : x0 < 1 ∨ 9 < x0
      · go_wp2_with fail
        go_meet
        exact ⟨⟨4, by omega, by omega, rfl⟩, rfl⟩
      · obtain ⟨k, rfl⟩ := Int.eq_ofNat_of_zero_le (show 0 ≤ x0 by omega)
        go_wp2_with fail
        go_meet
        exact ⟨⟨k, by omega, by omega, rfl⟩, rfl⟩
    case rest =>
      obtain ⟨⟨k, k1, k9, rfl⟩, rfl⟩ := hcut
      go_upto_if 25 with fail
      go_cut [1] from 26 to 27 (fun s wx => (∃ a : Nat, a ≤ 9223372036854775807 ∧ s = .int .i64 (a : Int)) ∧ w1 = wx)
      case first =>
        by_cases c : x1 < 0
        · obtain ⟨a, ha⟩ := Int.eq_ofNat_of_zero_le (show 0 ≤ -1 - x1 by omega)
          have hw : IntKind.i64.wrap (-1 - x1) = (a : Int) := by rw [IntKind.wrap_i64]; omega
          go_wp2_with fail
          go_meet
          exact ⟨⟨a, by omega, rfl⟩, rfl⟩
        · obtain ⟨a, rfl⟩ := Int.eq_ofNat_of_zero_le (show 0 ≤ x1 by omega)
          go_wp2_with fail
          go_meet
          exact ⟨⟨a, by omega, rfl⟩, rfl⟩
      case rest =>
        obtain ⟨⟨a, ha, rfl⟩, rfl⟩ := hcut
        have kk : k * k ≤ 81 := Nat.mul_le_mul k9 k9
        have kp : 0 < k * k := Nat.mul_pos k1 k1
        have ek : IntKind.i64.wrap ((k : Int) * (k : Int)) = ((k * k : Nat) : Int) := by rw [← Int.natCast_mul, IntKind.wrap_i64]; omega
        obtain ⟨S, hS⟩ : ∃ S, k * k = S := ⟨_, rfl⟩
        rw [hS] at kk kp ek
        have em : (a : Int).tmod (S : Int) = ((a % S : Nat) : Int) := rfl
        have em2 : (a : Int) % (S : Int) = ((a % S : Nat) : Int) := by omega
        have nz1 : ¬ (S : Int) = 0 := by omega
        have nz2 : ¬ S = 0 := by omega
        have hlt : a % S < S := Nat.mod_lt _ kp
        obtain ⟨t, ht⟩ : ∃ t, a % S = t := ⟨_, rfl⟩
        rw [ht] at em em2 hlt
        have hw0 : IntKind.i64.wrap (t : Int) = (t : Int) := by rw [IntKind.wrap_i64]; omega
        have HS := hid1 hS
        clear hS
        go_upto_region 8 with fail
        clear em em2 ek nz1 nz2 ht ha kp hw0
        go_cut [38] from 33 to 38 (fun s wx => s = .bool (decide (x2 < 1 ∨ 4611686018427387904 < x2)) ∧ w1 = wx)
        case first =>
          by_cases c1 : x2 < 1
          · go_wp2_with fail
            go_meet
            exact ⟨by simp [c1], rfl⟩
          · by_cases c2 : 4611686018427387904 < x2
            · go_wp2_with fail
              go_meet
              exact ⟨by simp [c2], rfl⟩
            · go_wp2_with fail
              go_meet
              exact ⟨by simp [c1, c2], rfl⟩
        case rest =>
          obtain ⟨rfl, rfl⟩ := hcut
          go_upto_if 38 with fail
          go_cut [2] (fun s wx => (∃ m : Int, 1 ≤ m ∧ m ≤ 4611686018427387904 ∧ s = .int .i64 m) ∧ w1 = wx)
          case first =>
            by_cases c : x2 < 1 ∨ 4611686018427387904 < x2
            · go_wp2_with fail
              go_meet
              exact ⟨⟨1, by omega, by omega, rfl⟩, rfl⟩
            · go_wp2_with fail
              go_meet
              exact ⟨⟨x2, by omega, by omega, rfl⟩, rfl⟩
          case rest =>
            obtain ⟨⟨m, m1, m2, rfl⟩, rfl⟩ := hcut
            have hS := HS.out
            obtain ⟨A, hA⟩ : ∃ A, t / k = A := ⟨_, rfl⟩
            obtain ⟨B, hB⟩ : ∃ B, t % k = B := ⟨_, rfl⟩
            have hAk : A < k := by rw [← hA]; exact (Nat.div_lt_iff_lt_mul k1).2 (by omega)
            have hBk : B < k := by rw [← hB]; exact Nat.mod_lt _ k1
            clear hS
            go_upto_region 11 with (go_at_call 12; refine (new_ok k k1 (by omega) _).mono ?_; rintro e w2 ⟨G, b, K, rfl, tb, hb2⟩)
            have X0 : Bx w (w2.alloc (.cells #[.slice (some ⟨G, 0, none⟩) k k] 36)) w2.heap.size G b K k (t0 k) := Bx.new (bl_step hb1 hb2) tb hb1.size (t0_sc k)
            generalize w2.heap.size = p at *
            refine gen_world (fun X => Bx w X p G b K k (t0 k)) X0 ?_
            clear X0 tb hb2 hb1
            intro X1 S1
            have HS1 := hid1 S1
            obtain ⟨g1, c1, d0, d1, d2, f2, z2, st⟩ := S1.at hAk hBk
            have HST1 := hid1 st
            clear S1 st
            have q1 : (t : Int).tdiv (k : Int) = (A : Int) := by rw [← hA]; rfl
            have q2 : (t : Int) / (k : Int) = (A : Int) := by rw [← hA]; omega
            have q3 : (t : Int).tmod (k : Int) = (B : Int) := by rw [← hB]; rfl
            have q4 : (t : Int) % (k : Int) = (B : Int) := by rw [← hB]; omega
            have nz1 : ¬ (k : Int) = 0 := by omega
            have nz2 : ¬ k = 0 := by omega
            have iA : (A : Int) < (k : Int) := by omega
            have iB : (B : Int) < (k : Int) := by omega
            have wA : IntKind.i64.wrap (A : Int) = (A : Int) := by rw [IntKind.wrap_i64]; omega
            have wB : IntKind.i64.wrap (B : Int) = (B : Int) := by rw [IntKind.wrap_i64]; omega
            have HTD := hid1 (And.intro hA hB)
            clear hA hB
            go_quiet (fail)
            go_upto_region 13 with fail
            refine still_tail 11 (by kernel_rfl) ?_
            simp only [List.take_succ_cons, List.take_zero, List.drop_succ_cons, List.drop_zero]
            repeat still_step
            refine wpStill_nil ?_
            go_upto_region 14 with fail
            refine gen_world (fun X => Bx w X p G b K k (st2 (t0 k) A B 4611686018427387903)) (HST1.out _ _) ?_
            clear HS1 HST1 d0 d1 d2 f2 z2
            intro X2 S2
            have HC1 : Hid (cnt (st2 (t0 k) A B 4611686018427387903) = some 4611686018427387903) := by
              show _ = _
              have h := t0_sc k
              have hz : sR (t0 k) = 0 := sR_zero k k
              have e := sR_st2 h hAk hBk 4611686018427387903
              rw [t0_v, hz] at e
              rw [cnt_sc (h.st2 hAk B _) k1 (by omega) (fun i j => by rw [vT_st2 h hAk hBk, t0_v]; split <;> omega) (by omega), e]; rfl
            have HS2 := hid1 S2
            have b0 := S2.box.cell (i := 0) (by omega)
            have hl := S2.sc.len
            obtain ⟨k', hk'⟩ : ∃ k', k' + 1 = k := ⟨k - 1, by omega⟩
            have wk : IntKind.i64.wrap ((k : Int) - 1) = (k' : Int) := by rw [IntKind.wrap_i64]; omega
            have CA : Hid (Calls Tryd.prog 13 #[tbv (some ⟨G, 0, none⟩) k k, .int .i64 0, .int .i64 (k' : Int)] X2 fun e w' => ∃ G2 b2 K2, e = .returned (.tuple #[tbv (some ⟨G2, 0, none⟩) k k, .int .i64 0]) ∧ Tb w' X2.heap.size G2 b2 K2 (ad (st2 (t0 k) A B 4611686018427387903) 0 k') ∧ Below X2.heap.size X2 w') := by
              have := add_ok (some ⟨G, 0, none⟩) (st2 (t0 k) A B 4611686018427387903) k 0 k' X2 S2.tn (S2.small (by omega)) (by
                rw [aE_yes HC1.out (by rw [hl]; omega) (by rw [hl]; omega)]; decide)
              rw [hl] at this
              exact this
            clear S2
            go_upto_region 15 with (go_at_call 13; refine CA.out.mono ?_; rintro e w3 ⟨G2, b2, K2, rfl, tb2, hb3⟩)
            have sc1 := HS2.out.sc
            have X3 : Bx w (w3.alloc (.cells #[.slice (some ⟨G2, 0, none⟩) k k] 36)) w3.heap.size G2 b2 K2 k (ad (st2 (t0 k) A B 4611686018427387903) 0 k') := Bx.new (bl_step HS2.out.bel hb3) tb2 HS2.out.bel.size (sc1.st2 (by omega) _ _)
            have X3' : Bx w (w3.alloc (.cells #[.slice (some ⟨G2, 0, none⟩) k k] 36)) p G b K k (st2 (t0 k) A B 4611686018427387903) := (HS2.out.step hb3).step (bl_alloc (Below.refl _ _) _)
            have HC2 : Hid (cnt (ad (st2 (t0 k) A B 4611686018427387903) 0 k') = some 4611686018427387904) := by
              show _ = _
              have h := t0_sc k
              have hz : sR (t0 k) = 0 := sR_zero k k
              have e := sR_st2 h hAk hBk 4611686018427387903
              rw [t0_v, hz] at e
              have k0 : 0 < k := by omega
              have kk' : k' < k := by omega
              have e2 := sR_st2 sc1 k0 kk' (vT (st2 (t0 k) A B 4611686018427387903) 0 k' + 1)
              have e3 : ad (st2 (t0 k) A B 4611686018427387903) 0 k' = st2 (st2 (t0 k) A B 4611686018427387903) 0 k' (vT (st2 (t0 k) A B 4611686018427387903) 0 k' + 1) := rfl
              have hv : ∀ i j, 0 ≤ vT (st2 (t0 k) A B 4611686018427387903) i j := fun i j => by rw [vT_st2 h hAk hBk, t0_v]; split <;> omega
              rw [e3, cnt_sc (sc1.st2 k0 k' _) k1 (by omega) (fun i j => by rw [vT_st2 sc1 k0 kk']; split; · have := hv 0 k'; omega
                                                                            · exact hv i j) (by omega), e2]
              congr 1; omega
            generalize ad (st2 (t0 k) A B 4611686018427387903) 0 k' = T2 at *
            generalize w3.heap.size = p2 at *
            refine gen_world (fun X => Hid (Bx w X p G b K k (st2 (t0 k) A B 4611686018427387903)) ∧ Hid (Bx w X p2 G2 b2 K2 k T2)) ⟨X3', X3⟩ ?_
            clear X3 X3' sc1 HS2 CA tb2 hb3 b0 HC1 wk
            rintro X4 ⟨S4, V4⟩
            have hl := V4.out.sc.len
            have d0 := V4.out.box.cell (i := 0) (by omega)
            have CR : Hid (∀ X, Below X4.heap.size X4 X → Calls Tryd.prog 14 #[tbv (some ⟨G2, 0, none⟩) k k] X fun e w' => e = .returned (.tuple #[.int .i64 (rV T2), .int .i64 4611686018427387904, .int .i64 0]) ∧ Below X.heap.size X w') := fun X hX => by
              have := right_any (some ⟨G2, 0, none⟩) T2 k X (by omega) (V4.out.small (by omega)) (V4.out.tn.below hX)
              obtain ⟨e1, e2⟩ := cnt_cE HC2.out
              rw [hl, e1, e2] at this
              exact this
            have CA : Hid (∀ X, Below X4.heap.size X4 X → Calls Tryd.prog 13 #[tbv (some ⟨G2, 0, none⟩) k k, .int .i64 0, .int .i64 0] X fun e w' => e = .returned (.tuple #[tbv none 0 0, .int .i64 4]) ∧ Below X.heap.size X w') := fun X hX => by
              have e1 : aE T2 0 0 = 4 := by rw [aE_yes HC2.out (by omega) (by omega)]; rfl
              have := add_bad (some ⟨G2, 0, none⟩) T2 k 0 0 X (by omega) (V4.out.small (by omega)) (V4.out.tn.below hX) (by rw [e1]; decide)
              rw [hl, e1] at this
              exact this
            clear HC2 hl
            go_upto_region 18 with (go_at_call 14; refine (CR.out _ (Below.refl _ _)).mono ?_; rintro e w4 ⟨rfl, hb4⟩; have d4 := keepc hb4 d0)
            go_upto_region 19 with (go_at_call 13; refine (CA.out _ hb4).mono ?_; rintro e w5 ⟨rfl, hb5⟩)
            have S5 := S4.out.step (bl_step hb4 hb5)
            refine gen_world (fun X => Hid (Bx w X p G b K k (st2 (t0 k) A B 4611686018427387903))) (S5.step (bl_alloc (Below.refl _ _) _)) ?_
            clear S5 S4 V4 CR CA hb4 hb5 d0 d4
            intro X6 HS6
            go_upto_region 21 with fail
            obtain ⟨g6, c6, d0, d1, d2, f2, z2, st⟩ := HS6.out.at hAk hBk
            have HST6 := hid1 st
            clear st
            refine still_tail 11 (by kernel_rfl) ?_
            simp only [List.take_succ_cons, List.take_zero, List.drop_succ_cons, List.drop_zero]
            repeat still_step
            refine wpStill_nil ?_
            go_upto_region 22 with fail
            refine gen_world (fun X => Hid (Bx w X p G b K k (st2 (st2 (t0 k) A B 4611686018427387903) A B 4611686018427387904))) (HST6.out _ _) ?_
            clear HS6 HST6 d0 d1 d2 f2 z2
            intro X7 HS7
            have hS := HS.out
            have kp : 0 < S := by rw [← hS]; exact Nat.mul_pos k1 k1
            have ek : IntKind.i64.wrap ((k : Int) * (k : Int)) = (S : Int) := by rw [← Int.natCast_mul, hS, IntKind.wrap_i64]; omega
            have et : IntKind.i64.wrap ((t : Int) + 1) = ((t + 1 : Nat) : Int) := by rw [IntKind.wrap_i64]; omega
            obtain ⟨o, ho⟩ : ∃ o, (t + 1) % S = o := ⟨_, rfl⟩
            have em : ((t + 1 : Nat) : Int).tmod (S : Int) = (o : Int) := by rw [← ho]; rfl
            have em2 : ((t + 1 : Nat) : Int) % (S : Int) = (o : Int) := by rw [← ho]; omega
            have nz3 : ¬ (S : Int) = 0 := by omega
            have nz4 : ¬ S = 0 := by omega
            have hoS : o < S := by rw [← ho]; exact Nat.mod_lt _ kp
            have hw0 : IntKind.i64.wrap (o : Int) = (o : Int) := by rw [IntKind.wrap_i64]; omega
            obtain ⟨t1, ht1⟩ : ∃ t1, t + 1 = t1 := ⟨_, rfl⟩
            rw [ht1] at et em em2
            have HO := hid1 (And.intro ho ht1)
            clear hS ho ht1
            go_upto_region 23 with fail
            clear ek et em em2 nz3 nz4 hw0 kp
            obtain ⟨A2, hA2⟩ : ∃ x, o / k = x := ⟨_, rfl⟩
            obtain ⟨B2, hB2⟩ : ∃ x, o % k = x := ⟨_, rfl⟩
            have hAk2 : A2 < k := by rw [← hA2]; have := HS.out; exact (Nat.div_lt_iff_lt_mul k1).2 (by omega)
            have hBk2 : B2 < k := by rw [← hB2]; exact Nat.mod_lt _ k1
            obtain ⟨g7, c7, d0, d1, d2, f2, z2, st⟩ := HS7.out.at hAk2 hBk2
            have HST7 := hid1 st
            clear st
            have q5 : (o : Int).tdiv (k : Int) = (A2 : Int) := by rw [← hA2]; rfl
            have q6 : (o : Int) / (k : Int) = (A2 : Int) := by rw [← hA2]; omega
            have q7 : (o : Int).tmod (k : Int) = (B2 : Int) := by rw [← hB2]; rfl
            have q8 : (o : Int) % (k : Int) = (B2 : Int) := by rw [← hB2]; omega
            have iA2 : (A2 : Int) < (k : Int) := by omega
            have iB2 : (B2 : Int) < (k : Int) := by omega
            have wA2 : IntKind.i64.wrap (A2 : Int) = (A2 : Int) := by rw [IntKind.wrap_i64]; omega
            have wB2 : IntKind.i64.wrap (B2 : Int) = (B2 : Int) := by rw [IntKind.wrap_i64]; omega
            have HD := hid1 (And.intro hA2 hB2)
            clear hA2 hB2
            go_quiet (fail)
            go_upto_if 142 with fail
            refine gen_world (fun X => Hid (Bx w X p G b K k (st2 (st2 (t0 k) A B 4611686018427387903) A B 4611686018427387904))) (HS7.out.drewN _) ?_
            clear HS7 HST7 d0 d1 d2 f2 z2
            intro X8 HS8
            go_cut [8, 12, 14] from 142 to 180 (fun _ _ _ wx => ∃ T9, Hid (Bx w wx p G b K k T9))
            case first =>
              by_cases hot : o = t
              · have hoi : (o : Int) = (t : Int) := by omega
                go_wp2_with fail
                go_meet
                exact ⟨_, HS8⟩
              · have hoi : ¬ (o : Int) = (t : Int) := by omega
                have hT4 : sR (st2 (st2 (st2 (t0 k) A B 4611686018427387903) A B 4611686018427387904) A2 B2 m) = 4611686018427387904 + m := by
                  have h0 := t0_sc k
                  have hz : sR (t0 k) = 0 := sR_zero k k
                  have e1 := sR_st2 h0 hAk hBk 4611686018427387903
                  have h1 := h0.st2 hAk B 4611686018427387903
                  have e2 := sR_st2 h1 hAk hBk 4611686018427387904
                  have h2 := h1.st2 hAk B 4611686018427387904
                  have e3 := sR_st2 h2 hAk2 hBk2 m
                  have hne : ¬ (A2 = A ∧ B2 = B) := by
                    rintro ⟨ea, eb⟩
                    have t1 := Nat.div_add_mod o k
                    have t2 := Nat.div_add_mod t k
                    rw [HD.out.1, HD.out.2, ea, eb] at t1
                    rw [HTD.out.1, HTD.out.2] at t2
                    exact hot (t1.symm.trans t2)
                  rw [vT_st2 h1 hAk hBk, if_neg hne, vT_st2 h0 hAk hBk, if_neg hne, t0_v] at e3
                  rw [vT_st2 h0 hAk hBk, if_pos ⟨rfl, rfl⟩] at e2
                  rw [t0_v] at e1
                  omega
                have HC := hid1 (cnt_big (T := st2 (st2 (st2 (t0 k) A B 4611686018427387903) A B 4611686018427387904) A2 B2 m) (by omega))
                clear hT4
                obtain ⟨g8, c8, d0, d1, d2, f2, z2, st⟩ := HS8.out.at hAk2 hBk2
                have HST8 := hid1 st
                clear st
                go_upto_region 26 with fail
                refine still_tail 12 (by kernel_rfl) ?_
                simp only [List.take_succ_cons, List.take_zero, List.drop_succ_cons, List.drop_zero]
                repeat still_step
                refine wpStill_nil ?_
                go_upto_region 27 with fail
                refine gen_world (fun X => Hid (Bx w X p G b K k (st2 (st2 (st2 (t0 k) A B 4611686018427387903) A B 4611686018427387904) A2 B2 m))) (HST8.out _ _) ?_
                clear HS8 HST8 d0 d1 d2 f2 z2
                generalize st2 (st2 (st2 (t0 k) A B 4611686018427387903) A B 4611686018427387904) A2 B2 m = T4 at *
                intro Y HY
                have d0 := HY.out.box.cell (i := 0) (by omega)
                have hl := HY.out.sc.len
                have CR : Hid (Calls Tryd.prog 14 #[tbv (some ⟨G, 0, none⟩) k k] Y fun e w' => e = .returned (.tuple #[.int .i64 (rV T4), .int .i64 0, .int .i64 1]) ∧ Below Y.heap.size Y w') := by
                  have := right_any (some ⟨G, 0, none⟩) T4 k Y (by omega) (HY.out.small (by omega)) HY.out.tn
                  obtain ⟨e1, e2⟩ := cnt_cN HC.out
                  rw [hl, e1, e2] at this
                  exact this
                have CA : Hid (∀ X, Below Y.heap.size Y X → Calls Tryd.prog 13 #[tbv (some ⟨G, 0, none⟩) k k, .int .i64 0, .int .i64 0] X fun e w' => e = .returned (.tuple #[tbv none 0 0, .int .i64 1]) ∧ Below X.heap.size X w') := fun X hX => by
                  have e1 : aE T4 0 0 = 1 := aE_no HC.out 0 0
                  have := add_bad (some ⟨G, 0, none⟩) T4 k 0 0 X (by omega) (HY.out.small (by omega)) (HY.out.tn.below hX) (by rw [e1]; decide)
                  rw [hl, e1] at this
                  exact this
                have CS : Hid (∀ X, Below Y.heap.size Y X → Calls Tryd.prog 15 #[tbv (some ⟨G, 0, none⟩) k k] X fun e w' => e = .returned (.tuple #[.string ⟨(sT T4).toArray⟩, .int .i64 1]) ∧ Below X.heap.size X w') := fun X hX => by
                  have := show_any (some ⟨G, 0, none⟩) T4 k X (by omega) (HY.out.small (by omega)) (HY.out.tn.below hX) (HL.out.on (bl_step HY.out.bel hX))
                  obtain ⟨e1, _⟩ := cnt_cN HC.out
                  rw [hl, e1] at this
                  exact this
                clear hl HC
                go_upto_region 28 with (go_at_call 14; refine CR.out.mono ?_; rintro e w9 ⟨rfl, hb9⟩; have d9 := keepc hb9 d0)
                go_upto_region 29 with (go_at_call 13; refine (CA.out _ hb9).mono ?_; rintro e w10 ⟨rfl, hb10⟩; have d10 := keepc hb10 d9; have B10 := bl_step hb9 hb10)
                go_wp2_with (go_at_call 15; refine (CS.out _ B10).mono ?_; rintro e w11 ⟨rfl, hb11⟩)
                go_meet
                exact ⟨T4, HY.out.step (bl_step B10 hb11)⟩
            case rest =>
              obtain ⟨T9, HS9⟩ := hcut
              refine kgo (by assumption) ?_
              rename_i X9
              obtain ⟨g9, c9, d0, d1, d2, f2, z2, st⟩ := HS9.out.at hAk hBk
              have HST9 := hid1 st
              have HSC := hid1 HS9.out.sc
              clear st HS9
              have wm : IntKind.i64.wrap (-m) = -m := by rw [IntKind.wrap_i64]; omega
              go_upto_region 32 with fail
              refine still_tail 13 (by kernel_rfl) ?_
              simp only [List.take_succ_cons, List.take_zero, List.drop_succ_cons, List.drop_zero]
              repeat still_step
              refine wpStill_nil ?_
              go_upto_region 33 with fail
              refine gen_world (fun X => Hid (Bx w X p G b K k (st2 T9 A B (-m)))) (HST9.out _ _) ?_
              clear HST9 d0 d1 d2 f2 z2
              intro Y HY
              have d0 := HY.out.box.cell (i := 0) (by omega)
              have hl := HY.out.sc.len
              have CR : Hid (Calls Tryd.prog 14 #[tbv (some ⟨G, 0, none⟩) k k] Y fun e w' => e = .returned (.tuple #[.int .i64 (rV (st2 T9 A B (-m))), .int .i64 0, .int .i64 1]) ∧ Below Y.heap.size Y w') := by
                have := right_any (some ⟨G, 0, none⟩) (st2 T9 A B (-m)) k Y (by omega) (HY.out.small (by omega)) HY.out.tn
                have hc : cnt (st2 T9 A B (-m)) = none := cnt_neg HY.out.sc hAk hBk (by rw [vT_st2 HSC.out hAk hBk, if_pos ⟨rfl, rfl⟩]; omega)
                obtain ⟨e1, e2⟩ := cnt_cN hc
                rw [hl, e1, e2] at this
                exact this
              clear hl HSC
              go_wp2_with (go_at_call 14; refine CR.out.mono ?_; rintro e w9 ⟨rfl, hb9⟩)
              go_ret
              exact ⟨rfl, bl_step HY.out.bel hb9⟩
end Go.Proofs.YtfdkjckoelmgeaaDoor
