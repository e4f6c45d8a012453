import Derived.Test.YtffhbfdbahdhoabW4
import Derived.Test.YtffhbfdbahdhoabM5
import Derived.Lib.ItoaNum
namespace Go.Proofs.Ytffhbfdbahdhoab.Wd
open Go.RowKit Go.Shelf
theorem lz_math (y : Int) (hy : U64 y) (h0 : 0 < y) : ∃ s : Nat, s ≤ 63 ∧ (64 - (Lib.bitLen y.toNat : Int)) = s ∧ 9223372036854775808 ≤ y * 2 ^ s ∧ y * 2 ^ s < 18446744073709551616 := by
  obtain ⟨a, b⟩ := hy
  obtain ⟨k, rfl⟩ := Int.eq_ofNat_of_zero_le a
  obtain ⟨p1, p2, p3⟩ := Lib.bitLenAux_bounds 64 k (by omega) (by omega)
  have e : Lib.bitLen k = Lib.bitLenAux 64 k := rfl
  rw [← e] at p1 p2 p3
  rw [Int.toNat_natCast]
  generalize Lib.bitLen k = n at *
  have hn : n ≤ 64 := by
    refine Nat.not_lt.1 fun hn => ?_
    have : 2 ^ 64 ≤ 2 ^ (n - 1) := Nat.pow_le_pow_right (by decide) (by omega)
    omega
  refine ⟨64 - n, by omega, by omega, ?_, ?_⟩
  · have h0 : n - 1 + (64 - n) = 63 := by omega
    have h1 : 2 ^ (n - 1) * 2 ^ (64 - n) = 9223372036854775808 := by rw [← Nat.pow_add, h0]
    have h2 : 2 ^ (n - 1) * 2 ^ (64 - n) ≤ k * 2 ^ (64 - n) := Nat.mul_le_mul_right _ p2
    have h3 : ((k * 2 ^ (64 - n) : Nat) : Int) = (k : Int) * 2 ^ (64 - n) := by simp
    omega
  · have h0 : n + (64 - n) = 64 := by omega
    have h1 : 2 ^ n * 2 ^ (64 - n) = 18446744073709551616 := by rw [← Nat.pow_add, h0]
    have h2 : k * 2 ^ (64 - n) < 2 ^ n * 2 ^ (64 - n) := Nat.mul_lt_mul_of_pos_right p3 (Nat.pow_pos (by decide))
    have h3 : ((k * 2 ^ (64 - n) : Nat) : Int) = (k : Int) * 2 ^ (64 - n) := by simp
    omega
theorem lz_any (y : Int) (hy : U64 y) (h0 : 0 < y) (w : World) :
    Calls Try.prog 66 #[.int .u64 y] w fun e w' => (∃ s : Nat, s ≤ 63 ∧ e = .returned (.int .i64 s) ∧ 9223372036854775808 ≤ y * 2 ^ s ∧ y * 2 ^ s < 18446744073709551616) ∧ w' = w := by
  refine (Try.bits_LeadingZeros64 y w hy.1 (by have := hy.2; omega)).mono ?_
  rintro e w' ⟨rfl, rfl⟩
  obtain ⟨s, h1, h2, h3, h4⟩ := lz_math y hy h0
  exact ⟨⟨s, h1, by rw [h2], h3, h4⟩, rfl⟩
theorem ret_pair {a b c d : Int} (h1 : a = c) (h2 : b = d) : Ending.returned (.tuple #[.int .u64 a, .int .u64 b]) = .returned (.tuple #[.int .u64 c, .int .u64 d]) := by rw [h1, h2]
theorem hid1 {p : Prop} (h : p) : Hid p := h
theorem letters {h l y : Int} {s : Nat} (hs : s ≤ 63) (hh : U64 h) (hl : U64 l) (hlt : h < y) (n1 : 9223372036854775808 ≤ y * 2 ^ s) (n2 : y * 2 ^ s < 18446744073709551616) :
    IntKind.u64.wrap (y * 2 ^ s) = y * 2 ^ s ∧ bits .or .u64 (IntKind.u64.wrap (h * 2 ^ s)) (l / 2 ^ (64 - s)) = h * 2 ^ s + l / 2 ^ (64 - s) ∧ U64 (IntKind.u64.wrap (l * 2 ^ s)) ∧
    (h * 18446744073709551616 + l) * 2 ^ s = (h * 2 ^ s + l / 2 ^ (64 - s)) * 18446744073709551616 + IntKind.u64.wrap (l * 2 ^ s) ∧ 0 ≤ h * 2 ^ s + l / 2 ^ (64 - s) ∧ h * 2 ^ s + l / 2 ^ (64 - s) < y * 2 ^ s := by
  obtain ⟨e1, e2, e3⟩ := shift_in hs hl
  have hp := two_pos s
  have g1 : (h + 1) * 2 ^ s ≤ y * 2 ^ s := Int.mul_le_mul_of_nonneg_right (by omega) (by omega)
  have g2 : 0 ≤ h * 2 ^ s := Int.mul_nonneg hh.1 (by omega)
  rw [Int.add_mul, Int.one_mul] at g1
  have w1 : IntKind.u64.wrap (h * 2 ^ s) = h * 2 ^ s := by rw [IntKind.wrap_u64]; omega
  refine ⟨by rw [IntKind.wrap_u64]; omega, ?_, wrap_u64 _, ?_, by omega, by omega⟩
  · rw [w1]; exact or_high h _ s hh.1 e2 e3 (by omega)
  · rw [IntKind.wrap_u64, e1, Int.add_mul, Int.add_mul]
    have a1 : h * 18446744073709551616 * 2 ^ s = h * 2 ^ s * 18446744073709551616 := by rw [Int.mul_assoc, Int.mul_assoc, Int.mul_comm 18446744073709551616]
    have := Int.mul_ediv_add_emod (l * 2 ^ s) 18446744073709551616
    omega

set_option maxHeartbeats 4000000 in
set_option maxRecDepth 100000 in
theorem div64_big (h l y : Int) (hh : U64 h) (hl : U64 l) (hy : U64 y) (hlt : h < y) (h0 : 0 < h) (w : World) :
    Calls Try.prog 64 #[.int .u64 h, .int .u64 l, .int .u64 y] w fun e w' => e = .returned (.tuple #[.int .u64 ((h * 18446744073709551616 + l) / y), .int .u64 ((h * 18446744073709551616 + l) % y)]) ∧ Below w.heap.size w w' := by
  have e0 : (y == 0) = false := beq_eq_false_iff_ne.2 (by omega)
  have e1 : (h == 0) = false := beq_eq_false_iff_ne.2 (by omega)
  go_enter Try.func64, Try.ntmps64
  go_wp2_with fail
  refine (lz_any y hy (by omega) _).mono ?_
  rintro e w' ⟨⟨s, hs, rfl, hn1, hn2⟩, rfl⟩
  obtain ⟨l1, l2, l3, l4, l5, l6⟩ := letters hs hh hl hlt hn1 hn2
  obtain ⟨Y, hY⟩ : ∃ Y, IntKind.u64.wrap (y * 2 ^ s) = Y := ⟨_, rfl⟩
  obtain ⟨U, hU⟩ : ∃ U, bits .or .u64 (IntKind.u64.wrap (h * 2 ^ s)) (l / 2 ^ (64 - s)) = U := ⟨_, rfl⟩
  obtain ⟨D, hD⟩ : ∃ D, IntKind.u64.wrap (l * 2 ^ s) = D := ⟨_, rfl⟩
  rw [hY] at l1
  rw [hU] at l2
  rw [← l2, hD] at l4
  rw [← l2] at l5 l6
  rw [← l1] at l6 hn1 hn2
  rw [hD] at l3
  have a1 := and_half (show U64 Y from ⟨by omega, hn2⟩)
  have a2 := and_half l3
  have b1 : Y = Y / 4294967296 * 4294967296 + Y % 4294967296 := by omega
  have b2 : D = D / 4294967296 * 4294967296 + D % 4294967296 := by omega
  obtain ⟨y1, hy1⟩ : ∃ y1, Y / 4294967296 = y1 := ⟨_, rfl⟩
  obtain ⟨y0, hy0⟩ : ∃ y0, bits .and .u64 Y 4294967295 = y0 := ⟨_, rfl⟩
  obtain ⟨d1, hd1⟩ : ∃ d1, D / 4294967296 = d1 := ⟨_, rfl⟩
  obtain ⟨d0, hd0⟩ : ∃ d0, bits .and .u64 D 4294967295 = d0 := ⟨_, rfl⟩
  have T := Trial.start (U := U) (y := Y) (y1 := y1) (y0 := y0) (d := d1) (by omega) (by omega) (by omega) (by omega) (by have := l3.1; omega) (by have := l3.2; omega) l5 l6
  have H1 : Hid (Y = y * 2 ^ s) := l1
  have H2 : Hid ((h * 18446744073709551616 + l) * 2 ^ s = U * 18446744073709551616 + D) := l4
  have H3 : Hid (D = d1 * 4294967296 + d0) := by show D = d1 * 4294967296 + d0; omega
  have hp := T.y1pos
  have e2 : (y1 == 0) = false := beq_eq_false_iff_ne.2 (by omega)
  have D0 : Hid (0 ≤ d0 ∧ d0 < 4294967296) := by show 0 ≤ d0 ∧ d0 < 4294967296; omega
  have R0 : IntKind.u64.wrap (U - IntKind.u64.wrap (U / y1 * y1)) = U - U / y1 * y1 := T.rest0 hn2
  have B0 : Hid (U - U / y1 * y1 < 4294967296) := T.rest_lt (by omega)
  have HS : Hid (Y = y1 * 4294967296 + y0) := by show Y = y1 * 4294967296 + y0; omega
  have HY0 : Hid (0 ≤ y0 ∧ y0 < 4294967296) := by show 0 ≤ y0 ∧ y0 < 4294967296; omega
  have yb : y1 < 4294967296 := by omega
  clear l1 l2 l3 l4 a1 a2 b1 b2
  go_wp2_with fail
  go_loop [15, 16] (fun q r => ∃ Q R : Int, q = .int .u64 Q ∧ r = .int .u64 R ∧ Trial U Y y1 y0 d1 Q R ∧ R < 4294967296 ∧ Q < 18446744073709551616) (fun q _ => (intOf q).toNat)
  case atStart => exact ⟨_, _, rfl, rfl, T, B0.out, T.quot_lt hn2⟩
  case round =>
    clear T B0 R0
    obtain ⟨Q, R, rfl, rfl, t, hR, hQ⟩ := hrel
    have q0 := t.qlo; have r0 := t.rlo; have dl := t.dlo; have dh := t.dhi
    by_cases c : 4294967296 ≤ Q
    · obtain ⟨Q1, hQ1⟩ : ∃ Q1, Q - 1 = Q1 := ⟨_, rfl⟩
      obtain ⟨R1, hR1⟩ : ∃ R1, R + y1 = R1 := ⟨_, rfl⟩
      have t1 := t.step (.inl c)
      rw [hQ1, hR1] at t1
      have m1 : Hid (Q1 < Q ∧ 0 ≤ Q1) := by show Q1 < Q ∧ 0 ≤ Q1; omega
      by_cases c1 : R1 < 4294967296
      · go_wp2_with fail
        exact ⟨⟨Q1, R1, rfl, rfl, t1, c1, by have := m1.out; omega⟩, by have := m1.out; simp [intOf]; omega⟩
      · have hq := t1.far (by omega)
        clear t t1 dl dh
        obtain ⟨V, hV⟩ : ∃ V, IntKind.u64.wrap (IntKind.u64.wrap (IntKind.u64.wrap (U * 4294967296) + d1) - IntKind.u64.wrap (Q1 * Y)) = V := ⟨_, rfl⟩
        have HV : Hid (V = (U * 4294967296 + d1) % Y) := by rw [← hV]; exact rest_wrap (by omega) hn2 hq
        have HVb : Hid (0 ≤ V ∧ V < Y) := by rw [HV.out]; exact ⟨Int.emod_nonneg _ (by omega), Int.emod_lt_of_pos _ (by omega)⟩
        have hq1 : Hid (Q1 = (U * 4294967296 + d1) / Y) := hq
        clear hq
        have hV0 : 0 ≤ V ∧ V < Y := HVb.out
        obtain ⟨v0, v1⟩ := hV0
        have T2 := Trial.start (U := V) (y := Y) (y1 := y1) (y0 := y0) (d := d0) HS.out hp HY0.out.1 HY0.out.2 D0.out.1 D0.out.2 v0 v1
        have R1 : IntKind.u64.wrap (V - IntKind.u64.wrap (V / y1 * y1)) = V - V / y1 * y1 := T2.rest0 hn2
        have B1 : Hid (V - V / y1 * y1 < 4294967296) := T2.rest_lt (by omega)
        go_wp2_with fail
        go_loop [18, 16] (fun q r => ∃ Q R : Int, q = .int .u64 Q ∧ r = .int .u64 R ∧ Trial V Y y1 y0 d0 Q R ∧ R < 4294967296 ∧ Q < 18446744073709551616) (fun q _ => (intOf q).toNat)
        case atStart => exact ⟨_, _, rfl, rfl, T2, B1.out, T2.quot_lt hn2⟩
        case round =>
          clear T2 B1 R1
          obtain ⟨Q2, R2, rfl, rfl, t2, hR2, hQ2⟩ := hrel
          have q20 := t2.qlo; have r20 := t2.rlo
          obtain ⟨dl, dh⟩ := D0.out
          by_cases c2 : 4294967296 ≤ Q2
          · obtain ⟨Q3, hQ3⟩ : ∃ Q3, Q2 - 1 = Q3 := ⟨_, rfl⟩
            obtain ⟨R3, hR3⟩ : ∃ R3, R2 + y1 = R3 := ⟨_, rfl⟩
            have t3 := t2.step (.inl c2)
            rw [hQ3, hR3] at t3
            have m2 : Hid (Q3 < Q2 ∧ 0 ≤ Q3) := by show Q3 < Q2 ∧ 0 ≤ Q3; omega
            by_cases c3 : R3 < 4294967296
            · go_wp2_with fail
              exact ⟨⟨Q3, R3, rfl, rfl, t3, c3, by have := m2.out; omega⟩, by have := m2.out; simp [intOf]; omega⟩
            · have hq0 := t3.far (by omega)
              obtain ⟨V2, hV2⟩ : ∃ V2, IntKind.u64.wrap (IntKind.u64.wrap (IntKind.u64.wrap (V * 4294967296) + d0) - IntKind.u64.wrap (Q3 * Y)) = V2 := ⟨_, rfl⟩
              have fin := div_end H1.out H2.out H3.out hq1.out HV.out hq0 (hV2.symm.trans (rest_wrap (by omega) hn2 hq0)) (show 0 < y by omega)
              have F1 : Hid (IntKind.u64.wrap (IntKind.u64.wrap (Q1 * 4294967296) + Q3) = (h * 18446744073709551616 + l) / y) := fin_wrap hh hl hlt (by omega) fin.1
              have F3 := fin.1
              have F4 := fin_wrap2 hh hl hlt (by omega) fin.1
              have G3 := hid1 F3
              have G4 := hid1 F4
              clear F3 F4
              have F2 : Hid (V2 / 2 ^ s = (h * 18446744073709551616 + l) % y) := fin.2
              clear fin hq0
              go_wp2
              go_ret2
              exact ⟨ret_pair (by first | exact G3.out | exact G4.out | exact F1.out) F2.out, Below.refl _ _⟩
          · have w2 : IntKind.u64.wrap (Q2 * y0) = Q2 * y0 := t2.small1 (by omega)
            have w3 : IntKind.u64.wrap (4294967296 * R2 + d0) = 4294967296 * R2 + d0 := t2.small3 hR2
            by_cases c4 : 4294967296 * R2 + d0 < Q2 * y0
            · obtain ⟨Q3, hQ3⟩ : ∃ Q3, Q2 - 1 = Q3 := ⟨_, rfl⟩
              obtain ⟨R3, hR3⟩ : ∃ R3, R2 + y1 = R3 := ⟨_, rfl⟩
              have t3 := t2.step (.inr c4)
              rw [hQ3, hR3] at t3
              have q30 := t3.qlo
              have m2 : Hid (Q3 < Q2 ∧ 0 ≤ Q3) := by show Q3 < Q2 ∧ 0 ≤ Q3; omega
              have q21 : 1 ≤ Q2 := by omega
              by_cases c3 : R3 < 4294967296
              · go_wp2_with fail
                exact ⟨⟨Q3, R3, rfl, rfl, t3, c3, by have := m2.out; omega⟩, by have := m2.out; simp [intOf]; omega⟩
              · have hq0 := t3.far (by omega)
                obtain ⟨V2, hV2⟩ : ∃ V2, IntKind.u64.wrap (IntKind.u64.wrap (IntKind.u64.wrap (V * 4294967296) + d0) - IntKind.u64.wrap (Q3 * Y)) = V2 := ⟨_, rfl⟩
                have fin := div_end H1.out H2.out H3.out hq1.out HV.out hq0 (hV2.symm.trans (rest_wrap (by omega) hn2 hq0)) (show 0 < y by omega)
                have F1 : Hid (IntKind.u64.wrap (IntKind.u64.wrap (Q1 * 4294967296) + Q3) = (h * 18446744073709551616 + l) / y) := fin_wrap hh hl hlt (by omega) fin.1
                have F3 := fin.1
                have F4 := fin_wrap2 hh hl hlt (by omega) fin.1
                have G3 := hid1 F3
                have G4 := hid1 F4
                clear F3 F4
                have F2 : Hid (V2 / 2 ^ s = (h * 18446744073709551616 + l) % y) := fin.2
                clear fin hq0
                go_wp2
                go_ret2
                exact ⟨ret_pair (by first | exact G3.out | exact G4.out | exact F1.out) F2.out, Below.refl _ _⟩
            · have hq0 := t2.done (by omega)
              obtain ⟨V2, hV2⟩ : ∃ V2, IntKind.u64.wrap (IntKind.u64.wrap (IntKind.u64.wrap (V * 4294967296) + d0) - IntKind.u64.wrap (Q2 * Y)) = V2 := ⟨_, rfl⟩
              have fin := div_end H1.out H2.out H3.out hq1.out HV.out hq0 (hV2.symm.trans (rest_wrap (by omega) hn2 hq0)) (show 0 < y by omega)
              have F1 : Hid (IntKind.u64.wrap (IntKind.u64.wrap (Q1 * 4294967296) + Q2) = (h * 18446744073709551616 + l) / y) := fin_wrap hh hl hlt (by omega) fin.1
              have F3 := fin.1
              have F4 := fin_wrap2 hh hl hlt (by omega) fin.1
              have G3 := hid1 F3
              have G4 := hid1 F4
              clear F3 F4
              have F2 : Hid (V2 / 2 ^ s = (h * 18446744073709551616 + l) % y) := fin.2
              clear fin hq0
              go_wp2
              go_ret2
              exact ⟨ret_pair (by first | exact G3.out | exact G4.out | exact F1.out) F2.out, Below.refl _ _⟩
    · have w2 : IntKind.u64.wrap (Q * y0) = Q * y0 := t.small1 (by omega)
      have w3 : IntKind.u64.wrap (4294967296 * R + d1) = 4294967296 * R + d1 := t.small3 hR
      by_cases c4 : 4294967296 * R + d1 < Q * y0
      · obtain ⟨Q1, hQ1⟩ : ∃ Q1, Q - 1 = Q1 := ⟨_, rfl⟩
        obtain ⟨R1, hR1⟩ : ∃ R1, R + y1 = R1 := ⟨_, rfl⟩
        have t1 := t.step (.inr c4)
        rw [hQ1, hR1] at t1
        have q10 := t1.qlo
        have m1 : Hid (Q1 < Q ∧ 0 ≤ Q1) := by show Q1 < Q ∧ 0 ≤ Q1; omega
        have q11 : 1 ≤ Q := by omega
        by_cases c1 : R1 < 4294967296
        · go_wp2_with fail
          exact ⟨⟨Q1, R1, rfl, rfl, t1, c1, by have := m1.out; omega⟩, by have := m1.out; simp [intOf]; omega⟩
        · have hq := t1.far (by omega)
          clear t t1 dl dh
          obtain ⟨V, hV⟩ : ∃ V, IntKind.u64.wrap (IntKind.u64.wrap (IntKind.u64.wrap (U * 4294967296) + d1) - IntKind.u64.wrap (Q1 * Y)) = V := ⟨_, rfl⟩
          have HV : Hid (V = (U * 4294967296 + d1) % Y) := by rw [← hV]; exact rest_wrap (by omega) hn2 hq
          have HVb : Hid (0 ≤ V ∧ V < Y) := by rw [HV.out]; exact ⟨Int.emod_nonneg _ (by omega), Int.emod_lt_of_pos _ (by omega)⟩
          have hq1 : Hid (Q1 = (U * 4294967296 + d1) / Y) := hq
          clear hq
          have hV0 : 0 ≤ V ∧ V < Y := HVb.out
          obtain ⟨v0, v1⟩ := hV0
          have T2 := Trial.start (U := V) (y := Y) (y1 := y1) (y0 := y0) (d := d0) HS.out hp HY0.out.1 HY0.out.2 D0.out.1 D0.out.2 v0 v1
          have R1 : IntKind.u64.wrap (V - IntKind.u64.wrap (V / y1 * y1)) = V - V / y1 * y1 := T2.rest0 hn2
          have B1 : Hid (V - V / y1 * y1 < 4294967296) := T2.rest_lt (by omega)
          go_wp2_with fail
          go_loop [18, 16] (fun q r => ∃ Q R : Int, q = .int .u64 Q ∧ r = .int .u64 R ∧ Trial V Y y1 y0 d0 Q R ∧ R < 4294967296 ∧ Q < 18446744073709551616) (fun q _ => (intOf q).toNat)
          case atStart => exact ⟨_, _, rfl, rfl, T2, B1.out, T2.quot_lt hn2⟩
          case round =>
            clear T2 B1 R1
            obtain ⟨Q2, R2, rfl, rfl, t2, hR2, hQ2⟩ := hrel
            have q20 := t2.qlo; have r20 := t2.rlo
            obtain ⟨dl, dh⟩ := D0.out
            by_cases c2 : 4294967296 ≤ Q2
            · obtain ⟨Q3, hQ3⟩ : ∃ Q3, Q2 - 1 = Q3 := ⟨_, rfl⟩
              obtain ⟨R3, hR3⟩ : ∃ R3, R2 + y1 = R3 := ⟨_, rfl⟩
              have t3 := t2.step (.inl c2)
              rw [hQ3, hR3] at t3
              have m2 : Hid (Q3 < Q2 ∧ 0 ≤ Q3) := by show Q3 < Q2 ∧ 0 ≤ Q3; omega
              by_cases c3 : R3 < 4294967296
              · go_wp2_with fail
                exact ⟨⟨Q3, R3, rfl, rfl, t3, c3, by have := m2.out; omega⟩, by have := m2.out; simp [intOf]; omega⟩
              · have hq0 := t3.far (by omega)
                obtain ⟨V2, hV2⟩ : ∃ V2, IntKind.u64.wrap (IntKind.u64.wrap (IntKind.u64.wrap (V * 4294967296) + d0) - IntKind.u64.wrap (Q3 * Y)) = V2 := ⟨_, rfl⟩
                have fin := div_end H1.out H2.out H3.out hq1.out HV.out hq0 (hV2.symm.trans (rest_wrap (by omega) hn2 hq0)) (show 0 < y by omega)
                have F1 : Hid (IntKind.u64.wrap (IntKind.u64.wrap (Q1 * 4294967296) + Q3) = (h * 18446744073709551616 + l) / y) := fin_wrap hh hl hlt (by omega) fin.1
                have F3 := fin.1
                have F4 := fin_wrap2 hh hl hlt (by omega) fin.1
                have G3 := hid1 F3
                have G4 := hid1 F4
                clear F3 F4
                have F2 : Hid (V2 / 2 ^ s = (h * 18446744073709551616 + l) % y) := fin.2
                clear fin hq0
                go_wp2
                go_ret2
                exact ⟨ret_pair (by first | exact G3.out | exact G4.out | exact F1.out) F2.out, Below.refl _ _⟩
            · have w2 : IntKind.u64.wrap (Q2 * y0) = Q2 * y0 := t2.small1 (by omega)
              have w3 : IntKind.u64.wrap (4294967296 * R2 + d0) = 4294967296 * R2 + d0 := t2.small3 hR2
              by_cases c4 : 4294967296 * R2 + d0 < Q2 * y0
              · obtain ⟨Q3, hQ3⟩ : ∃ Q3, Q2 - 1 = Q3 := ⟨_, rfl⟩
                obtain ⟨R3, hR3⟩ : ∃ R3, R2 + y1 = R3 := ⟨_, rfl⟩
                have t3 := t2.step (.inr c4)
                rw [hQ3, hR3] at t3
                have q30 := t3.qlo
                have m2 : Hid (Q3 < Q2 ∧ 0 ≤ Q3) := by show Q3 < Q2 ∧ 0 ≤ Q3; omega
                have q21 : 1 ≤ Q2 := by omega
                by_cases c3 : R3 < 4294967296
                · go_wp2_with fail
                  exact ⟨⟨Q3, R3, rfl, rfl, t3, c3, by have := m2.out; omega⟩, by have := m2.out; simp [intOf]; omega⟩
                · have hq0 := t3.far (by omega)
                  obtain ⟨V2, hV2⟩ : ∃ V2, IntKind.u64.wrap (IntKind.u64.wrap (IntKind.u64.wrap (V * 4294967296) + d0) - IntKind.u64.wrap (Q3 * Y)) = V2 := ⟨_, rfl⟩
                  have fin := div_end H1.out H2.out H3.out hq1.out HV.out hq0 (hV2.symm.trans (rest_wrap (by omega) hn2 hq0)) (show 0 < y by omega)
                  have F1 : Hid (IntKind.u64.wrap (IntKind.u64.wrap (Q1 * 4294967296) + Q3) = (h * 18446744073709551616 + l) / y) := fin_wrap hh hl hlt (by omega) fin.1
                  have F3 := fin.1
                  have F4 := fin_wrap2 hh hl hlt (by omega) fin.1
                  have G3 := hid1 F3
                  have G4 := hid1 F4
                  clear F3 F4
                  have F2 : Hid (V2 / 2 ^ s = (h * 18446744073709551616 + l) % y) := fin.2
                  clear fin hq0
                  go_wp2
                  go_ret2
                  exact ⟨ret_pair (by first | exact G3.out | exact G4.out | exact F1.out) F2.out, Below.refl _ _⟩
              · have hq0 := t2.done (by omega)
                obtain ⟨V2, hV2⟩ : ∃ V2, IntKind.u64.wrap (IntKind.u64.wrap (IntKind.u64.wrap (V * 4294967296) + d0) - IntKind.u64.wrap (Q2 * Y)) = V2 := ⟨_, rfl⟩
                have fin := div_end H1.out H2.out H3.out hq1.out HV.out hq0 (hV2.symm.trans (rest_wrap (by omega) hn2 hq0)) (show 0 < y by omega)
                have F1 : Hid (IntKind.u64.wrap (IntKind.u64.wrap (Q1 * 4294967296) + Q2) = (h * 18446744073709551616 + l) / y) := fin_wrap hh hl hlt (by omega) fin.1
                have F3 := fin.1
                have F4 := fin_wrap2 hh hl hlt (by omega) fin.1
                have G3 := hid1 F3
                have G4 := hid1 F4
                clear F3 F4
                have F2 : Hid (V2 / 2 ^ s = (h * 18446744073709551616 + l) % y) := fin.2
                clear fin hq0
                go_wp2
                go_ret2
                exact ⟨ret_pair (by first | exact G3.out | exact G4.out | exact F1.out) F2.out, Below.refl _ _⟩
      · have hq := t.done (by omega)
        clear t dl dh
        obtain ⟨V, hV⟩ : ∃ V, IntKind.u64.wrap (IntKind.u64.wrap (IntKind.u64.wrap (U * 4294967296) + d1) - IntKind.u64.wrap (Q * Y)) = V := ⟨_, rfl⟩
        have HV : Hid (V = (U * 4294967296 + d1) % Y) := by rw [← hV]; exact rest_wrap (by omega) hn2 hq
        have HVb : Hid (0 ≤ V ∧ V < Y) := by rw [HV.out]; exact ⟨Int.emod_nonneg _ (by omega), Int.emod_lt_of_pos _ (by omega)⟩
        have hq1 : Hid (Q = (U * 4294967296 + d1) / Y) := hq
        clear hq
        have hV0 : 0 ≤ V ∧ V < Y := HVb.out
        obtain ⟨v0, v1⟩ := hV0
        have T2 := Trial.start (U := V) (y := Y) (y1 := y1) (y0 := y0) (d := d0) HS.out hp HY0.out.1 HY0.out.2 D0.out.1 D0.out.2 v0 v1
        have R1 : IntKind.u64.wrap (V - IntKind.u64.wrap (V / y1 * y1)) = V - V / y1 * y1 := T2.rest0 hn2
        have B1 : Hid (V - V / y1 * y1 < 4294967296) := T2.rest_lt (by omega)
        go_wp2_with fail
        go_loop [18, 16] (fun q r => ∃ Q R : Int, q = .int .u64 Q ∧ r = .int .u64 R ∧ Trial V Y y1 y0 d0 Q R ∧ R < 4294967296 ∧ Q < 18446744073709551616) (fun q _ => (intOf q).toNat)
        case atStart => exact ⟨_, _, rfl, rfl, T2, B1.out, T2.quot_lt hn2⟩
        case round =>
          clear T2 B1 R1
          obtain ⟨Q2, R2, rfl, rfl, t2, hR2, hQ2⟩ := hrel
          have q20 := t2.qlo; have r20 := t2.rlo
          obtain ⟨dl, dh⟩ := D0.out
          by_cases c2 : 4294967296 ≤ Q2
          · obtain ⟨Q3, hQ3⟩ : ∃ Q3, Q2 - 1 = Q3 := ⟨_, rfl⟩
            obtain ⟨R3, hR3⟩ : ∃ R3, R2 + y1 = R3 := ⟨_, rfl⟩
            have t3 := t2.step (.inl c2)
            rw [hQ3, hR3] at t3
            have m2 : Hid (Q3 < Q2 ∧ 0 ≤ Q3) := by show Q3 < Q2 ∧ 0 ≤ Q3; omega
            by_cases c3 : R3 < 4294967296
            · go_wp2_with fail
              exact ⟨⟨Q3, R3, rfl, rfl, t3, c3, by have := m2.out; omega⟩, by have := m2.out; simp [intOf]; omega⟩
            · have hq0 := t3.far (by omega)
              obtain ⟨V2, hV2⟩ : ∃ V2, IntKind.u64.wrap (IntKind.u64.wrap (IntKind.u64.wrap (V * 4294967296) + d0) - IntKind.u64.wrap (Q3 * Y)) = V2 := ⟨_, rfl⟩
              have fin := div_end H1.out H2.out H3.out hq1.out HV.out hq0 (hV2.symm.trans (rest_wrap (by omega) hn2 hq0)) (show 0 < y by omega)
              have F1 : Hid (IntKind.u64.wrap (IntKind.u64.wrap (Q * 4294967296) + Q3) = (h * 18446744073709551616 + l) / y) := fin_wrap hh hl hlt (by omega) fin.1
              have F3 := fin.1
              have F4 := fin_wrap2 hh hl hlt (by omega) fin.1
              have G3 := hid1 F3
              have G4 := hid1 F4
              clear F3 F4
              have F2 : Hid (V2 / 2 ^ s = (h * 18446744073709551616 + l) % y) := fin.2
              clear fin hq0
              go_wp2
              go_ret2
              exact ⟨ret_pair (by first | exact G3.out | exact G4.out | exact F1.out) F2.out, Below.refl _ _⟩
          · have w2 : IntKind.u64.wrap (Q2 * y0) = Q2 * y0 := t2.small1 (by omega)
            have w3 : IntKind.u64.wrap (4294967296 * R2 + d0) = 4294967296 * R2 + d0 := t2.small3 hR2
            by_cases c4 : 4294967296 * R2 + d0 < Q2 * y0
            · obtain ⟨Q3, hQ3⟩ : ∃ Q3, Q2 - 1 = Q3 := ⟨_, rfl⟩
              obtain ⟨R3, hR3⟩ : ∃ R3, R2 + y1 = R3 := ⟨_, rfl⟩
              have t3 := t2.step (.inr c4)
              rw [hQ3, hR3] at t3
              have q30 := t3.qlo
              have m2 : Hid (Q3 < Q2 ∧ 0 ≤ Q3) := by show Q3 < Q2 ∧ 0 ≤ Q3; omega
              have q21 : 1 ≤ Q2 := by omega
              by_cases c3 : R3 < 4294967296
              · go_wp2_with fail
                exact ⟨⟨Q3, R3, rfl, rfl, t3, c3, by have := m2.out; omega⟩, by have := m2.out; simp [intOf]; omega⟩
              · have hq0 := t3.far (by omega)
                obtain ⟨V2, hV2⟩ : ∃ V2, IntKind.u64.wrap (IntKind.u64.wrap (IntKind.u64.wrap (V * 4294967296) + d0) - IntKind.u64.wrap (Q3 * Y)) = V2 := ⟨_, rfl⟩
                have fin := div_end H1.out H2.out H3.out hq1.out HV.out hq0 (hV2.symm.trans (rest_wrap (by omega) hn2 hq0)) (show 0 < y by omega)
                have F1 : Hid (IntKind.u64.wrap (IntKind.u64.wrap (Q * 4294967296) + Q3) = (h * 18446744073709551616 + l) / y) := fin_wrap hh hl hlt (by omega) fin.1
                have F3 := fin.1
                have F4 := fin_wrap2 hh hl hlt (by omega) fin.1
                have G3 := hid1 F3
                have G4 := hid1 F4
                clear F3 F4
                have F2 : Hid (V2 / 2 ^ s = (h * 18446744073709551616 + l) % y) := fin.2
                clear fin hq0
                go_wp2
                go_ret2
                exact ⟨ret_pair (by first | exact G3.out | exact G4.out | exact F1.out) F2.out, Below.refl _ _⟩
            · have hq0 := t2.done (by omega)
              obtain ⟨V2, hV2⟩ : ∃ V2, IntKind.u64.wrap (IntKind.u64.wrap (IntKind.u64.wrap (V * 4294967296) + d0) - IntKind.u64.wrap (Q2 * Y)) = V2 := ⟨_, rfl⟩
              have fin := div_end H1.out H2.out H3.out hq1.out HV.out hq0 (hV2.symm.trans (rest_wrap (by omega) hn2 hq0)) (show 0 < y by omega)
              have F1 : Hid (IntKind.u64.wrap (IntKind.u64.wrap (Q * 4294967296) + Q2) = (h * 18446744073709551616 + l) / y) := fin_wrap hh hl hlt (by omega) fin.1
              have F3 := fin.1
              have F4 := fin_wrap2 hh hl hlt (by omega) fin.1
              have G3 := hid1 F3
              have G4 := hid1 F4
              clear F3 F4
              have F2 : Hid (V2 / 2 ^ s = (h * 18446744073709551616 + l) % y) := fin.2
              clear fin hq0
              go_wp2
              go_ret2
              exact ⟨ret_pair (by first | exact G3.out | exact G4.out | exact F1.out) F2.out, Below.refl _ _⟩
end Go.Proofs.Ytffhbfdbahdhoab.Wd
