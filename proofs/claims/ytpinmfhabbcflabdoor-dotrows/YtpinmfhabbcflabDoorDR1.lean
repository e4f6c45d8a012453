/- The document's own answers of dot: Bit, May, Check. -/
import Derived.Test.YtpinmfhabbcflabDoorDW6
namespace Go.Proofs.YtpinmfhabbcflabDoor
open Go.RowKit

theorem half_u64 {x j : Nat} : ((x / 2 ^ j : Nat) : Int) / 2 = ((x / 2 ^ (j + 1) : Nat) : Int) := by
  rw [Nat.pow_succ, ← Nat.div_div_eq_div_mul]
  omega
set_option maxHeartbeats 800000 in
set_option maxRecDepth 100000 in
theorem tbit_any (b : Bt) (i : Nat) (w : World) (hi : i < 64 * b.m) (hm : b.m ≤ 262144) (h : Rw w b) :
    Calls Tryd.prog 46 #[b.v, .int .i64 i] w fun e w' => e = .returned (.bool (b.N.testBit i)) ∧ Below w.heap.size w w' := by
  obtain ⟨bn, ba, bm, bc, BN⟩ := b
  dsimp only at *
  obtain ⟨q, r, hr, rfl⟩ : ∃ q r, r < 64 ∧ i = 64 * q + r := ⟨i / 64, i % 64, by omega, by omega⟩
  have q1 : q < bm := by omega
  obtain ⟨g, o, rfl, c⟩ := h.2.2 q q1
  unfold wf at c
  dsimp only at c
  have e1 : ((64 * q + r : Nat) : Int) / 64 = q := by omega
  have e2 : ((64 * q + r : Nat) : Int).tmod 64 = r := by rw [Int.tmod_eq_emod_of_nonneg (by omega)]; omega
  have e2' : ((64 * q + r : Nat) : Int) % 64 = r := by omega
  have e3 : IntKind.i64.wrap (q : Int) = q := by rw [IntKind.wrap_i64]; omega
  have iq0 : (0 : Int) ≤ (q : Int) := by omega
  have iq1 : (q : Int) < (bm : Int) := by omega
  have ir0 : (0 : Int) ≤ (r : Int) := by omega
  have ir1 : (r : Int) ≤ 63 := by omega
  have ip0 : (0 : Int) ≤ ((64 * q + r : Nat) : Int) := by omega
  have HB := hid1 (bit_mod BN q r hr)
  have lg := lt_of_cell c
  have hx := wd_lt BN q
  clear h hi
  generalize hP : 64 * q + r = P at *
  clear hP
  generalize wd BN q = x at *
  go_enter Tryd.func46, Tryd.ntmps46
  go_wp2_with fail
  go_loop [5, 6] (fun v j => ∃ k : Nat, k ≤ r ∧ j = .int .i64 k ∧ v = .int .u64 ((x / 2 ^ k : Nat) : Int)) (fun _ j => r - (intOf j).toNat)
  case atStart => exact ⟨0, Nat.zero_le _, rfl, by simp⟩
  case round =>
    obtain ⟨k, hk, rfl, rfl⟩ := hrel
    have hy : x / 2 ^ k < 18446744073709551616 := Nat.lt_of_le_of_lt (Nat.div_le_self _ _) hx
    by_cases hlt : k < r
    · have ik : (k : Int) < (r : Int) := by omega
      have HH := hid1 (half_u64 (x := x) (j := k))
      generalize hq : x / 2 ^ k = y at *
      clear hq
      go_wp2_with fail
      exact ⟨⟨k + 1, by omega, by go_num, by rw [← HH.out]⟩, by simp [intOf]; omega⟩
    · have hkr : k = r := by omega
      subst hkr
      have hb := HB.out
      clear HB
      generalize x / 2 ^ k = y at *
      cases hbt : BN.testBit P
      · rw [hbt] at hb
        have y1 : (y : Int) % 2 = 0 := by simp at hb; omega
        have y2 : (y : Int).tmod 2 = 0 := by rw [Int.tmod_eq_emod_of_nonneg (by omega)]; exact y1
        clear hb
        go_wp2_with fail
        go_ret
        exact ⟨rfl, bl_alloc (Below.refl _ _) _⟩
      · rw [hbt] at hb
        have y1 : (y : Int) % 2 = 1 := by simp at hb; omega
        have y2 : (y : Int).tmod 2 = 1 := by rw [Int.tmod_eq_emod_of_nonneg (by omega)]; exact y1
        clear hb
        go_wp2_with fail
        go_ret
        exact ⟨rfl, bl_alloc (Below.refl _ _) _⟩

/-- May a row of bits be? -/
def myB (b : Bt) : Bool := decide (chk b.n b.m b.N = 0)
theorem myB_zero {b : Bt} (h : chk b.n b.m b.N = 0) : myB b = true := by unfold myB; rw [decide_eq_true h]
theorem myB_not {b : Bt} (h : chk b.n b.m b.N ≠ 0) : myB b = false := by unfold myB; rw [decide_eq_false h]
set_option maxHeartbeats 1600000 in
set_option maxRecDepth 100000 in
theorem may_any (b : Bt) (w : World) (h : Rw w b) :
    Calls Tryd.prog 26 #[b.v] w fun e w' => e = .returned (.bool (myB b)) ∧ Below w.heap.size w w' := by
  have HR := hid1 h
  have hmx := h.2.1
  clear h
  by_cases h1 : b.n < 0
  · rw [myB_not (by unfold chk; rw [if_pos h1]; decide)]
    go_enter Tryd.func26, Tryd.ntmps26
    go_wp2
    go_ret
    exact ⟨rfl, bl_alloc (Below.refl _ _) _⟩
  by_cases h2 : 16777216 < b.n
  · rw [myB_not (by unfold chk; rw [if_neg h1, if_pos h2]; decide)]
    go_enter Tryd.func26, Tryd.ntmps26
    go_wp2
    go_ret
    exact ⟨rfl, bl_alloc (Below.refl _ _) _⟩
  obtain ⟨bn, ba, m, bc, N⟩ := b
  dsimp only at *
  obtain ⟨n, rfl⟩ := Int.eq_ofNat_of_zero_le (Int.not_lt.1 h1)
  have h3 : n ≤ 16777216 := by omega
  have hb := nw_bd h3
  have en : ((n : Int) + 63) / 64 = (nw n : Nat) := by unfold nw; omega
  have in0 : (0 : Int) ≤ (n : Int) := by omega
  have in1 : (n : Int) ≤ 16777216 := by omega
  clear h1 h2
  by_cases h4 : m = nw n
  · have hle := nw_le n
    have e0 : chk n m N = if N < 2 ^ n then 0 else 20 := by
      unfold chk
      rw [if_neg (by omega), if_neg (by omega), Int.toNat_natCast, if_neg (by simp [h4])]
    rw [← h4] at en hle hb
    have HN := hid1 HR.out.1
    have HE := hid1 e0
    have im0 : (0 : Int) ≤ (m : Int) := by omega
    have im1 : (m : Int) ≤ 262144 := by omega
    obtain ⟨mb, emb⟩ : ∃ x, myB ⟨n, ba, m, bc, N⟩ = x := ⟨_, rfl⟩
    rw [emb]
    have HMB := hid1 emb
    clear h4 e0 emb
    go_enter Tryd.func26, Tryd.ntmps26
    go_wp2_with fail
    clear en
    go_loopw [3] (fun i wr => ∃ k : Nat, n ≤ k ∧ k ≤ 64 * m ∧ i = .int .i64 k ∧ (∀ j, n ≤ j → j < k → N.testBit j = false) ∧ wr.rowIs w.heap.size 31 2 (sf n ba m bc) ∧ Below w.heap.size w wr)
      (fun i _ => 64 * m - (intOf i).toNat)
    case atStart => exact ⟨n, Nat.le_refl _, hle, rfl, fun j h5 h6 => absurd h5 (by omega), row_new _ _ _ _ _ _, bl_alloc (Below.refl _ _) _⟩
    case round =>
      obtain ⟨k, hk1, hk2, rfl, hk3, r1, hnx⟩ := hrel
      have c0 := sf_len r1
      have c1 := sf_ws r1
      have ik0 : (0 : Int) ≤ (k : Int) := by omega
      have em : IntKind.i64.wrap (64 * (m : Int)) = ((64 * m : Nat) : Int) := by rw [IntKind.wrap_i64]; omega
      by_cases hlt : k < 64 * m
      · have ik : (k : Int) < ((64 * m : Nat) : Int) := by omega
        have ik' : (k : Int) < 64 * (m : Int) := by omega
        have HK := hid1 hk3
        have H1 := hid1 r1
        have ib : (k : Int) ≤ 16777216 := by omega
        clear hk3 r1
        go_wp2_with fail
        refine (tbit_any ⟨n, ba, m, bc, N⟩ k wr hlt (by show m ≤ _; omega) (HR.out.below hnx)).mono ?_
        rintro e w1 ⟨rfl, hb1⟩
        dsimp only
        cases hbit : N.testBit k
        · go_wp2_with fail
          exact ⟨⟨k + 1, by omega, by omega, by go_num, fun j h5 h6 => by
            by_cases e : j = k
            · rw [e]; exact hbit
            · exact HK.out j h5 (by omega), keepr hb1 H1.out, bl_step hnx hb1⟩, by simp [intOf]; omega⟩
        · have e5 : mb = false := HMB.out.symm.trans (myB_not (by show chk n m N ≠ 0; rw [HE.out, if_neg (not_lt_of_bit hk1 hbit)]; decide))
          have E5 := hid1 e5
          clear e5
          go_wp2_with fail
          go_ret
          exact ⟨by rw [E5.out]; rfl, bl_step hnx hb1⟩
      · have ik : ¬ (k : Int) < ((64 * m : Nat) : Int) := by omega
        have ik' : ¬ (k : Int) < 64 * (m : Int) := by omega
        have e5 : mb = true := HMB.out.symm.trans (myB_zero (by show chk n m N = 0; rw [HE.out, if_pos (lt_of_none HN.out (fun i h5 h6 => hk3 i h5 (by omega)))]))
        have E5 := hid1 e5
        clear r1 hk3 e5
        go_wp2_with fail
        go_ret
        exact ⟨by rw [E5.out]; rfl, hnx⟩
  · have im : ¬ (m : Int) = (nw n : Nat) := by omega
    have imb : ((m : Int) != (nw n : Nat)) = true := by simp; omega
    have imc : ((m : Int) == (nw n : Nat)) = false := by simp; omega
    rw [myB_not (by show chk n m N ≠ 0; rw [show chk n m N = 20 by simp [chk, h4]; omega]; decide)]
    go_enter Tryd.func26, Tryd.ntmps26
    go_wp2
    go_ret
    exact ⟨rfl, bl_alloc (Below.refl _ _) _⟩
theorem sub_word (A B k : Nat) : (wd A k &&& wd B k = wd A k) ↔ wd A k &&& (18446744073709551615 - wd B k) = 0 := by
  have hc : ∀ i, i < 64 → (18446744073709551615 - wd B k).testBit i = !((wd B k).testBit i) := fun i hi => by
    have hb := wd_lt B k
    have e : 18446744073709551615 - wd B k = 2 ^ 64 - (wd B k + 1) := by rw [← two64]; omega
    rw [e, Nat.testBit_two_pow_sub_succ (by rw [← two64]; exact hb)]
    simp [hi]
  constructor
  · intro h
    refine wd_ext (and_lt64 (wd_lt _ _)) (by decide) fun i hi => ?_
    have h1 := congrArg (fun x => Nat.testBit x i) h
    simp only [Nat.testBit_and] at h1
    rw [Nat.testBit_and, hc i hi]
    cases h2 : (wd A k).testBit i <;> cases h3 : (wd B k).testBit i <;> simp [h2, h3] at h1 ⊢
  · intro h
    refine wd_ext (and_lt64 (wd_lt _ _)) (wd_lt _ _) fun i hi => ?_
    have h1 := congrArg (fun x => Nat.testBit x i) h
    simp only [Nat.testBit_and, Nat.zero_testBit] at h1
    rw [hc i hi] at h1
    rw [Nat.testBit_and]
    cases h2 : (wd A k).testBit i <;> cases h3 : (wd B k).testBit i <;> simp [h2, h3] at h1 ⊢
theorem dck_bad {A B : Bt} (h : myB A = false ∨ myB B = false ∨ A.n ≠ B.n) : dck A B = 20 := by
  unfold dck
  rw [if_pos]
  rcases h with h | h | h
  · left
    intro h2
    rw [myB_zero h2] at h
    cases h
  · right
    unfold ftB
    rw [decide_eq_false]
    rintro ⟨h2, _⟩
    rw [myB_zero h2] at h
    cases h
  · right
    unfold ftB
    rw [decide_eq_false]
    rintro ⟨_, h2⟩
    exact h h2.symm
theorem dck_good {A B : Bt} (h1 : myB A = true) (h2 : myB B = true) (h3 : A.n = B.n) : (dck A B = if A.N &&& B.N = A.N then 0 else 100) ∧ ∃ n : Nat, A.n = n ∧ n ≤ 16777216 ∧ A.m = nw n ∧ B.m = nw n ∧ A.N < 2 ^ n := by
  have e1 : chk A.n A.m A.N = 0 := of_decide_eq_true h1
  have e2 : chk B.n B.m B.N = 0 := of_decide_eq_true h2
  obtain ⟨n, f1, f2, f3, f4⟩ := chk_zero e1
  obtain ⟨n', k1, k2, k3, k4⟩ := chk_zero e2
  have : n' = n := by omega
  subst this
  refine ⟨?_, n', f1, f2, f3, k3, f4⟩
  unfold dck
  rw [if_neg]
  rintro (h | h)
  · exact h e1
  · unfold ftB at h
    have := of_decide_eq_false h
    exact this ⟨e2, h3.symm⟩
set_option maxHeartbeats 1600000 in
set_option maxRecDepth 100000 in
theorem rcheck_any (A B : Bt) (w : World) (hA : Rw w A) (hB : Rw w B) :
    Calls Tryd.prog 8 #[rwv A B] w fun e w' => e = .returned (.int .i64 (dck A B)) ∧ Below w.heap.size w w' := by
  have HA := hid1 hA
  have HB := hid1 hB
  clear hA hB
  obtain ⟨dv, edv⟩ : ∃ x, dck A B = x := ⟨_, rfl⟩
  rw [edv]
  have HD := hid1 edv
  clear edv
  go_enter Tryd.func8, Tryd.ntmps8
  go_wp2_with fail
  refine gen_calls (fun W => Below w.heap.size w W ∧ W.rowIs w.heap.size 33 4 (qf A B)) ⟨bl_alloc (Below.refl _ _) _, q_new w A B _⟩ ?_
  rintro W ⟨B0, r1⟩
  refine (may_any A W (HA.out.below B0)).mono ?_
  rintro e w1 ⟨rfl, hb1⟩
  replace r1 := keepr hb1 r1
  replace B0 := bl_step B0 hb1
  have c2 := q2 r1
  have c3 := q3 r1
  clear hb1
  go_wp2_with fail
  refine (may_any B w1 (HB.out.below B0)).mono ?_
  rintro e w2 ⟨rfl, hb2⟩
  replace r1 := keepr hb2 r1
  replace B0 := bl_step B0 hb2
  clear hb2 c2 c3
  have c0 := q0 r1
  have c2 := q2 r1
  have R1 := hid1 r1
  clear r1
  by_cases hgood : myB A = true ∧ myB B = true ∧ A.n = B.n
  · obtain ⟨g1, g2, g3⟩ := hgood
    obtain ⟨hdk, n, e1, e2, e3, e4, e5⟩ := dck_good g1 g2 g3
    have HS : Hid (A.N &&& B.N = A.N ↔ ∀ k, k < nw n → wd A.N k &&& (18446744073709551615 - wd B.N k) = 0) := sub_words (lt_nw e5)
    rw [HD.out] at hdk
    have HK := hid1 hdk
    rw [g1, g2]
    rw [← g3] at c2
    have M1 := hid1 e3
    have M2 := hid1 e4
    have hbd := nw_bd e2
    clear hdk e3 e4 g1 g2 g3 e1
    have c1 := q1 R1.out
    have c3 := q3 R1.out
    rw [M1.out] at c1
    rw [M2.out] at c3
    go_wp2_with fail
    clear c0 c2 c1 c3
    go_loopw [5] (fun i wr => ∃ k : Nat, k ≤ nw n ∧ i = .int .i64 k ∧ (∀ j, j < k → wd A.N j &&& (18446744073709551615 - wd B.N j) = 0) ∧ wr.rowIs w.heap.size 33 4 (qf A B) ∧ Below w.heap.size w wr) (fun i _ => nw n - (intOf i).toNat)
    case atStart => exact ⟨0, Nat.zero_le _, rfl, fun j hj => absurd hj (by omega), R1.out, B0⟩
    case round =>
      clear B0 R1
      obtain ⟨k, hk, rfl, hall, r1, B0⟩ := hrel
      have HL := hid1 hall
      clear hall
      have c1 := q1 r1
      have c3 := q3 r1
      rw [M1.out] at c1
      rw [M2.out] at c3
      have R1 := hid1 r1
      clear r1
      by_cases hlt : k < nw n
      · obtain ⟨g1, o1, ea1, d1⟩ := (HA.out.below B0).2.2 k (by rw [M1.out]; exact hlt)
        obtain ⟨g2, o2, ea2, d2⟩ := (HB.out.below B0).2.2 k (by rw [M2.out]; exact hlt)
        rw [ea1] at c1
        rw [ea2] at c3
        unfold wf at d1 d2
        have ik : (k : Int) < (nw n : Nat) := by omega
        have ik0 : (0 : Int) ≤ (k : Int) := by omega
        have hu := wd_lt A.N k
        have hv := wd_lt B.N k
        have HE := hid1 (and_u64 _ _ hu hv)
        have HSW := hid1 (sub_word A.N B.N k)
        clear ea1 ea2
        by_cases hq : wd A.N k &&& wd B.N k = wd A.N k
        · have e1 : bits .and .u64 (wd A.N k : Int) (wd B.N k : Int) = (wd A.N k : Int) := by rw [HE.out, hq]
          have HQ := hid1 (HSW.out.1 hq)
          clear hq HE HSW
          go_wp2_with fail
          go_quiet (fail)
          go_wp2_with fail
          exact ⟨⟨k + 1, by omega, by go_num, fun j hj => by
            by_cases e : j = k
            · subst e; exact HQ.out
            · exact HL.out j (by omega), row_drewN R1.out _, bl_drewN B0 _⟩, by simp [intOf]; omega⟩
        · have e1 : (bits .and .u64 (wd A.N k : Int) (wd B.N k : Int) != (wd A.N k : Int)) = true := by rw [HE.out]; simp; omega
          have e2 : ¬ A.N &&& B.N = A.N := fun h => hq (HSW.out.2 (HS.out.1 h k hlt))
          have HQ : Hid (dv = 100) := hid1 (HK.out.trans (if_neg e2))
          clear hq e2 HE HSW HS HK
          go_wp2_with fail
          go_quiet (fail)
          go_wp2_with fail
          go_ret
          exact ⟨ret_int HQ.out.symm, bl_drewN B0 _⟩
      · have hkN : k = nw n := by omega
        have e2 : A.N &&& B.N = A.N := HS.out.2 (hkN ▸ HL.out)
        have HQ : Hid (dv = 0) := hid1 (HK.out.trans (if_pos e2))
        clear e2 HS HK
        go_wp2_with fail
        go_ret
        exact ⟨ret_int HQ.out.symm, B0⟩
  · have h20 : Hid (dv = 20) := by
      refine HD.out.symm.trans (dck_bad ?_)
      cases ha : myB A
      · exact .inl rfl
      · cases hb : myB B
        · exact .inr (.inl rfl)
        · exact .inr (.inr fun h => hgood ⟨ha, hb, h⟩)
    cases ha : myB A
    · go_wp2_with fail
      go_ret
      exact ⟨ret_int h20.out.symm, B0⟩
    · cases hb : myB B
      · go_wp2_with fail
        go_ret
        exact ⟨ret_int h20.out.symm, B0⟩
      · have hne : ¬ A.n = B.n := fun h => hgood ⟨ha, hb, h⟩
        clear hgood
        go_wp2_with fail
        go_ret
        exact ⟨ret_int h20.out.symm, B0⟩
end Go.Proofs.YtpinmfhabbcflabDoor
