/- dot.Check. -/
import Derived.Test.YtohkiknhjcibgaaDW1
namespace Go.Proofs.Ytohkiknhjcibgaa
open Go.RowKit

/-- A row of weights as a value. -/
abbrev rwv (A B : Bt) : Value := .agg #[.int .i64 A.n, .slice A.ao A.m A.cap, .int .i64 B.n, .slice B.ao B.m B.cap]
/-- Its four cells. -/
def qf (A B : Bt) : Nat → Value := fun k => if k = 0 then .int .i64 A.n else if k = 1 then .slice A.ao A.m A.cap else if k = 2 then .int .i64 B.n else .slice B.ao B.m B.cap
theorem q_new (w : World) (A B : Bt) (t : TypeId) : (w.alloc (.cells #[.int .i64 A.n, .slice A.ao A.m A.cap, .int .i64 B.n, .slice B.ao B.m B.cap] t)).rowIs w.heap.size t 4 (qf A B) :=
  World.rowIs_alloc w _ t _ (fun i hi => by
    rcases i with _ | _ | _ | _ | i
    · rfl
    · rfl
    · rfl
    · rfl
    · simp at hi; omega)
theorem q0 {w : World} {b t : Nat} {A B : Bt} (h : w.rowIs b t 4 (qf A B)) : w.cell? ⟨b, 0, none⟩ = some (.int .i64 A.n) := h.cell (by omega)
theorem q1 {w : World} {b t : Nat} {A B : Bt} (h : w.rowIs b t 4 (qf A B)) : w.cell? ⟨b, 1, none⟩ = some (.slice A.ao A.m A.cap) := h.cell (by omega)
theorem q2 {w : World} {b t : Nat} {A B : Bt} (h : w.rowIs b t 4 (qf A B)) : w.cell? ⟨b, 2, none⟩ = some (.int .i64 B.n) := h.cell (by omega)
theorem q3 {w : World} {b t : Nat} {A B : Bt} (h : w.rowIs b t 4 (qf A B)) : w.cell? ⟨b, 3, none⟩ = some (.slice B.ao B.m B.cap) := h.cell (by omega)

/-- No word of A has a bit that the word of B lacks. -/
theorem sub_words {A B m : Nat} (hA : A < 2 ^ (64 * m)) : A &&& B = A ↔ ∀ k, k < m → wd A k &&& (18446744073709551615 - wd B k) = 0 := by
  have key : ∀ k, (wd A k &&& (18446744073709551615 - wd B k) = 0 ↔ wd (A &&& B) k = wd A k) := fun k => by
    have hc : ∀ i, i < 64 → (18446744073709551615 - wd B k).testBit i = !((wd B k).testBit i) := fun i hi => by
      have hb := wd_lt B k
      have e : 18446744073709551615 - wd B k = 2 ^ 64 - (wd B k + 1) := by rw [← two64]; omega
      rw [e, Nat.testBit_two_pow_sub_succ (by rw [← two64]; exact hb)]
      simp [hi]
    rw [wd_and]
    constructor
    · intro h
      refine wd_ext (and_lt64 (wd_lt _ _)) (wd_lt _ _) fun i hi => ?_
      have h1 := congrArg (fun x => Nat.testBit x i) h
      simp only [Nat.testBit_and, Nat.zero_testBit] at h1
      rw [hc i hi] at h1
      rw [Nat.testBit_and]
      cases h2 : (wd A k).testBit i <;> cases h3 : (wd B k).testBit i <;> simp [h2, h3] at h1 ⊢
    · intro h
      refine wd_ext (and_lt64 (wd_lt _ _)) (by decide) fun i hi => ?_
      have h1 := congrArg (fun x => Nat.testBit x i) h
      simp only [Nat.testBit_and] at h1
      rw [Nat.testBit_and, hc i hi]
      cases h2 : (wd A k).testBit i <;> cases h3 : (wd B k).testBit i <;> simp [h2, h3] at h1 ⊢
  constructor
  · intro h k _
    rw [key, h]
  · intro h
    exact num_ext (Nat.lt_of_le_of_lt Nat.and_le_left hA) hA fun k hk => (key k).1 (h k hk)
/-- What Check tells. -/
def dck (A B : Bt) : Int := if A.chk ≠ 0 ∨ ftB B.n B.m B.N A.n = false then 20 else if A.N &&& B.N = A.N then 0 else 100
theorem dck_zero {A B : Bt} (h : dck A B = 0) : ∃ n : Nat, A.n = n ∧ B.n = n ∧ n ≤ 16777216 ∧ A.m = nw n ∧ B.m = nw n ∧ A.N < 2 ^ n ∧ B.N < 2 ^ n ∧ A.N &&& B.N = A.N := by
  unfold dck at h
  by_cases h1 : A.chk ≠ 0 ∨ ftB B.n B.m B.N A.n = false
  · rw [if_pos h1] at h; omega
  rw [if_neg h1] at h
  by_cases h2 : A.N &&& B.N = A.N
  · have h3 : A.chk = 0 := Classical.byContradiction fun h3 => h1 (.inl h3)
    have h4 : ¬ ftB B.n B.m B.N A.n = false := fun h4 => h1 (.inr h4)
    simp [ftB] at h4
    obtain ⟨k, e1, e2, e3, e4⟩ := chk_zero h3
    obtain ⟨j, f1, f2, f3, f4⟩ := chk_zero h4.1
    have : j = k := by have := h4.2; omega
    subst this
    exact ⟨j, e1, f1, e2, e3, f3, e4, f4, h2⟩
  · rw [if_neg h2] at h; omega

set_option maxHeartbeats 800000 in
set_option maxRecDepth 100000 in
theorem dcheck_any (A B : Bt) (w : World) (hA : Rw w A) (hB : Rw w B) :
    Calls Try.prog 28 #[rwv A B] w fun e w' => e = .returned (.int .i64 (dck A B)) ∧ Below w.heap.size w w' := by
  have HA := hid1 hA
  have HB := hid1 hB
  clear hA hB
  by_cases hz : A.chk = 0
  · by_cases hf : ftB B.n B.m B.N A.n = true
    · have e : dck A B = if A.N &&& B.N = A.N then 0 else 100 := by unfold dck; rw [if_neg (by simp [hz, hf])]
      obtain ⟨n, e1, e2, e3, e4⟩ := chk_zero hz
      have hf' := hf
      simp only [ftB, decide_eq_true_eq] at hf'
      obtain ⟨n', f1, f2, f3, f4⟩ := chk_zero hf'.1
      have : n' = n := by have := hf'.2; omega
      subst this
      have HD := hid1 e
      clear e hf'
      have HS : Hid (A.N &&& B.N = A.N ↔ ∀ k, k < nw n' → wd A.N k &&& (18446744073709551615 - wd B.N k) = 0) := sub_words (lt_nw e4)
      obtain ⟨an, aa, am, ac, AN⟩ := A
      obtain ⟨bn, ba, bm, bc, BN⟩ := B
      dsimp only at *
      subst e3 f3
      have hb := nw_bd e2
      have hz0 : chk an (nw n') AN = 0 := hz
      clear hz
      have H1 := hid1 e1
      clear e1 f1
      go_enter Try.func28, Try.ntmps28
      go_wp2_with fail
      refine gen_calls (fun W => Below w.heap.size w W ∧ W.rowIs w.heap.size 46 4 (qf ⟨an, aa, nw n', ac, AN⟩ ⟨bn, ba, nw n', bc, BN⟩)) ⟨bl_alloc (Below.refl _ _) _, q_new w ⟨an, aa, nw n', ac, AN⟩ ⟨bn, ba, nw n', bc, BN⟩ _⟩ ?_
      rintro W ⟨B0, r1⟩
      refine (checko_any an aa (nw n') ac AN W (HA.out.below B0)).mono ?_
      rintro e w1 ⟨rfl, hb1⟩
      rw [hz0]
      replace r1 := keepr hb1 r1
      replace B0 := bl_step B0 hb1
      have c0 := q0 r1
      have c2 := q2 r1
      have c3 := q3 r1
      go_wp2_with fail
      refine (fits_any bn ba (nw n') bc BN an w1 (HB.out.below B0)).mono ?_
      rintro e w2 ⟨rfl, hb2⟩
      rw [hf]
      replace r1 := keepr hb2 r1
      replace B0 := bl_step B0 hb2
      clear c0 c2 c3 hb1 hb2
      have c1 := q1 r1
      have c3 := q3 r1
      go_wp2_with fail
      go_loop [22] (fun i => ∃ k : Nat, k ≤ nw n' ∧ i = .int .i64 k ∧ ∀ j, j < k → wd AN j &&& (18446744073709551615 - wd BN j) = 0) (fun i => nw n' - (intOf i).toNat)
      case atStart => exact ⟨0, Nat.zero_le _, rfl, fun j hj => absurd hj (by omega)⟩
      case round =>
        obtain ⟨k, hk, rfl, hall⟩ := hrel
        have HL := hid1 hall
        clear hall
        by_cases hlt : k < nw n'
        · obtain ⟨g1, o1, rfl, d1⟩ := (HA.out.below B0).2.2 k hlt
          obtain ⟨g2, o2, rfl, d2⟩ := (HB.out.below B0).2.2 k hlt
          unfold wf at d1 d2
          dsimp only at d1 d2
          have ik : (k : Int) < (nw n' : Nat) := by omega
          have ik0 : (0 : Int) ≤ (k : Int) := by omega
          have hu := wd_lt AN k
          have hv := wd_lt BN k
          have HE := hid1 (andNot_u64 _ _ hu hv)
          by_cases hq : wd AN k &&& (18446744073709551615 - wd BN k) = 0
          · have e1 : bits .andNot .u64 (wd AN k : Int) (wd BN k : Int) = 0 := by rw [HE.out, hq]; rfl
            have HQ := hid1 hq
            clear hq HE
            go_wp2_with fail
            exact ⟨⟨k + 1, by omega, by go_num, fun j hj => by
              by_cases e : j = k
              · subst e; exact HQ.out
              · exact HL.out j (by omega)⟩, by simp [intOf]; omega⟩
          · have e1 : (bits .andNot .u64 (wd AN k : Int) (wd BN k : Int) != 0) = true := by rw [HE.out]; simpa using hq
            have e2 : ¬ AN &&& BN = AN := fun h => hq (HS.out.1 h k hlt)
            have HQ := hid1 (HD.out.trans (if_neg e2))
            clear hq e2 HE HD HS
            go_wp2_with fail
            go_ret
            exact ⟨ret_int HQ.out.symm, B0⟩
        · have hkN : k = nw n' := by omega
          have e2 : AN &&& BN = AN := HS.out.2 (hkN ▸ HL.out)
          have HQ : Hid (dck ⟨an, aa, nw n', ac, AN⟩ ⟨bn, ba, nw n', bc, BN⟩ = 0) := hid1 (by rw [HD.out, if_pos e2])
          clear e2 HD HS
          go_wp2_with fail
          go_ret
          exact ⟨ret_int HQ.out.symm, B0⟩
    · have hf0 : ftB B.n B.m B.N A.n = false := by simpa using hf
      have hz0 : chk A.n A.m A.N = 0 := hz
      have e : dck A B = 20 := by unfold dck; rw [if_pos (.inr hf0)]
      rw [e]
      clear e hf
      go_enter Try.func28, Try.ntmps28
      go_wp2_with fail
      refine gen_calls (fun W => Below w.heap.size w W ∧ W.rowIs w.heap.size 46 4 (qf A B)) ⟨bl_alloc (Below.refl _ _) _, q_new w A B _⟩ ?_
      rintro W ⟨B0, r1⟩
      refine (checko_any A.n A.ao A.m A.cap A.N W (HA.out.below B0)).mono ?_
      rintro e w1 ⟨rfl, hb1⟩
      rw [hz0]
      replace r1 := keepr hb1 r1
      replace B0 := bl_step B0 hb1
      have c0 := q0 r1
      have c2 := q2 r1
      have c3 := q3 r1
      go_wp2_with fail
      refine (fits_any B.n B.ao B.m B.cap B.N A.n w1 (HB.out.below B0)).mono ?_
      rintro e w2 ⟨rfl, hb2⟩
      rw [hf0]
      go_wp2_with fail
      go_ret
      exact ⟨rfl, bl_step B0 hb2⟩
  · have e : dck A B = 20 := by unfold dck; rw [if_pos (.inl hz)]
    rw [e]
    clear e
    go_enter Try.func28, Try.ntmps28
    go_wp2_with fail
    refine gen_calls (fun W => Below w.heap.size w W) (bl_alloc (Below.refl _ _) _) ?_
    intro W B0
    refine (checko_any A.n A.ao A.m A.cap A.N W (HA.out.below B0)).mono ?_
    rintro e w1 ⟨rfl, hb1⟩
    have hz' : ¬ chk A.n A.m A.N = 0 := hz
    clear hz
    generalize chk A.n A.m A.N = q at *
    go_wp2_with fail
    go_ret
    exact ⟨rfl, bl_step B0 hb1⟩
end Go.Proofs.Ytohkiknhjcibgaa
