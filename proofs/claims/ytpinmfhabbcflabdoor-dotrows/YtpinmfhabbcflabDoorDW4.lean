/- Signs. -/
import Derived.Test.YtpinmfhabbcflabDoorDW3
namespace Go.Proofs.YtpinmfhabbcflabDoor
open Go.RowKit

theorem row_drewN' {w : World} {b t n : Nat} {f : Nat → Value} (h : w.rowIs b t n f) (k : Nat) : (w.drewN k).rowIs b t n f := row_drewN h k
/-- What Signs tells. -/
def sgE (A B X : Bt) : Int := if dck A B ≠ 0 then dck A B else if ftB X.n X.m X.N A.n = true then 0 else 20
def sgV (A B X : Bt) : Int := if sgE A B X = 0 then tq B.N A.N X.N A.n.toNat else 0
theorem sgE_bad {A B X : Bt} (h : dck A B ≠ 0) : sgE A B X = dck A B := by unfold sgE; rw [if_pos h]
theorem sgV_bad {A B X : Bt} (h : dck A B ≠ 0) : sgV A B X = 0 := by unfold sgV; rw [if_neg (by rw [sgE_bad h]; exact h)]
theorem tq_end {C A B n : Nat} (h : C < 2 ^ n) : tq C A B (64 * nw n) = tq C A B n := tq_above h A B (nw_le n)
set_option maxHeartbeats 1600000 in
set_option maxRecDepth 100000 in
theorem signs_any (A B X : Bt) (w : World) (hA : Rw w A) (hB : Rw w B) (hX : Rw w X) :
    Calls Tryd.prog 19 #[rwv A B, X.v] w fun e w' => e = .returned (.tuple #[.int .i64 (sgV A B X), .int .i64 (sgE A B X)]) ∧ Below w.heap.size w w' := by
  have HA := hid1 hA
  have HB := hid1 hB
  have HX := hid1 hX
  clear hA hB hX
  have enter : ∀ W : World, Below w.heap.size w W → Calls Tryd.prog 7 #[rwv A B] W fun e w' => e = .returned (.int .i64 (dck A B)) ∧ Below W.heap.size W w' := fun W hW => dcheck_any A B W (HA.out.below hW) (HB.out.below hW)
  by_cases hd : dck A B = 0
  · by_cases hf : ftB X.n X.m X.N A.n = true
    · obtain ⟨n, e1, e2, e3, e4, e5, e6, e7, _⟩ := dck_zero hd
      have hE : sgE A B X = 0 := by unfold sgE; rw [if_neg (by simp [hd]), if_pos hf]
      have hV : sgV A B X = tq B.N A.N X.N n := by unfold sgV; rw [if_pos hE, e1, Int.toNat_natCast]
      have hx : X.m = nw n := by
        have hf' := hf
        simp only [ftB, decide_eq_true_eq] at hf'
        obtain ⟨j, f1, f2, f3, f4⟩ := chk_zero hf'.1
        have : j = n := by have := hf'.2; omega
        rw [f3, this]
      rw [hE, hV, ← tq_end e7]
      have hb := nw_bd e3
      have HD := hid1 hd
      clear hE hV hd
      obtain ⟨an, aa, am, ac, AN⟩ := A
      obtain ⟨bn, ba, bm, bc, BN⟩ := B
      obtain ⟨xn, xa, xm, xc, XN⟩ := X
      dsimp only at *
      subst e4 e5 hx
      clear e1 e2
      go_enter Tryd.func19, Tryd.ntmps19
      go_wp2_with fail
      refine gen_calls (fun W => Below w.heap.size w W ∧ W.rowIs w.heap.size 33 4 (qf ⟨an, aa, nw n, ac, AN⟩ ⟨bn, ba, nw n, bc, BN⟩) ∧ W.rowIs (w.heap.size + 1) 31 2 (sf xn xa (nw n) xc)) ⟨bl_alloc (bl_alloc (Below.refl _ _) _) _, (q_new w ⟨an, aa, nw n, ac, AN⟩ ⟨bn, ba, nw n, bc, BN⟩ _).alloc _, by have := row_new (w.alloc (.cells #[.int .i64 an, .slice aa (nw n) ac, .int .i64 bn, .slice ba (nw n) bc] 33)) xn xa (nw n) xc 31; simpa using this⟩ ?_
      rintro W ⟨B0, r1, r2⟩
      refine (enter W B0).mono ?_
      rintro e w1 ⟨rfl, hb1⟩
      rw [HD.out]
      replace r1 := keepr hb1 r1
      replace r2 := keepr hb1 r2
      replace B0 := bl_step B0 hb1
      have c0 := q0 r1
      have c2 := sf_len r2
      have c3 := sf_ws r2
      clear hb1
      go_wp2_with fail
      refine (fits_any xn xa (nw n) xc XN an w1 (HX.out.below B0)).mono ?_
      rintro e w2 ⟨rfl, hb2⟩
      rw [hf]
      replace r1 := keepr hb2 r1
      replace r2 := keepr hb2 r2
      replace B0 := bl_step B0 hb2
      clear c0 c2 c3 hb2 enter
      have c3 := q3 r1
      go_wp2_with fail
      clear c3
      go_loopw [7, 25] (fun s i wr => ∃ k : Nat, k ≤ nw n ∧ i = .int .i64 k ∧ s = .int .i64 (tq BN AN XN (64 * k)) ∧ wr.rowIs w.heap.size 33 4 (qf ⟨an, aa, nw n, ac, AN⟩ ⟨bn, ba, nw n, bc, BN⟩) ∧ wr.rowIs (w.heap.size + 1) 31 2 (sf xn xa (nw n) xc) ∧ Below w.heap.size w wr) (fun _ i _ => nw n - (intOf i).toNat)
      case atStart => exact ⟨0, Nat.zero_le _, rfl, rfl, r1, r2, B0⟩
      case round =>
        clear r1 r2 B0
        obtain ⟨k, hk, rfl, rfl, r1, r2, B0⟩ := hrel
        by_cases hlt : k < nw n
        · obtain ⟨g1, o1, rfl, d1⟩ := (HA.out.below B0).2.2 k hlt
          obtain ⟨g2, o2, rfl, d2⟩ := (HB.out.below B0).2.2 k hlt
          obtain ⟨g3, o3, rfl, d3⟩ := (HX.out.below B0).2.2 k hlt
          unfold wf at d1 d2 d3
          dsimp only at d1 d2 d3
          have c1 := q1 r1
          have c3 := sf_ws r2
          have ik : (k : Int) < (nw n : Nat) := by omega
          have ik0 : (0 : Int) ≤ (k : Int) := by omega
          have HT := hid1 (tally_any (wd BN k) (wd AN k) (wd XN k) (wd_lt _ _) (wd_lt _ _) (wd_lt _ _))
          have HW := hid1 (tq_word BN AN XN k)
          have b1 := tq_bd BN AN XN (64 * k)
          have b2 := tq_bd (wd BN k) (wd AN k) (wd XN k) 64
          have H1 := hid1 r1
          have H2 := hid1 r2
          clear r1 r2
          generalize wd BN k = u at *
          generalize wd AN k = v at *
          generalize wd XN k = x at *
          generalize tq u v x 64 = dt at *
          generalize tq BN AN XN (64 * k) = st at *
          go_wp2_with fail
          go_quiet ((go_at_call 41; refine (HT.out _).mono ?_; rintro e w5 ⟨rfl, rfl⟩; exact ⟨rfl, _, rfl⟩))
          go_wp2_with fail
          exact ⟨⟨k + 1, by omega, by go_num, by rw [HW.out], row_drewN H1.out _, row_drewN H2.out _, bl_drewN B0 _⟩, by simp [intOf]; omega⟩
        · have hkN : k = nw n := by omega
          subst hkN
          go_wp2_with fail
          go_ret2
          exact ⟨rfl, B0⟩
    · have hf0 : ftB X.n X.m X.N A.n = false := by simpa using hf
      have hE : sgE A B X = 20 := by unfold sgE; rw [if_neg (by simp [hd]), if_neg hf]
      have hV : sgV A B X = 0 := by unfold sgV; rw [if_neg (by rw [hE]; decide)]
      rw [hE, hV]
      clear hE hV hf
      go_enter Tryd.func19, Tryd.ntmps19
      go_wp2_with fail
      refine gen_calls (fun W => Below w.heap.size w W ∧ W.rowIs w.heap.size 33 4 (qf A B) ∧ W.rowIs (w.heap.size + 1) 31 2 (sf X.n X.ao X.m X.cap)) ⟨bl_alloc (bl_alloc (Below.refl _ _) _) _, (q_new w A B _).alloc _, by have := row_new (w.alloc (.cells #[.int .i64 A.n, .slice A.ao A.m A.cap, .int .i64 B.n, .slice B.ao B.m B.cap] 33)) X.n X.ao X.m X.cap 31; simpa using this⟩ ?_
      rintro W ⟨B0, r1, r2⟩
      refine (enter W B0).mono ?_
      rintro e w1 ⟨rfl, hb1⟩
      rw [hd]
      replace r1 := keepr hb1 r1
      replace r2 := keepr hb1 r2
      replace B0 := bl_step B0 hb1
      have c0 := q0 r1
      have c2 := sf_len r2
      have c3 := sf_ws r2
      clear hb1
      go_wp2_with fail
      refine (fits_any X.n X.ao X.m X.cap X.N A.n w1 (HX.out.below B0)).mono ?_
      rintro e w2 ⟨rfl, hb2⟩
      rw [hf0]
      go_wp2_with fail
      go_ret2
      exact ⟨rfl, bl_step B0 hb2⟩
  · rw [sgE_bad hd, sgV_bad hd]
    generalize dck A B = q at *
    go_enter Tryd.func19, Tryd.ntmps19
    go_wp2_with fail
    refine gen_calls (fun W => Below w.heap.size w W) (bl_alloc (bl_alloc (Below.refl _ _) _) _) ?_
    intro W B0
    refine (enter W B0).mono ?_
    rintro e w1 ⟨rfl, hb1⟩
    go_wp2_with fail
    go_ret2
    exact ⟨rfl, bl_step B0 hb1⟩
end Go.Proofs.YtpinmfhabbcflabDoor
