/- Some, overPlane. -/
import Derived.Test.YtpinmfhabbcflabDoorDW4
namespace Go.Proofs.YtpinmfhabbcflabDoor
open Go.RowKit

/-- What Some tells. -/
def soE (A B C D : Bt) : Int := if dck A B ≠ 0 then dck A B else if dck C D ≠ 0 then dck C D else if A.n = C.n then 0 else 20
def soV (A B C D : Bt) : Int := if soE A B C D = 0 then tq (B.N &&& D.N) A.N C.N A.n.toNat else 0
theorem soE_bad {A B C D : Bt} (h : dck A B ≠ 0) : soE A B C D = dck A B := by unfold soE; rw [if_pos h]
theorem soV_bad {A B C D : Bt} (h : soE A B C D ≠ 0) : soV A B C D = 0 := by unfold soV; rw [if_neg h]
theorem q_new2 (w : World) (A B C D : Bt) (t : TypeId) : ((w.alloc (.cells #[.int .i64 A.n, .slice A.ao A.m A.cap, .int .i64 B.n, .slice B.ao B.m B.cap] t)).alloc (.cells #[.int .i64 C.n, .slice C.ao C.m C.cap, .int .i64 D.n, .slice D.ao D.m D.cap] t)).rowIs (w.heap.size + 1) t 4 (qf C D) := by
  have := q_new (w.alloc (.cells #[.int .i64 A.n, .slice A.ao A.m A.cap, .int .i64 B.n, .slice B.ao B.m B.cap] t)) C D t
  simpa using this
set_option maxHeartbeats 1600000 in
set_option maxRecDepth 100000 in
theorem some_any (A B C D : Bt) (w : World) (hA : Rw w A) (hB : Rw w B) (hC : Rw w C) (hD : Rw w D) :
    Calls Tryd.prog 20 #[rwv A B, rwv C D] w fun e w' => e = .returned (.tuple #[.int .i64 (soV A B C D), .int .i64 (soE A B C D)]) ∧ Below w.heap.size w w' := by
  have HA := hid1 hA
  have HB := hid1 hB
  have HC := hid1 hC
  have HD := hid1 hD
  clear hA hB hC hD
  have enter : ∀ W : World, Below w.heap.size w W → Calls Tryd.prog 7 #[rwv A B] W fun e w' => e = .returned (.int .i64 (dck A B)) ∧ Below W.heap.size W w' := fun W hW => dcheck_any A B W (HA.out.below hW) (HB.out.below hW)
  have enter2 : ∀ W : World, Below w.heap.size w W → Calls Tryd.prog 7 #[rwv C D] W fun e w' => e = .returned (.int .i64 (dck C D)) ∧ Below W.heap.size W w' := fun W hW => dcheck_any C D W (HC.out.below hW) (HD.out.below hW)
  by_cases hd : dck A B = 0
  · by_cases hd2 : dck C D = 0
    · by_cases hn : A.n = C.n
      · obtain ⟨n, e1, e2, e3, e4, e5, e6, e7, _⟩ := dck_zero hd
        obtain ⟨n', f1, f2, f3, f4, f5, f6, f7, _⟩ := dck_zero hd2
        have : n' = n := by omega
        subst this
        have hE : soE A B C D = 0 := by unfold soE; rw [if_neg (by simp [hd]), if_neg (by simp [hd2]), if_pos hn]
        have hV : soV A B C D = tq (B.N &&& D.N) A.N C.N n' := by unfold soV; rw [if_pos hE, e1, Int.toNat_natCast]
        rw [hE, hV, ← tq_end (and_lt' e7)]
        have hb := nw_bd e3
        have HZ := hid1 hd
        have HZ2 := hid1 hd2
        clear hE hV hd hd2
        obtain ⟨an, aa, am, ac, AN⟩ := A
        obtain ⟨bn, ba, bm, bc, BN⟩ := B
        obtain ⟨cn, ca, cm, cc, CN⟩ := C
        obtain ⟨dn, da, dm, dc, DN⟩ := D
        dsimp only at *
        subst e4 e5 f4 f5 hn
        clear e1 e2 f1 f2
        go_enter Tryd.func20, Tryd.ntmps20
        go_wp2_with fail
        refine gen_calls (fun W => Below w.heap.size w W ∧ W.rowIs w.heap.size 33 4 (qf ⟨an, aa, nw n', ac, AN⟩ ⟨bn, ba, nw n', bc, BN⟩) ∧ W.rowIs (w.heap.size + 1) 33 4 (qf ⟨an, ca, nw n', cc, CN⟩ ⟨dn, da, nw n', dc, DN⟩)) ⟨bl_alloc (bl_alloc (Below.refl _ _) _) _, (q_new w ⟨an, aa, nw n', ac, AN⟩ ⟨bn, ba, nw n', bc, BN⟩ _).alloc _, q_new2 w ⟨an, aa, nw n', ac, AN⟩ ⟨bn, ba, nw n', bc, BN⟩ ⟨an, ca, nw n', cc, CN⟩ ⟨dn, da, nw n', dc, DN⟩ _⟩ ?_
        rintro W ⟨B0, r1, r2⟩
        refine (enter W B0).mono ?_
        rintro e w1 ⟨rfl, hb1⟩
        rw [HZ.out]
        replace r1 := keepr hb1 r1
        replace r2 := keepr hb1 r2
        replace B0 := bl_step B0 hb1
        have c0 := q0 r2
        have c1 := q1 r2
        have c2 := q2 r2
        have c3 := q3 r2
        clear hb1
        go_wp2_with fail
        refine (enter2 w1 B0).mono ?_
        rintro e w2 ⟨rfl, hb2⟩
        rw [HZ2.out]
        replace r1 := keepr hb2 r1
        replace r2 := keepr hb2 r2
        replace B0 := bl_step B0 hb2
        clear c0 c1 c2 c3 hb2 enter enter2
        have c0 := q0 r1
        have c3 := q3 r1
        have c4 := q0 r2
        go_wp2_with fail
        clear c0 c3 c4
        go_loopw [8, 32] (fun s i wr => ∃ k : Nat, k ≤ nw n' ∧ i = .int .i64 k ∧ s = .int .i64 (tq (BN &&& DN) AN CN (64 * k)) ∧ wr.rowIs w.heap.size 33 4 (qf ⟨an, aa, nw n', ac, AN⟩ ⟨bn, ba, nw n', bc, BN⟩) ∧ wr.rowIs (w.heap.size + 1) 33 4 (qf ⟨an, ca, nw n', cc, CN⟩ ⟨dn, da, nw n', dc, DN⟩) ∧ Below w.heap.size w wr) (fun _ i _ => nw n' - (intOf i).toNat)
        case atStart => exact ⟨0, Nat.zero_le _, rfl, rfl, r1, r2, B0⟩
        case round =>
          clear r1 r2 B0
          obtain ⟨k, hk, rfl, rfl, r1, r2, B0⟩ := hrel
          by_cases hlt : k < nw n'
          · obtain ⟨g1, o1, rfl, d1⟩ := (HA.out.below B0).2.2 k hlt
            obtain ⟨g2, o2, rfl, d2⟩ := (HB.out.below B0).2.2 k hlt
            obtain ⟨g3, o3, rfl, d3⟩ := (HC.out.below B0).2.2 k hlt
            obtain ⟨g4, o4, rfl, d4⟩ := (HD.out.below B0).2.2 k hlt
            unfold wf at d1 d2 d3 d4
            dsimp only at d1 d2 d3 d4
            have c1 := q1 r1
            have c3 := q1 r2
            have c4 := q3 r2
            have ik : (k : Int) < (nw n' : Nat) := by omega
            have ik0 : (0 : Int) ≤ (k : Int) := by omega
            have HAN := and_u64 (wd BN k) (wd DN k) (wd_lt _ _) (wd_lt _ _)
            rw [← wd_and] at HAN
            have HT := hid1 (tally_any (wd (BN &&& DN) k) (wd AN k) (wd CN k) (wd_lt _ _) (wd_lt _ _) (wd_lt _ _))
            have HW := hid1 (tq_word (BN &&& DN) AN CN k)
            have b1 := tq_bd (BN &&& DN) AN CN (64 * k)
            have b2 := tq_bd (wd (BN &&& DN) k) (wd AN k) (wd CN k) 64
            have H1 := hid1 r1
            have H2 := hid1 r2
            clear r1 r2
            generalize wd (BN &&& DN) k = u at *
            generalize wd BN k = y at *
            generalize wd DN k = z at *
            generalize wd AN k = v at *
            generalize wd CN k = x at *
            generalize tq u v x 64 = dt at *
            generalize tq (BN &&& DN) AN CN (64 * k) = st at *
            go_wp2_with fail
            go_quiet ((go_at_call 41; refine (HT.out _).mono ?_; rintro e w5 ⟨rfl, rfl⟩; exact ⟨rfl, _, rfl⟩))
            go_wp2_with fail
            exact ⟨⟨k + 1, by omega, by go_num, by rw [HW.out], row_drewN H1.out _, row_drewN H2.out _, bl_drewN B0 _⟩, by simp [intOf]; omega⟩
          · have hkN : k = nw n' := by omega
            subst hkN
            go_wp2_with fail
            go_ret2
            exact ⟨rfl, B0⟩
      · have hE : soE A B C D = 20 := by unfold soE; rw [if_neg (by simp [hd]), if_neg (by simp [hd2]), if_neg hn]
        rw [soV_bad (by rw [hE]; decide), hE]
        clear hE
        go_enter Tryd.func20, Tryd.ntmps20
        go_wp2_with fail
        refine gen_calls (fun W => Below w.heap.size w W ∧ W.rowIs w.heap.size 33 4 (qf A B) ∧ W.rowIs (w.heap.size + 1) 33 4 (qf C D)) ⟨bl_alloc (bl_alloc (Below.refl _ _) _) _, (q_new w A B _).alloc _, q_new2 w A B C D _⟩ ?_
        rintro W ⟨B0, r1, r2⟩
        refine (enter W B0).mono ?_
        rintro e w1 ⟨rfl, hb1⟩
        rw [hd]
        replace r1 := keepr hb1 r1
        replace r2 := keepr hb1 r2
        replace B0 := bl_step B0 hb1
        have c0 := q0 r2
        have c1 := q1 r2
        have c2 := q2 r2
        have c3 := q3 r2
        clear hb1
        go_wp2_with fail
        refine (enter2 w1 B0).mono ?_
        rintro e w2 ⟨rfl, hb2⟩
        rw [hd2]
        replace r1 := keepr hb2 r1
        replace r2 := keepr hb2 r2
        clear c0 c1 c2 c3
        have c0 := q0 r1
        have c4 := q0 r2
        go_wp2_with fail
        go_ret2
        exact ⟨rfl, bl_step B0 hb2⟩
    · have hE : soE A B C D = dck C D := by unfold soE; rw [if_neg (by simp [hd]), if_pos hd2]
      rw [soV_bad (by rw [hE]; exact hd2), hE]
      clear hE
      generalize dck C D = q at *
      go_enter Tryd.func20, Tryd.ntmps20
      go_wp2_with fail
      refine gen_calls (fun W => Below w.heap.size w W ∧ W.rowIs (w.heap.size + 1) 33 4 (qf C D)) ⟨bl_alloc (bl_alloc (Below.refl _ _) _) _, q_new2 w A B C D _⟩ ?_
      rintro W ⟨B0, r2⟩
      refine (enter W B0).mono ?_
      rintro e w1 ⟨rfl, hb1⟩
      rw [hd]
      replace r2 := keepr hb1 r2
      replace B0 := bl_step B0 hb1
      have c0 := q0 r2
      have c1 := q1 r2
      have c2 := q2 r2
      have c3 := q3 r2
      clear hb1
      go_wp2_with fail
      refine (enter2 w1 B0).mono ?_
      rintro e w2 ⟨rfl, hb2⟩
      clear enter enter2
      go_wp2_with fail
      go_ret2
      exact ⟨rfl, bl_step B0 hb2⟩
  · rw [soV_bad (by rw [soE_bad hd]; exact hd), soE_bad hd]
    generalize dck A B = q at *
    go_enter Tryd.func20, Tryd.ntmps20
    go_wp2_with fail
    refine gen_calls (fun W => Below w.heap.size w W) (bl_alloc (bl_alloc (Below.refl _ _) _) _) ?_
    intro W B0
    refine (enter W B0).mono ?_
    rintro e w1 ⟨rfl, hb1⟩
    clear enter enter2
    go_wp2_with fail
    go_ret2
    exact ⟨rfl, bl_step B0 hb1⟩

set_option maxHeartbeats 1600000 in
set_option maxRecDepth 100000 in
theorem overPlane_any (A B X : Bt) (n : Nat) (w : World) (h1 : n ≤ 16777216) (hA : Rw w A) (hB : Rw w B) (hX : Rw w X) (ha : A.m = nw n) (hb : B.m = nw n) (hx : X.m = nw n) (hN : X.N < 2 ^ n) :
    Calls Tryd.prog 43 #[rwv A B, X.v] w fun e w' => e = .returned (.int .i64 (tq (B.N &&& X.N) A.N X.N n)) ∧ Below w.heap.size w w' := by
  have HA := hid1 hA
  have HB := hid1 hB
  have HX := hid1 hX
  clear hA hB hX
  rw [← tq_end (C := B.N &&& X.N) (n := n) (Nat.lt_of_le_of_lt Nat.and_le_right hN)]
  have hbd := nw_bd h1
  obtain ⟨an, aa, am, ac, AN⟩ := A
  obtain ⟨bn, ba, bm, bc, BN⟩ := B
  obtain ⟨xn, xa, xm, xc, XN⟩ := X
  dsimp only at *
  subst ha hb hx
  go_enter Tryd.func43, Tryd.ntmps43
  go_wp2_with fail
  go_loopw [5, 11] (fun s i wr => ∃ k : Nat, k ≤ nw n ∧ i = .int .i64 k ∧ s = .int .i64 (tq (BN &&& XN) AN XN (64 * k)) ∧ wr.rowIs w.heap.size 33 4 (qf ⟨an, aa, nw n, ac, AN⟩ ⟨bn, ba, nw n, bc, BN⟩) ∧ Below w.heap.size w wr) (fun _ i _ => nw n - (intOf i).toNat)
  case atStart => exact ⟨0, Nat.zero_le _, rfl, rfl, (q_new w ⟨an, aa, nw n, ac, AN⟩ ⟨bn, ba, nw n, bc, BN⟩ _).alloc _, bl_alloc (bl_alloc (Below.refl _ _) _) _⟩
  case round =>
    obtain ⟨k, hk, rfl, rfl, r1, B0⟩ := hrel
    by_cases hlt : k < nw n
    · obtain ⟨g1, o1, rfl, d1⟩ := (HA.out.below B0).2.2 k hlt
      obtain ⟨g2, o2, rfl, d2⟩ := (HB.out.below B0).2.2 k hlt
      obtain ⟨g3, o3, rfl, d3⟩ := (HX.out.below B0).2.2 k hlt
      unfold wf at d1 d2 d3
      dsimp only at d1 d2 d3
      have c1 := q1 r1
      have c3 := q3 r1
      have ik : (k : Int) < (nw n : Nat) := by omega
      have ik0 : (0 : Int) ≤ (k : Int) := by omega
      have HAN := and_u64 (wd BN k) (wd XN k) (wd_lt _ _) (wd_lt _ _)
      rw [← wd_and] at HAN
      have HT := hid1 (tally_any (wd (BN &&& XN) k) (wd AN k) (wd XN k) (wd_lt _ _) (wd_lt _ _) (wd_lt _ _))
      have HW := hid1 (tq_word (BN &&& XN) AN XN k)
      have b1 := tq_bd (BN &&& XN) AN XN (64 * k)
      have b2 := tq_bd (wd (BN &&& XN) k) (wd AN k) (wd XN k) 64
      have H1 := hid1 r1
      clear r1
      generalize wd (BN &&& XN) k = u at *
      generalize wd BN k = y at *
      generalize wd AN k = v at *
      generalize wd XN k = x at *
      generalize tq u v x 64 = dt at *
      generalize tq (BN &&& XN) AN XN (64 * k) = st at *
      go_wp2_with fail
      go_quiet ((go_at_call 41; refine (HT.out _).mono ?_; rintro e w5 ⟨rfl, rfl⟩; exact ⟨rfl, _, rfl⟩))
      go_wp2_with fail
      exact ⟨⟨k + 1, by omega, by go_num, by rw [HW.out], row_drewN H1.out _, bl_drewN B0 _⟩, by simp [intOf]; omega⟩
    · have hkN : k = nw n := by omega
      subst hkN
      go_wp2_with fail
      go_ret
      exact ⟨rfl, B0⟩
end Go.Proofs.YtpinmfhabbcflabDoor
