/- DotRows: the document's Unpack and Pack; sameRow. -/
import Derived.Test.YtpinmfhabbcflabDoorDN1
import Derived.Test.YtpinmfhabbcflabDoorDR5
import Derived.Test.YtpinmfhabbcflabDoorDS1
namespace Go.Proofs.YtpinmfhabbcflabDoor
open Go.RowKit

/-- The weights of a row. -/
def wtl (S M n : Nat) : List Int := (List.range n).map (wt S M)
theorem wtl_len (S M n : Nat) : (wtl S M n).length = n := by simp [wtl]
theorem wtl_snoc (S M n : Nat) : wtl S M (n + 1) = wtl S M n ++ [wt S M n] := by simp [wtl, List.range_succ]
theorem wtl_ia {S M n k : Nat} (h : k < n) : ia (wtl S M n) k = wt S M k := by simp [ia, wtl, List.getD, h]
theorem wt_bd1 (S M i : Nat) : -1 ≤ wt S M i ∧ wt S M i ≤ 1 := by
  unfold wt; split
  · split <;> omega
  · omega
/-- What Unpack answers. -/
def ul (A B : Bt) : List Int := if dck A B = 0 then wtl A.N B.N A.n.toNat else []
theorem unpack_w (A B : Bt) (w : World) (hA : Rw w A) (hB : Rw w B) :
    Calls Tryd.prog 9 #[rwv A B] w fun e w' => ∃ ao cap, e = .returned (.tuple #[.slice ao (ul A B).length cap, .int .i64 (dck A B)]) ∧ R8 w' ao (ul A B) ∧ Below w.heap.size w w' := by
  by_cases hd : dck A B = 0
  · obtain ⟨n, e1, _⟩ := dck_zero hd
    have eu : ul A B = wtl A.N B.N n := by unfold ul; rw [if_pos hd, e1, Int.toNat_natCast]
    rw [eu, wtl_len, hd]
    refine (unpack_ok A B n w hA hB hd e1).mono ?_
    rintro e w' ⟨g, rfl, _, hr, hb⟩
    refine ⟨_, _, rfl, fun k hk => ⟨g, 0, rfl, ?_⟩, hb⟩
    rw [wtl_len] at hk
    rw [Nat.zero_add, wtl_ia hk]
    exact hr.cell hk
  · have eu : ul A B = [] := by unfold ul; rw [if_neg hd]
    rw [eu]
    refine (unpack_bad A B w hA hB hd).mono ?_
    rintro e w' ⟨rfl, hb⟩
    exact ⟨none, 0, rfl, fun k hk => absurd hk (by simp), hb⟩
set_option maxHeartbeats 1600000 in
set_option maxRecDepth 100000 in
theorem runpack_w (A B : Bt) (w : World) (hA : Rw w A) (hB : Rw w B) :
    Calls Tryd.prog 10 #[rwv A B] w fun e w' => ∃ ao cap, e = .returned (.tuple #[.slice ao (ul A B).length cap, .int .i64 (dck A B)]) ∧ R8 w' ao (ul A B) ∧ Below w.heap.size w w' := by
  have CC : Hid (∀ W : World, Below w.heap.size w W → Calls Tryd.prog 8 #[rwv A B] W fun e w' => e = .returned (.int .i64 (dck A B)) ∧ Below W.heap.size W w') := fun W hW => rcheck_any A B W (hA.below hW) (hB.below hW)
  by_cases hd : dck A B = 0
  · obtain ⟨n, e1, e2, e3, e4, e5, _⟩ := dck_zero hd
    have eu : ul A B = wtl A.N B.N n := by unfold ul; rw [if_pos hd, e1, Int.toNat_natCast]
    have CW : Hid (∀ W : World, Below w.heap.size w W → Calls Tryd.prog 28 #[rwv A B] W fun e w' => ∃ ao cap, e = .returned (.slice ao n cap) ∧ R64 w' ao (wt A.N B.N) n ∧ Below W.heap.size W w') := fun W hW => weights_any A B n W (hA.below hW) (hB.below hW) e3 e2 e4 e5
    rw [eu, wtl_len, hd]
    rw [hd] at CC
    have HBD := hid1 (wt_bd1 A.N B.N)
    have HSN := hid1 (wtl_snoc A.N B.N)
    have HLN := hid1 (wtl_len A.N B.N)
    clear hA hB e1 e2 e4 e5 eu hd
    go_enter Tryd.func10, Tryd.ntmps10
    go_wp2_with fail
    refine gen_calls (fun W => Below w.heap.size w W ∧ W.rowIs w.heap.size 33 4 (qf A B)) ⟨bl_alloc (Below.refl _ _) _, q_new w A B _⟩ ?_
    rintro W ⟨B0, r1⟩
    refine (CC.out W B0).mono ?_
    rintro e w1 ⟨rfl, hb1⟩
    replace r1 := keepr hb1 r1
    replace B0 := bl_step B0 hb1
    clear hb1
    have a0 := q0 r1
    have a1 := q1 r1
    have a2 := q2 r1
    have a3 := q3 r1
    go_wp2_with fail
    refine (CW.out w1 B0).mono ?_
    rintro e w2 ⟨ao, cap, rfl, hr, hb2⟩
    have B2 := bl_step B0 hb2
    have HR := hid1 hr
    have HB2 := hid1 B2
    clear a0 a1 a2 a3 r1 B0 hb2 hr B2 CC CW
    go_wp2_with fail
    go_loopw [5, 7] (fun v x wr => ∃ (u : Value) (k : Nat), v = u ∧ k ≤ n ∧ x = .int .i64 k ∧ wr.ownsRow w2.heap.size 59 1 u (wtl A.N B.N k).length (i8s (wtl A.N B.N k)) ∧ Below w2.heap.size w2 wr) (fun _ x _ => n - (intOf x).toNat)
    case atStart => exact ⟨_, 0, rfl, Nat.zero_le _, rfl, World.ownsRow_nil _ _ _ _, Below.refl _ _⟩
    case round =>
      obtain ⟨v, k, ev, hk, rfl, hown, hB2⟩ := hrel
      replace ev := ev.symm
      subst ev
      have HO := hid1 hown
      clear hown
      by_cases hlt : k < n
      · have kk : (k : Int) < (n : Int) := by omega
        have kk0 : (0 : Int) ≤ (k : Int) := by omega
        obtain ⟨g, o, rfl, c⟩ := HR.out.below hB2 k hlt
        obtain ⟨b1, b2⟩ := HBD.out k
        have HS := hid1 (HSN.out k)
        generalize wt A.N B.N k = y at *
        have hsz := hB2.size
        have hlb : (wtl A.N B.N k).length < 140737488355328 := by rw [HLN.out]; omega
        go_wp2_with (at_builtin; refine app_one rfl _ _ rfl w2.heap.size v (wtl A.N B.N k) (by go_simp) (HO.out.alloc _) wr.heap.size y 1 (by go_simp) (by simp [go_sem]) hlb (by simp; omega) ?_; intro v' w' hown hgrow)
        have BQ := grown_below HO.out hsz hgrow
        refine ⟨⟨v', k + 1, rfl, by omega, by go_num, ?_, hB2.trans BQ⟩, by simp [intOf]; omega⟩
        rw [HS.out, List.length_append]; exact hown
      · have hkN : k = n := by omega
        subst hkN
        obtain ⟨bo, cb, ev, _, _, _, _, hr8⟩ := r8_own HO.out
        rw [HLN.out] at ev
        subst ev
        have H8 := hid1 hr8
        clear hr8 HO
        go_wp2_with fail
        go_ret2
        exact ⟨bo, cb, rfl, H8.out, bl_step HB2.out hB2⟩
  · have eu : ul A B = [] := by unfold ul; rw [if_neg hd]
    rw [eu]
    generalize dck A B = q at *
    clear hA hB
    go_enter Tryd.func10, Tryd.ntmps10
    go_wp2_with fail
    refine gen_calls (fun W => Below w.heap.size w W) (bl_alloc (Below.refl _ _) _) ?_
    intro W B0
    refine (CC.out W B0).mono ?_
    rintro e w1 ⟨rfl, hb1⟩
    go_wp2_with fail
    go_ret2
    exact ⟨none, 0, rfl, fun k hk => absurd hk (by simp), bl_step B0 hb1⟩
set_option maxRecDepth 100000 in
theorem sameRow_true (A B C D : Bt) (w : World) (h1 : A.n = C.n ∧ A.m = C.m ∧ A.N = C.N) (h2 : B.n = D.n ∧ B.m = D.m ∧ B.N = D.N) (hm1 : A.m ≤ 9223372036854775807) (hm2 : B.m ≤ 9223372036854775807) (rA : RU w A.ao A.m A.N) (rB : RU w B.ao B.m B.N) (rC : RU w C.ao C.m C.N) (rD : RU w D.ao D.m D.N) :
    Calls Tryd.prog 16 #[rwv A B, rwv C D] w fun e w' => e = .returned (.bool true) ∧ Below w.heap.size w w' := by
  obtain ⟨an, aa, am, ac, AN⟩ := A
  obtain ⟨bn', ba, bm, bc, BN⟩ := B
  obtain ⟨cn, ca, cm, cc, CN⟩ := C
  obtain ⟨dn, da, dm, dc, DN⟩ := D
  dsimp only at *
  obtain ⟨rfl, rfl, rfl⟩ := h1
  obtain ⟨rfl, rfl, rfl⟩ := h2
  have HA := hid1 rA
  have HB := hid1 rB
  have HC := hid1 rC
  have HD := hid1 rD
  clear rA rB rC rD
  go_enter Tryd.func16, Tryd.ntmps16
  go_wp2_with fail
  refine gen_calls (fun W => Below w.heap.size w W ∧ W.rowIs w.heap.size 33 4 (qf ⟨an, aa, am, ac, AN⟩ ⟨bn', ba, bm, bc, BN⟩) ∧ W.rowIs (w.heap.size + 1) 33 4 (qf ⟨an, ca, am, cc, AN⟩ ⟨bn', da, bm, dc, BN⟩)) ⟨bl_alloc (bl_alloc (Below.refl _ _) _) _, (q_new w ⟨an, aa, am, ac, AN⟩ ⟨bn', ba, bm, bc, BN⟩ _).alloc _, q_new2 w ⟨an, aa, am, ac, AN⟩ ⟨bn', ba, bm, bc, BN⟩ ⟨an, ca, am, cc, AN⟩ ⟨bn', da, bm, dc, BN⟩ _⟩ ?_
  rintro W ⟨B0, r1, r2⟩
  refine (sameBits_true an am AN aa ca ac cc W hm1 (HA.out.below B0) (HC.out.below B0)).mono ?_
  rintro e w1 ⟨rfl, hb1⟩
  replace r1 := keepr hb1 r1
  replace r2 := keepr hb1 r2
  replace B0 := bl_step B0 hb1
  have a2 := q2 r1
  have a3 := q3 r1
  have c2 := q2 r2
  have c3 := q3 r2
  clear hb1
  go_wp2_with fail
  refine (sameBits_true bn' bm BN ba da bc dc w1 hm2 (HB.out.below B0) (HD.out.below B0)).mono ?_
  rintro e w2 ⟨rfl, hb2⟩
  go_wp2_with fail
  go_ret
  exact ⟨rfl, bl_step B0 hb2⟩
end Go.Proofs.YtpinmfhabbcflabDoor
