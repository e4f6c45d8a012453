/- DotBounds. -/
import Derived.Test.YtgkfdgdemodgiaaDoorDW11
import Derived.Test.YtgkfdgdemodgiaaDoorDM2
import Derived.Deep.DeepCutAuto
namespace Go.Proofs.YtgkfdgdemodgiaaDoor
open Go.RowKit

theorem ret_bool {a b : Bool} (h : a = b) : Ending.returned (.bool a) = .returned (.bool b) := by rw [h]
theorem sg_cases {A B : Bt} {n : Nat} (X : Bt) (hd : dck A B = 0) (hn : A.n = n) : (sgE A B X = 0 ∧ -(pc B.N n : Int) ≤ sgV A B X ∧ sgV A B X ≤ pc B.N n ∧ (sgV A B X - pc B.N n).tmod 2 = 0) ∨ (sgE A B X = 20 ∧ sgV A B X = 0) := by
  by_cases h : ftB X.n X.m X.N A.n = true
  · have e : sgE A B X = 0 := by unfold sgE; rw [if_neg (by simp [hd]), if_pos h]
    have hv : sgV A B X = tq B.N A.N X.N n := by unfold sgV; rw [if_pos e, hn, Int.toNat_natCast]
    obtain ⟨h1, h2, h3⟩ := tq_cnt B.N A.N X.N n
    refine .inl ⟨e, by rw [hv]; exact h1, by rw [hv]; exact h2, ?_⟩
    rw [hv]
    have h4 := Int.dvd_of_emod_eq_zero h3
    exact Int.tmod_eq_zero_of_dvd h4
  · have e : sgE A B X = 20 := by unfold sgE; rw [if_neg (by simp [hd]), if_neg h]
    exact .inr ⟨e, by unfold sgV; rw [if_neg (by rw [e]; decide)]⟩
theorem so_cases {A B : Bt} {n : Nat} (C D : Bt) (hn : A.n = n) : -(pc B.N n : Int) ≤ soV A B C D ∧ soV A B C D ≤ pc B.N n ∧ (soE A B C D = 0 ∨ soE A B C D ≠ 0) := by
  by_cases h : soE A B C D = 0
  · have hv : soV A B C D = tq (B.N &&& D.N) A.N C.N n := by unfold soV; rw [if_pos h, hn, Int.toNat_natCast]
    obtain ⟨h1, h2, _⟩ := tq_cnt (B.N &&& D.N) A.N C.N n
    have h3 := pc_and_le B.N D.N n
    rw [hv]
    exact ⟨by omega, by omega, .inl h⟩
  · rw [soV_bad h]
    exact ⟨by omega, by omega, .inr h⟩
theorem ob_fit (n g M : Nat) (len : Int) (h1 : n ≤ 16777216) (hM : M < 2 ^ n) : ftB (ob n g M).n (ob n g M).m (ob n g M).N len = decide ((n : Int) = len) := by
  unfold ftB
  show decide (chk (n : Int) (nw n) M = 0 ∧ (n : Int) = len) = _
  rw [chk_ok h1 hM]
  simp
theorem nm_eq {A B : Bt} {n N : Nat} (G : Nat → Nat) (F : Nat → Nat) (hd : dck A B = 0) (hn : A.n = n) (h1 : N ≤ 16777216) (hF : ∀ p, F p < 2 ^ N) :
    nmE A B (fun p => ob N (G p) (F p)) = if N = n then 0 else 20 := by
  unfold nmE
  rw [if_neg (by simp [hd])]
  by_cases e : N = n
  · rw [if_pos e, if_pos]
    exact (aF_iff _ _).2 fun p _ => by rw [ob_fit _ _ _ _ h1 (hF p), hn, e]; simp
  · rw [if_neg e, if_neg]
    intro h
    have := (aF_iff _ _).1 h 0 (by decide)
    rw [ob_fit _ _ _ _ h1 (hF 0), hn] at this
    simp at this
    omega
theorem nm_val {A B : Bt} {n : Nat} (G : Nat → Nat) (F : Nat → Nat) (hd : dck A B = 0) (hn : A.n = n) (h1 : n ≤ 16777216) (hF : ∀ p, F p < 2 ^ n) :
    nmV A B (fun p => ob n (G p) (F p)) = npl A.N B.N F n 8 := by
  unfold nmV
  rw [if_pos (by rw [nm_eq G F hd hn h1 hF, if_pos rfl]), hn, Int.toNat_natCast]
/-- The boxes of DotBounds. -/
def Bx3 (w W : World) (A B X C D : Bt) : Prop := Below w.heap.size w W ∧ W.rowIs w.heap.size 26 4 (qf A B) ∧ W.rowIs (w.heap.size + 1) 24 2 (sf X.n X.ao X.m X.cap) ∧ W.rowIs (w.heap.size + 2) 26 4 (qf C D)
theorem Bx3.keep {w W V : World} {A B X C D : Bt} (h : Bx3 w W A B X C D) (hb : Below W.heap.size W V) : Bx3 w V A B X C D :=
  ⟨bl_step h.1 hb, keepr hb h.2.1, keepr hb h.2.2.1, keepr hb h.2.2.2⟩
theorem bx3_new (w : World) (A B X C D : Bt) : Bx3 w (((w.alloc (.cells #[.int .i64 A.n, .slice A.ao A.m A.cap, .int .i64 B.n, .slice B.ao B.m B.cap] 26)).alloc (.cells #[.int .i64 X.n, .slice X.ao X.m X.cap] 24)).alloc (.cells #[.int .i64 C.n, .slice C.ao C.m C.cap, .int .i64 D.n, .slice D.ao D.m D.cap] 26)) A B X C D := by
  refine ⟨bl_alloc (bl_alloc (bl_alloc (Below.refl _ _) _) _) _, ((q_new w A B _).alloc _).alloc _, ?_, ?_⟩
  · have h := row_new (w.alloc (.cells #[.int .i64 A.n, .slice A.ao A.m A.cap, .int .i64 B.n, .slice B.ao B.m B.cap] 26)) X.n X.ao X.m X.cap 24
    rw [World.size_alloc] at h
    exact h.alloc _
  · have h := q_new ((w.alloc (.cells #[.int .i64 A.n, .slice A.ao A.m A.cap, .int .i64 B.n, .slice B.ao B.m B.cap] 26)).alloc (.cells #[.int .i64 X.n, .slice X.ao X.m X.cap] 24)) C D 26
    rw [World.size_alloc, World.size_alloc] at h
    exact h

set_option maxHeartbeats 6400000 in
set_option maxRecDepth 100000 in
theorem bounds_any (A B X C D : Bt) (l : List Int) (ao : Option Addr) (cap : Nat) (w : World) (LD : LaidP w) (hA : Rw w A) (hB : Rw w B) (hX : Rw w X) (hC : Rw w C) (hD : Rw w D) (hl : l.length ≤ 9223372036854775807) (h8 : R8 w ao l) :
    Calls Tryd.prog 3 #[rwv A B, X.v, rwv C D, .slice ao l.length cap] w fun e w' => e = .returned (.bool true) ∧ Below w.heap.size w w' := by
  have HA := hid1 hA
  have HB := hid1 hB
  have HX := hid1 hX
  have HC := hid1 hC
  have HD := hid1 hD
  have HL := hid1 LD
  have H8 := hid1 h8
  obtain ⟨N, hN⟩ : ∃ N, l.length = N := ⟨_, rfl⟩
  rw [hN] at hl ⊢
  have HN := hid1 hN
  clear hA hB hX hC hD LD h8 hN
  have iN : (N : Int) ≤ 9223372036854775807 := by omega
  go_enter Tryd.func3, Tryd.ntmps3
  go_wp2_with fail
  refine gen_calls (fun W => Bx3 w W A B X C D) (bx3_new w A B X C D) ?_
  intro W hW
  refine (dbegun_any W (HL.out.on hW.1)).mono ?_
  rintro e w0 ⟨rfl, hb0⟩
  replace hW := hW.keep hb0
  clear hb0
  have c0 := q0 hW.2.1
  have c1 := q1 hW.2.1
  have c2 := q2 hW.2.1
  have c3 := q3 hW.2.1
  have HW := hid1 hW
  clear hW
  go_wp2_with fail
  clear c0 c1 c2 c3
  by_cases hd0 : dck A B ≠ 0
  · refine (unpack_bad A B w0 (HA.out.below HW.out.1) (HB.out.below HW.out.1) hd0).mono ?_
    rintro e w1 ⟨rfl, hb1⟩
    have HS := hid1 (sgE_bad (X := X) hd0)
    have HO := hid1 (soE_bad (C := C) (D := D) hd0)
    have CS : Hid (∀ V, Below w.heap.size w V → Calls Tryd.prog 11 #[rwv A B, X.v] V fun e w' => e = .returned (.tuple #[.int .i64 (sgV A B X), .int .i64 (sgE A B X)]) ∧ Below V.heap.size V w') := fun V hV => signs_any A B X V (HA.out.below hV) (HB.out.below hV) (HX.out.below hV)
    have CO : Hid (∀ V, Below w.heap.size w V → Calls Tryd.prog 12 #[rwv A B, rwv C D] V fun e w' => e = .returned (.tuple #[.int .i64 (soV A B C D), .int .i64 (soE A B C D)]) ∧ Below V.heap.size V w') := fun V hV => some_any A B C D V (HA.out.below hV) (HB.out.below hV) (HC.out.below hV) (HD.out.below hV)
    rw [HS.out] at CS
    rw [HO.out] at CO
    replace HW := hid1 (HW.out.keep hb1)
    generalize dck A B = q at *
    generalize sgV A B X = a at *
    generalize soV A B C D = b at *
    clear hb1 HS HO
    have c0 := q0 HW.out.2.1
    have c1 := q1 HW.out.2.1
    have c2 := q2 HW.out.2.1
    have c3 := q3 HW.out.2.1
    have d0 := sf_len HW.out.2.2.1
    have d1 := sf_ws HW.out.2.2.1
    go_wp2_with fail
    refine (CS.out w1 HW.out.1).mono ?_
    rintro e w2 ⟨rfl, hb2⟩
    replace HW := hid1 (HW.out.keep hb2)
    clear c0 c1 c2 c3 d0 d1 hb2
    have c0 := q0 HW.out.2.1
    have c1 := q1 HW.out.2.1
    have c2 := q2 HW.out.2.1
    have c3 := q3 HW.out.2.1
    have d0 := q0 HW.out.2.2.2
    have d1 := q1 HW.out.2.2.2
    have d2 := q2 HW.out.2.2.2
    have d3 := q3 HW.out.2.2.2
    go_wp2_with fail
    refine (CO.out w2 HW.out.1).mono ?_
    rintro e w3 ⟨rfl, hb3⟩
    go_wp2_with fail
    go_ret
    exact ⟨rfl, bl_step HW.out.1 hb3⟩
  have hd : dck A B = 0 := Classical.byContradiction hd0
  clear hd0
  obtain ⟨n, e1, e2, e3, e4, e5, e6, e7, _⟩ := dck_zero hd
  clear e2 e4 e5
  have HN1 := hid1 e1
  have HD0 := hid1 hd
  clear e1 hd
  refine (unpack_ok A B n w0 (HA.out.below HW.out.1) (HB.out.below HW.out.1) HD0.out HN1.out).mono ?_
  rintro e w1 ⟨g, rfl, hg, hrow, hb1⟩
  replace HW := hid1 (HW.out.keep hb1)
  have HR := hid1 hrow
  clear hb1 hrow hg
  go_wp2_with fail
  go_loop [16, 17] (fun c i => ∃ k : Nat, k ≤ n ∧ i = .int .i64 k ∧ c = .int .i64 (pc B.N k : Nat)) (fun _ i => n - (intOf i).toNat)
  case atStart => exact ⟨0, Nat.zero_le _, rfl, rfl⟩
  case round =>
    obtain ⟨k, hk, rfl, rfl⟩ := hrel
    by_cases hlt : k < n
    · have ik : (k : Int) < (n : Int) := by omega
      have ik0 : (0 : Int) ≤ (k : Int) := by omega
      have cw := HR.out.cell hlt
      unfold wc at cw
      have hp := pc_le B.N k
      cases hm : B.N.testBit k
      · rw [wt_zero hm] at cw
        have hs : Hid (pc B.N (k + 1) = pc B.N k) := hid1 (by simp [pc, hm])
        clear hm
        go_wp2_with fail
        exact ⟨⟨k + 1, by omega, by go_num, by rw [hs.out]⟩, by simp [intOf]; omega⟩
      · have hv := wt_one (S := A.N) hm
        have hs : Hid (pc B.N (k + 1) = pc B.N k + 1) := hid1 (by simp [pc, hm])
        clear hm
        generalize wt A.N B.N k = v at *
        have hv0 : ¬ v = 0 := by omega
        have hv1 : (v == 0) = false := by simpa using hv0
        clear hv
        go_wp2_with fail
        exact ⟨⟨k + 1, by omega, by go_num, by rw [hs.out]; go_num⟩, by simp [intOf]; omega⟩
    · have hkn : k = n := by omega
      subst hkn
      clear HR
      have hp := pc_le B.N k
      have hsg := sg_cases X HD0.out HN1.out
      have hso := so_cases (B := B) C D HN1.out
      have HNP := hid1 (fun F => npl_cnt A.N B.N F k)
      have CS : Hid (∀ V, Below w.heap.size w V → Calls Tryd.prog 11 #[rwv A B, X.v] V fun e w' => e = .returned (.tuple #[.int .i64 (sgV A B X), .int .i64 (sgE A B X)]) ∧ Below V.heap.size V w') := fun V hV => signs_any A B X V (HA.out.below hV) (HB.out.below hV) (HX.out.below hV)
      have CO : Hid (∀ V, Below w.heap.size w V → Calls Tryd.prog 12 #[rwv A B, rwv C D] V fun e w' => e = .returned (.tuple #[.int .i64 (soV A B C D), .int .i64 (soE A B C D)]) ∧ Below V.heap.size V w') := fun V hV => some_any A B C D V (HA.out.below hV) (HB.out.below hV) (HC.out.below hV) (HD.out.below hV)
      generalize sgV A B X = sv at *
      generalize sgE A B X = se at *
      generalize soV A B C D = ov at *
      generalize soE A B C D = oe at *
      generalize hct : pc B.N k = ct at *
      clear hct
      have c0 := q0 HW.out.2.1
      have c1 := q1 HW.out.2.1
      have c2 := q2 HW.out.2.1
      have c3 := q3 HW.out.2.1
      have d0 := sf_len HW.out.2.2.1
      have d1 := sf_ws HW.out.2.2.1
      have ict : (ct : Int) ≤ 16777216 := by omega
      have ict0 : (0 : Int) ≤ (ct : Int) := by omega
      go_wp2_with fail
      refine (CS.out w1 HW.out.1).mono ?_
      rintro e w2 ⟨rfl, hb2⟩
      replace HW := hid1 (HW.out.keep hb2)
      clear c0 c1 c2 c3 d0 d1 hb2 CS
      have c0 := q0 HW.out.2.1
      have c1 := q1 HW.out.2.1
      have c2 := q2 HW.out.2.1
      have c3 := q3 HW.out.2.1
      have d0 := q0 HW.out.2.2.2
      have d1 := q1 HW.out.2.2.2
      have d2 := q2 HW.out.2.2.2
      have d3 := q3 HW.out.2.2.2
      obtain ⟨so1, so2, so3⟩ := hso
      go_upto_region 16 with fail
      go_cut [90] (fun s wx => s = .bool false ∧ wx = w2)
      case first =>
        rcases hsg with ⟨rfl, sg1, sg2, sg3⟩ | ⟨rfl, rfl⟩
        all_goals
          go_wp2_with fail
          go_meet
          first | exact ⟨rfl, rfl⟩ | exact ⟨by simp; omega, rfl⟩
      case rest =>
        obtain ⟨rfl, rfl⟩ := hcut
        clear hsg
        go_wp2_with fail
        refine (CO.out _ HW.out.1).mono ?_
        rintro e w3 ⟨rfl, hb3⟩
        have HW3 := hid1 (HW.out.keep hb3)
        clear c0 c1 c2 c3 d0 d1 d2 d3 hb3 CO HW
        go_upto_region 19 with fail
        go_cut [109] (fun s wx => s = .bool false ∧ wx = w3)
        case first =>
          rcases so3 with rfl | hne
          all_goals
            go_wp2_with fail
            go_meet
            first | exact ⟨rfl, rfl⟩ | exact ⟨by simp; omega, rfl⟩
        case rest =>
          obtain ⟨rfl, rfl⟩ := hcut
          clear so1 so2 so3
          go_wp2_with fail
          by_cases hbig : 16777216 < N
          · refine (planes_long N ao cap _ hbig hl).mono ?_
            rintro e w4 ⟨rfl, hb4⟩
            have ibig : (16777216 : Int) < (N : Int) := by omega
            unfold zb
            go_wp2_with fail
            go_ret
            exact ⟨rfl, bl_alloc (bl_step HW3.out.1 hb4) _⟩
          · refine (planes_any l N HN.out ao cap _ (by omega) (H8.out.below HW3.out.1)).mono ?_
            rintro e w4 ⟨G, rfl, hG, _, hb4⟩
            have HW4 := hid1 (HW3.out.keep hb4)
            have HG := hid1 hG
            clear hG hb4 HW3
            have hE : nmE A B (fun p => ob N (G p) (bn (plb l p) N)) = if N = k then 0 else 20 := nm_eq G (fun p => bn (plb l p) N) HD0.out HN1.out (by omega) (fun p => bn_lt _ _)
            have HE := hid1 hE
            clear hE
            have c0 := q0 HW4.out.2.1
            have c1 := q1 HW4.out.2.1
            have c2 := q2 HW4.out.2.1
            have c3 := q3 HW4.out.2.1
            have l1 := HW4.out.2.1.lt
            go_wp2_with fail
            refine gen_calls (fun V => Below w4.heap.size w4 V) (bl_alloc (Below.refl _ _) _) ?_
            intro V hV
            have BV := bl_step HW4.out.1 hV
            refine (numbers_any A B (fun p => ob N (G p) (bn (plb l p) N)) V (HL.out.on BV) (HA.out.below BV) (HB.out.below BV) (fun p hp => Rw.row (keepr hV (HG.out p hp).2) (bn_lt _ _) (by omega))).mono ?_
            rintro e w5 ⟨rfl, hb5⟩
            rw [HE.out]
            replace BV := bl_step BV hb5
            clear c0 c1 c2 c3 l1 hV hb5 HE
            by_cases hNn : N = k
            · rw [if_pos hNn]
              have hval : nmV A B (fun p => ob N (G p) (bn (plb l p) N)) = npl A.N B.N (fun p => bn (plb l p) N) N 8 := nm_val G (fun p => bn (plb l p) N) HD0.out (by rw [hNn]; exact HN1.out) (by omega) (fun p => bn_lt _ _)
              rw [hval]
              have hnp := HNP.out (fun p => bn (plb l p) N)
              rw [← hNn] at hnp
              generalize npl A.N B.N _ _ 8 = cv at *
              have hNi : (N : Int) = (k : Int) := by omega
              clear hval HG HNP
              obtain ⟨np1, np2⟩ := hnp
              go_wp2_with fail
              go_ret
              refine ⟨ret_bool ?_, BV⟩
              simp
              omega
            · rw [if_neg hNn]
              have hNi : ¬ (N : Int) = (k : Int) := by omega
              generalize nmV A B _ = cv at *
              go_wp2_with fail
              go_ret
              exact ⟨rfl, BV⟩
end Go.Proofs.YtgkfdgdemodgiaaDoor
