/- RankOrder: the walk. -/
import Derived.Test.YtfdkjckoelmgeaaDoorRO1
import Derived.Test.YtfdkjckoelmgeaaDoorRF2
namespace Go.Proofs.YtfdkjckoelmgeaaDoor
open Go.RowKit Go.Sort

theorem kmeet_of {J K : Act → World → Prop} {Q : Exit → Act → World → Prop} {a : Act} {w : World} (hK : ∀ a' w', Met J a' w' → K a' w') (h : Met J a w) : Exit.then K Q Exit.normal a w := hK _ _ h
theorem bl_drewN' {S : Nat} {a w : World} (h : Below S a w) (n : Nat) : Below S a (w.drewN n) := by
  induction n with
  | zero => exact h
  | succ n ih => exact ih.drew
set_option maxHeartbeats 8000000 in
set_option maxRecDepth 100000 in
theorem rankOrder_any (ao : Option Addr) (l0 : List Int) (cap0 : Nat) (x1 x2 : Int) (hc0 : l0.length ≤ cap0) (hm : l0.length ≤ 9223372036854775807) (hx1 : -9223372036854775808 ≤ x1 ∧ x1 ≤ 9223372036854775807) (hx2 : -9223372036854775808 ≤ x2 ∧ x2 ≤ 9223372036854775807) (w : World) (LP : LaidP w)
    (h1 : Nm w ao l0) :
    Calls Tryd.prog 3 #[.slice ao l0.length cap0, .int .i64 x1, .int .i64 x2] w fun e w' => e = .returned (.bool true) ∧ Below w.heap.size w w' := by
  have HL := hid1 LP
  have H1 := hid1 h1
  clear LP h1
  have HB := fun X hX => begun_any X hX
  obtain ⟨m0, hm0⟩ : ∃ m, l0.length = m := ⟨_, rfl⟩
  have HM := hid1 hm0
  rw [hm0] at hc0 hm ⊢
  clear hm0
  go_enter Tryd.func3, Tryd.ntmps3
  go_upto_region 3 with (go_at_call 8; refine (HB _ HL.out).mono ?_; rintro e w1 ⟨rfl, hb1⟩)
  go_upto_if 20 with fail
  go_cut [0] from 20 to 22 (fun s wx => (∃ (l : List Int) (n c : Nat), s = .slice ao n c ∧ n ≤ 2000 ∧ Hid (l.length = n) ∧ Hid (Nm w1 ao l)) ∧ w1 = wx)
  case first =>
    by_cases c : 2000 < m0
    · have ci : (2000 : Int) < (m0 : Int) := by omega
      have cc : 2000 ≤ cap0 := by omega
      obtain ⟨g, o, rfl, _⟩ := H1.out.at (k := 0) (by rw [HM.out]; omega)
      go_wp2_with fail
      go_meet
      refine ⟨⟨l0.take 2000, 2000, cap0, rfl, by omega, by show _ = _; rw [List.length_take, HM.out]; omega, ?_⟩, rfl⟩
      intro j x hj
      rw [List.getElem?_take] at hj
      split at hj
      · exact (H1.out.below hb1) j x hj
      · cases hj
    · have ci : ¬ (2000 : Int) < (m0 : Int) := by omega
      go_wp2_with fail
      go_meet
      exact ⟨⟨l0, m0, cap0, rfl, by omega, HM, H1.out.below hb1⟩, rfl⟩
  case rest =>
    obtain ⟨⟨l, n, c0, rfl, hn, HN, HLM⟩, rfl⟩ := hcut
    clear H1 HM hm hc0
    refine kgo (by assumption) ?_
    by_cases hneg : x1 < 0
    · have TB := fun X => top_bad ao n c0 x1 X hneg
      go_wp2_with (go_at_call 9; refine (TB _).mono ?_; rintro e w' ⟨rfl, rfl⟩)
      go_ret
      exact ⟨rfl, hb1⟩
    · obtain ⟨A, rfl⟩ := Int.eq_ofNat_of_zero_le (show 0 ≤ x1 by omega)
      have TT : Hid (∀ (N : Nat), N ≤ A → ∀ X, Below w1.heap.size w1 X → Calls Tryd.prog 9 #[.slice ao n c0, .int .i64 (N : Int)] X fun e w' => ∃ a c, e = .returned (.tuple #[.slice a (tp l N).length c, .int .i64 0]) ∧ Hid (Rkm w' a (tp l N)) ∧ (tp l N).length ≤ c ∧ Below X.heap.size X w') := fun N hN X hX => by
        have := top_rk ao l c0 (N : Int) X (by omega) (by have := HN.out; omega) (HLM.out.below hX) (by omega)
        rw [HN.out, Int.toNat_natCast] at this
        exact this
      have HT := hid1 (fun (N : Nat) => tp_len l N)
      obtain ⟨nL, hnL⟩ : ∃ x, (tp l A).length = x := ⟨_, rfl⟩
      have hmin : nL = min A n := by rw [← hnL, tp_len, HN.out]
      have hCA := TT.out A (Nat.le_refl _) w1 (Below.refl _ _)
      rw [hnL] at hCA
      have HCA := hid1 hCA
      have HNL := hid1 hnL
      have HMI := hid1 hmin
      have hnl : nL ≤ n := by omega
      clear hCA hnL hmin
      go_upto_region 6 with (go_at_call 9; refine HCA.out.mono ?_; rintro e w2 ⟨a, c, rfl, HR, hac, hb2⟩)
      have B2 := bl_step hb1 hb2
      go_upto_if 42 with fail
      go_cut [9] from 42 to 44 (fun s wx => s = .int .i64 (nL : Int) ∧ w2 = wx)
      case first =>
        by_cases cA : n < A
        · have ci : (n : Int) < (A : Int) := by omega
          go_wp2_with fail
          go_meet
          exact ⟨by rw [show nL = n by have := HMI.out; omega], rfl⟩
        · have ci : ¬ (n : Int) < (A : Int) := by omega
          go_wp2_with fail
          go_meet
          exact ⟨by rw [show nL = A by have := HMI.out; omega], rfl⟩
      case rest =>
        obtain ⟨rfl, rfl⟩ := hcut
        refine kgo (by assumption) ?_
        have HNM : Hid (∀ k, k < n → ∃ g o, ao = some ⟨g, o, none⟩ ∧ w2.cell? ⟨g, o + k, none⟩ = some (.int .i64 (l.getD k 0))) := fun k hk => by
          obtain ⟨g, o, e, cc⟩ := (HLM.out.below hb2).at (k := k) (by rw [HN.out]; exact hk)
          exact ⟨g, o, e, by rw [cc, getD_at (by rw [HN.out]; exact hk)]⟩
        obtain ⟨i0, ji, hz0, hz1, hz2⟩ := info_parts info_bool
        go_upto_region 14 with ((refine wpList_make_row _ rfl _ _ 28 rfl 4 i0 (.bool false) und_bools ji hz0 hz1 rfl .i64 .i64 n (by go_simp) (by go_simp) (by rw [hz2]; omega) (by omega) ?_))
        have HXL : Hid (∀ i, i < nL → ∃ (k : Nat) (v : Int), (tp l A)[i]? = some ((k : Int), v) ∧ k < n ∧ v = l.getD k 0 ∧ se (tp l A) i k = false) := fun i hi => by
          have hiL : i < (tp l A).length := by rw [HNL.out]; exact hi
          obtain ⟨k, hk, e1, e2⟩ := tp_idx (List.getElem?_eq_getElem hiL)
          refine ⟨k, (tp l A)[i].2, ?_, by rw [← HN.out]; exact hk, e2, se_no (List.getElem?_eq_getElem hiL) e1⟩
          rw [List.getElem?_eq_getElem hiL, ← e1]
        have hr0 : (w2.alloc (.cells (madeCells #[.bool false] n) 4)).rowIs w2.heap.size 4 n (fun t => .bool (se (tp l A) 0 t)) := World.rowIs_made w2 (.bool false) n 4
        have HR0 := hid1 hr0
        have hbs : Below w2.heap.size w2 (w2.alloc (.cells (madeCells #[.bool false] n) 4)) := bl_alloc (Below.refl _ _) _
        refine gen_world (fun X => Hid (X.rowIs w2.heap.size 4 n (fun t => .bool (se (tp l A) 0 t))) ∧ Below w2.heap.size w2 X) ⟨HR0, hbs⟩ ?_
        clear HR0 hr0 hbs
        obtain ⟨S, hS⟩ : ∃ S, w2.heap.size = S := ⟨_, rfl⟩
        rw [hS]
        have HSZ := hid1 hS
        clear hS
        rintro X3 ⟨R3, B3⟩
        go_wp2_with fail
        go_loopw [11] (fun x wr => ∃ i : Nat, i ≤ nL ∧ x = .int .i64 (i : Int) ∧ Hid (wr.rowIs S 4 n (fun t => .bool (se (tp l A) i t))) ∧ Below S w2 wr) (fun x _ => nL - (intOf x).toNat)
        case atStart => exact ⟨0, Nat.zero_le _, rfl, R3, B3⟩
        case round =>
          clear R3 B3
          obtain ⟨i, hi, rfl, HRW, hbw⟩ := hrel
          have hbw2 : Below w2.heap.size w2 wr := by rw [HSZ.out]; exact hbw
          by_cases hlt : i < nL
          · obtain ⟨k, v, hLi, hkn, hv, hse⟩ := HXL.out i hlt
            obtain ⟨ga, oa, rfl, d1, d2⟩ := HR.out i _ hLi
            obtain ⟨gl, ol, rfl, d3⟩ := HNM.out k hkn
            replace d1 := keepc hbw2 d1
            replace d2 := keepc hbw2 d2
            replace d3 := keepc hbw2 d3
            rw [← hv] at d3
            have d4 := HRW.out.cell hkn
            have f4 := HRW.out.frozen k
            have g4 := HRW.out.lt
            rw [hse] at d4
            have HST := hid1 (fun t => se_step hLi t)
            have hLI := hid1 hLi
            clear hse hv hLi
            dsimp only at d1 d2
            have ik : (i : Int) < (nL : Int) := by omega
            have ik0 : (0 : Int) ≤ (i : Int) := by omega
            have kn : (k : Int) < (n : Int) := by omega
            have kn0 : ¬ (k : Int) < 0 := by omega
            have kn1 : ¬ (n : Int) ≤ (k : Int) := by omega
            have kn2 : (0 : Int) ≤ (k : Int) := by omega
            have iac : i < c := by omega
            go_upto_region 18 with fail
            go_quiet (fail)
            go_upto_region 21 with fail
            have hbX : ∀ m, Below S w2 ((wr.drewN m).setCell ⟨S, k, none⟩ (.bool true)) := fun m => (bl_drewN' hbw m).setCell (Nat.le_refl _) _
            have hrX : ∀ m, ((wr.drewN m).setCell ⟨S, k, none⟩ (.bool true)).rowIs S 4 n (fun t => .bool (se (tp l A) (i + 1) t)) := fun m => ((row_drewN HRW.out m).set k _).congr fun t ht => by
              rw [HST.out t]
              by_cases e : t = k
              · subst e; simp
              · rw [if_neg e]
                have : ((k : Int) == (t : Int)) = false := by simp; omega
                simp [this]
            refine gen_world (fun X => Hid (X.rowIs S 4 n (fun t => .bool (se (tp l A) (i + 1) t))) ∧ Below S w2 X) ⟨hrX _, hbX _⟩ ?_
            clear hbX hrX HST HRW d4 f4 g4 d1 d2 d3 hbw hbw2
            rintro X4 ⟨HR4, hb4⟩
            have hb4' : Below w2.heap.size w2 X4 := by rw [HSZ.out]; exact hb4
            go_cut [135] from 96 to 135 (fun s wx => s = .bool false ∧ Qt X4 wx)
            case first =>
              by_cases hi0 : i = 0
              · have hi1 : ¬ (0 : Int) < (i : Int) := by omega
                go_quiet (fail)
                refine kmeet_of (by assumption) ?_
                go_meet
                exact ⟨by simp, _, rfl⟩
              · obtain ⟨j, hj⟩ : ∃ j, j + 1 = i := ⟨i - 1, by omega⟩
                obtain ⟨kq, vq, hLj, z1, z2, z3⟩ := HXL.out j (by omega)
                clear z1 z2 z3
                have hlt2 := tp_lt (show j < i by omega) hLj hLI.out
                dsimp only at hlt2
                obtain ⟨_, _, e1, d1, d2⟩ := HR.out i _ hLI.out
                cases e1
                obtain ⟨_, _, e2, d5, d6⟩ := HR.out j _ hLj
                cases e2
                replace d1 := keepc hb4' d1
                replace d2 := keepc hb4' d2
                replace d5 := keepc hb4' d5
                replace d6 := keepc hb4' d6
                dsimp only at d1 d2 d5 d6
                have hw : IntKind.i64.wrap ((i : Int) - 1) = (j : Int) := by rw [IntKind.wrap_i64]; omega
                have hi1 : (0 : Int) < (i : Int) := by omega
                have hi2 : 0 < i := by omega
                have ij : (j : Int) < (nL : Int) := by omega
                have ij0 : (0 : Int) ≤ (j : Int) := by omega
                have jc : j < c := by omega
                clear hLj hj
                by_cases hvv : vq = v
                · subst hvv
                  have h1 : ¬ vq < vq := by omega
                  have h2 : ¬ (k : Int) ≤ (kq : Int) := by omega
                  go_quiet (fail)
                  refine kmeet_of (by assumption) ?_
                  go_meet
                  exact ⟨by simp, _, rfl⟩
                · have h3 : v < vq := by omega
                  have h4 : decide (vq < v) = false := decide_eq_false (by omega)
                  have h5 : (vq == v) = false := by simpa using hvv
                  clear hlt2
                  go_quiet (fail)
                  refine kmeet_of (by assumption) ?_
                  go_meet
                  exact ⟨by simp, _, rfl⟩
            case rest =>
              obtain ⟨rfl, hq⟩ := hcut
              rename_i X5
              obtain ⟨q, rfl⟩ := hq
              go_upto_region 16 with fail
              go_wp2_with fail
              exact ⟨⟨i + 1, by omega, by go_num, row_drewN HR4.out q, bl_drewN' hb4 q⟩, by simp [intOf]; omega⟩
          · have hkN : i = nL := by omega
            subst hkN
            clear HXL
            obtain ⟨W0, hW0⟩ : ∃ W0, W0 = wr := ⟨_, rfl⟩
            subst hW0
            have hS0 : Below w.heap.size w W0 := bl_step B2 hbw2
            go_upto_region 23 with fail
            go_wp2_with fail
            go_loopw [13] (fun x wr => ∃ j : Nat, j ≤ n ∧ x = .int .i64 (j : Int) ∧ Below W0.heap.size W0 wr) (fun x _ => n - (intOf x).toNat)
            case atStart => exact ⟨0, Nat.zero_le _, rfl, Below.refl _ _⟩
            case round =>
              obtain ⟨j, hj, rfl, hbq⟩ := hrel
              go_upto_region 24 with fail
              go_cut [144] from 136 to 144 (fun s wx => s = .bool (decide (j < n ∧ 0 < i)) ∧ wr = wx)
              case first =>
                by_cases q1 : j < n
                · have q1i : (j : Int) < (n : Int) := by omega
                  by_cases q2 : 0 < i
                  · have q2i : (0 : Int) < (i : Int) := by omega
                    go_wp2_with fail
                    go_meet
                    exact ⟨congrArg Value.bool (decide_eq_true (⟨q1, q2⟩ : j < n ∧ 0 < i)).symm, rfl⟩
                  · have q2i : ¬ (0 : Int) < (i : Int) := by omega
                    go_wp2_with fail
                    go_meet
                    exact ⟨congrArg Value.bool (decide_eq_false (show ¬ (j < n ∧ 0 < i) by omega)).symm, rfl⟩
                · have q1i : ¬ (j : Int) < (n : Int) := by omega
                  go_wp2_with fail
                  go_meet
                  exact ⟨congrArg Value.bool (decide_eq_false (show ¬ (j < n ∧ 0 < i) by omega)).symm, rfl⟩
              case rest =>
                obtain ⟨rfl, rfl⟩ := hcut
                refine kgo (by assumption) ?_
                by_cases hjn : j < n ∧ 0 < i
                · rw [decide_eq_true hjn]
                  obtain ⟨hjn, hi0⟩ := hjn
                  obtain ⟨i1, hi1⟩ : ∃ i1, i1 + 1 = i := ⟨i - 1, by omega⟩
                  obtain ⟨pq, hLi⟩ : ∃ pq, (tp l A)[i1]? = some pq := ⟨_, List.getElem?_eq_getElem (by have := HNL.out; omega)⟩
                  have hlast : Hid (se (tp l A) i j = false → ¬ (pq.2 < l.getD j 0 ∨ (pq.2 = l.getD j 0 ∧ (j : Int) < pq.1))) := fun hs => by
                    have e : (tp l A).length - 1 = i1 := by have := HNL.out; omega
                    exact se_left (by rw [e]; exact hLi) (by rw [HN.out]; exact hjn) (by rw [HNL.out]; exact hs)
                  obtain ⟨_, _, ea, d1, d2⟩ := HR.out i1 _ hLi
                  subst ea
                  obtain ⟨_, _, el, d3⟩ := HNM.out j hjn
                  subst el
                  have hBq : Below w2.heap.size w2 wr := hbw2.trans (hbq.mono hbw2.size)
                  replace d1 := keepc hBq d1
                  replace d2 := keepc hBq d2
                  replace d3 := keepc hBq d3
                  have d4 := (keepr hbq HRW.out).cell hjn
                  obtain ⟨k1, v1⟩ := pq
                  dsimp only at d1 d2 hlast
                  generalize l.getD j 0 = lj at *
                  generalize se (tp l A) i j = sj at *
                  have hw : IntKind.i64.wrap ((i : Int) - 1) = (i1 : Int) := by rw [IntKind.wrap_i64]; omega
                  have ij : (i1 : Int) < (i : Int) := by omega
                  have ij0 : (0 : Int) ≤ (i1 : Int) := by omega
                  have ij2 : i1 < c := by omega
                  have jn : (j : Int) < (n : Int) := by omega
                  have jn0 : (0 : Int) ≤ (j : Int) := by omega
                  clear hLi hi1
                  go_upto_region 27 with fail
                  refine gen_world (fun X => Below wr.heap.size wr X ∧ X.cell? ⟨wr.heap.size, 0, none⟩ = some (.int .i64 k1) ∧ X.cell? ⟨wr.heap.size, 1, none⟩ = some (.int .i64 v1)) ⟨bl_alloc (Below.refl _ _) _, by simp [go_sem], by simp [go_sem]⟩ ?_
                  rintro X7 ⟨B7, d5, d6⟩
                  replace d3 := keepc B7 d3
                  replace d4 := keepc B7 d4
                  have hb7 := bl_step hbq B7
                  clear d1 d2 B7 hBq hbq
                  generalize wr.heap.size = pb at *
                  go_cut [181] from 153 to 181 (fun s wx => s = .bool false ∧ Qt X7 wx)
                  case first =>
                    by_cases hs : sj = true
                    · subst hs
                      go_quiet (fail)
                      refine kmeet_of (by assumption) ?_
                      go_meet
                      exact ⟨by simp, _, rfl⟩
                    · replace hs : sj = false := by simpa using hs
                      have hl := hlast.out hs
                      subst hs
                      by_cases e : lj = v1
                      · subst e
                        have h1 : ¬ (j : Int) < k1 := by omega
                        clear hl
                        go_quiet (fail)
                        refine kmeet_of (by assumption) ?_
                        go_meet
                        exact ⟨by simp, _, rfl⟩
                      · have h4 : decide (v1 < lj) = false := decide_eq_false (by omega)
                        have h5 : (lj == v1) = false := by simpa using e
                        have h6 : lj < v1 := by omega
                        clear hl
                        go_quiet (fail)
                        refine kmeet_of (by assumption) ?_
                        go_meet
                        exact ⟨by simp, _, rfl⟩
                  case rest =>
                    obtain ⟨rfl, hq⟩ := hcut
                    rename_i X6
                    obtain ⟨q, rfl⟩ := hq
                    refine kgo (by assumption) ?_
                    go_upto_region 25 with fail
                    go_wp2_with fail
                    exact ⟨⟨j + 1, by omega, by go_num, bl_drewN' hb7 q⟩, by simp [intOf]; omega⟩
                · rw [decide_eq_false hjn]
                  have hB6 := bl_step hbw2 hbq
                  have AR : Hid (∀ m, Calls Tryd.prog 10 #[.slice ao n c0] (wr.drewN m) fun e w' => e = .returned (.int .i64 (ag (fun t => l.getD t 0) n)) ∧ w' = wr.drewN m) := fun m => by
                    have := arg_any ao l c0 (wr.drewN m) (by rw [HN.out]; omega) ((HLM.out.below hb2).below (bl_drewN' (hbw2.trans (hbq.mono hbw2.size)) m))
                    rw [HN.out] at this
                    exact this
                  have hjn2 := hid1 hjn
                  clear hB6
                  have HAG : Hid (∀ p, (tp l A)[0]? = some p → p.1 = ag (fun t => l.getD t 0) n) := fun p hp => by have := tp_first hp; rw [HN.out] at this; exact this
                  have HA0 : Hid (n = 0 → ag (fun t => l.getD t 0) n = -1) := fun h => by rw [h]; rfl
                  generalize ag (fun t => l.getD t 0) n = gv at *
                  go_upto_region 29 with fail
                  go_cut [203] from 182 to 203 (fun s wx => s = .bool false ∧ Qt wr wx)
                  case first =>
                    by_cases i0' : 0 < i
                    · have i0i : (0 : Int) < (i : Int) := by omega
                      have nz1 : ¬ (n : Int) = 0 := by omega
                      have nz2 : ¬ n = 0 := by omega
                      obtain ⟨p0, hp0⟩ : ∃ p0, (tp l A)[0]? = some p0 := ⟨_, List.getElem?_eq_getElem (by have := HNL.out; omega)⟩
                      obtain ⟨_, _, ea, d1, _⟩ := HR.out 0 _ hp0
                      subst ea
                      rw [HAG.out _ hp0] at d1
                      rw [Nat.zero_mul, Nat.add_zero] at d1
                      replace d1 := keepc (hbw2.trans (hbq.mono hbw2.size)) d1
                      clear hp0
                      go_quiet ((go_at_call 10; exact Calls.quiet_of_same (AR.out _)))
                      refine kmeet_of (by assumption) ?_
                      go_meet
                      exact ⟨by simp, _, rfl⟩
                    · obtain rfl : i = 0 := by omega
                      clear i0' hjn
                      by_cases n0 : n = 0
                      · have hgv := HA0.out n0
                        subst n0
                        subst hgv
                        go_big_quiet ((go_at_call 10; exact Calls.quiet_of_same (AR.out _)))
                        refine kmeet_of (by assumption) ?_
                        go_meet
                        exact ⟨by simp, _, rfl⟩
                      · have n0i : ¬ (n : Int) = 0 := by omega
                        have hb1 : ((n : Int) == 0) = false := by simpa using n0i
                        go_big_quiet (fail)
                        refine kmeet_of (by assumption) ?_
                        go_meet
                        exact ⟨by simp, _, rfl⟩
                  case rest =>
                    obtain ⟨rfl, hq⟩ := hcut
                    rename_i X6
                    obtain ⟨q, rfl⟩ := hq
                    refine kgo (by assumption) ?_
                    have HW := hid1 (show Below w2.heap.size w2 (wr.drewN q) from bl_drewN' (hbw2.trans (hbq.mono hbw2.size)) q)
                    go_upto_region 31 with fail
                    refine gen_world (fun X => Below w2.heap.size w2 X) HW.out ?_
                    clear HW AR HAG HA0 hbq hjn hjn2 HRW HNM
                    intro Y0 HY0
                    go_cut [210] from 204 to 210 (fun s wx => s = .bool (decide (x2 < 0 ∨ (A : Int) < x2)) ∧ Y0 = wx)
                    case first =>
                      by_cases c1 : x2 < 0
                      · go_wp2_with fail
                        go_meet
                        exact ⟨congrArg Value.bool (decide_eq_true (Or.inl c1 : x2 < 0 ∨ (A : Int) < x2)).symm, rfl⟩
                      · by_cases c2 : (A : Int) < x2
                        · go_wp2_with fail
                          go_meet
                          exact ⟨congrArg Value.bool (decide_eq_true (Or.inr c2 : x2 < 0 ∨ (A : Int) < x2)).symm, rfl⟩
                        · go_wp2_with fail
                          go_meet
                          exact ⟨congrArg Value.bool (decide_eq_false (show ¬ (x2 < 0 ∨ (A : Int) < x2) by omega)).symm, rfl⟩
                    case rest =>
                      obtain ⟨rfl, rfl⟩ := hcut
                      go_upto_if 210 with fail
                      go_cut [2] (fun s wx => (∃ M : Nat, M ≤ A ∧ s = .int .i64 (M : Int)) ∧ Y0 = wx)
                      case first =>
                        by_cases c : x2 < 0 ∨ (A : Int) < x2
                        · go_wp2_with fail
                          go_meet
                          exact ⟨⟨0, by omega, rfl⟩, rfl⟩
                        · obtain ⟨M, rfl⟩ := Int.eq_ofNat_of_zero_le (show 0 ≤ x2 by omega)
                          go_wp2_with fail
                          go_meet
                          exact ⟨⟨M, by omega, rfl⟩, rfl⟩
                      case rest =>
                        obtain ⟨⟨M, hM, rfl⟩, rfl⟩ := hcut
                        obtain ⟨lm, hlm⟩ : ∃ x, (tp l M).length = x := ⟨_, rfl⟩
                        have hmin : lm ≤ i := by have h1 := tp_len l M; have h2 := tp_len l A; have h3 := HNL.out; omega
                        have HF : Hid ((tp l A).take lm = tp l M) := by
                          show _ = _
                          have h1 := tp_front l hM
                          rw [← hlm, ← h1, List.length_take]
                          rcases Nat.le_total M (tp l A).length with h | h
                          · rw [Nat.min_eq_left h]
                          · rw [Nat.min_eq_right h, List.take_of_length_le (Nat.le_refl _), List.take_of_length_le h]
                        have hTM := TT.out M hM Y0 (hb2.trans (HY0.mono hb2.size))
                        rw [hlm] at hTM
                        have HTM := hid1 hTM
                        have HLM2 := hid1 hlm
                        clear hTM hlm
                        go_upto_region 34 with (go_at_call 9; refine HTM.out.mono ?_; rintro e w5 ⟨a5, c5, rfl, HR5, hc5, hb5⟩)
                        have hBB := HY0.trans (hb5.mono HY0.size)
                        have CE : Hid (∀ cc, Calls Tryd.prog 11 #[.slice a5 lm c5, .slice a lm cc] w5 fun e w' => e = .returned (.bool true) ∧ Qt w5 w') := fun cc => by
                          have := eqr_any a5 a (tp l M) ((tp l A).take lm) c5 cc w5 (by have h1 := tp_len l M; have := HN.out; omega) HR5.out (fun j p hj => by
                            rw [List.getElem?_take] at hj
                            split at hj
                            · exact (HR.out.below hBB) j p hj
                            · cases hj)
                          rw [HF.out, decide_eq_true rfl, HLM2.out] at this
                          exact this
                        have hmi : ¬ (i : Int) < (lm : Int) := by omega
                        have hmc : lm ≤ c := by omega
                        clear HR5 hb5
                        go_upto_region 36 with fail
                        go_wp2_with (go_at_call 11; refine (CE.out _).mono ?_; rintro e w6 ⟨rfl, hq6⟩)
                        go_ret
                        exact ⟨rfl, hq6.below (bl_step B2 hBB)⟩
end Go.Proofs.YtfdkjckoelmgeaaDoor
