/- DotCounts. -/
import Derived.Test.YtgkfdgdemodgiaaDoorDV1
import Derived.Test.YtgkfdgdemodgiaaDoorDM3
import Derived.Test.YtgkfdgdemodgiaaDoorDB1
import Derived.Deep.DeepCutAuto
namespace Go.Proofs.YtgkfdgdemodgiaaDoor
open Go.RowKit

theorem dck_ob {n g1 g2 S M : Nat} (h1 : n ≤ 16777216) (hS : S < 2 ^ n) (hM : M < 2 ^ n) (h : S &&& M = S) : dck (ob n g1 S) (ob n g2 M) = 0 := by
  unfold dck
  rw [if_neg, if_pos h]
  rintro (h2 | h2)
  · exact h2 (chk_ok h1 hS)
  · rw [ob_fit n g2 M _ h1 hM] at h2
    simp at h2
theorem sg_ob {n g1 g2 g S M X : Nat} (h1 : n ≤ 16777216) (hS : S < 2 ^ n) (hM : M < 2 ^ n) (hX : X < 2 ^ n) (h : S &&& M = S) : sgE (ob n g1 S) (ob n g2 M) (ob n g X) = 0 ∧ sgV (ob n g1 S) (ob n g2 M) (ob n g X) = sm (fun i => wt S M i * xs1 X i) n := by
  have e : sgE (ob n g1 S) (ob n g2 M) (ob n g X) = 0 := by
    unfold sgE
    rw [if_neg (by simp [dck_ob h1 hS hM h]), if_pos (by rw [ob_fit n g X _ h1 hX]; simp)]
  refine ⟨e, ?_⟩
  unfold sgV
  rw [if_pos e, ← tq_signs]
  rfl
theorem so_ob {n g1 g2 g3 g4 S M S' M' : Nat} (h1 : n ≤ 16777216) (hS : S < 2 ^ n) (hM : M < 2 ^ n) (hS' : S' < 2 ^ n) (hM' : M' < 2 ^ n) (h : S &&& M = S) (h' : S' &&& M' = S') : soE (ob n g1 S) (ob n g2 M) (ob n g3 S') (ob n g4 M') = 0 ∧ soV (ob n g1 S) (ob n g2 M) (ob n g3 S') (ob n g4 M') = sm (fun i => wt S M i * wt S' M' i) n := by
  have e : soE (ob n g1 S) (ob n g2 M) (ob n g3 S') (ob n g4 M') = 0 := by
    unfold soE
    rw [if_neg (by simp [dck_ob h1 hS hM h]), if_neg (by simp [dck_ob h1 hS' hM' h']), if_pos rfl]
  refine ⟨e, ?_⟩
  unfold soV
  rw [if_pos e, ← tq_some]
  rfl
def sf1 (a x : List Int) (i : Nat) : Int := ia a i * (if 0 < ia x i then 1 else -1)
def sf2 (a x : List Int) (i : Nat) : Int := ia a i * (ia x i).tmod 2
def sf3 (a x : List Int) (i : Nat) : Int := ia a i * ia x i
theorem pr_bd {a y : Int} (ha : -1 ≤ a ∧ a ≤ 1) (hy : -128 ≤ y ∧ y ≤ 128) : -128 ≤ a * y ∧ a * y ≤ 128 := by
  have h : a = 0 ∨ a = 1 ∨ a = -1 := by omega
  rcases h with rfl | rfl | rfl <;> omega
theorem f_bd {a x : List Int} {n : Nat} (hw : Wok a n) (hx : ∀ i, i < n → -128 ≤ ia x i ∧ ia x i ≤ 127) {k : Nat} (hk : k ≤ n) :
    (-(k * 128) ≤ sm (sf1 a x) k ∧ sm (sf1 a x) k ≤ k * 128) ∧ (-(k * 128) ≤ sm (sf2 a x) k ∧ sm (sf2 a x) k ≤ k * 128) ∧ (-(k * 128) ≤ sm (sf3 a x) k ∧ sm (sf3 a x) k ≤ k * 128) := by
  refine ⟨sm_bd k fun i hi => ?_, sm_bd k fun i hi => ?_, sm_bd k fun i hi => ?_⟩
  · exact pr_bd (hw i (by omega)) (by split <;> omega)
  · exact pr_bd (hw i (by omega)) (by have := tmod2 (ia x i); omega)
  · exact pr_bd (hw i (by omega)) (by have := hx i (by omega); omega)
theorem wok_tml {l : List Int} {n : Nat} (h : n ≤ l.length) : Wok ((tml l).take n) n := fun i hi => by
  rw [ia_take hi, tml_ia (by omega)]
  exact tmod2 _
theorem wok_tml' {l : List Int} : Wok (tml l) l.length := fun i hi => by
  rw [tml_ia hi]
  exact tmod2 _
theorem ia_mem {l : List Int} {p : Int → Prop} (h : ∀ y ∈ l, p y) {i : Nat} (hi : i < l.length) : p (ia l i) := by
  refine h _ ?_
  unfold ia
  rw [List.getD_eq_getElem?_getD, List.getElem?_eq_getElem hi]
  exact List.getElem_mem _
theorem r8_wc {w : World} {g n S M : Nat} {l : List Int} (h : w.rowIs g 35 n (wc S M)) (hl : l.length = n) (he : ∀ i, i < n → wt S M i = ia l i) : R8 w (some ⟨g, 0, none⟩) l := by
  intro k hk
  refine ⟨g, 0, rfl, ?_⟩
  rw [Nat.zero_add, h.cell (by omega), ← he k (by omega)]
  rfl

set_option maxHeartbeats 6400000 in
set_option maxRecDepth 100000 in
theorem counts_any (ao : Option Addr) (l1 : List Int) (c1 : Nat) (h1 : l1.length ≤ c1) (s1 : c1 ≤ 140737488351232) (y1 : ∀ y ∈ l1, -128 ≤ y ∧ y ≤ 127) (bo : Option Addr) (l2 : List Int) (c2 : Nat) (h2 : l2.length ≤ c2) (s2 : c2 ≤ 140737488351232) (y2 : ∀ y ∈ l2, -128 ≤ y ∧ y ≤ 127) (w : World) (LD : LaidP w) (r1 : R8 w ao l1) (_ : ao = none → c1 = 0) (r2 : R8 w bo l2) (z2 : bo = none → c2 = 0) :
    Calls Tryd.prog 4 #[.slice ao l1.length c1, .slice bo l2.length c2] w fun e w' => e = .returned (.bool true) ∧ Below w.heap.size w w' := by
  have R1 := hid1 r1
  have R2 := hid1 r2
  have Y1 := hid1 y1
  have Y2 := hid1 y2
  have HLD := hid1 LD
  obtain ⟨N1, e1⟩ : ∃ N, l1.length = N := ⟨_, rfl⟩
  obtain ⟨N2, e2⟩ : ∃ N, l2.length = N := ⟨_, rfl⟩
  rw [e1] at h1
  rw [e2] at h2
  rw [e1, e2]
  have E1 := hid1 e1
  have E2 := hid1 e2
  clear r1 r2 y1 y2 LD e1 e2
  go_enter Tryd.func4, Tryd.ntmps4
  go_wp2_with fail
  refine (dbegun_any w HLD.out).mono ?_
  rintro e w0 ⟨rfl, B0⟩
  go_wp2_with fail
  refine (tame_any l1 N1 E1.out ao c1 w0 (by omega) Y1.out (R1.out.below B0)).mono ?_
  rintro e w1 ⟨v, rfl, hown, hb1⟩
  have hown' : w1.ownsRow w0.heap.size 35 1 v (tml l1).length (i8s (tml l1)) := by rw [tml_len, E1.out]; exact hown
  obtain ⟨uo, tc, rfl, t1, t2, t3, _, hr⟩ := r8_own hown'
  rw [tml_len, E1.out] at t1 t3
  have hmx : maxLen = 9223372036854775807 := by decide
  rw [hmx] at t2
  clear hmx
  replace B0 := bl_step B0 hb1
  have HT := hid1 hr
  clear hown hown' hr hb1
  rw [tml_len, E1.out]
  go_wp2_with fail
  obtain ⟨n, hn⟩ : ∃ n, n = min (min N1 N2) 16777216 := ⟨_, rfl⟩
  refine (even_any uo bo N1 tc N2 c2 n w1 t1 h2 t2 (by omega) (fun h => (t3 h).2) z2 hn).mono ?_
  rintro e w2 ⟨rfl, hb2⟩
  replace B0 := bl_step B0 hb2
  have n3 : n ≤ 16777216 := by omega
  obtain ⟨wl, ewl⟩ : ∃ x, (tml l1).take n = x := ⟨_, rfl⟩
  obtain ⟨xl, exl⟩ : ∃ x, l2.take n = x := ⟨_, rfl⟩
  have LW : Hid (wl.length = n) := hid1 (by rw [← ewl, List.length_take, tml_len, E1.out]; omega)
  have LX : Hid (xl.length = n) := hid1 (by rw [← exl, List.length_take, E2.out]; omega)
  have HW : Hid (R8 w2 uo wl) := hid1 (by rw [← ewl]; exact r8_take (HT.out.below hb2) n)
  have HX : Hid (R8 w2 bo xl) := hid1 (by rw [← exl]; exact r8_take (R2.out.below B0) n)
  have KW : Hid (Wok wl n) := hid1 (by rw [← ewl]; exact wok_tml (by rw [E1.out]; omega))
  have YX : Hid (∀ y ∈ xl, -128 ≤ y ∧ y ≤ 127) := hid1 (by rw [← exl]; exact fun y hy => Y2.out y (List.mem_of_mem_take hy))
  have KX : Hid (∀ i, i < n → -128 ≤ ia xl i ∧ ia xl i ≤ 127) := fun i hi => ia_mem YX.out (by rw [LX.out]; exact hi)
  have zt : Hid (uo = none → tc = 0) := hid1 (fun h => (t3 h).2)
  clear ewl exl hn hb2 HT R1 R2 Y1 Y2 E1 E2 t3 h1 h2
  go_wp2_with fail
  go_loopw [8, 9, 10, 11] (fun a b c i wr => ∃ k : Nat, k ≤ n ∧ i = .int .i64 k ∧ a = .int .i64 (sm (sf1 wl xl) k) ∧ b = .int .i64 (sm (sf2 wl xl) k) ∧ c = .int .i64 (sm (sf3 wl xl) k) ∧ Below w2.heap.size w2 wr) (fun _ _ _ i _ => n - (intOf i).toNat)
  case atStart => exact ⟨0, Nat.zero_le _, rfl, rfl, rfl, rfl, Below.refl _ _⟩
  case round =>
    obtain ⟨k, hk, rfl, rfl, rfl, rfl, hnx⟩ := hrel
    have fb := f_bd KW.out KX.out hk
    by_cases hlt : k < n
    · obtain ⟨ga, oa, rfl, c8⟩ := HW.out k (by rw [LW.out]; exact hlt)
      obtain ⟨gb, ob, rfl, c9⟩ := HX.out k (by rw [LX.out]; exact hlt)
      replace c8 := keepc hnx c8
      replace c9 := keepc hnx c9
      have ik : (k : Int) < (n : Int) := by omega
      have ik0 : (0 : Int) ≤ (k : Int) := by omega
      have G1 : Hid (sm (sf1 wl xl) (k + 1) = sm (sf1 wl xl) k + ia wl k * (if 0 < ia xl k then 1 else -1)) := rfl
      have G2 : Hid (sm (sf2 wl xl) (k + 1) = sm (sf2 wl xl) k + ia wl k * (ia xl k).tmod 2) := rfl
      have G3 : Hid (sm (sf3 wl xl) (k + 1) = sm (sf3 wl xl) k + ia wl k * ia xl k) := rfl
      have ka := KW.out k hlt
      have kb := KX.out k hlt
      have kt := tmod2 (ia xl k)
      generalize ia wl k = a at *
      generalize ia xl k = y at *
      generalize sm (sf1 wl xl) k = u1 at *
      generalize sm (sf2 wl xl) k = u2 at *
      generalize sm (sf3 wl xl) k = u3 at *
      obtain ⟨t, et⟩ : ∃ t, y.tmod 2 = t := ⟨_, rfl⟩
      rw [et] at G2 kt
      obtain ⟨⟨b1, b2⟩, ⟨b3, b4⟩, ⟨b5, b6⟩⟩ := fb
      have a3 : a = 0 ∨ a = 1 ∨ a = -1 := by omega
      clear ka
      by_cases hp : 0 < y
      · rw [if_pos hp] at G1
        rcases a3 with rfl | rfl | rfl
        all_goals
          go_wp2_with fail
          go_quiet (fail)
          go_wp2_with fail
          go_quiet (fail)
          go_wp2_with fail
          exact ⟨⟨k + 1, by omega, by go_num, by rw [G1.out]; exact congrArg (Value.int .i64) (by omega), by rw [G2.out]; exact congrArg (Value.int .i64) (by omega), by rw [G3.out]; exact congrArg (Value.int .i64) (by omega), bl_drewN hnx _⟩, by simp [intOf]; omega⟩
      · rw [if_neg hp] at G1
        rcases a3 with rfl | rfl | rfl
        all_goals
          go_wp2_with fail
          go_quiet (fail)
          go_wp2_with fail
          go_quiet (fail)
          go_wp2_with fail
          exact ⟨⟨k + 1, by omega, by go_num, by rw [G1.out]; exact congrArg (Value.int .i64) (by omega), by rw [G2.out]; exact congrArg (Value.int .i64) (by omega), by rw [G3.out]; exact congrArg (Value.int .i64) (by omega), bl_drewN hnx _⟩, by simp [intOf]; omega⟩
    · have hkN : k = n := by omega
      subst hkN
      have BW := bl_step B0 hnx
      have HWr := hid1 (HW.out.below hnx)
      have HXr := hid1 (HX.out.below hnx)
      clear HW HX B0 hnx fb
      obtain ⟨u1, eu1⟩ : ∃ x, sm (sf1 wl xl) k = x := ⟨_, rfl⟩
      obtain ⟨u2, eu2⟩ : ∃ x, sm (sf2 wl xl) k = x := ⟨_, rfl⟩
      obtain ⟨u3, eu3⟩ : ∃ x, sm (sf3 wl xl) k = x := ⟨_, rfl⟩
      rw [eu1, eu2, eu3]
      have U1 := hid1 eu1
      have U2 := hid1 eu2
      have U3 := hid1 eu3
      obtain ⟨S, eS⟩ : ∃ x, pk wl k = x := ⟨_, rfl⟩
      obtain ⟨M, eM⟩ : ∃ x, bn (nz wl) k = x := ⟨_, rfl⟩
      obtain ⟨X, eX⟩ : ∃ x, pk xl k = x := ⟨_, rfl⟩
      have lS : Hid (S < 2 ^ k) := hid1 (by rw [← eS]; exact pk_lt _ _)
      have lM : Hid (M < 2 ^ k) := hid1 (by rw [← eM]; exact bn_lt _ _)
      have lX : Hid (X < 2 ^ k) := hid1 (by rw [← eX]; exact pk_lt _ _)
      have sSM : Hid (S &&& M = S) := hid1 (by rw [← eS, ← eM]; exact sub_pack _ _)
      have WT : Hid (∀ i, i < k → wt S M i = ia wl i) := hid1 (by rw [← eS, ← eM]; exact fun i hi => wt_pack KW.out hi)
      have XT : Hid (∀ i, i < k → xs1 X i = if 0 < ia xl i then 1 else -1) := hid1 (by rw [← eX]; exact fun i hi => xs_pack hi)
      have hbd := nw_bd n3
      have ES := hid1 eS
      have EM := hid1 eM
      have EX := hid1 eX
      clear eu1 eu2 eu3 eS eM eX
      rename World => W0
      go_wp2_with fail
      refine (dpack_any wl k LW.out uo tc W0 n3 HWr.out).mono ?_
      rintro e w3 (⟨_, g1, g2, rfl, _, _, ha, hb, hbl⟩ | ⟨hno, _⟩)
      · rw [ES.out] at ha ⊢
        rw [EM.out] at hb ⊢
        replace HXr := hid1 (HXr.out.below hbl)
        replace HWr := hid1 (HWr.out.below hbl)
        replace BW := bl_step BW hbl
        have HA := hid1 ha
        have HB := hid1 hb
        clear ha hb hbl
        have HD := hid1 (dck_ob (g1 := g1) (g2 := g2) n3 lS.out lM.out sSM.out)
        go_wp2_with fail
        refine gen_calls (fun W => Below w3.heap.size w3 W ∧ W.rowIs w3.heap.size 26 4 (qf (ob k g1 S) (ob k g2 M))) ⟨bl_alloc (Below.refl _ _) _, q_new w3 (ob k g1 S) (ob k g2 M) _⟩ ?_
        rintro W1 ⟨hbl, rr⟩
        replace HXr := hid1 (HXr.out.below hbl)
        replace HWr := hid1 (HWr.out.below hbl)
        replace HA := hid1 (keepr hbl HA.out)
        replace HB := hid1 (keepr hbl HB.out)
        replace BW := bl_step BW hbl
        have RR := hid1 rr
        clear rr hbl
        refine (unpack_ok (ob k g1 S) (ob k g2 M) k W1 (Rw.row HA.out lS.out n3) (Rw.row HB.out lM.out n3) HD.out rfl).mono ?_
        rintro e w4 ⟨g3, rfl, _, hc, hbl⟩
        replace HXr := hid1 (HXr.out.below hbl)
        replace HWr := hid1 (HWr.out.below hbl)
        replace HA := hid1 (keepr hbl HA.out)
        replace HB := hid1 (keepr hbl HB.out)
        replace RR := hid1 (keepr hbl RR.out)
        replace BW := bl_step BW hbl
        have HC := hid1 hc
        clear hc hbl
        go_wp2_with fail
        refine (pack_any xl k LX.out bo c2 w4 n3 HXr.out).mono ?_
        rintro e w5 ⟨g4, rfl, _, hd, hbl⟩
        rw [EX.out] at hd
        replace HXr := hid1 (HXr.out.below hbl)
        replace HWr := hid1 (HWr.out.below hbl)
        replace HA := hid1 (keepr hbl HA.out)
        replace HB := hid1 (keepr hbl HB.out)
        replace RR := hid1 (keepr hbl RR.out)
        replace HC := hid1 (keepr hbl HC.out)
        replace BW := bl_step BW hbl
        have HE := hid1 hd
        clear hd hbl
        have l1 := RR.out.lt
        have c0 : w5.cell? ⟨w3.heap.size, 0, none⟩ = some (.int .i64 (k : Nat)) := q0 RR.out
        have c1 : w5.cell? ⟨w3.heap.size, 1, none⟩ = some (.slice (some ⟨g1, 0, none⟩) (nw k) (nw k)) := q1 RR.out
        have c3 : w5.cell? ⟨w3.heap.size, 2, none⟩ = some (.int .i64 (k : Nat)) := q2 RR.out
        have c4 : w5.cell? ⟨w3.heap.size, 3, none⟩ = some (.slice (some ⟨g2, 0, none⟩) (nw k) (nw k)) := q3 RR.out
        go_wp2_with fail
        refine gen_calls (fun W => Below w5.heap.size w5 W) (bl_alloc (Below.refl _ _) _) ?_
        intro W2 hbl
        replace HXr := hid1 (HXr.out.below hbl)
        replace HWr := hid1 (HWr.out.below hbl)
        replace HA := hid1 (keepr hbl HA.out)
        replace HB := hid1 (keepr hbl HB.out)
        replace RR := hid1 (keepr hbl RR.out)
        replace HC := hid1 (keepr hbl HC.out)
        replace HE := hid1 (keepr hbl HE.out)
        replace BW := bl_step BW hbl
        clear c0 c1 c3 c4 l1 hbl
        refine (signs_any (ob k g1 S) (ob k g2 M) (ob k g4 X) W2 (Rw.row HA.out lS.out n3) (Rw.row HB.out lM.out n3) (Rw.row HE.out lX.out n3)).mono ?_
        rintro e w6 ⟨rfl, hbl⟩
        obtain ⟨v1, v2⟩ := sg_ob (g1 := g1) (g2 := g2) (g := g4) n3 lS.out lM.out lX.out sSM.out
        have v3 : sm (fun i => wt S M i * xs1 X i) k = u1 := (sm_congr k fun i hi => by rw [WT.out i hi, XT.out i hi]; rfl).trans U1.out
        rw [v3] at v2
        rw [v1, v2]
        replace HXr := hid1 (HXr.out.below hbl)
        replace HWr := hid1 (HWr.out.below hbl)
        replace HA := hid1 (keepr hbl HA.out)
        replace HB := hid1 (keepr hbl HB.out)
        replace RR := hid1 (keepr hbl RR.out)
        replace HC := hid1 (keepr hbl HC.out)
        replace BW := bl_step BW hbl
        clear hbl v1 v2 v3 HE
        go_wp2_with fail
        refine (tame_any xl k LX.out bo c2 w6 (by omega) YX.out HXr.out).mono ?_
        rintro e w7 ⟨v, rfl, hown, hbl⟩
        have hown' : w7.ownsRow w6.heap.size 35 1 v (tml xl).length (i8s (tml xl)) := by rw [tml_len, LX.out]; exact hown
        obtain ⟨yo, yc, rfl, _, _, _, _, hr⟩ := r8_own hown'
        rw [tml_len, LX.out]
        replace HXr := hid1 (HXr.out.below hbl)
        replace HWr := hid1 (HWr.out.below hbl)
        replace HA := hid1 (keepr hbl HA.out)
        replace HB := hid1 (keepr hbl HB.out)
        replace RR := hid1 (keepr hbl RR.out)
        replace HC := hid1 (keepr hbl HC.out)
        replace BW := bl_step BW hbl
        have HY := hid1 hr
        have LY : Hid ((tml xl).length = k) := hid1 (by rw [tml_len, LX.out])
        have KY : Hid (Wok (tml xl) k) := hid1 (by have := wok_tml' (l := xl); rw [LX.out] at this; exact this)
        obtain ⟨S', eS'⟩ : ∃ x, pk (tml xl) k = x := ⟨_, rfl⟩
        obtain ⟨M', eM'⟩ : ∃ x, bn (nz (tml xl)) k = x := ⟨_, rfl⟩
        have lS' : Hid (S' < 2 ^ k) := hid1 (by rw [← eS']; exact pk_lt _ _)
        have lM' : Hid (M' < 2 ^ k) := hid1 (by rw [← eM']; exact bn_lt _ _)
        have sSM' : Hid (S' &&& M' = S') := hid1 (by rw [← eS', ← eM']; exact sub_pack _ _)
        have WT' : Hid (∀ i, i < k → wt S' M' i = (ia xl i).tmod 2) := hid1 (by rw [← eS', ← eM']; exact fun i hi => (wt_pack KY.out hi).trans (tml_ia (by rw [LX.out]; exact hi)))
        have ES' := hid1 eS'
        have EM' := hid1 eM'
        clear hown hown' hr hbl eS' eM'
        go_wp2_with fail
        refine (dpack_any (tml xl) k LY.out yo yc w7 n3 HY.out).mono ?_
        rintro e w8 (⟨_, g5, g6, rfl, _, _, ha, hb, hbl⟩ | ⟨hno, _⟩)
        · rw [ES'.out] at ha ⊢
          rw [EM'.out] at hb ⊢
          replace HXr := hid1 (HXr.out.below hbl)
          replace HWr := hid1 (HWr.out.below hbl)
          replace HA := hid1 (keepr hbl HA.out)
          replace HB := hid1 (keepr hbl HB.out)
          replace RR := hid1 (keepr hbl RR.out)
          replace HC := hid1 (keepr hbl HC.out)
          replace BW := bl_step BW hbl
          have HF := hid1 ha
          have HG := hid1 hb
          clear ha hb hbl HY
          have l1 := RR.out.lt
          have c0 : w8.cell? ⟨w3.heap.size, 0, none⟩ = some (.int .i64 (k : Nat)) := q0 RR.out
          have c1 : w8.cell? ⟨w3.heap.size, 1, none⟩ = some (.slice (some ⟨g1, 0, none⟩) (nw k) (nw k)) := q1 RR.out
          have c3 : w8.cell? ⟨w3.heap.size, 2, none⟩ = some (.int .i64 (k : Nat)) := q2 RR.out
          have c4 : w8.cell? ⟨w3.heap.size, 3, none⟩ = some (.slice (some ⟨g2, 0, none⟩) (nw k) (nw k)) := q3 RR.out
          go_wp2_with fail
          refine gen_calls (fun W => Below w8.heap.size w8 W) (bl_alloc (Below.refl _ _) _) ?_
          intro W3 hbl
          replace HXr := hid1 (HXr.out.below hbl)
          replace HWr := hid1 (HWr.out.below hbl)
          replace HA := hid1 (keepr hbl HA.out)
          replace HB := hid1 (keepr hbl HB.out)
          replace RR := hid1 (keepr hbl RR.out)
          replace HC := hid1 (keepr hbl HC.out)
          replace HF := hid1 (keepr hbl HF.out)
          replace HG := hid1 (keepr hbl HG.out)
          replace BW := bl_step BW hbl
          clear c0 c1 c3 c4 l1 hbl
          refine (some_any (ob k g1 S) (ob k g2 M) (ob k g5 S') (ob k g6 M') W3 (Rw.row HA.out lS.out n3) (Rw.row HB.out lM.out n3) (Rw.row HF.out lS'.out n3) (Rw.row HG.out lM'.out n3)).mono ?_
          rintro e w9 ⟨rfl, hbl⟩
          obtain ⟨v1, v2⟩ := so_ob (g1 := g1) (g2 := g2) (g3 := g5) (g4 := g6) n3 lS.out lM.out lS'.out lM'.out sSM.out sSM'.out
          have v3 : sm (fun i => wt S M i * wt S' M' i) k = u2 := (sm_congr k fun i hi => by rw [WT.out i hi, WT'.out i hi]; rfl).trans U2.out
          rw [v3] at v2
          rw [v1, v2]
          replace HXr := hid1 (HXr.out.below hbl)
          replace HWr := hid1 (HWr.out.below hbl)
          replace HA := hid1 (keepr hbl HA.out)
          replace HB := hid1 (keepr hbl HB.out)
          replace RR := hid1 (keepr hbl RR.out)
          replace HC := hid1 (keepr hbl HC.out)
          replace BW := bl_step BW hbl
          clear hbl v1 v2 v3 HF HG
          go_wp2_with fail
          refine (planes_any xl k LX.out bo c2 w9 n3 HXr.out).mono ?_
          rintro e w10 ⟨G, rfl, hG, _, hbl⟩
          replace HXr := hid1 (HXr.out.below hbl)
          replace HWr := hid1 (HWr.out.below hbl)
          replace HA := hid1 (keepr hbl HA.out)
          replace HB := hid1 (keepr hbl HB.out)
          replace RR := hid1 (keepr hbl RR.out)
          replace HC := hid1 (keepr hbl HC.out)
          replace BW := bl_step BW hbl
          have HG := hid1 (fun p hp => (hG p hp).2)
          clear hG hbl
          have l1 := RR.out.lt
          have c0 : w10.cell? ⟨w3.heap.size, 0, none⟩ = some (.int .i64 (k : Nat)) := q0 RR.out
          have c1 : w10.cell? ⟨w3.heap.size, 1, none⟩ = some (.slice (some ⟨g1, 0, none⟩) (nw k) (nw k)) := q1 RR.out
          have c3 : w10.cell? ⟨w3.heap.size, 2, none⟩ = some (.int .i64 (k : Nat)) := q2 RR.out
          have c4 : w10.cell? ⟨w3.heap.size, 3, none⟩ = some (.slice (some ⟨g2, 0, none⟩) (nw k) (nw k)) := q3 RR.out
          go_wp2_with fail
          refine gen_calls (fun W => Below w10.heap.size w10 W) (bl_alloc (Below.refl _ _) _) ?_
          intro W4 hbl
          replace HG := hid1 (fun p hp => keepr hbl (HG.out p hp))
          replace HXr := hid1 (HXr.out.below hbl)
          replace HWr := hid1 (HWr.out.below hbl)
          replace HA := hid1 (keepr hbl HA.out)
          replace HB := hid1 (keepr hbl HB.out)
          replace RR := hid1 (keepr hbl RR.out)
          replace HC := hid1 (keepr hbl HC.out)
          replace BW := bl_step BW hbl
          clear c0 c1 c3 c4 l1 hbl
          refine (numbers_any (ob k g1 S) (ob k g2 M) (fun p => ob k (G p) (bn (plb xl p) k)) W4 (HLD.out.on BW) (Rw.row HA.out lS.out n3) (Rw.row HB.out lM.out n3) (fun p hp => Rw.row (HG.out p hp) (bn_lt _ _) n3)).mono ?_
          rintro e w11 ⟨rfl, hbl⟩
          have v1 : nmE (ob k g1 S) (ob k g2 M) (fun p => ob k (G p) (bn (plb xl p) k)) = 0 := (nm_eq G (fun p => bn (plb xl p) k) HD.out rfl n3 (fun p => bn_lt _ _)).trans (if_pos rfl)
          have v2 : nmV (ob k g1 S) (ob k g2 M) (fun p => ob k (G p) (bn (plb xl p) k)) = npl S M (fun p => bn (plb xl p) k) k 8 := nm_val G (fun p => bn (plb xl p) k) HD.out rfl n3 (fun p => bn_lt _ _)
          have v3 : npl S M (fun p => bn (plb xl p) k) k 8 = u3 := (npl_is S M _ k 8).trans ((sm_congr k fun i hi => by rw [WT.out i hi, planes_num hi (KX.out i hi).1 (KX.out i hi).2]; rfl).trans U3.out)
          rw [v3] at v2
          rw [v1, v2]
          replace HXr := hid1 (HXr.out.below hbl)
          replace HWr := hid1 (HWr.out.below hbl)
          replace HC := hid1 (keepr hbl HC.out)
          replace BW := bl_step BW hbl
          clear hbl v1 v2 v3 HG HA HB RR HD
          go_wp2_with fail
          refine (sameSmall_true wl k LW.out _ uo k tc w11 (by omega) (r8_wc HC.out LW.out WT.out) HWr.out).mono ?_
          rintro e w12 ⟨rfl, hbl⟩
          replace BW := bl_step BW hbl
          clear HC HWr HXr hbl
          go_wp2_with fail
          go_ret
          exact ⟨rfl, BW⟩
        · exact absurd KY.out hno
      · exact absurd KW.out hno
end Go.Proofs.YtgkfdgdemodgiaaDoor
