/- DotParts. -/
import Derived.Test.YtgkfdgdemodgiaaDoorDC1
import Derived.Test.YtgkfdgdemodgiaaDoorBW8
namespace Go.Proofs.YtgkfdgdemodgiaaDoor
open Go.RowKit

theorem sm_shift (f : Nat → Int) (a : Nat) : ∀ b, sm f (a + b) = sm f a + sm (fun i => f (a + i)) b
  | 0 => by simp [sm]
  | b + 1 => by
    rw [show a + (b + 1) = (a + b) + 1 by omega]
    simp only [sm]
    rw [sm_shift f a b]
    omega
theorem sm_neg (f : Nat → Int) : ∀ n, sm (fun i => -f i) n = -sm f n
  | 0 => rfl
  | n + 1 => by simp only [sm]; rw [sm_neg f n]; omega
/-- Each weight the opposite. -/
def ngl (l : List Int) : List Int := l.map fun x => -x
theorem ngl_len (l : List Int) : (ngl l).length = l.length := by simp [ngl]
theorem ngl_ia {l : List Int} {k : Nat} (h : k < l.length) : ia (ngl l) k = -ia l k := by
  unfold ia ngl
  simp [List.getD, h]
theorem ngl_take {l : List Int} {k : Nat} (h : k < l.length) : (ngl l).take (k + 1) = (ngl l).take k ++ [-ia l k] := by
  rw [ia_snoc (by rw [ngl_len]; exact h), ngl_ia h]
theorem ia_drop (l : List Int) (c i : Nat) : ia (l.drop c) i = ia l (c + i) := by
  unfold ia
  rw [List.getD_eq_getElem?_getD, List.getD_eq_getElem?_getD, List.getElem?_drop]
theorem xs_sl {N a b i : Nat} (h : i < b - a) : xs1 (sl N a b) i = xs1 N (a + i) := by
  unfold xs1
  rw [sl_bit]
  simp [h]
theorem xs_nt {n N i : Nat} (hN : N < 2 ^ n) (h : i < n) : xs1 (nt n N) i = -xs1 N i := by
  unfold xs1
  rw [nt_bit hN]
  cases N.testBit i <;> simp [h]
theorem r8_drop {w : World} {g o : Nat} {l : List Int} (h : R8 w (some ⟨g, o, none⟩) l) (c : Nat) : R8 w (some ⟨g, o + c, none⟩) (l.drop c) := by
  intro k hk
  have hk' : c + k < l.length := by simp at hk; omega
  obtain ⟨g', o', e, cc⟩ := h (c + k) hk'
  injection e with e
  injection e with e1 e2
  subst e1 e2
  exact ⟨g, o + c, rfl, by rw [ia_drop, Nat.add_assoc]; exact cc⟩
theorem slice_zero (n N b g : Nat) (cap : Nat) (w : World) (h1 : n ≤ 16777216) (hN : N < 2 ^ n) (h : w.rowIs g 69 (nw n) (wf N)) (hbn : b ≤ n) :
    Calls Tryd.prog 21 #[rv n (some ⟨g, 0, none⟩) (nw n) cap, .int .i64 0, .int .i64 b] w fun e w' => ∃ g', e = .returned (.tuple #[(ob b g' (sl N 0 b)).v, .int .i64 0]) ∧ w'.rowIs g' 69 (nw b) (wf (sl N 0 b)) ∧ Below w.heap.size w w' := by
  refine (slice_any n N 0 b _ cap w h1 hN (Rd.row h (lt_nw hN)) (Nat.zero_le _) hbn).mono ?_
  rintro e w' ⟨g', rfl, _, h2, h3⟩
  rw [Nat.sub_zero] at h2 ⊢
  exact ⟨g', rfl, h2, h3⟩
theorem slice_end (n N a r g : Nat) (cap : Nat) (w : World) (h1 : n ≤ 16777216) (hN : N < 2 ^ n) (h : w.rowIs g 69 (nw n) (wf N)) (ha : a ≤ n) (hr : n - a = r) :
    Calls Tryd.prog 21 #[rv n (some ⟨g, 0, none⟩) (nw n) cap, .int .i64 a, .int .i64 n] w fun e w' => ∃ g', e = .returned (.tuple #[(ob r g' (sl N a n)).v, .int .i64 0]) ∧ w'.rowIs g' 69 (nw r) (wf (sl N a n)) ∧ Below w.heap.size w w' := by
  subst hr
  refine (slice_any n N a n _ cap w h1 hN (Rd.row h (lt_nw hN)) ha (Nat.le_refl _)).mono ?_
  rintro e w' ⟨g', rfl, _, h2, h3⟩
  exact ⟨g', rfl, h2, h3⟩
theorem sb_new (w : World) (n g : Nat) (t : TypeId) : (w.alloc (.cells #[.int .i64 n, .slice (some ⟨g, 0, none⟩) (nw n) (nw n)] t)).rowIs w.heap.size t 2 (sf n (some ⟨g, 0, none⟩) (nw n) (nw n)) := row_new w n _ _ _ t
theorem one_bd (S M X i : Nat) : -1 ≤ wt S M i * xs1 X i ∧ wt S M i * xs1 X i ≤ 1 := by
  unfold wt xs1
  cases M.testBit i <;> cases S.testBit i <;> cases X.testBit i <;> decide
theorem rd_row {w : World} {g n N : Nat} (h : w.rowIs g 69 (nw n) (wf N)) (hN : N < 2 ^ n) : Rd w (some ⟨g, 0, none⟩) (nw n) N := Rd.row h (lt_nw hN)

set_option maxHeartbeats 3200000 in
set_option maxRecDepth 100000 in
theorem parts_any (ao : Option Addr) (l1 : List Int) (c1 : Nat) (h1 : l1.length ≤ c1) (s1 : c1 ≤ 140737488351232) (y1 : ∀ y ∈ l1, -128 ≤ y ∧ y ≤ 127) (bo : Option Addr) (l2 : List Int) (c2 : Nat) (h2 : l2.length ≤ c2) (s2 : c2 ≤ 140737488351232) (y2 : ∀ y ∈ l2, -128 ≤ y ∧ y ≤ 127) (cu : Int) (w : World) (LD : LaidP w) (r1 : R8 w ao l1) (_ : ao = none → c1 = 0) (r2 : R8 w bo l2) (z2 : bo = none → c2 = 0) :
    Calls Tryd.prog 5 #[.slice ao l1.length c1, .slice bo l2.length c2, .int .i64 cu] w fun e w' => e = .returned (.bool true) ∧ Below w.heap.size w w' := by
  have R1 := hid1 r1
  have R2 := hid1 r2
  have Y1 := hid1 y1
  have Y2 := hid1 y2
  have HLD := hid1 LD
  obtain ⟨N1, e1⟩ : ∃ N, l1.length = N := ⟨_, rfl⟩
  obtain ⟨N2, e2⟩ : ∃ N, l2.length = N := ⟨_, rfl⟩
  rw [e1] at h1
  rw [e2] at h2
  rw [e1, e2]
  have E1 := hid1 e1
  have E2 := hid1 e2
  clear r1 r2 y1 y2 LD e1 e2
  go_enter Tryd.func5, Tryd.ntmps5
  go_wp2_with fail
  refine (dbegun_any w HLD.out).mono ?_
  rintro e w0 ⟨rfl, B0⟩
  go_wp2_with fail
  refine (tame_any l1 N1 E1.out ao c1 w0 (by omega) Y1.out (R1.out.below B0)).mono ?_
  rintro e w1 ⟨v, rfl, hown, hb1⟩
  have hown' : w1.ownsRow w0.heap.size 35 1 v (tml l1).length (i8s (tml l1)) := by rw [tml_len, E1.out]; exact hown
  obtain ⟨uo, tc, rfl, t1, t2, t3, t4, hr⟩ := r8_own hown'
  rw [tml_len, E1.out] at t1 t3
  have hmx : maxLen = 9223372036854775807 := by decide
  rw [hmx] at t2
  clear hmx
  replace B0 := bl_step B0 hb1
  have HT := hid1 hr
  clear hown hown' hr hb1
  rw [tml_len, E1.out]
  go_wp2_with fail
  obtain ⟨n, hn⟩ : ∃ n, n = min (min N1 N2) 16777216 := ⟨_, rfl⟩
  refine (even_any uo bo N1 tc N2 c2 n w1 t1 h2 t2 (by omega) (fun h => (t3 h).2) z2 hn).mono ?_
  rintro e w2 ⟨rfl, hb2⟩
  replace B0 := bl_step B0 hb2
  have n3 : n ≤ 16777216 := by omega
  have ntc : n ≤ tc := by omega
  obtain ⟨wl, ewl⟩ : ∃ x, (tml l1).take n = x := ⟨_, rfl⟩
  obtain ⟨xl, exl⟩ : ∃ x, l2.take n = x := ⟨_, rfl⟩
  have LW : Hid (wl.length = n) := hid1 (by rw [← ewl, List.length_take, tml_len, E1.out]; omega)
  have LX : Hid (xl.length = n) := hid1 (by rw [← exl, List.length_take, E2.out]; omega)
  have HW : Hid (R8 w2 uo wl) := hid1 (by rw [← ewl]; exact r8_take (HT.out.below hb2) n)
  have HX : Hid (R8 w2 bo xl) := hid1 (by rw [← exl]; exact r8_take (R2.out.below B0) n)
  have KW : Hid (Wok wl n) := hid1 (by rw [← ewl]; exact wok_tml (by rw [E1.out]; omega))
  have zt : Hid (uo = none → tc = 0 ∧ n = 0) := hid1 (fun h => by have := t3 h; omega)
  have T4 := hid1 t4
  clear ewl exl hn hb2 HT R1 R2 Y1 Y2 E1 E2 t3 h1 h2 t4
  obtain ⟨cut, bb, hcut0, hcc, hcd⟩ : ∃ (cut : Nat) (bb : Bool), cut ≤ n ∧ ((cu < 0 ∧ bb = true) ∨ (0 ≤ cu ∧ (n : Int) < cu ∧ bb = true) ∨ (0 ≤ cu ∧ cu ≤ n ∧ bb = false)) ∧ ((bb = true ∧ (n : Int) / 2 = (cut : Int)) ∨ (bb = false ∧ cu = (cut : Int))) := by
    by_cases ha : cu < 0
    · exact ⟨n / 2, true, by omega, .inl ⟨ha, rfl⟩, .inl ⟨rfl, by omega⟩⟩
    · by_cases hb : (n : Int) < cu
      · exact ⟨n / 2, true, by omega, .inr (.inl ⟨by omega, hb, rfl⟩), .inl ⟨rfl, by omega⟩⟩
      · exact ⟨cu.toNat, false, by omega, .inr (.inr ⟨by omega, by omega, rfl⟩), .inr ⟨rfl, by omega⟩⟩
  have HC0 := hid1 hcc
  have HC1 := hid1 hcd
  clear hcc hcd
  go_upto_region 6 with fail
  go_cut [52] (fun s wx => s = .bool bb ∧ wx = w2)
  case first =>
    rcases HC0.out with ⟨ha, rfl⟩ | ⟨ha, hb, rfl⟩ | ⟨ha, hb, rfl⟩
    all_goals
      go_wp2_with fail
      go_meet
      first | exact ⟨rfl, rfl⟩ | exact ⟨by simp; omega, rfl⟩
  case rest =>
    obtain ⟨rfl, rfl⟩ := hcut
    clear HC0
    go_upto_if 52 with fail
    go_cut [2] (fun s wx => s = .int .i64 (cut : Nat) ∧ wx = wc)
    case first =>
      rcases HC1.out with ⟨rfl, hq⟩ | ⟨rfl, hq⟩
      all_goals
        go_wp2_with fail
        go_meet
        first | exact ⟨rfl, rfl⟩ | exact ⟨by rw [hq], rfl⟩
    case rest =>
      obtain ⟨rfl, rfl⟩ := hcut
      clear HC1
      have in3 : (n : Int) ≤ 16777216 := by omega
      go_wp2_with fail
      go_loopw [11, 12] (fun v i wr => ∃ (u : Value) (k : Nat), k ≤ n ∧ v = u ∧ i = .int .i64 k ∧ wr.ownsRow wc.heap.size 35 1 u k (i8s ((ngl wl).take k)) ∧ Below wc.heap.size wc wr) (fun _ i _ => n - (intOf i).toNat)
      case atStart => exact ⟨_, 0, Nat.zero_le _, rfl, rfl, World.ownsRow_nil _ _ _ _, Below.refl _ _⟩
      case round =>
        obtain ⟨v, k, hk, ev, rfl, hown, hnx⟩ := hrel
        replace ev := ev.symm
        subst ev
        by_cases hlt : k < n
        · obtain ⟨ga, oa, rfl, c8⟩ := HW.out k (by have := LW.out; omega)
          replace c8 := keepc hnx c8
          have ik : (k : Int) < (n : Int) := by omega
          have ik0 : (0 : Int) ≤ (k : Int) := by omega
          have hb := KW.out k hlt
          have HT := hid1 (ngl_take (l := wl) (k := k) (by have := LW.out; omega))
          have hlen : ((ngl wl).take k).length = k := by rw [List.length_take, ngl_len, LW.out]; omega
          have HO : Hid (wr.ownsRow wc.heap.size 35 1 v ((ngl wl).take k).length (i8s ((ngl wl).take k))) := hid1 (by rw [hlen]; exact hown)
          have HLE := hid1 hlen
          generalize ia wl k = x at *
          clear hown hlen
          go_wp2_with (at_builtin; refine app_one rfl _ _ rfl wc.heap.size v ((ngl wl).take k) (by go_simp) (HO.out.alloc _) wr.heap.size (-x) 1 (by go_simp) (by simp [go_sem]) (by rw [HLE.out]; omega) (by have := hnx.size; simp; omega) ?_; intro v' w' hown hgrow)
          have B1 : Below wc.heap.size wc w' := (bl_alloc hnx _).grown hgrow (by have := hnx.size; simp; omega) (fun q hq => (HO.out.lt q hq).1)
          rw [HLE.out, ← HT.out] at hown
          exact ⟨⟨v', k + 1, by omega, rfl, by go_num, hown, B1⟩, by simp [intOf]; omega⟩
        · have hkN : k = n := by omega
          subst hkN
          have e : (ngl wl).take k = ngl wl := List.take_of_length_le (by rw [ngl_len, LW.out]; exact Nat.le_refl _)
          rw [e] at hown
          have hown' : wr.ownsRow wc.heap.size 35 1 v (ngl wl).length (i8s (ngl wl)) := by rw [ngl_len, LW.out]; exact hown
          obtain ⟨yo, yc, rfl, _, _, _, _, hr⟩ := r8_own hown'
          rw [ngl_len, LW.out]
          have BW := bl_step B0 hnx
          have HWr := hid1 (HW.out.below hnx)
          have HXr := hid1 (HX.out.below hnx)
          have HNr := hid1 hr
          have LN : Hid ((ngl wl).length = k) := hid1 (by rw [ngl_len, LW.out])
          have KN : Hid (Wok (ngl wl) k) := fun i hi => by rw [ngl_ia (by rw [LW.out]; exact hi)]; have := KW.out i hi; omega
          clear hown hown' hr e HW HX B0 hnx
          rename World => W0
          obtain ⟨S, eS⟩ : ∃ x, pk wl k = x := ⟨_, rfl⟩
          obtain ⟨M, eM⟩ : ∃ x, bn (nz wl) k = x := ⟨_, rfl⟩
          obtain ⟨X, eX⟩ : ∃ x, pk xl k = x := ⟨_, rfl⟩
          have lS : Hid (S < 2 ^ k) := hid1 (by rw [← eS]; exact pk_lt _ _)
          have lM : Hid (M < 2 ^ k) := hid1 (by rw [← eM]; exact bn_lt _ _)
          have lX : Hid (X < 2 ^ k) := hid1 (by rw [← eX]; exact pk_lt _ _)
          have sSM : Hid (S &&& M = S) := hid1 (by rw [← eS, ← eM]; exact sub_pack _ _)
          have WT : Hid (∀ i, i < k → wt S M i = ia wl i) := hid1 (by rw [← eS, ← eM]; exact fun i hi => wt_pack KW.out hi)
          have ES := hid1 eS
          have EM := hid1 eM
          have EX := hid1 eX
          obtain ⟨S2, eS2⟩ : ∃ x, pk (ngl wl) k = x := ⟨_, rfl⟩
          obtain ⟨M2, eM2⟩ : ∃ x, bn (nz (ngl wl)) k = x := ⟨_, rfl⟩
          have lS2 : Hid (S2 < 2 ^ k) := hid1 (by rw [← eS2]; exact pk_lt _ _)
          have lM2 : Hid (M2 < 2 ^ k) := hid1 (by rw [← eM2]; exact bn_lt _ _)
          have sSM2 : Hid (S2 &&& M2 = S2) := hid1 (by rw [← eS2, ← eM2]; exact sub_pack _ _)
          have WT2 : Hid (∀ i, i < k → wt S2 M2 i = -ia wl i) := hid1 (by rw [← eS2, ← eM2]; exact fun i hi => (wt_pack KN.out hi).trans (ngl_ia (by rw [LW.out]; exact hi)))
          have ES2 := hid1 eS2
          have EM2 := hid1 eM2
          have L3 : Hid ((wl.take cut).length = cut) := hid1 (by rw [List.length_take, LW.out]; omega)
          have K3 : Hid (Wok (wl.take cut) cut) := fun i hi => by rw [ia_take hi]; exact KW.out i (by omega)
          obtain ⟨S3, eS3⟩ : ∃ x, pk (wl.take cut) cut = x := ⟨_, rfl⟩
          obtain ⟨M3, eM3⟩ : ∃ x, bn (nz (wl.take cut)) cut = x := ⟨_, rfl⟩
          have lS3 : Hid (S3 < 2 ^ cut) := hid1 (by rw [← eS3]; exact pk_lt _ _)
          have lM3 : Hid (M3 < 2 ^ cut) := hid1 (by rw [← eM3]; exact bn_lt _ _)
          have sSM3 : Hid (S3 &&& M3 = S3) := hid1 (by rw [← eS3, ← eM3]; exact sub_pack _ _)
          have WT3 : Hid (∀ i, i < cut → wt S3 M3 i = ia wl i) := hid1 (by rw [← eS3, ← eM3]; exact fun i hi => (wt_pack K3.out hi).trans (ia_take hi))
          have ES3 := hid1 eS3
          have EM3 := hid1 eM3
          obtain ⟨r, hr0⟩ : ∃ r, k - cut = r := ⟨_, rfl⟩
          have L4 : Hid ((wl.drop cut).length = r) := hid1 (by rw [List.length_drop, LW.out]; omega)
          have K4 : Hid (Wok (wl.drop cut) r) := fun i hi => by rw [ia_drop]; exact KW.out (cut + i) (by omega)
          obtain ⟨S4, eS4⟩ : ∃ x, pk (wl.drop cut) r = x := ⟨_, rfl⟩
          obtain ⟨M4, eM4⟩ : ∃ x, bn (nz (wl.drop cut)) r = x := ⟨_, rfl⟩
          have lS4 : Hid (S4 < 2 ^ r) := hid1 (by rw [← eS4]; exact pk_lt _ _)
          have lM4 : Hid (M4 < 2 ^ r) := hid1 (by rw [← eM4]; exact bn_lt _ _)
          have sSM4 : Hid (S4 &&& M4 = S4) := hid1 (by rw [← eS4, ← eM4]; exact sub_pack _ _)
          have WT4 : Hid (∀ i, i < r → wt S4 M4 i = ia wl (cut + i)) := hid1 (by rw [← eS4, ← eM4]; exact fun i hi => (wt_pack K4.out hi).trans (ia_drop _ _ _))
          have ES4 := hid1 eS4
          have EM4 := hid1 eM4
          have HRC := hid1 hr0
          have n4 : cut ≤ 16777216 := by omega
          have n5 : r ≤ 16777216 := by omega
          have hbd := nw_bd n3
          have icut : (cut : Int) ≤ (k : Int) := by omega
          have icut0 : (0 : Int) ≤ (cut : Int) := by omega
          have icut1 : (cut : Int) ≤ (tc : Int) := by omega
          have icut2 : cut ≤ tc := by omega
          clear eS eM eX eS2 eM2 eS3 eM3 eS4 eM4 hr0
          obtain ⟨u2, c4v, SB⟩ : ∃ (u2 : Option Addr) (c4v : Nat), Hid ((∀ Y, R8 Y uo wl → R8 Y u2 (wl.drop cut)) ∧ ((uo = none ∧ k = 0 ∧ tc = 0 ∧ u2 = none ∧ c4v = 0) ∨ (∃ g, uo = some ⟨g, 0, none⟩ ∧ tc = cut ∧ c4v = 0 ∧ u2 = some ⟨g, 0, none⟩) ∨ (∃ g, uo = some ⟨g, 0, none⟩ ∧ cut < tc ∧ c4v = tc - cut ∧ u2 = some ⟨g, cut, none⟩))) := by
            rcases uo with _ | a
            · obtain ⟨h0, h00⟩ := zt.out rfl
              exact ⟨none, 0, fun Y _ i hi => absurd hi (by rw [L4.out]; have := HRC.out; omega), .inl ⟨rfl, h00, h0, rfl, rfl⟩⟩
            · obtain ⟨g, rfl⟩ := T4.out a rfl
              by_cases ht : tc = cut
              · exact ⟨some ⟨g, 0, none⟩, 0, fun Y _ i hi => absurd hi (by rw [L4.out]; have := HRC.out; omega), .inr (.inl ⟨g, rfl, ht, rfl, rfl⟩)⟩
              · exact ⟨some ⟨g, cut, none⟩, tc - cut, fun Y hY => by have := r8_drop hY cut; rw [Nat.zero_add] at this; exact this, .inr (.inr ⟨g, rfl, by omega, rfl, rfl⟩)⟩
          go_wp2_with fail
          refine (dpack_any wl k LW.out uo tc W0 n3 HWr.out).mono ?_
          rintro e w3 (⟨_, g1, g2, rfl, _, _, ha, hb, hbl⟩ | ⟨hno, _⟩)
          · rw [ES.out] at ha ⊢
            rw [EM.out] at hb ⊢
            replace HXr := hid1 (HXr.out.below hbl)
            replace HWr := hid1 (HWr.out.below hbl)
            replace HNr := hid1 (HNr.out.below hbl)
            replace BW := bl_step BW hbl
            have HA := hid1 ha
            have HB := hid1 hb
            clear ha hb hbl
            go_wp2_with fail
            refine gen_calls (fun W => Below w3.heap.size w3 W ∧ W.rowIs w3.heap.size 26 4 (qf (ob k g1 S) (ob k g2 M))) ⟨bl_alloc (Below.refl _ _) _, q_new w3 (ob k g1 S) (ob k g2 M) _⟩ ?_
            rintro W1 ⟨hbl, rr⟩
            replace HXr := hid1 (HXr.out.below hbl)
            replace HWr := hid1 (HWr.out.below hbl)
            replace HNr := hid1 (HNr.out.below hbl)
            replace HA := hid1 (keepr hbl HA.out)
            replace HB := hid1 (keepr hbl HB.out)
            replace BW := bl_step BW hbl
            have RA := hid1 rr
            clear rr hbl
            refine (dpack_any (ngl wl) k LN.out yo yc W1 n3 HNr.out).mono ?_
            rintro e w4 (⟨_, g3, g4, rfl, _, _, ha, hb, hbl⟩ | ⟨hno, _⟩)
            · rw [ES2.out] at ha ⊢
              rw [EM2.out] at hb ⊢
              replace HXr := hid1 (HXr.out.below hbl)
              replace HWr := hid1 (HWr.out.below hbl)
              replace HA := hid1 (keepr hbl HA.out)
              replace HB := hid1 (keepr hbl HB.out)
              replace RA := hid1 (keepr hbl RA.out)
              replace BW := bl_step BW hbl
              have HC := hid1 ha
              have HD := hid1 hb
              clear ha hb hbl HNr
              go_upto_region 15 with fail
              refine gen_world (fun W => Below w4.heap.size w4 W ∧ W.rowIs w4.heap.size 26 4 (qf (ob k g3 S2) (ob k g4 M2))) ⟨bl_alloc (Below.refl _ _) _, q_new w4 (ob k g3 S2) (ob k g4 M2) _⟩ ?_
              rintro W2 ⟨hbl, rr⟩
              replace HXr := hid1 (HXr.out.below hbl)
              replace HWr := hid1 (HWr.out.below hbl)
              replace HA := hid1 (keepr hbl HA.out)
              replace HB := hid1 (keepr hbl HB.out)
              replace RA := hid1 (keepr hbl RA.out)
              replace HC := hid1 (keepr hbl HC.out)
              replace HD := hid1 (keepr hbl HD.out)
              replace BW := bl_step BW hbl
              have RB := hid1 rr
              clear rr hbl
              go_cut [17, 18] (fun p e wx => ∃ b g5 g6, p = .pointer (some ⟨b, 0, none⟩) ∧ e = .int .i64 0 ∧ Below W2.heap.size W2 wx ∧ wx.rowIs b 26 4 (qf (ob cut g5 S3) (ob cut g6 M3)) ∧ wx.rowIs g5 69 (nw cut) (wf S3) ∧ wx.rowIs g6 69 (nw cut) (wf M3))
              case first =>
                obtain ⟨_, hsb⟩ := SB.out
                have PK : Hid (∀ Y, Below W2.heap.size W2 Y → Calls Tryd.prog 17 #[.slice uo cut tc] Y fun e w' => ∃ g1 g2, e = .returned (.tuple #[rwv (ob cut g1 S3) (ob cut g2 M3), .int .i64 0]) ∧ w'.rowIs g1 69 (nw cut) (wf S3) ∧ w'.rowIs g2 69 (nw cut) (wf M3) ∧ Below Y.heap.size Y w') := fun Y hY => (dpack_any (wl.take cut) cut L3.out uo tc Y n4 (r8_take (HWr.out.below hY) cut)).mono (by
                  rintro e w' (⟨_, g1, g2, rfl, _, _, ha, hb, hbl⟩ | ⟨hno, _⟩)
                  · rw [ES3.out] at ha ⊢
                    rw [EM3.out] at hb ⊢
                    exact ⟨g1, g2, rfl, ha, hb, hbl⟩
                  · exact absurd K3.out hno)
                have hsc : (uo = none ∧ k = 0 ∧ tc = 0) ∨ ∃ g, uo = some ⟨g, 0, none⟩ := by
                  rcases hsb with ⟨h, h', h'', _⟩ | ⟨g, h, _⟩ | ⟨g, h, _⟩
                  · exact .inl ⟨h, h', h''⟩
                  · exact .inr ⟨g, h⟩
                  · exact .inr ⟨g, h⟩
                clear hsb
                rcases hsc with ⟨rfl, hk0, htc⟩ | ⟨g, rfl⟩
                · have hc0 : cut = 0 := by omega
                  subst hk0 htc hc0
                  go_wp2_with fail
                  refine (PK.out _ (Below.refl _ _)).mono ?_
                  rintro e w5 ⟨g5, g6, rfl, ha, hb, hbl⟩
                  go_wp2_with fail
                  go_meet
                  exact ⟨_, g5, g6, rfl, rfl, bl_alloc hbl _, q_new w5 (ob 0 g5 S3) (ob 0 g6 M3) _, ha.alloc _, hb.alloc _⟩
                · go_wp2_with fail
                  refine (PK.out _ (Below.refl _ _)).mono ?_
                  rintro e w5 ⟨g5, g6, rfl, ha, hb, hbl⟩
                  go_wp2_with fail
                  go_meet
                  exact ⟨_, g5, g6, rfl, rfl, bl_alloc hbl _, q_new w5 (ob cut g5 S3) (ob cut g6 M3) _, ha.alloc _, hb.alloc _⟩
              case rest =>
                obtain ⟨b3, g5, g6, rfl, rfl, hbl, rr, ha, hb⟩ := hcut
                replace HXr := hid1 (HXr.out.below hbl)
                replace HWr := hid1 (HWr.out.below hbl)
                replace HA := hid1 (keepr hbl HA.out)
                replace HB := hid1 (keepr hbl HB.out)
                replace RA := hid1 (keepr hbl RA.out)
                replace HC := hid1 (keepr hbl HC.out)
                replace HD := hid1 (keepr hbl HD.out)
                replace RB := hid1 (keepr hbl RB.out)
                replace BW := bl_step BW hbl
                have RC := hid1 rr
                have HE := hid1 ha
                have HF := hid1 hb
                clear rr ha hb hbl
                go_upto_region 16 with fail
                go_cut [19, 20] (fun p e wx => ∃ b g7 g8, p = .pointer (some ⟨b, 0, none⟩) ∧ e = .int .i64 0 ∧ Below wc.heap.size wc wx ∧ wx.rowIs b 26 4 (qf (ob r g7 S4) (ob r g8 M4)) ∧ wx.rowIs g7 69 (nw r) (wf S4) ∧ wx.rowIs g8 69 (nw r) (wf M4))
                case first =>
                  obtain ⟨hsd, hsb⟩ := SB.out
                  have PK : Hid (∀ Y, Below wc.heap.size wc Y → Calls Tryd.prog 17 #[.slice u2 r c4v] Y fun e w' => ∃ g1 g2, e = .returned (.tuple #[rwv (ob r g1 S4) (ob r g2 M4), .int .i64 0]) ∧ w'.rowIs g1 69 (nw r) (wf S4) ∧ w'.rowIs g2 69 (nw r) (wf M4) ∧ Below Y.heap.size Y w') := fun Y hY => (dpack_any (wl.drop cut) r L4.out u2 c4v Y n5 (hsd Y (HWr.out.below hY))).mono (by
                    rintro e w' (⟨_, g1, g2, rfl, _, _, ha, hb, hbl⟩ | ⟨hno, _⟩)
                    · rw [ES4.out] at ha ⊢
                      rw [EM4.out] at hb ⊢
                      exact ⟨g1, g2, rfl, ha, hb, hbl⟩
                    · exact absurd K4.out hno)
                  have hrk := HRC.out
                  clear hsd
                  rcases hsb with ⟨rfl, hk0, htc, rfl, rfl⟩ | ⟨g, rfl, htc, rfl, rfl⟩ | ⟨g, rfl, htc, rfl, rfl⟩
                  · have hc0 : cut = 0 := by omega
                    have hr0 : r = 0 := by omega
                    clear hrk
                    subst hk0 htc hc0 hr0
                    go_wp2_with fail
                    refine (PK.out _ (Below.refl _ _)).mono ?_
                    rintro e w5 ⟨g7, g8, rfl, ha, hb, hbl⟩
                    go_wp2_with fail
                    go_meet
                    exact ⟨_, g7, g8, rfl, rfl, bl_alloc hbl _, q_new w5 (ob 0 g7 S4) (ob 0 g8 M4) _, ha.alloc _, hb.alloc _⟩
                  · have hk1 : k = cut := by omega
                    have hr0 : r = 0 := by omega
                    clear hrk
                    subst htc hk1 hr0
                    go_wp2_with fail
                    refine (PK.out _ (Below.refl _ _)).mono ?_
                    rintro e w5 ⟨g7, g8, rfl, ha, hb, hbl⟩
                    go_wp2_with fail
                    go_meet
                    exact ⟨_, g7, g8, rfl, rfl, bl_alloc hbl _, q_new w5 (ob 0 g7 S4) (ob 0 g8 M4) _, ha.alloc _, hb.alloc _⟩
                  · clear hrk
                    go_wp2_with fail
                    rw [HRC.out]
                    refine (PK.out _ (Below.refl _ _)).mono ?_
                    rintro e w5 ⟨g7, g8, rfl, ha, hb, hbl⟩
                    go_wp2_with fail
                    go_meet
                    exact ⟨_, g7, g8, rfl, rfl, bl_alloc hbl _, q_new w5 (ob r g7 S4) (ob r g8 M4) _, ha.alloc _, hb.alloc _⟩
                case rest =>
                  obtain ⟨b4, g7, g8, rfl, rfl, hbl, rr, ha, hb⟩ := hcut
                  replace HXr := hid1 (HXr.out.below hbl)
                  replace HA := hid1 (keepr hbl HA.out)
                  replace HB := hid1 (keepr hbl HB.out)
                  replace RA := hid1 (keepr hbl RA.out)
                  replace HC := hid1 (keepr hbl HC.out)
                  replace HD := hid1 (keepr hbl HD.out)
                  replace RB := hid1 (keepr hbl RB.out)
                  replace RC := hid1 (keepr hbl RC.out)
                  replace HE := hid1 (keepr hbl HE.out)
                  replace HF := hid1 (keepr hbl HF.out)
                  replace BW := bl_step BW hbl
                  have RD := hid1 rr
                  have HG := hid1 ha
                  have HH := hid1 hb
                  clear rr ha hb hbl SB HWr
                  obtain ⟨uc, euc⟩ : ∃ x, sm (fun i => ia wl i * xs1 X i) cut = x := ⟨_, rfl⟩
                  obtain ⟨ud, eud⟩ : ∃ x, sm (fun i => ia wl (cut + i) * xs1 X (cut + i)) r = x := ⟨_, rfl⟩
                  have VA : Hid (sm (fun i => wt S M i * xs1 X i) k = uc + ud) := hid1 (by
                    have h := sm_shift (fun i => ia wl i * xs1 X i) cut r
                    rw [euc, eud, show cut + r = k by have := HRC.out; omega] at h
                    exact (sm_congr k fun i hi => by rw [WT.out i hi]).trans h)
                  have VC : Hid (sm (fun i => wt S3 M3 i * xs1 (sl X 0 cut) i) cut = uc) := hid1 ((sm_congr cut fun i hi => by rw [WT3.out i hi, xs_sl (by omega), Nat.zero_add]).trans euc)
                  have VD : Hid (sm (fun i => wt S4 M4 i * xs1 (sl X cut k) i) r = ud) := hid1 ((sm_congr r fun i hi => by rw [WT4.out i hi, xs_sl (by have := HRC.out; omega)]).trans eud)
                  have VF : Hid (sm (fun i => wt S2 M2 i * xs1 X i) k = -(uc + ud)) := hid1 ((sm_congr k fun i hi => by rw [WT2.out i hi, ← WT.out i hi, Int.neg_mul]).trans ((sm_neg _ k).trans (by rw [VA.out])))
                  have VG : Hid (sm (fun i => wt S M i * xs1 (nt k X) i) k = -(uc + ud)) := hid1 ((sm_congr k fun i hi => by rw [xs_nt lX.out hi, Int.mul_neg]).trans ((sm_neg _ k).trans (by rw [VA.out])))
                  have bc := sm_bd (K := 1) cut fun i _ => one_bd S3 M3 (sl X 0 cut) i
                  have bd := sm_bd (K := 1) r fun i _ => one_bd S4 M4 (sl X cut k) i
                  rw [VC.out] at bc
                  rw [VD.out] at bd
                  have in5 : (r : Int) ≤ 16777216 := by omega
                  have in4 : (cut : Int) ≤ 16777216 := by omega
                  have lP : Hid (sl X 0 cut < 2 ^ cut) := hid1 (by have := sl_lt X 0 cut; rw [Nat.sub_zero] at this; exact this)
                  have lQ : Hid (sl X cut k < 2 ^ r) := hid1 (by have := sl_lt X cut k; rw [HRC.out] at this; exact this)
                  have lN : Hid (nt k X < 2 ^ k) := hid1 (nt_lt k X)
                  have bc2 : -16777216 ≤ uc ∧ uc ≤ 16777216 := by omega
                  have bd2 : -16777216 ≤ ud ∧ ud ≤ 16777216 := by omega
                  clear euc eud bc bd LW LN KN KW L3 K3 L4 K4 ES EM ES2 EM2 ES3 EM3 ES4 EM4 zt T4
                  go_wp2_with fail
                  refine (pack_any xl k LX.out bo c2 _ n3 HXr.out).mono ?_
                  rintro e w5 ⟨g9, rfl, _, hx, hbl⟩
                  rw [EX.out] at hx
                  clear HXr
                  replace HA := hid1 (keepr hbl HA.out)
                  replace HB := hid1 (keepr hbl HB.out)
                  replace RA := hid1 (keepr hbl RA.out)
                  replace HC := hid1 (keepr hbl HC.out)
                  replace HD := hid1 (keepr hbl HD.out)
                  replace RB := hid1 (keepr hbl RB.out)
                  replace RC := hid1 (keepr hbl RC.out)
                  replace HE := hid1 (keepr hbl HE.out)
                  replace HF := hid1 (keepr hbl HF.out)
                  replace RD := hid1 (keepr hbl RD.out)
                  replace HG := hid1 (keepr hbl HG.out)
                  replace HH := hid1 (keepr hbl HH.out)
                  replace BW := bl_step BW hbl
                  have HI := hid1 hx
                  clear hx hbl
                  go_wp2_with fail
                  refine gen_calls (fun W => Below w5.heap.size w5 W ∧ W.rowIs w5.heap.size 24 2 (sf (k : Nat) (some ⟨g9, 0, none⟩) (nw k) (nw k))) ⟨bl_alloc (Below.refl _ _) _, sb_new w5 k g9 _⟩ ?_
                  rintro W3 ⟨hbl, rr⟩
                  replace HA := hid1 (keepr hbl HA.out)
                  replace HB := hid1 (keepr hbl HB.out)
                  replace RA := hid1 (keepr hbl RA.out)
                  replace HC := hid1 (keepr hbl HC.out)
                  replace HD := hid1 (keepr hbl HD.out)
                  replace RB := hid1 (keepr hbl RB.out)
                  replace RC := hid1 (keepr hbl RC.out)
                  replace HE := hid1 (keepr hbl HE.out)
                  replace HF := hid1 (keepr hbl HF.out)
                  replace RD := hid1 (keepr hbl RD.out)
                  replace HG := hid1 (keepr hbl HG.out)
                  replace HH := hid1 (keepr hbl HH.out)
                  replace HI := hid1 (keepr hbl HI.out)
                  replace BW := bl_step BW hbl
                  have RX := hid1 rr
                  clear rr hbl
                  refine (not_any k X _ _ W3 n3 lX.out (Rd.row HI.out (lt_nw lX.out))).mono ?_
                  rintro e w6 ⟨g10, rfl, _, hx, hbl⟩
                  replace HA := hid1 (keepr hbl HA.out)
                  replace HB := hid1 (keepr hbl HB.out)
                  replace RA := hid1 (keepr hbl RA.out)
                  replace HC := hid1 (keepr hbl HC.out)
                  replace HD := hid1 (keepr hbl HD.out)
                  replace RB := hid1 (keepr hbl RB.out)
                  replace RC := hid1 (keepr hbl RC.out)
                  replace HE := hid1 (keepr hbl HE.out)
                  replace HF := hid1 (keepr hbl HF.out)
                  replace RD := hid1 (keepr hbl RD.out)
                  replace HG := hid1 (keepr hbl HG.out)
                  replace HH := hid1 (keepr hbl HH.out)
                  replace HI := hid1 (keepr hbl HI.out)
                  replace RX := hid1 (keepr hbl RX.out)
                  replace BW := bl_step BW hbl
                  have HN := hid1 hx
                  clear hx hbl
                  have xl := RX.out.lt
                  have x0 : w6.cell? ⟨w5.heap.size, 0, none⟩ = some (.int .i64 (k : Nat)) := sf_len RX.out
                  have x1 : w6.cell? ⟨w5.heap.size, 1, none⟩ = some (.slice (some ⟨g9, 0, none⟩) (nw k) (nw k)) := sf_ws RX.out
                  go_wp2_with fail
                  clear xl x0 x1
                  refine gen_calls (fun W => Below w6.heap.size w6 W ∧ W.rowIs w6.heap.size 24 2 (sf (k : Nat) (some ⟨g10, 0, none⟩) (nw k) (nw k))) ⟨bl_alloc (Below.refl _ _) _, sb_new w6 k g10 _⟩ ?_
                  rintro W4 ⟨hbl, rr⟩
                  replace HA := hid1 (keepr hbl HA.out)
                  replace HB := hid1 (keepr hbl HB.out)
                  replace RA := hid1 (keepr hbl RA.out)
                  replace HC := hid1 (keepr hbl HC.out)
                  replace HD := hid1 (keepr hbl HD.out)
                  replace RB := hid1 (keepr hbl RB.out)
                  replace RC := hid1 (keepr hbl RC.out)
                  replace HE := hid1 (keepr hbl HE.out)
                  replace HF := hid1 (keepr hbl HF.out)
                  replace RD := hid1 (keepr hbl RD.out)
                  replace HG := hid1 (keepr hbl HG.out)
                  replace HH := hid1 (keepr hbl HH.out)
                  replace HI := hid1 (keepr hbl HI.out)
                  replace RX := hid1 (keepr hbl RX.out)
                  replace HN := hid1 (keepr hbl HN.out)
                  replace BW := bl_step BW hbl
                  have RN := hid1 rr
                  clear rr hbl
                  refine (slice_zero k X cut g9 (nw k) W4 n3 lX.out HI.out hcut0).mono ?_
                  rintro e w7 ⟨g11, rfl, hx, hbl⟩
                  replace HA := hid1 (keepr hbl HA.out)
                  replace HB := hid1 (keepr hbl HB.out)
                  replace RA := hid1 (keepr hbl RA.out)
                  replace HC := hid1 (keepr hbl HC.out)
                  replace HD := hid1 (keepr hbl HD.out)
                  replace RB := hid1 (keepr hbl RB.out)
                  replace RC := hid1 (keepr hbl RC.out)
                  replace HE := hid1 (keepr hbl HE.out)
                  replace HF := hid1 (keepr hbl HF.out)
                  replace RD := hid1 (keepr hbl RD.out)
                  replace HG := hid1 (keepr hbl HG.out)
                  replace HH := hid1 (keepr hbl HH.out)
                  replace HI := hid1 (keepr hbl HI.out)
                  replace RX := hid1 (keepr hbl RX.out)
                  replace HN := hid1 (keepr hbl HN.out)
                  replace RN := hid1 (keepr hbl RN.out)
                  replace BW := bl_step BW hbl
                  have HP := hid1 hx
                  clear hx hbl
                  have xl := RX.out.lt
                  have x0 : w7.cell? ⟨w5.heap.size, 0, none⟩ = some (.int .i64 (k : Nat)) := sf_len RX.out
                  have x1 : w7.cell? ⟨w5.heap.size, 1, none⟩ = some (.slice (some ⟨g9, 0, none⟩) (nw k) (nw k)) := sf_ws RX.out
                  go_wp2_with fail
                  clear xl x0 x1
                  refine gen_calls (fun W => Below w7.heap.size w7 W ∧ W.rowIs w7.heap.size 24 2 (sf (cut : Nat) (some ⟨g11, 0, none⟩) (nw cut) (nw cut))) ⟨bl_alloc (Below.refl _ _) _, sb_new w7 cut g11 _⟩ ?_
                  rintro W5 ⟨hbl, rr⟩
                  replace HA := hid1 (keepr hbl HA.out)
                  replace HB := hid1 (keepr hbl HB.out)
                  replace RA := hid1 (keepr hbl RA.out)
                  replace HC := hid1 (keepr hbl HC.out)
                  replace HD := hid1 (keepr hbl HD.out)
                  replace RB := hid1 (keepr hbl RB.out)
                  replace RC := hid1 (keepr hbl RC.out)
                  replace HE := hid1 (keepr hbl HE.out)
                  replace HF := hid1 (keepr hbl HF.out)
                  replace RD := hid1 (keepr hbl RD.out)
                  replace HG := hid1 (keepr hbl HG.out)
                  replace HH := hid1 (keepr hbl HH.out)
                  replace HI := hid1 (keepr hbl HI.out)
                  replace RX := hid1 (keepr hbl RX.out)
                  replace HN := hid1 (keepr hbl HN.out)
                  replace RN := hid1 (keepr hbl RN.out)
                  replace HP := hid1 (keepr hbl HP.out)
                  replace BW := bl_step BW hbl
                  have RP := hid1 rr
                  clear rr hbl
                  refine (slice_end k X cut r g9 (nw k) W5 n3 lX.out HI.out hcut0 HRC.out).mono ?_
                  rintro e w8 ⟨g12, rfl, hx, hbl⟩
                  replace HA := hid1 (keepr hbl HA.out)
                  replace HB := hid1 (keepr hbl HB.out)
                  replace RA := hid1 (keepr hbl RA.out)
                  replace HC := hid1 (keepr hbl HC.out)
                  replace HD := hid1 (keepr hbl HD.out)
                  replace RB := hid1 (keepr hbl RB.out)
                  replace RC := hid1 (keepr hbl RC.out)
                  replace HE := hid1 (keepr hbl HE.out)
                  replace HF := hid1 (keepr hbl HF.out)
                  replace RD := hid1 (keepr hbl RD.out)
                  replace HG := hid1 (keepr hbl HG.out)
                  replace HH := hid1 (keepr hbl HH.out)
                  replace HI := hid1 (keepr hbl HI.out)
                  replace RX := hid1 (keepr hbl RX.out)
                  replace HN := hid1 (keepr hbl HN.out)
                  replace RN := hid1 (keepr hbl RN.out)
                  replace HP := hid1 (keepr hbl HP.out)
                  replace RP := hid1 (keepr hbl RP.out)
                  replace BW := bl_step BW hbl
                  have HQ := hid1 hx
                  clear hx hbl
                  have xl := RA.out.lt
                  have x0 : w8.cell? ⟨w3.heap.size, 0, none⟩ = some (.int .i64 (k : Nat)) := q0 RA.out
                  have x1 : w8.cell? ⟨w3.heap.size, 1, none⟩ = some (.slice (some ⟨g1, 0, none⟩) (nw k) (nw k)) := q1 RA.out
                  have x2 : w8.cell? ⟨w3.heap.size, 2, none⟩ = some (.int .i64 (k : Nat)) := q2 RA.out
                  have x3 : w8.cell? ⟨w3.heap.size, 3, none⟩ = some (.slice (some ⟨g2, 0, none⟩) (nw k) (nw k)) := q3 RA.out
                  have yl := RX.out.lt
                  have y0 : w8.cell? ⟨w5.heap.size, 0, none⟩ = some (.int .i64 (k : Nat)) := sf_len RX.out
                  have y1 : w8.cell? ⟨w5.heap.size, 1, none⟩ = some (.slice (some ⟨g9, 0, none⟩) (nw k) (nw k)) := sf_ws RX.out
                  go_wp2_with fail
                  clear xl x0 x1 x2 x3 yl y0 y1
                  refine gen_calls (fun W => Below w8.heap.size w8 W ∧ W.rowIs w8.heap.size 24 2 (sf (r : Nat) (some ⟨g12, 0, none⟩) (nw r) (nw r))) ⟨bl_alloc (Below.refl _ _) _, sb_new w8 r g12 _⟩ ?_
                  rintro W6 ⟨hbl, rr⟩
                  replace HA := hid1 (keepr hbl HA.out)
                  replace HB := hid1 (keepr hbl HB.out)
                  replace RA := hid1 (keepr hbl RA.out)
                  replace HC := hid1 (keepr hbl HC.out)
                  replace HD := hid1 (keepr hbl HD.out)
                  replace RB := hid1 (keepr hbl RB.out)
                  replace RC := hid1 (keepr hbl RC.out)
                  replace HE := hid1 (keepr hbl HE.out)
                  replace HF := hid1 (keepr hbl HF.out)
                  replace RD := hid1 (keepr hbl RD.out)
                  replace HG := hid1 (keepr hbl HG.out)
                  replace HH := hid1 (keepr hbl HH.out)
                  replace HI := hid1 (keepr hbl HI.out)
                  replace RX := hid1 (keepr hbl RX.out)
                  replace HN := hid1 (keepr hbl HN.out)
                  replace RN := hid1 (keepr hbl RN.out)
                  replace HP := hid1 (keepr hbl HP.out)
                  replace RP := hid1 (keepr hbl RP.out)
                  replace HQ := hid1 (keepr hbl HQ.out)
                  replace BW := bl_step BW hbl
                  have RQ := hid1 rr
                  clear rr hbl
                  refine (signs_any (ob k g1 S) (ob k g2 M) (ob k g9 (X)) W6 (Rw.row HA.out lS.out n3) (Rw.row HB.out lM.out n3) (Rw.row HI.out lX.out n3)).mono ?_
                  rintro e w9 ⟨rfl, hbl⟩
                  obtain ⟨v1, v2⟩ := sg_ob (g1 := g1) (g2 := g2) (g := g9) n3 lS.out lM.out lX.out sSM.out
                  rw [VA.out] at v2
                  rw [v1, v2]
                  replace HA := hid1 (keepr hbl HA.out)
                  replace HB := hid1 (keepr hbl HB.out)
                  replace RA := hid1 (keepr hbl RA.out)
                  replace HC := hid1 (keepr hbl HC.out)
                  replace HD := hid1 (keepr hbl HD.out)
                  replace RB := hid1 (keepr hbl RB.out)
                  replace RC := hid1 (keepr hbl RC.out)
                  replace HE := hid1 (keepr hbl HE.out)
                  replace HF := hid1 (keepr hbl HF.out)
                  replace RD := hid1 (keepr hbl RD.out)
                  replace HG := hid1 (keepr hbl HG.out)
                  replace HH := hid1 (keepr hbl HH.out)
                  replace HI := hid1 (keepr hbl HI.out)
                  replace RX := hid1 (keepr hbl RX.out)
                  replace HN := hid1 (keepr hbl HN.out)
                  replace RN := hid1 (keepr hbl RN.out)
                  replace HP := hid1 (keepr hbl HP.out)
                  replace RP := hid1 (keepr hbl RP.out)
                  replace HQ := hid1 (keepr hbl HQ.out)
                  replace RQ := hid1 (keepr hbl RQ.out)
                  replace BW := bl_step BW hbl
                  clear v1 v2 hbl
                  have xl := RC.out.lt
                  have x0 : w9.cell? ⟨b3, 0, none⟩ = some (.int .i64 (cut : Nat)) := q0 RC.out
                  have x1 : w9.cell? ⟨b3, 1, none⟩ = some (.slice (some ⟨g5, 0, none⟩) (nw cut) (nw cut)) := q1 RC.out
                  have x2 : w9.cell? ⟨b3, 2, none⟩ = some (.int .i64 (cut : Nat)) := q2 RC.out
                  have x3 : w9.cell? ⟨b3, 3, none⟩ = some (.slice (some ⟨g6, 0, none⟩) (nw cut) (nw cut)) := q3 RC.out
                  have yl := RP.out.lt
                  have y0 : w9.cell? ⟨w7.heap.size, 0, none⟩ = some (.int .i64 (cut : Nat)) := sf_len RP.out
                  have y1 : w9.cell? ⟨w7.heap.size, 1, none⟩ = some (.slice (some ⟨g11, 0, none⟩) (nw cut) (nw cut)) := sf_ws RP.out
                  go_wp2_with fail
                  clear xl x0 x1 x2 x3 yl y0 y1
                  refine (signs_any (ob cut g5 S3) (ob cut g6 M3) (ob cut g11 (sl X 0 cut)) w9 (Rw.row HE.out lS3.out n4) (Rw.row HF.out lM3.out n4) (Rw.row HP.out lP.out n4)).mono ?_
                  rintro e w10 ⟨rfl, hbl⟩
                  obtain ⟨v1, v2⟩ := sg_ob (g1 := g5) (g2 := g6) (g := g11) n4 lS3.out lM3.out lP.out sSM3.out
                  rw [VC.out] at v2
                  rw [v1, v2]
                  replace HA := hid1 (keepr hbl HA.out)
                  replace HB := hid1 (keepr hbl HB.out)
                  replace RA := hid1 (keepr hbl RA.out)
                  replace HC := hid1 (keepr hbl HC.out)
                  replace HD := hid1 (keepr hbl HD.out)
                  replace RB := hid1 (keepr hbl RB.out)
                  replace RC := hid1 (keepr hbl RC.out)
                  replace HE := hid1 (keepr hbl HE.out)
                  replace HF := hid1 (keepr hbl HF.out)
                  replace RD := hid1 (keepr hbl RD.out)
                  replace HG := hid1 (keepr hbl HG.out)
                  replace HH := hid1 (keepr hbl HH.out)
                  replace HI := hid1 (keepr hbl HI.out)
                  replace RX := hid1 (keepr hbl RX.out)
                  replace HN := hid1 (keepr hbl HN.out)
                  replace RN := hid1 (keepr hbl RN.out)
                  replace HP := hid1 (keepr hbl HP.out)
                  replace RP := hid1 (keepr hbl RP.out)
                  replace HQ := hid1 (keepr hbl HQ.out)
                  replace RQ := hid1 (keepr hbl RQ.out)
                  replace BW := bl_step BW hbl
                  clear v1 v2 hbl
                  have xl := RD.out.lt
                  have x0 : w10.cell? ⟨b4, 0, none⟩ = some (.int .i64 (r : Nat)) := q0 RD.out
                  have x1 : w10.cell? ⟨b4, 1, none⟩ = some (.slice (some ⟨g7, 0, none⟩) (nw r) (nw r)) := q1 RD.out
                  have x2 : w10.cell? ⟨b4, 2, none⟩ = some (.int .i64 (r : Nat)) := q2 RD.out
                  have x3 : w10.cell? ⟨b4, 3, none⟩ = some (.slice (some ⟨g8, 0, none⟩) (nw r) (nw r)) := q3 RD.out
                  have yl := RQ.out.lt
                  have y0 : w10.cell? ⟨w8.heap.size, 0, none⟩ = some (.int .i64 (r : Nat)) := sf_len RQ.out
                  have y1 : w10.cell? ⟨w8.heap.size, 1, none⟩ = some (.slice (some ⟨g12, 0, none⟩) (nw r) (nw r)) := sf_ws RQ.out
                  go_wp2_with fail
                  clear xl x0 x1 x2 x3 yl y0 y1
                  refine (signs_any (ob r g7 S4) (ob r g8 M4) (ob r g12 (sl X cut k)) w10 (Rw.row HG.out lS4.out n5) (Rw.row HH.out lM4.out n5) (Rw.row HQ.out lQ.out n5)).mono ?_
                  rintro e w11 ⟨rfl, hbl⟩
                  obtain ⟨v1, v2⟩ := sg_ob (g1 := g7) (g2 := g8) (g := g12) n5 lS4.out lM4.out lQ.out sSM4.out
                  rw [VD.out] at v2
                  rw [v1, v2]
                  replace HA := hid1 (keepr hbl HA.out)
                  replace HB := hid1 (keepr hbl HB.out)
                  replace RA := hid1 (keepr hbl RA.out)
                  replace HC := hid1 (keepr hbl HC.out)
                  replace HD := hid1 (keepr hbl HD.out)
                  replace RB := hid1 (keepr hbl RB.out)
                  replace RC := hid1 (keepr hbl RC.out)
                  replace HE := hid1 (keepr hbl HE.out)
                  replace HF := hid1 (keepr hbl HF.out)
                  replace RD := hid1 (keepr hbl RD.out)
                  replace HG := hid1 (keepr hbl HG.out)
                  replace HH := hid1 (keepr hbl HH.out)
                  replace HI := hid1 (keepr hbl HI.out)
                  replace RX := hid1 (keepr hbl RX.out)
                  replace HN := hid1 (keepr hbl HN.out)
                  replace RN := hid1 (keepr hbl RN.out)
                  replace HP := hid1 (keepr hbl HP.out)
                  replace RP := hid1 (keepr hbl RP.out)
                  replace HQ := hid1 (keepr hbl HQ.out)
                  replace RQ := hid1 (keepr hbl RQ.out)
                  replace BW := bl_step BW hbl
                  clear v1 v2 hbl
                  have xl := RB.out.lt
                  have x0 : w11.cell? ⟨w4.heap.size, 0, none⟩ = some (.int .i64 (k : Nat)) := q0 RB.out
                  have x1 : w11.cell? ⟨w4.heap.size, 1, none⟩ = some (.slice (some ⟨g3, 0, none⟩) (nw k) (nw k)) := q1 RB.out
                  have x2 : w11.cell? ⟨w4.heap.size, 2, none⟩ = some (.int .i64 (k : Nat)) := q2 RB.out
                  have x3 : w11.cell? ⟨w4.heap.size, 3, none⟩ = some (.slice (some ⟨g4, 0, none⟩) (nw k) (nw k)) := q3 RB.out
                  have yl := RX.out.lt
                  have y0 : w11.cell? ⟨w5.heap.size, 0, none⟩ = some (.int .i64 (k : Nat)) := sf_len RX.out
                  have y1 : w11.cell? ⟨w5.heap.size, 1, none⟩ = some (.slice (some ⟨g9, 0, none⟩) (nw k) (nw k)) := sf_ws RX.out
                  go_wp2_with fail
                  clear xl x0 x1 x2 x3 yl y0 y1
                  refine (signs_any (ob k g3 S2) (ob k g4 M2) (ob k g9 (X)) w11 (Rw.row HC.out lS2.out n3) (Rw.row HD.out lM2.out n3) (Rw.row HI.out lX.out n3)).mono ?_
                  rintro e w12 ⟨rfl, hbl⟩
                  obtain ⟨v1, v2⟩ := sg_ob (g1 := g3) (g2 := g4) (g := g9) n3 lS2.out lM2.out lX.out sSM2.out
                  rw [VF.out] at v2
                  rw [v1, v2]
                  replace HA := hid1 (keepr hbl HA.out)
                  replace HB := hid1 (keepr hbl HB.out)
                  replace RA := hid1 (keepr hbl RA.out)
                  replace HC := hid1 (keepr hbl HC.out)
                  replace HD := hid1 (keepr hbl HD.out)
                  replace RB := hid1 (keepr hbl RB.out)
                  replace RC := hid1 (keepr hbl RC.out)
                  replace HE := hid1 (keepr hbl HE.out)
                  replace HF := hid1 (keepr hbl HF.out)
                  replace RD := hid1 (keepr hbl RD.out)
                  replace HG := hid1 (keepr hbl HG.out)
                  replace HH := hid1 (keepr hbl HH.out)
                  replace HI := hid1 (keepr hbl HI.out)
                  replace RX := hid1 (keepr hbl RX.out)
                  replace HN := hid1 (keepr hbl HN.out)
                  replace RN := hid1 (keepr hbl RN.out)
                  replace HP := hid1 (keepr hbl HP.out)
                  replace RP := hid1 (keepr hbl RP.out)
                  replace HQ := hid1 (keepr hbl HQ.out)
                  replace RQ := hid1 (keepr hbl RQ.out)
                  replace BW := bl_step BW hbl
                  clear v1 v2 hbl
                  have xl := RA.out.lt
                  have x0 : w12.cell? ⟨w3.heap.size, 0, none⟩ = some (.int .i64 (k : Nat)) := q0 RA.out
                  have x1 : w12.cell? ⟨w3.heap.size, 1, none⟩ = some (.slice (some ⟨g1, 0, none⟩) (nw k) (nw k)) := q1 RA.out
                  have x2 : w12.cell? ⟨w3.heap.size, 2, none⟩ = some (.int .i64 (k : Nat)) := q2 RA.out
                  have x3 : w12.cell? ⟨w3.heap.size, 3, none⟩ = some (.slice (some ⟨g2, 0, none⟩) (nw k) (nw k)) := q3 RA.out
                  have yl := RN.out.lt
                  have y0 : w12.cell? ⟨w6.heap.size, 0, none⟩ = some (.int .i64 (k : Nat)) := sf_len RN.out
                  have y1 : w12.cell? ⟨w6.heap.size, 1, none⟩ = some (.slice (some ⟨g10, 0, none⟩) (nw k) (nw k)) := sf_ws RN.out
                  go_wp2_with fail
                  clear xl x0 x1 x2 x3 yl y0 y1
                  refine (signs_any (ob k g1 S) (ob k g2 M) (ob k g10 (nt k X)) w12 (Rw.row HA.out lS.out n3) (Rw.row HB.out lM.out n3) (Rw.row HN.out lN.out n3)).mono ?_
                  rintro e w13 ⟨rfl, hbl⟩
                  obtain ⟨v1, v2⟩ := sg_ob (g1 := g1) (g2 := g2) (g := g10) n3 lS.out lM.out lN.out sSM.out
                  rw [VG.out] at v2
                  rw [v1, v2]
                  replace BW := bl_step BW hbl
                  clear v1 v2 hbl HA HB RA HC HD RB RC HE HF RD HG HH HI RX HN RN HP RP HQ RQ
                  obtain ⟨bc3, bc4⟩ := bc2
                  obtain ⟨bd3, bd4⟩ := bd2
                  go_wp2_with fail
                  go_ret
                  first | exact ⟨rfl, BW⟩ | exact ⟨ret_bool (by simp), BW⟩ | exact ⟨ret_bool (by simp; omega), BW⟩
            · exact absurd KN.out hno
          · exact absurd KW.out hno
end Go.Proofs.YtgkfdgdemodgiaaDoor
