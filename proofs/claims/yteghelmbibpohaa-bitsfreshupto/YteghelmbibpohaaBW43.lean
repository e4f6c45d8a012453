/- Hand.list, walked. -/
import Derived.Test.YteghelmbibpohaaQA
namespace Go.Proofs.Yteghelmbibpohaa
open Go.RowKit

theorem meet_of {J K : Act → World → Prop} {Q : Exit → Act → World → Prop} {a : Act} {w : World} (hK : ∀ a' w', Met J a' w' → K a' w') (h : Met J a w) : Exit.then K Q Exit.normal a w := hK _ _ h
theorem Om.below {w w1 : World} {T : TypeId} {v : Value} {g : Nat} (h : Om w T v g) (hb : Below w.heap.size w w1) : Om w1 T v g := by
  rcases h with h | ⟨co, f, e, h1, h2⟩
  · exact .inl h
  · exact .inr ⟨co, f, e, keepr hb h1, h2⟩
theorem Wv.below {w w1 : World} {vw : Value} {gw lw : Nat} {el : Nat → Value} (h : Wv w vw gw lw el) (hb : Below w.heap.size w w1) : Wv w1 vw gw lw el := by
  rcases h with h | ⟨cw, f, e, h1, h2, h3, h4⟩
  · exact .inl h
  · exact .inr ⟨cw, f, e, h1, h2, keepr hb h3, h4⟩
theorem Wo.below {w w1 : World} {vw v : Value} {gw lw i : Nat} {gi ci : Nat → Nat} {ff : Nat → Nat → Value} (h : Wo w vw gw lw gi ci ff i v) (hb : Below w.heap.size w w1) : Wo w1 vw gw lw gi ci ff i v :=
  ⟨h.lt, h.val.below hb, fun j hj hn => keepr hb (h.row j hj hn), h.max, h.inj, h.om.below hb⟩
theorem Lo.below {w wr w1 : World} {S : Nat → Prop} {hb g c J k gw lw : Nat} {n : Nat → Int} {m N : Nat → Nat} {f2 : Nat → Value} {va vb vs vr vw v : Value} {gi ci : Nat → Nat} {ff : Nat → Nat → Value} (h : Lo w wr S hb g c J n m N f2 va vb vs vr k vw gw lw gi ci ff v) (hu : Below wr.heap.size wr w1) : Lo w w1 S hb g c J n m N f2 va vb vs vr k vw gw lw gi ci ff v :=
  ⟨keepr hu h.x, keepr hu h.h, h.o.below hu, h.ll, h.dn, h.gs, h.nw, h.ng, h.ni, h.bp.trans (BP.bel (S := fun _ => False) hu) fun _ _ k => k.elim⟩
set_option maxHeartbeats 3200000 in
set_option maxRecDepth 100000 in
theorem list_any (hb gw gr lw : Nat) (va vb vs vw vr : Value) (gi ci : Nat → Nat) (ff : Nat → Nat → Value) (la : Option Addr) (J : Nat) (n : Nat → Int) (m N : Nat → Nat) (ad : Nat → Option Addr) (cp : Nat → Nat) (cl : Nat) (w : World)
    (hJ : J ≤ 1048576) (hm : ∀ j, j < J → m j ≤ 1048576) (hlw : lw ≤ 1048576) (hh : Hd w hb va vb vs vw vr) (hw : Wd w vw gw lw gi ci ff) (hr : Or2 w vr gr) (hl : Jo Ro w la J n m N ad cp) (hn : la = none → J = 0 ∧ cl = 0) (hz : ∀ j, j < J → ad j = none → m j = 0 ∧ cp j = 0)
    (h1 : ∀ p, la = some p → 0 < J → ¬ Lb hb gw gr lw gi p.block) (h2 : ∀ j, j < J → ∀ p, ad j = some p → 0 < m j → ¬ Lb hb gw gr lw gi p.block) (hne : gr ≠ hb) (hnw : gw ≠ gr) (hni : ∀ j, j < lw → gi j ≠ gr)  :
    Calls Try.prog 42 #[.pointer (some ⟨hb, 0, none⟩), .slice la J cl] w fun e w' => ∃ g c vw' gw' lw' gi' ci' ff', e = .returned (.slice (some ⟨g, 0, none⟩) J c) ∧ J + 1 ≤ c ∧ c ≤ maxLen ∧ J ≤ lw' ∧
      Ls w w' (Lb hb gw gr lw gi) hb g c J n m N (lsf n m J gi' ci') va vb vs (.slice (some ⟨g, 0, none⟩) c c) c vw' gw' lw' gi' ci' ff' := by
  obtain ⟨i0, hi, hz0, hz1, hz2⟩ := info_parts info_bits
  have HL := hid1 hl
  have HN := hid1 hn
  have HZ := hid1 hz
  have HM := hid1 hm
  have HR := hid1 hr
  have HH := hid1 hh
  have HW := hid1 hw
  have H1 := hid1 h1
  have H2 := hid1 h2
  have HNI := hid1 hni
  have iJ0 : (0 : Int) ≤ (J : Int) := by omega
  have iJ1 : (J : Int) ≤ 1048576 := by omega
  obtain ⟨oo, lo, co, rfl⟩ : ∃ oo lo co, vr = .slice oo lo co := by
    rcases hr with h | ⟨co, f, h, _⟩
    · exact ⟨_, _, _, h⟩
    · exact ⟨_, _, _, h⟩
  have ch : w.cell? ⟨hb, 4, none⟩ = some (.slice oo lo co) := hh.cell (by omega)
  clear hl hn hz hm hr hh hw h1 h2 hni
  go_enter Try.func42, Try.ntmps42
  go_upto_region 2 with fail
  go_cut [6] (fun s6 wx => ∃ ao c, s6 = .slice ao J c ∧ wx.ownsRow 0 27 2 (.slice ao J c) J (rowL (jf n m ad cp) (J * 2)) ∧ Mv w gr wx (.slice ao J c))
  case first =>
    rcases HR.out with h | ⟨co', f, h, hrow, hc⟩
    · injection h with e1 e2 e3
      subst e1 e2 e3
      go_wp2_with ((at_builtin; refine app_jo rfl _ _ rfl w gr (.slice none 0 0) [] (by go_simp) (World.ownsRow_nil _ _ _ _) ⟨But.refl _ _, .inl rfl⟩ la J n m N ad cp cl (by go_simp) HL.out HN.out (by omega) ?_; intro v1 w1 hown1 hmv1))
      rw [List.nil_append] at hown1
      obtain ⟨ao, c, rfl⟩ := own_slice2 hown1
      go_meet
      exact ⟨ao, c, rfl, hown1, hmv1⟩
    · injection h with e1 e2 e3
      subst e1 e2 e3
      have HG := hid1 (own_none2 hrow hc)
      clear hrow hc
      go_wp2_with ((at_builtin; refine app_jo rfl _ _ rfl w gr (.slice (some ⟨gr, 0, none⟩) 0 co) [] (by go_simp) HG.out ⟨But.refl _ _, .inr (.inl rfl)⟩ la J n m N ad cp cl (by go_simp) HL.out HN.out (by omega) ?_; intro v1 w1 hown1 hmv1))
      rw [List.nil_append] at hown1
      obtain ⟨ao, c, rfl⟩ := own_slice2 hown1
      go_meet
      exact ⟨ao, c, rfl, hown1, hmv1⟩
  case rest =>
    obtain ⟨ao, c, rfl, hown1, hmv1⟩ := hcut
    go_wp2_with ((at_builtin; refine wpList_append_own_at _ rfl _ _ 51 rfl 0 27 i0 (.agg #[.int .i64 0, .slice none 0 0]) 2 32 und_bits hi hz0 hz1 hz2 rfl (by decide) (.slice ao J c) J (rowL (jf n m ad cp) (J * 2)) (by go_simp) (hown1.alloc _) ⟨_, 0, none⟩ 1 1 [.int .i64 0, .slice none 0 0] (by go_simp) rfl (cell_two_new _ _ _ _) (fun x hx => by simp at hx; rcases hx with rfl | rfl <;> rfl) (by unfold maxLen; omega) (by omega) (Nat.zero_le _) ?_; intro v2 w2 hown2 hgrow2 hnil2 hat2; have hmv2 := (hmv1.alloc _).app hgrow2 hat2; obtain ⟨g, c2, f2, rfl, _, hle, hmax, hrow2, hf2⟩ := own_row2 hown2 (by omega)))
    have hg : g = gr ∨ w.heap.size ≤ g := by
      rcases hmv2.at_ with h | h | ⟨b, h, hb⟩
      · simp [Value.ownBlock] at h
      · simp [Value.ownBlock] at h; exact .inl h
      · simp [Value.ownBlock] at h; subst h; exact .inr hb
    have hf0 : ∀ p, p < J * 2 → f2 p = jf n m ad cp p := fun p hp => by
      have h2 := hf2 p (by omega)
      rw [List.getElem?_append_left (by simp [rowL]; omega)] at h2
      exact (rowL_get h2).2
    have hbut := hmv2.but
    generalize hvr : (Value.slice oo lo co) = vr at *
    generalize hS : Lb hb gw gr lw gi = S at *
    have hst : ∃ gw, Ls w w2 S hb g c2 J n m N f2 va vb vs vr 0 vw gw lw gi ci ff := by
      have hSgr : S gr := by rw [← hS]; exact .inr (.inr (.inl rfl))
      have hh2 := hbut.row hne.symm HH.out
      have hsg : S g ∨ w.heap.size ≤ g := by
        rcases hg with rfl | h
        · exact .inl hSgr
        · exact .inr h
      have hbp : BP S w w2 := (BP.refl S w).trans (BP.but hbut) (fun x _ e => by rw [e]; exact hSgr)
      rcases HW.out.val with ⟨e, e0⟩ | ⟨cw, f, e, k1, k2, k3, k4⟩
      · subst e0
        exact ⟨w2.heap.size, hrow2.congr fun p _ => by simp [lsk], hh2, ⟨.inl ⟨e, rfl⟩, fun j hj => absurd hj (by omega), fun j hj => absurd hj (by omega), fun j k hj => absurd hj (by omega)⟩, .inl (Nat.zero_le _), hlw, fun j hj => absurd hj (by omega), ⟨hsg, .inr hbut.size, fun j hj => absurd hj (by omega)⟩, ⟨by have := hh2.lt; omega, by have := hrow2.lt; omega⟩, hbp⟩
      · exact ⟨gw, hrow2.congr fun p _ => by simp [lsk], hh2, HW.out.keep hbut hnw HNI.out, .inl (Nat.zero_le _), hlw, fun j hj => absurd hj (by omega), ⟨hsg, .inl (by rw [← hS]; exact .inr (.inl rfl)), fun j hj => .inl (by rw [← hS]; exact .inr (.inr (.inr ⟨j, hj, rfl⟩)))⟩, ⟨row_ne k3 HH.out (by decide), by
          rcases hg with rfl | h
          · exact hnw
          · have := k3.lt; omega⟩, hbp⟩
    have HST := hid1 hst
    have HF0 := hid1 hf0
    unfold maxLen at hmax
    have ic0 : (0 : Int) ≤ (c2 : Int) := by omega
    have ic1 : (c2 : Int) ≤ 9223372036854775807 := by omega
    clear hown1 hmv1 hown2 hgrow2 hnil2 hat2 hmv2 hrow2 hf2 hst hbut hg hf0 HH HW HR HNI hnw hne
    go_loopw [7] (fun i wr => ∃ k vw gw lw gi ci ff, k ≤ c2 ∧ i = .int .i64 (k : Nat) ∧ Ls w wr S hb g c2 J n m N f2 va vb vs vr k vw gw lw gi ci ff) (fun i _ => c2 - (intOf i).toNat)
    case atStart =>
      obtain ⟨gw', hst⟩ := HST.out
      exact ⟨0, vw, gw', lw, gi, ci, ff, Nat.zero_le _, rfl, hst⟩
    case round =>
      clear HST
      obtain ⟨k, vw, gw, lw, gi, ci, ff, hk, rfl, hls⟩ := hrel
      have ik0 : (0 : Int) ≤ (k : Int) := by omega
      by_cases hlt : k < c2
      · have ik : (k : Int) < (c2 : Int) := by omega
        by_cases hkJ : k < J
        · have ikJ : (k : Int) < (J : Int) := by omega
          have hkl : k ≤ lw := by rcases hls.kl with h | h <;> omega
          obtain ⟨wo, wcp, rfl⟩ : ∃ wo wcp, vw = .slice wo lw wcp := by
            rcases hls.d.val with ⟨e, e0⟩ | ⟨cw, f, e, _⟩
            · subst e0; exact ⟨_, _, e⟩
            · exact ⟨_, _, e⟩
          have ch3 : wr.cell? ⟨hb, 3, none⟩ = some (.slice wo lw wcp) := hls.h.cell (by omega)
          have fh3 := hls.h.frozen 3
          have ilw0 : (0 : Int) ≤ (lw : Int) := by omega
          have HLS := hid1 hls
          clear hls
          go_upto_if 44 with fail
          go_cut [] (fun wx => ∃ vw gw lw gi ci ff v, Lo w wx S hb g c2 J n m N f2 va vb vs vr k vw gw lw gi ci ff v)
          case first =>
            by_cases e : k = lw
            · subst e
              go_wp2_with ((at_builtin; refine app_nilw rfl _ _ rfl wr (.slice wo k wcp) gw k (wsf gi ci) (by go_simp) HLS.out.d.val _ rfl ⟨wr.heap.size, 0, none⟩ (by go_simp) (by simp [go_sem]) (by omega) ?_; intro vw' gw' w1 hv1 hbut1 hg1; have hh1 := hbut1.row HLS.out.nw.1.symm HLS.out.h; have c13 := hh1.cell (i := 3) (by omega); have f13 := hh1.frozen 3; have H1h := hid1 hh1; have HV1 := hid1 hv1; have HB1 := hid1 hbut1; clear hh1 hv1 hbut1; obtain ⟨ww, wwl, wwc, rfl⟩ : ∃ ww wwl wwc, vw' = .slice ww wwl wwc := (by rcases HV1.out with ⟨e, _⟩ | ⟨_, _, e, _⟩ <;> exact ⟨_, _, _, e⟩)))
              go_meet
              have hls := HLS.out
              have hx1 := HB1.out.row hls.nw.2.symm hls.x
              have hgx : g ≠ hb := row_ne hx1 H1h.out (by decide)
              have hgw : gw' ≠ hb ∧ gw' ≠ g ∧ gw' < w1.heap.size := by
                rcases HV1.out with ⟨_, e⟩ | ⟨_, _, _, _, _, r, _⟩
                · omega
                · exact ⟨row_ne r H1h.out (by decide), row_ne r hx1 (by decide), r.lt⟩
              have hz1 := HB1.out.size
              have hz2 := hls.bp.size
              refine ⟨_, gw', k + 1, upd gi k w1.heap.size, ci, ff, _, ⟨(hx1.setOther (a := ⟨hb, 3, none⟩) hgx _).congr fun p _ => (lsk_updg _ _).symm, Hd.set3 H1h.out _, (hls.d.grow HV1.out HB1.out).setH H1h.out (by decide) (by decide) _, by omega, hls.dn, ⟨hls.gs.1, ?_, fun j hj => ?_⟩, ⟨hgw.1, hgw.2.1⟩, by rw [upd_same]; omega, by rw [upd_same]; have := H1h.out.lt; have := hx1.lt; exact ⟨by omega, by omega⟩, (hls.bp.trans (BP.but HB1.out) fun x hx ex => ?_).set (.inl (by rw [← hS]; exact .inl rfl)) _⟩⟩
              · rcases hg1 with rfl | h
                · exact hls.gs.2.1
                · exact .inr (by omega)
              · by_cases hj2 : j = k
                · subst hj2; rw [upd_same]; exact .inr (by omega)
                · rw [upd_other _ _ _ hj2]; exact hls.gs.2.2 j (by omega)
              · rw [ex]
                rcases hls.gs.2.1 with h | h
                · exact h
                · omega
            · have ine : ¬ (k : Int) = (lw : Int) := by omega
              go_wp2_with fail
              go_meet
              have hls := HLS.out
              have hkl2 : k < lw := by omega
              exact ⟨_, gw, lw, gi, ci, ff, _, ⟨hls.x, hls.h, hls.d.open hkl2, hls.ll, hls.dn, hls.gs, hls.nw, by
                rcases hls.d.val with ⟨_, e⟩ | ⟨_, _, _, _, _, r, _⟩
                · omega
                · exact row_ne r (hls.d.row k hkl2) (by decide), ⟨row_ne (hls.d.row k hkl2) hls.h (by decide), row_ne (hls.d.row k hkl2) hls.x (by decide)⟩, hls.bp⟩⟩
          case rest =>
            obtain ⟨wv, rfl⟩ : ∃ x, x = wc := ⟨wc, rfl⟩
            clear HLS ch3 fh3 hkl ilw0
            obtain ⟨vw, gw, lw, gi, ci, ff, v, hlo⟩ := hcut
            have hJo := HL.out.bp hlo.bp H1.out H2.out
            obtain ⟨gl, ol, ela, _, cl1⟩ := hJo.at_ k hkJ
            subst ela
            obtain ⟨cw, fv, rfl, k1, k2, k3, k4⟩ : ∃ cw f, vw = .slice (some ⟨gw, 0, none⟩) lw cw ∧ lw ≤ cw ∧ cw ≤ maxLen ∧ wv.rowIs gw 25 cw f ∧ ∀ j, j < lw → f j = (if j = k then v else wsf gi ci j) := by
              rcases hlo.o.val with ⟨_, e⟩ | h
              · have := hlo.o.lt; omega
              · exact h
            have hkl := hlo.o.lt
            have cw0 : wv.cell? ⟨gw, k, none⟩ = some v := by
              have h := k3.cell (i := k) (by omega)
              rw [k4 k hkl, if_pos rfl] at h
              exact h
            have ch3 : wv.cell? ⟨hb, 3, none⟩ = some (.slice (some ⟨gw, 0, none⟩) lw cw) := hlo.h.cell (by omega)
            obtain ⟨vo, vl, vc, rfl⟩ : ∃ vo vl vc, v = .slice vo vl vc := by
              rcases hlo.o.om with h | ⟨_, _, h, _⟩ <;> exact ⟨_, _, _, h⟩
            have ikl : (k : Int) < (lw : Int) := by omega
            have HLO := hid1 hlo
            have HJO := hid1 hJo
            have HK3 := hid1 k3
            clear hlo hJo k3 k4
            have hgl0 : gl < w.heap.size := by
              obtain ⟨gl', ol', e, c, _⟩ := HL.out.at_ k hkJ
              injection e with e
              injection e with e1 e2
              subst e1
              exact lt_of_cell c
            have hnS : ¬ S gl := H1.out ⟨gl, ol, none⟩ rfl (by omega)
            have hglw : gl ≠ gw := by
              rintro rfl
              rcases HLO.out.gs.2.1 with h | h
              · exact hnS h
              · omega
            have hgli : gl ≠ gi k := by
              rintro rfl
              rcases HLO.out.gs.2.2 k hkl with h | h
              · exact hnS h
              · omega
            have hbw := HLO.out.nw.1
            have hbi := HLO.out.ni.1.symm
            have fw := HK3.out.frozen k
            go_upto_region 12 with fail
            go_cut [] (fun wx => ∃ gw lw cw gi ci ff, Lm w wx S hb g c2 J n m N f2 va vb vs vr k gw lw cw gi ci ff)
            case first =>
              go_region_with (go_at_call 40; refine gen_calls (fun X => Below wv.heap.size wv X) (Below.drew (Below.refl _ _)) ?_; intro X hX; refine (filled_any (.slice vo vl vc) (gi k) (ad k) (m k) (N k) (cp k) X (HM.out k hkJ) (HLO.out.o.om.below hX) ((HJO.out.rd k hkJ).below hX) (HZ.out k hkJ)).mono ?_; rintro e w1 ⟨g', c', rfl, hle', hmax', hg', hrow', hbut'⟩; have p3 := hbut'.cell hbi (keepc hX ch3); have pw := hbut'.row HLO.out.ng (keepr hX HK3.out); have pw2 := pw.frozen k; have pw3 := pw.cell (i := k) (by omega); have HR' := hid1 hrow'; have HB' := hid1 hbut'; clear hrow' hbut' pw)
              all_goals (refine meet_of (by assumption) ?_; go_meet; exact ⟨gw, lw, cw, _, _, _, (HLO.out.below hX).fill HB'.out hg' HR'.out hle' hmax'⟩)
            case rest =>
              obtain ⟨wu, rfl⟩ : ∃ x, x = wc := ⟨wc, rfl⟩
              clear HLO HJO HK3 ch3 cw0 cl1 fw hglw hgli hbw hbi ikl hkl k1 k2
              obtain ⟨gw, lw, cw, gi, ci, ff, hlm⟩ := hcut
              have hJo := HL.out.bp hlm.bp H1.out H2.out
              obtain ⟨gl', ol', ela, _, cl1⟩ := hJo.at_ k hkJ
              injection ela with ela
              injection ela with e1 e2
              subst e1 e2
              have hkl := hlm.kl
              have cw0 : wu.cell? ⟨gw, k, none⟩ = some (.slice (some ⟨gi k, 0, none⟩) (ci k) (ci k)) := by
                rcases hlm.d.val with ⟨h, _⟩ | ⟨cw', f, e, _, _, r, hf⟩
                · injection h with h; cases h
                · have h := r.cell (i := k) (by omega)
                  rw [hf k hkl] at h
                  exact h
              have ch3 : wu.cell? ⟨hb, 3, none⟩ = some (.slice (some ⟨gw, 0, none⟩) lw cw) := hlm.h.cell (by omega)
              have hmc := (hlm.dn k (by omega) hkJ).2
              have imc : ((m k : Nat) : Int) ≤ ((ci k : Nat) : Int) := by omega
              have imc' : m k ≤ ci k := by omega
              have im0 : (0 : Int) ≤ ((m k : Nat) : Int) := by omega
              have ikl : (k : Int) < (lw : Int) := by omega
              have cx1 := hlm.x.cell (i := k * 2 + 1) (by omega)
              have fx1 := hlm.x.frozen (k * 2 + 1)
              have HLM := hid1 hlm
              have hf0 : f2 (k * 2) = .int .i64 (n k) := by
                rw [HF0.out _ (by omega)]; unfold jf
                rw [if_pos (by omega), show k * 2 / 2 = k by omega]
              have HF := hid1 hf0
              clear hlm hJo hmc hf0
              go_upto_region 13 with fail
              refine still_tail 18 (by kernel_rfl) ?_
              simp only [List.take_succ_cons, List.take_zero, List.drop_succ_cons, List.drop_zero]
              repeat still_step
              refine wpStill_nil ?_
              go_wp2_with fail
              have hlm := HLM.out
              have hhg := row_ne hlm.h hlm.x (by decide)
              refine ⟨⟨k + 1, .slice (some ⟨gw, 0, none⟩) lw cw, gw, lw, gi, ci, ff, by omega, by go_num, ?_⟩, by simp [intOf]; omega⟩
              have hfin : Ls w (wu.setCell ⟨g, k * 2 + 1, none⟩ (.slice (some ⟨gi k, 0, none⟩) (m k) (ci k))) S hb g c2 J n m N f2 va vb vs vr (k + 1) (.slice (some ⟨gw, 0, none⟩) lw cw) gw lw gi ci ff :=
                ⟨lsk_row hlm.x hkJ HF.out, hlm.h.setOther (a := ⟨g, k * 2 + 1, none⟩) hhg _, hlm.d.setH hlm.x (by decide) (by decide) _, .inl hkl, hlm.ll, hlm.dn, hlm.gs, hlm.nw, hlm.bp.set hlm.gs.1 _⟩
              exact hfin.drew
        · have ikJ : (J : Int) ≤ (k : Int) := by omega
          have cx0 := hls.x.cell (i := k * 2) (by omega)
          have cx1 := hls.x.cell (i := k * 2 + 1) (by omega)
          have fx0 := hls.x.frozen (k * 2)
          have fx1 := hls.x.frozen (k * 2 + 1)
          have HLS := hid1 hls
          clear hls
          go_wp2_with fail
          have hls := HLS.out
          refine ⟨⟨k + 1, vw, gw, lw, gi, ci, ff, by omega, by go_num, ?_⟩, by simp [intOf]; omega⟩
          have hr1 := hls.x.set (k * 2) (.int .i64 (-77))
          have hhg := row_ne hls.h hls.x (by decide)
          exact ⟨lsk_mark hls.x (by omega), (hls.h.setOther (a := ⟨g, k * 2, none⟩) hhg _).setOther (a := ⟨g, k * 2 + 1, none⟩) hhg _, (hls.d.setH hls.x (by decide) (by decide) _).setH hr1 (by decide) (by decide) _, .inr (by rcases hls.kl with h | h <;> omega), hls.ll, fun j _ hjJ => hls.dn j (by omega) hjJ, hls.gs, hls.nw, (hls.bp.set hls.gs.1 _).set hls.gs.1 _⟩
      · have hkc : k = c2 := by omega
        subst hkc
        have cx := hls.h.cell (i := 4) (by omega)
        have fx := hls.h.frozen 4
        have HLS := hid1 hls
        have ikJ : (J : Int) ≤ (k : Int) := by omega
        have ikJ' : J ≤ k := by omega
        clear hls
        go_wp2_with fail
        go_ret
        have hls := HLS.out
        have hhx := row_ne hls.x hls.h (by decide)
        subst hS
        refine ⟨g, k, vw, gw, lw, gi, ci, ff, rfl, hle, by unfold maxLen; omega, by rcases hls.kl with h | h <;> omega, ⟨(hls.x.setOther (a := ⟨hb, 4, none⟩) hhx _).congr fun p hp => by unfold lsk; rw [if_pos (by omega), if_pos (by omega)], Hd.set4 hls.h _, hls.d.setH hls.h (by decide) (by decide) _, hls.kl, hls.ll, hls.dn, hls.gs, hls.nw, hls.bp.set (.inl (.inl rfl)) _⟩⟩
end Go.Proofs.Yteghelmbibpohaa
