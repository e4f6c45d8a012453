/- CHUNKALL: place, one. -/
import Derived.Test.YtbpglkhgggokcaaDoorCH4
namespace Go.Proofs.YtbpglkhgggokcaaDoor
open Go.RowKit

/-- 'append' of an empty list to the lists. -/
theorem app_nil8 {ops : Array Oper} {rest : List Oper} {o : Oper} {a : Act} {Q : Exit → Act → World → Prop} {w : World} (hgd : o.guard = none) (s x : Operand)
    (ho : o.op = .call { callee := .builtin .append, args := #[s, x], argTypes := #[26, 26] }) (w0 : World) (ve : Value) (le : Nat) (el : Nat → Value) (hs : a.eval s = ve) (hv : Wv w0 ve le el) (hw : Below w0.heap.size w0 w) (xo : Addr) (hx : a.eval x = .slice (some xo) 1 1) (hc : w.cell? xo = some (.slice none 0 0)) (hle : le ≤ 5864062014804)
    (h : ∀ ve' w', Wv w' ve' (le + 1) (fun j => if j = le then .slice none 0 0 else el j) → BP (fun b => ve.ownBlock = some b) w0 w' → (∀ g, ve'.ownBlock = some g → ve.ownBlock = some g ∨ w0.heap.size ≤ g) → wpList Tryd.prog ops Q rest (a.put o.dst ve') w') : wpList Tryd.prog ops Q (o :: rest) a w := by
  obtain ⟨i0, hi, hz0, hz1, hz2⟩ := info_parts info_u8s
  have hown := (hv.bp (S := fun _ => False) (BP.bel hw) fun _ _ h => h).own
  refine wpList_append_own_at _ hgd s x _ ho 0 25 i0 (.slice none 0 0) 1 24 und_u8ss hi hz0 hz1 hz2 rfl (by decide) ve le _ hs hown xo 1 1 [.slice none 0 0] hx rfl
    (fun j u hu => by
      rcases j with _ | j
      · simp at hu; subst hu; exact hc
      · simp at hu) (fun x hx => by simp at hx; subst hx; rfl) (by unfold maxLen; omega) (by omega) (Nat.zero_le _) ?_
  intro v' w' h1 h2 _ h4
  obtain ⟨g, cap, f, rfl, _, hle, hmax, hrow, hf⟩ := own_row h1 (by omega)
  have hsz := hw.size
  refine h _ w' (.inr ⟨g, cap, f, rfl, hle, hmax, hrow, fun j hj => ?_⟩) ?_ ?_
  · have h5 := hf j hj
    by_cases hjl : j = le
    · subst hjl
      rw [List.getElem?_append_right (by simp [rowL])] at h5
      simpa [rowL] using h5.symm
    · rw [List.getElem?_append_left (by simp [rowL]; omega)] at h5
      obtain ⟨_, h6⟩ := rowL_get h5
      simp [hjl, h6]
  · exact ((BP.refl _ w0).step hw).trans (BP.grown h2) fun x _ e => e.symm
  · intro g' e
    rcases h4 with e2 | e2
    · rw [← e2]; exact .inl e
    · rw [e] at e2
      injection e2 with e2
      exact .inr (by omega)
theorem Wv.val {w : World} {ve : Value} {le : Nat} {el : Nat → Value} (h : Wv w ve le el) : ∃ eo ec, ve = .slice eo le ec := by
  rcases h with ⟨e, e0⟩ | ⟨_, _, _, e, _⟩
  · subst e0; exact ⟨_, _, e⟩
  · exact ⟨_, _, e⟩
theorem Ov.val {w : World} {T k : Nat} {v : Value} (h : Ov w T k v) : ∃ o n c, v = .slice o n c := by
  rcases h with e | ⟨_, _, _, e, _⟩ <;> exact ⟨_, _, _, e⟩
theorem fin8 {w wv X w1 : World} {S : Nat → Prop} {hb le' i ge cw g' c' : Nat} {vb vl vc v v0 : Value} {gi ci : Nat → Nat} {fs : Nat → Nat → Value} {fv : Nat → Value} {l : List Nat}
    (hkl : i < le') (k1 : le' ≤ cw) (ho : Ho wv S hb vb (.slice (some ⟨ge, 0, none⟩) le' cw) vl vc le' gi ci fs i v) (k3 : wv.rowIs ge 25 cw fv) (hX : Below wv.heap.size wv X) (hz : ∀ b, w.heap.size ≤ b → S b) (hbp : BP S w wv)
    (hrw : ∀ b T n F, T ≠ 5 → T ≠ 29 → v0.ownBlock ≠ some b → w.rowIs b T n F → wv.rowIs b T n F ∧ (Value.slice (some ⟨ge, 0, none⟩) le' cw).ownBlock ≠ some b)
    (hb' : BP (fun b => v.ownBlock = some b) X w1) (hg : v.ownBlock = some g' ∨ X.heap.size ≤ g') (hr : w1.rowIs g' 5 c' (ff l)) (hle : l.length + 3 ≤ c') (hmax : c' ≤ maxLen) :
    ∃ g c, (w1.setCell ⟨ge, i, none⟩ (.slice (some ⟨g', 0, none⟩) c' c')).cell? ⟨ge, i, none⟩ = some (.slice (some ⟨g, 0, none⟩) c c) ∧ l.length + 3 ≤ c ∧ Hq (w1.setCell ⟨ge, i, none⟩ (.slice (some ⟨g', 0, none⟩) c' c')) S hb vb (.slice (some ⟨ge, 0, none⟩) le' cw) vl vc le' (upd gi i g) (upd ci i c) (upd fs i (ff l)) ∧ BP S w (w1.setCell ⟨ge, i, none⟩ (.slice (some ⟨g', 0, none⟩) c' c')) ∧ ∀ b T n F, T ≠ 5 → T ≠ 29 → v0.ownBlock ≠ some b → w.rowIs b T n F → (w1.setCell ⟨ge, i, none⟩ (.slice (some ⟨g', 0, none⟩) c' c')).rowIs b T n F ∧ (Value.slice (some ⟨ge, 0, none⟩) le' cw).ownBlock ≠ some b := by
  have ho' := ho.below hX
  have z1 := hbp.size
  have z2 := hX.size
  have pw := hb'.row (fun e => ho'.o.om.ne (keepr hX k3) (by decide) e) (keepr hX k3)
  refine ⟨g', c', ?_, hle, ho'.fill (fun b hb => hz b (by omega)) rfl hb' hg hr hmax, ((hbp.step hX).trans hb' fun x _ e => ho.s.2.2.2.2 x e).set (.inl (ho.s.2.2.1 ge rfl)) _, fun b T n F t1 t2 hne hF => ?_⟩
  · have h := (pw.set i (.slice (some ⟨g', 0, none⟩) c' c')).cell (i := i) (by omega)
    simpa using h
  · obtain ⟨r0, n0⟩ := hrw b T n F t1 t2 hne hF
    have r1 := hb'.row (fun e => ho'.o.om.ne (keepr hX r0) (Ne.symm t1) e) (keepr hX r0)
    exact ⟨r1.setOther (a := ⟨ge, i, none⟩) (fun e => n0 (congrArg some e.symm)) _, n0⟩
set_option maxHeartbeats 3200000 in
set_option maxRecDepth 100000 in
theorem place_any (S : Nat → Prop) (hb : Nat) (vb ve vl vc : Value) (le : Nat) (gi ci : Nat → Nat) (fs : Nat → Nat → Value) (i : Nat) (la : Option Addr) (cl : Nat) (l : List Nat) (w : World) (hm : l.length ≤ 140737488351232) (hi : i ≤ le) (hi2 : i < 5864062014634) (hz : ∀ b, w.heap.size ≤ b → S b) (hq : Hq w S hb vb ve vl vc le gi ci fs) (hl : By w la l) (hs : ∀ p, la = some p → l ≠ [] → ¬ S p.block) :
    Calls Tryd.prog 28 #[.pointer (some ⟨hb, 0, none⟩), .int .i64 i, .slice la l.length cl] w fun e w' => ∃ ve' le' gi' ci' fs', e = .returned (.slice (some ⟨gi' i, 0, none⟩) l.length (ci' i)) ∧ Pl w w' S hb vb ve ve' vl vc le le' gi gi' ci ci' fs fs' i l := by
  obtain ⟨eo, ec, eve⟩ := hq.d.val.val
  subst eve
  have HQ := hid1 hq
  have HL := hid1 hl
  have HS := hid1 hs
  have HZ := hid1 hz
  have c1 : w.cell? ⟨hb, 1, none⟩ = some (.slice eo le ec) := hq.h.cell (by omega)
  have f1 := hq.h.frozen 1
  obtain ⟨m, em⟩ : ∃ m, l.length = m := ⟨_, rfl⟩
  rw [em] at hm
  have EM := hid1 em
  have hle := hq.ll
  have ii0 : (0 : Int) ≤ (i : Int) := by omega
  have il0 : (0 : Int) ≤ (le : Int) := by omega
  have im0 : (0 : Int) ≤ (m : Int) := by omega
  rw [em]
  clear hq hl hs hz em
  go_enter Tryd.func28, Tryd.ntmps28
  go_upto_if 13 with fail
  go_cut [] (fun wx => ∃ ve' le' v, Ho wx S hb vb ve' vl vc le' gi ci fs i v ∧ le ≤ le' ∧ BP S w wx ∧ ∀ b T n F, T ≠ 5 → T ≠ 29 → (Value.slice eo le ec).ownBlock ≠ some b → w.rowIs b T n F → wx.rowIs b T n F ∧ ve'.ownBlock ≠ some b)
  case first =>
    by_cases e : i = le
    · subst e
      have eii : ((i : Int) == (i : Int)) = true := by simp
      go_wp2_with ((at_builtin; refine app_nil8 rfl _ _ rfl w (.slice eo i ec) i (wsf gi ci) (by go_simp) HQ.out.d.val (bl_alloc (Below.refl _ _) _) ⟨w.heap.size, 0, none⟩ (by go_simp) (by simp [go_sem]) (by omega) ?_; intro ve' w1 hv1 hbut1 hg1; have HV1 := hid1 hv1; have HB1 := hid1 hbut1; have HG1 := hid1 hg1; obtain ⟨eo', ec', eve'⟩ := hv1.val; subst eve'; have h1 := (hbut1.row (HQ.out.d.val.ne HQ.out.h (by decide)) HQ.out.h); have H1 := hid1 h1; have c11 := h1.cell (i := 1) (by omega); have f11 := h1.frozen 1; clear h1 hv1 hbut1 hg1))
      go_meet
      refine ⟨_, i + 1, .slice none 0 0, HQ.out.grow hi2 HZ.out HV1.out HB1.out HG1.out, by omega, ((BP.refl S w).trans HB1.out fun x _ e => HQ.out.s.2.2.1 x e).set (.inl HQ.out.s.1) _, fun b T n F t1 t2 hne hF => ?_⟩
      have r1 := HB1.out.row hne hF
      refine ⟨r1.setOther (a := ⟨hb, 1, none⟩) (row_ne r1 H1.out t2) _, fun e => ?_⟩
      rcases HG1.out b e with e2 | e2
      · exact hne e2
      · have := hF.lt; omega
    · have ine : ¬ (i : Int) = (le : Int) := by omega
      go_wp2_with fail
      go_meet
      exact ⟨_, le, _, HQ.out.open (by omega), Nat.le_refl _, BP.refl _ _, fun b T n F t1 t2 hne hF => ⟨hF, hne⟩⟩
  case rest =>
    obtain ⟨wv, rfl⟩ : ∃ x, x = wc := ⟨wc, rfl⟩
    obtain ⟨ve, le', v, hho, hll, hbp, hrw⟩ := hcut
    obtain ⟨ge, cw, fv, rfl, k1, k2, k3, k4⟩ : ∃ ge cw f, ve = .slice (some ⟨ge, 0, none⟩) le' cw ∧ le' ≤ cw ∧ cw ≤ maxLen ∧ wv.rowIs ge 25 cw f ∧ ∀ j, j < le' → f j = (if j = i then v else wsf gi ci j) := by
      rcases hho.o.val with ⟨_, e⟩ | h
      · have := hho.o.lt; omega
      · exact h
    have hkl := hho.o.lt
    have cw0 : wv.cell? ⟨ge, i, none⟩ = some v := by
      have h := k3.cell (i := i) (by omega)
      rw [k4 i hkl, if_pos rfl] at h
      exact h
    have ch1 : wv.cell? ⟨hb, 1, none⟩ = some (.slice (some ⟨ge, 0, none⟩) le' cw) := hho.h.cell (by omega)
    obtain ⟨vo, vn, vcp, rfl⟩ := hho.o.om.val
    have ikl : (i : Int) < (le' : Int) := by omega
    have hgeb : ge ≠ hb := row_ne k3 hho.h (by decide)
    have hgeb' : hb ≠ ge := hgeb.symm
    have fw := k3.frozen i
    have HHO := hid1 hho
    have HK3 := hid1 k3
    have HBP := hid1 hbp
    have HRW := hid1 hrw
    have HBY : Hid (By wv la l) := hid1 (HL.out.bp hbp HS.out)
    clear hho k3 k4 hbp hrw HQ HL c1 f1
    have FO : Hid (∀ X, Below wv.heap.size wv X → Calls Tryd.prog 29 #[.slice vo vn vcp, .slice la m cl] X fun e w' => ∃ g c, e = .returned (.slice (some ⟨g, 0, none⟩) c c) ∧ l.length + 3 ≤ c ∧ c ≤ maxLen ∧ ((Value.slice vo vn vcp).ownBlock = some g ∨ X.heap.size ≤ g) ∧ w'.rowIs g 5 c (ff l) ∧ BP (fun b => (Value.slice vo vn vcp).ownBlock = some b) X w') := hid1 fun X hX => by
      have h := filled_own (.slice vo vn vcp) la cl l X (by rw [EM.out]; exact hm) ((HHO.out.below hX).o.om) (HBY.out.keep hX)
      rw [EM.out] at h ⊢
      exact h
    go_upto_region 3 with fail
    go_cut [] (fun wx => ∃ g c, wx.cell? ⟨ge, i, none⟩ = some (.slice (some ⟨g, 0, none⟩) c c) ∧ l.length + 3 ≤ c ∧ Hq wx S hb vb (.slice (some ⟨ge, 0, none⟩) le' cw) vl vc le' (upd gi i g) (upd ci i c) (upd fs i (ff l)) ∧ BP S w wx ∧ ∀ b T n F, T ≠ 5 → T ≠ 29 → (Value.slice eo le ec).ownBlock ≠ some b → w.rowIs b T n F → wx.rowIs b T n F ∧ (Value.slice (some ⟨ge, 0, none⟩) le' cw).ownBlock ≠ some b)
    case first =>
      go_region_with (go_at_call 29; refine gen_calls (fun X => Below wv.heap.size wv X) (Below.drew (Below.refl _ _)) ?_; intro X hX; refine (FO.out X hX).mono ?_; rintro e w1 ⟨g', c', rfl, hle', hmax', hg', hrow', hbut'⟩; have p1 := hbut'.cell (fun e => (HHO.out.below hX).o.om.ne (HHO.out.below hX).h (by decide) e) (keepc hX ch1); have pw := hbut'.row (fun e => (HHO.out.below hX).o.om.ne (keepr hX HK3.out) (by decide) e) (keepr hX HK3.out); have pw2 := pw.frozen i; have pw3 := pw.cell (i := i) (by omega); have HR' := hid1 hrow'; have HB' := hid1 hbut'; have PW := hid1 pw; clear hrow' hbut' pw)
      all_goals (refine meet_of (by assumption) ?_; go_meet; exact fin8 hkl k1 HHO.out HK3.out hX HZ.out HBP.out HRW.out HB'.out hg' HR'.out hle' hmax')
    case rest =>
      obtain ⟨wu, rfl⟩ : ∃ x, x = wc := ⟨wc, rfl⟩
      clear HHO HK3 ch1 cw0 fw HBY FO HBP HRW
      obtain ⟨g, c, cg, hle', hq', hbp', hrw'⟩ := hcut
      have ch1 : wu.cell? ⟨hb, 1, none⟩ = some (.slice (some ⟨ge, 0, none⟩) le' cw) := hq'.h.cell (by omega)
      have HQ' := hid1 hq'
      have HB' := hid1 hbp'
      have HR' := hid1 hrw'
      have HLE := hid1 hle'
      rw [EM.out] at hle'
      have imc : (m : Int) ≤ (c : Int) := by omega
      have imc' : m ≤ c := by omega
      clear hq' hbp' hrw'
      go_wp2_with fail
      go_ret
      exact ⟨_, le', _, _, _, by rw [upd_same, upd_same]; rfl, HQ'.out, hkl, hll, fun j hj hn => ⟨upd_other _ _ _ hn, upd_other _ _ _ hn, upd_other _ _ _ hn⟩, ⟨upd_same _ _ _, by rw [upd_same]; exact HLE.out⟩, HB'.out, HR'.out⟩
end Go.Proofs.YtbpglkhgggokcaaDoor
