/- DotNumbers. -/
import Derived.Test.YtgciefmjbaphiaaDoorDN2
import Derived.Test.YtgciefmjbaphiaaDoorDP3
import Derived.Deep.DeepCutAuto
namespace Go.Proofs.YtgciefmjbaphiaaDoor
open Go.RowKit
attribute [local go_sem ↓] Go.wp_at_zero Go.wp_at_succ

theorem gen_anyg' {F : Act → World → Prop} {a : Act} {W : World} (p : World → Prop) (hp : p W) (h : ∀ W', p W' → F a W') : F a W := h W hp
/-- The two boxes of the law's parameters. -/
structure Bx2 (w wr : World) (A B X : Bt) : Prop where
  r : wr.rowIs w.heap.size 26 4 (qf A B)
  x : wr.rowIs (w.heap.size + 1) 24 2 (sf X.n X.ao X.m X.cap)
  b : Below w.heap.size w wr
theorem Bx2.below {w wr w' : World} {A B X : Bt} (h : Bx2 w wr A B X) (hb : Below wr.heap.size wr w') : Bx2 w w' A B X := ⟨keepr hb h.r, keepr hb h.x, bl_step h.b hb⟩
theorem bx2_new (w : World) (A B X : Bt) : Bx2 w ((w.alloc (.cells #[.int .i64 A.n, .slice A.ao A.m A.cap, .int .i64 B.n, .slice B.ao B.m B.cap] 26)).alloc (.cells #[.int .i64 X.n, .slice X.ao X.m X.cap] 24)) A B X := by
  refine ⟨(q_new w A B _).alloc _, ?_, bl_alloc (bl_alloc (Below.refl _ _) _) _⟩
  have h := row_new (w.alloc (.cells #[.int .i64 A.n, .slice A.ao A.m A.cap, .int .i64 B.n, .slice B.ao B.m B.cap] 26)) X.n X.ao X.m X.cap 24
  rw [show (w.alloc (.cells #[.int .i64 A.n, .slice A.ao A.m A.cap, .int .i64 B.n, .slice B.ao B.m B.cap] 26)).heap.size = w.heap.size + 1 by simp] at h
  exact h
theorem mks_pre {w : World} {ao : Option Addr} {l : List Int} (h : R8 w ao (mks l 20)) : R8 w ao l := by
  have := r8_take h l.length
  rwa [show (mks l 20).take l.length = l by simp [mks]] at this
/-- A word lies in none of the planes' own cells. -/
theorem word_ne {w : World} {qb t g j v : Nat} {R : Nat → Bt} (h : w.rowIs qb t 16 (pfc R)) (hc : w.cell? ⟨g, j, none⟩ = some (.int .u64 (v : Int))) : g ≠ qb := by
  rintro rfl
  by_cases hj : j < 16
  · have h2 := h.cell hj
    rw [h2] at hc
    unfold pfc at hc
    split at hc
    · simp at hc
    · simp at hc
  · obtain ⟨c, hb, hn, _⟩ := h
    have : w.cell? ⟨g, j, none⟩ = none := by
      simp [World.cell?, hb]
      omega
    rw [this] at hc
    cases hc
theorem Rz.put {w : World} {qb t i : Nat} {R : Nat → Bt} {b : Bt} (hb : Rz w b) (h : w.rowIs qb t 16 (pfc R)) (v : Value) : Rz (w.setCell ⟨qb, i, none⟩ v) b := by
  refine ⟨⟨hb.1.1, hb.1.2.1, fun k hk => ?_⟩, hb.2⟩
  obtain ⟨g, o, e, c⟩ := hb.1.2.2 k hk
  refine ⟨g, o, e, ?_⟩
  have hne : g ≠ qb := word_ne h c
  rw [World.cell?_of_block (w := w) (Below.heap_setCell w ⟨qb, i, none⟩ v g hne)]
  exact c
theorem Rz.put2 {w : World} {qb t k : Nat} {R : Nat → Bt} {b : Bt} (X : Bt) (hb : Rz w b) (h : w.rowIs qb t 16 (pfc R)) : Rz ((w.setCell ⟨qb, k * 2, none⟩ (.int .i64 X.n)).setCell ⟨qb, k * 2 + 1, none⟩ (.slice X.ao X.m X.cap)) b := by
  refine ⟨⟨hb.1.1, hb.1.2.1, fun j hj => ?_⟩, hb.2⟩
  obtain ⟨g, o, e, c⟩ := hb.1.2.2 j hj
  refine ⟨g, o, e, ?_⟩
  have hne : g ≠ qb := word_ne h c
  rw [World.cell?_of_block (Below.heap_setCell _ ⟨qb, k * 2 + 1, none⟩ _ g hne), World.cell?_of_block (Below.heap_setCell _ ⟨qb, k * 2, none⟩ _ g hne)]
  exact c
/-- A Room is left alone by a store into what is of another kind. -/
theorem Rm.put8 {w : World} {M mb t k j : Nat} {f : Nat → Value} {L : List (Bt × Value)} (h : Rm w M L) (r : w.rowIs mb t k f) (h1 : 57 ≠ t) (h2 : 22 ≠ t) (h3 : 69 ≠ t) (v : Value) : Rm (w.setCell ⟨mb, j, none⟩ v) M L := by
  obtain ⟨vw, vs, a1, a2, a3, a4, a5⟩ := h
  have hg : w.grownBy (w.setCell ⟨mb, j, none⟩ v) (some mb) := ⟨rfl, rfl, rfl, by simp, fun q _ hne => Below.heap_setCell w ⟨mb, j, none⟩ v q (fun e => hne (by rw [e]))⟩
  have key : ∀ {e : TypeId} {u : Value} {n : Nat} {xs : List Value} {base : Nat}, w.ownsRow base e 1 u n xs → e ≠ t → (w.setCell ⟨mb, j, none⟩ v).ownsRow base e 1 u n xs := fun ho hne => ho.kept hg (.inr (own_row_ne ho r hne))
  exact ⟨vw, vs, a1.setOther (row_ne a1 r h1) _, key a2 h2, key a3 h2, a4, fun e he => key (a5 e he) h3⟩
/-- What the walk keeps while a Room's twins are made: W the world then, mb the block of the planes' twins. -/
structure KN (W Y : World) (M mb : Nat) (T : Nat → Bt) : Prop where
  b : Below M W Y
  r : Y.rowIs mb 36 16 (pfc T)
theorem KN.drew {W Y : World} {M mb : Nat} {T : Nat → Bt} (h : KN W Y M mb T) : KN W Y.drew M mb T := ⟨h.b.drew, h.r⟩
theorem kpN {W Y : World} {M mb rb : Nat} {T : Nat → Bt} {A B : Bt} (hr : W.rowIs rb 26 4 (qf A B)) (hrb : rb < M) (h : KN W Y M mb T) :
    (Y.cell? ⟨rb, 0, none⟩ = some (.int .i64 A.n) ∧ Y.cell? ⟨rb, 1, none⟩ = some (.slice A.ao A.m A.cap) ∧ Y.cell? ⟨rb, 2, none⟩ = some (.int .i64 B.n) ∧ Y.cell? ⟨rb, 3, none⟩ = some (.slice B.ao B.m B.cap)) ∧ C16 Y mb T := by
  have r' := hr.of_block (h.b.block _ hrb)
  exact ⟨⟨q0 r', q1 r', q2 r', q3 r'⟩, c16 h.r⟩
set_option maxHeartbeats 6400000 in
set_option maxRecDepth 100000 in
theorem lawNumbers_any (A B X : Bt) (ao : Option Addr) (l : List Sl) (c1 : Nat) (x : Int) (w : World) (LD : LaidP w) (hl : l.length ≤ 9223372036854775807) (hA : Rz w A) (hB : Rz w B) (hX : Rz w X) (h : Lsm w ao l) :
    Calls Tryd.prog 8 #[rwv A B, .slice ao l.length c1, .int .i64 x, X.v] w fun e w' => e = .returned (.bool true) ∧ Below w.heap.size w w' := by
  have HL := hid1 h
  have HA := hid1 hA
  have HB := hid1 hB
  have HX := hid1 hX
  have HLD := hid1 LD
  obtain ⟨n, en⟩ : ∃ n, l.length = n := ⟨_, rfl⟩
  have EN := hid1 en
  rw [en] at hl
  rw [en]
  clear h hA hB hX LD en
  go_enter Tryd.func8, Tryd.ntmps8
  go_wp2_with fail
  refine gen_calls (fun W => Bx2 w W A B X) (bx2_new w A B X) ?_
  intro W0 hbx
  refine (dbegun_any W0 (HLD.out.on hbx.b)).mono ?_
  rintro e w1 ⟨rfl, hb1⟩
  have HBX := hid1 (hbx.below hb1)
  clear hbx hb1
  go_wp2_with fail
  go_loopw [10] (fun v wr => ∃ i : Nat, i ≤ n ∧ v = .int .i64 i ∧ Bx2 w wr A B X) (fun v _ => n - (intOf v).toNat)
  case atStart => exact ⟨0, Nat.zero_le _, rfl, HBX.out⟩
  case round =>
    clear HBX
    obtain ⟨i, hi, rfl, hbx⟩ := hrel
    have HBX := hid1 hbx
    clear hbx
    by_cases hlt : i < n
    · have hil : i < l.length := by rw [EN.out]; exact hlt
      have ii : (i : Int) < (n : Int) := by omega
      have ii0 : (0 : Int) ≤ (i : Int) := by omega
      obtain ⟨⟨g, o, rfl, c0⟩, hso⟩ := HL.out i hil
      generalize l[i] = s at *
      obtain ⟨sl, sao, scap⟩ := s
      obtain ⟨so1, so2, so3, so4, so5⟩ := hso
      dsimp only at c0 so1 so2 so3 so4 so5
      obtain ⟨N, eNN⟩ : ∃ N, sl.length = N := ⟨_, rfl⟩
      rw [eNN] at c0 so1
      have ENN := hid1 eNN
      have hN : N ≤ 140737488351232 := by omega
      have HS3 := hid1 so3
      have HS4 := hid1 so4
      have HS5 := hid1 so5
      have HC0 := hid1 c0
      have CN : Hid (∀ Y, Below w.heap.size w Y → Calls Tryd.prog 31 #[.slice sao N scap] Y fun e w' => ∃ g cap, e = .returned (.slice (some ⟨g, 0, none⟩) (N + 20) cap) ∧ N + 20 ≤ cap ∧ cap ≤ maxLen ∧ R8 w' (some ⟨g, 0, none⟩) (mks sl 20) ∧ Below Y.heap.size Y w') := fun Y hY => by
        refine (lnumbers_any sl N ENN.out sao scap Y hN HS4.out (HS5.out.below hY)).mono ?_
        rintro e w' ⟨v, rfl, hown, hb⟩
        have hlen : (mks sl 20).length = N + 20 := by rw [mks_len, ENN.out]
        rcases hown.2 with ⟨_, h0⟩ | ⟨g, cap, cur, rfl, _, _, h4, h5, _⟩
        · omega
        · have hown2 := hown
          rw [← hlen] at hown2
          obtain ⟨ao', cap', e2, hr8⟩ := r8_own hown2
          injection e2 with e3 e4 e5
          subst e3
          exact ⟨g, cap, rfl, h4, h5, hr8.2.2.2.2, hb⟩
      clear so1 so2 so3 so4 so5 c0 eNN
      have c0 := keepc HBX.out.b HC0.out
      go_wp2_with fail
      refine (CN.out wr HBX.out.b).mono ?_
      rintro e w2 ⟨g2, cap2, rfl, hc2, hc2', hr2, hb2⟩
      have HB2 := hid1 (HBX.out.below hb2)
      have HR2 := hid1 hr2
      clear HBX hr2 c0 hb2
      have c0 := keepc HB2.out.b HC0.out
      have hcm : cap2 ≤ 9223372036854775807 := by have := hc2'; unfold maxLen at this; omega
      have icm : (cap2 : Int) ≤ 9223372036854775807 := by omega
      have iN : (N : Int) ≤ (cap2 : Int) := by omega
      have iN2 : (N : Int) + 20 ≤ (cap2 : Int) := by omega
      have hNi : (N : Int) ≤ 140737488351232 := by omega
      go_wp2_with fail
      refine (planes_w sl N ENN.out (some ⟨g2, 0, none⟩) (N + 20) w2 (by omega) (mks_pre HR2.out)).mono ?_
      rintro e w3 ⟨P, rfl, hP, hb3⟩
      have HB3 := hid1 (HB2.out.below hb3)
      have HR3 := hid1 (HR2.out.below hb3)
      have HP3 := hid1 hP
      clear HB2 HR2 hP hb3 c0
      obtain ⟨E, eE⟩ : ∃ E, exE N = E := ⟨_, rfl⟩
      have EE := hid1 eE
      rw [eE]
      clear eE
      have c0 := keepc (bl_step HB3.out.b (bl_alloc (Below.refl _ w3) (.cells #[.int .i64 (P 0).n, .slice (P 0).ao (P 0).m (P 0).cap, .int .i64 (P 1).n, .slice (P 1).ao (P 1).m (P 1).cap, .int .i64 (P 2).n, .slice (P 2).ao (P 2).m (P 2).cap, .int .i64 (P 3).n, .slice (P 3).ao (P 3).m (P 3).cap, .int .i64 (P 4).n, .slice (P 4).ao (P 4).m (P 4).cap, .int .i64 (P 5).n, .slice (P 5).ao (P 5).m (P 5).cap, .int .i64 (P 6).n, .slice (P 6).ao (P 6).m (P 6).cap, .int .i64 (P 7).n, .slice (P 7).ao (P 7).m (P 7).cap] 36))) HC0.out
      go_wp2_with fail
      refine gen_calls (fun W => Below w3.heap.size w3 W ∧ W.rowIs w3.heap.size 36 16 (pfc P)) ⟨bl_alloc (Below.refl _ _) _, p_new w3 P _⟩ ?_
      rintro W4 ⟨hb4, rP⟩
      have HB4 := hid1 (HB3.out.below hb4)
      have HR4 := hid1 (HR3.out.below hb4)
      have HP4 : Hid (∀ k, k < 8 → Ex sl N k (P k) ∧ RU W4 (P k).ao (P k).m (P k).N) := fun k hk => ⟨(HP3.out k hk).1, (HP3.out k hk).2.below hb4⟩
      obtain ⟨pb, epb⟩ : ∃ pb, w3.heap.size = pb := ⟨_, rfl⟩
      rw [epb] at rP
      rw [epb]
      have RP4 := hid1 rP
      clear HB3 HR3 HP3 hb4 rP epb c0
      have CR := rplanes_w sl N ENN.out sao scap W4 (by omega) HS3.out (HS5.out.below HB4.out.b)
      rw [EE.out] at CR
      refine CR.mono ?_
      rintro e w5 ⟨Q, rfl, hQ, hb5⟩
      have HB5 := hid1 (HB4.out.below hb5)
      have HR5 := hid1 (HR4.out.below hb5)
      have RP5 := hid1 (keepr hb5 RP4.out)
      have HP5 : Hid (∀ k, k < 8 → Ex sl N k (P k) ∧ RU w5 (P k).ao (P k).m (P k).N) := fun k hk => ⟨(HP4.out k hk).1, (HP4.out k hk).2.below hb5⟩
      have HQ5 := hid1 hQ
      clear HB4 HR4 HP4 RP4 hQ hb5 CR
      have c0 := keepc (bl_step HB5.out.b (bl_alloc (Below.refl _ w5) (.cells #[.int .i64 (Q 0).n, .slice (Q 0).ao (Q 0).m (Q 0).cap, .int .i64 (Q 1).n, .slice (Q 1).ao (Q 1).m (Q 1).cap, .int .i64 (Q 2).n, .slice (Q 2).ao (Q 2).m (Q 2).cap, .int .i64 (Q 3).n, .slice (Q 3).ao (Q 3).m (Q 3).cap, .int .i64 (Q 4).n, .slice (Q 4).ao (Q 4).m (Q 4).cap, .int .i64 (Q 5).n, .slice (Q 5).ao (Q 5).m (Q 5).cap, .int .i64 (Q 6).n, .slice (Q 6).ao (Q 6).m (Q 6).cap, .int .i64 (Q 7).n, .slice (Q 7).ao (Q 7).m (Q 7).cap] 36))) HC0.out
      go_wp2_with fail
      refine gen_calls (fun W => Below w5.heap.size w5 W ∧ W.rowIs w5.heap.size 36 16 (pfc Q)) ⟨bl_alloc (Below.refl _ _) _, p_new w5 Q _⟩ ?_
      rintro W6 ⟨hb6, rQ⟩
      have HB6 := hid1 (HB5.out.below hb6)
      have HR6 := hid1 (HR5.out.below hb6)
      have RP6 := hid1 (keepr hb6 RP5.out)
      have HP6 : Hid (∀ k, k < 8 → Ex sl N k (P k) ∧ RU W6 (P k).ao (P k).m (P k).N) := fun k hk => ⟨(HP5.out k hk).1, (HP5.out k hk).2.below hb6⟩
      have HQ6 : Hid (∀ k, k < 8 → Ex sl N k (Q k) ∧ Rz W6 (Q k)) := fun k hk => ⟨(HQ5.out k hk).1, (HQ5.out k hk).2.below hb6⟩
      obtain ⟨qb, eqb⟩ : ∃ qb, w5.heap.size = qb := ⟨_, rfl⟩
      have hqb : w.heap.size ≤ qb := by rw [← eqb]; exact HB5.out.b.size
      rw [eqb] at rQ
      rw [eqb]
      have RQ6 := hid1 rQ
      clear HB5 HR5 RP5 HP5 HQ5 hb6 rQ eqb c0
      refine (CN.out W6 HB6.out.b).mono ?_
      rintro e w7 ⟨g7, cap7, rfl, _, _, hr7, hb7⟩
      have HB7 := hid1 (HB6.out.below hb7)
      have HR7 := hid1 (HR6.out.below hb7)
      have RP7 := hid1 (keepr hb7 RP6.out)
      have RQ7 := hid1 (keepr hb7 RQ6.out)
      have HP7 : Hid (∀ k, k < 8 → Ex sl N k (P k) ∧ RU w7 (P k).ao (P k).m (P k).N) := fun k hk => ⟨(HP6.out k hk).1, (HP6.out k hk).2.below hb7⟩
      have HQ7 : Hid (∀ k, k < 8 → Ex sl N k (Q k) ∧ Rz w7 (Q k)) := fun k hk => ⟨(HQ6.out k hk).1, (HQ6.out k hk).2.below hb7⟩
      have HR7' := hid1 hr7
      clear HB6 HR6 RP6 RQ6 HP6 HQ6 hb7 hr7
      go_wp2_with fail
      refine (sameSmall_true (mks sl 20) (N + 20) (by rw [mks_len, ENN.out]) (some ⟨g2, 0, none⟩) (some ⟨g7, 0, none⟩) cap2 cap7 w7 (by omega) HR7.out HR7'.out).mono ?_
      rintro e w8 ⟨rfl, hb8⟩
      have HB8 := hid1 (HB7.out.below hb8)
      have RP8 := hid1 (keepr hb8 RP7.out)
      have RQ8 := hid1 (keepr hb8 RQ7.out)
      have HP8 : Hid (∀ k, k < 8 → Ex sl N k (P k) ∧ RU w8 (P k).ao (P k).m (P k).N) := fun k hk => ⟨(HP7.out k hk).1, (HP7.out k hk).2.below hb8⟩
      have HQ8 : Hid (∀ k, k < 8 → Ex sl N k (Q k) ∧ Rz w8 (Q k)) := fun k hk => ⟨(HQ7.out k hk).1, (HQ7.out k hk).2.below hb8⟩
      clear HB7 RP7 RQ7 HP7 HQ7 HR7 HR7' hb8 CN
      go_wp2_with fail
      go_loopw [16] (fun v wy => ∃ k : Nat, k ≤ 8 ∧ v = .int .i64 k ∧ Below w8.heap.size w8 wy) (fun v _ => 8 - (intOf v).toNat)
      case atStart => exact ⟨0, by omega, rfl, Below.refl _ _⟩
      case round =>
        rename World => V
        obtain ⟨k, hk, rfl, hbV⟩ := hrel
        by_cases hk8 : k < 8
        · as_aux_lemma =>
            have kk : (k : Int) < 8 := by omega
            have kk0 : (0 : Int) ≤ (k : Int) := by omega
            have rp := keepr hbV RP8.out
            have rq := keepr hbV RQ8.out
            have p0 := rp.cell (i := k * 2) (by omega)
            have p1 := rp.cell (i := k * 2 + 1) (by omega)
            have q0' := rq.cell (i := k * 2) (by omega)
            have q1' := rq.cell (i := k * 2 + 1) (by omega)
            rw [pfc_even] at p0 q0'
            rw [pfc_odd] at p1 q1'
            obtain ⟨⟨x1, x2, x3⟩, xr⟩ := HP8.out k hk8
            obtain ⟨⟨y1, y2, y3⟩, yr⟩ := HQ8.out k hk8
            have xr' := xr.below hbV
            have yr' := yr.1.ru.below hbV
            have hm9 := yr.1.2.1
            generalize P k = pk at *
            generalize Q k = qk at *
            obtain ⟨pn, pa, pm, pc', pN⟩ := pk
            obtain ⟨qn, qa, qm, qc, qN⟩ := qk
            dsimp only at *
            have e1 : qn = pn := by rw [x1, y1]
            have e2 : qm = pm := by rw [x2, y2]
            have e3 : qN = pN := by rw [x3, y3]
            subst e1 e2 e3
            clear x1 x2 x3 xr y1 y2 y3 yr rp rq
            have CB : Hid (∀ Y, Below V.heap.size V Y → Calls Tryd.prog 30 #[rv qn pa qm pc', rv qn qa qm qc] Y fun e w' => e = .returned (.bool true) ∧ Below Y.heap.size Y w') := fun Y hY => sameBits_true qn qm qN pa qa pc' qc Y hm9 (xr'.below hY) (yr'.below hY)
            have HK : Hid (∀ Y, Below V.heap.size V Y → Y.cell? ⟨pb, k * 2, none⟩ = some (.int .i64 qn) ∧ Y.cell? ⟨pb, k * 2 + 1, none⟩ = some (.slice pa qm pc') ∧ Y.cell? ⟨qb, k * 2, none⟩ = some (.int .i64 qn) ∧ Y.cell? ⟨qb, k * 2 + 1, none⟩ = some (.slice qa qm qc)) := fun Y hY => ⟨keepc hY p0, keepc hY p1, keepc hY q0', keepc hY q1'⟩
            clear xr' yr' hm9 p0 p1 q0' q1'
            go_wp2_with fail
            go_region_held3 (fun Y => Y.cell? ⟨pb, k * 2, none⟩ = some (.int .i64 qn) ∧ Y.cell? ⟨pb, k * 2 + 1, none⟩ = some (.slice pa qm pc') ∧ Y.cell? ⟨qb, k * 2, none⟩ = some (.int .i64 qn) ∧ Y.cell? ⟨qb, k * 2 + 1, none⟩ = some (.slice qa qm qc))
              (((try dsimp only); (refine HK.out _ ?_); (repeat (first | (with_reducible exact Below.refl _ _) | (with_reducible assumption) | (with_reducible refine Below.drew ?_))); done))
              ((go_at_call 30; refine gen_calls (fun Z => Below V.heap.size V Z) (by repeat (first | (with_reducible exact Below.refl _ _) | (with_reducible assumption) | (with_reducible refine Below.drew ?_))) ?_; intro Z hZ; refine (CB.out Z hZ).mono ?_; rintro e y1 ⟨rfl, hy1⟩; have hYy := bl_step hZ hy1))
            go_wp2_with fail
            exact ⟨⟨k + 1, by omega, by go_num, bl_step hbV hYy⟩, by simp [intOf]; omega⟩
        · have hk9 : k = 8 := by omega
          subst hk9
          have HB9 := hid1 (HB8.out.below hbV)
          have RQ9 := hid1 (keepr hbV RQ8.out)
          have HQ9 : Hid (∀ k, k < 8 → Rz V (Q k)) := fun k hk => (HQ8.out k hk).2.below hbV
          clear HB8 RP8 RQ8 HP8 HQ8 hbV
          go_wp2_with fail
          go_loopw [17] (fun v wy => ∃ (rd : Nat) (R : Nat → Bt), rd ≤ 2 ∧ v = .int .i64 rd ∧ wy.rowIs qb 36 16 (pfc R) ∧ (∀ k, k < 8 → Rz wy (R k)) ∧ Bx2 w wy A B X) (fun v _ => 2 - (intOf v).toNat)
          case atStart => exact ⟨0, Q, by omega, rfl, RQ9.out, HQ9.out, HB9.out⟩
          case round =>
            clear RQ9 HQ9 HB9
            rename World => V
            obtain ⟨rd, R, hrd, rfl, rQ, hQ, hBx⟩ := hrel
            have RQ := hid1 rQ
            have HQ := hid1 hQ
            have HB1 := hid1 hBx
            clear rQ hQ hBx
            by_cases hr2 : rd < 2
            · have rr : (rd : Int) < 2 := by omega
              go_upto_if 91 with fail
              go_cut [] (fun wx => ∃ R', wx.rowIs qb 36 16 (pfc R') ∧ (∀ k, k < 8 → Rz wx (R' k)) ∧ Bx2 w wx A B X)
              case first =>
                as_aux_lemma =>
                  by_cases h1 : rd = 1
                  · subst h1
                    obtain ⟨kk, ekk⟩ : ∃ kk : Nat, (x.tmod 8).natAbs = kk := ⟨_, rfl⟩
                    have hk8 : kk < 8 := by
                      have h1 := Int.tmod_lt_of_pos x (show (0 : Int) < 8 by omega)
                      have h2 := Int.lt_tmod_of_pos x (show (0 : Int) < 8 by omega)
                      omega
                    have n1 := row_ne RQ.out HB1.out.r (by decide)
                    have n2 := row_ne RQ.out HB1.out.x (by decide)
                    have c1 := RQ.out.cell (i := kk * 2) (by omega)
                    have c2 := RQ.out.cell (i := kk * 2 + 1) (by omega)
                    have f1 := RQ.out.frozen (kk * 2)
                    have f2 := RQ.out.frozen (kk * 2 + 1)
                    have x0 := sf_len HB1.out.x
                    have x1 := sf_ws HB1.out.x
                    have ik0 : (0 : Int) ≤ (kk : Int) := by omega
                    have ik8 : (kk : Int) < 8 := by omega
                    have hfin : Hid (∃ R', ((V.setCell ⟨qb, kk * 2, none⟩ (.int .i64 X.n)).setCell ⟨qb, kk * 2 + 1, none⟩ (.slice X.ao X.m X.cap)).rowIs qb 36 16 (pfc R') ∧ (∀ k, k < 8 → Rz ((V.setCell ⟨qb, kk * 2, none⟩ (.int .i64 X.n)).setCell ⟨qb, kk * 2 + 1, none⟩ (.slice X.ao X.m X.cap)) (R' k)) ∧ Bx2 w ((V.setCell ⟨qb, kk * 2, none⟩ (.int .i64 X.n)).setCell ⟨qb, kk * 2 + 1, none⟩ (.slice X.ao X.m X.cap)) A B X) := hid1 (by
                      refine ⟨put8 R kk X, put8_row X RQ.out, fun k hk => ?_, ⟨(HB1.out.r.setOther (a := ⟨qb, kk * 2, none⟩) (Ne.symm n1) _).setOther (a := ⟨qb, kk * 2 + 1, none⟩) (Ne.symm n1) _, (HB1.out.x.setOther (a := ⟨qb, kk * 2, none⟩) (Ne.symm n2) _).setOther (a := ⟨qb, kk * 2 + 1, none⟩) (Ne.symm n2) _, bl_set (bl_set HB1.out.b hqb _) hqb _⟩⟩
                      unfold put8
                      by_cases e : k = kk
                      · rw [if_pos e]; exact Rz.put2 X (HX.out.below HB1.out.b) RQ.out
                      · rw [if_neg e]; exact Rz.put2 X (HQ.out k hk) RQ.out)
                    by_cases hneg : x.tmod 8 < 0
                    · have ek : x.tmod 8 = -(kk : Int) := by omega
                      have hkp : 0 < kk := by omega
                      have hkp' : -(kk : Int) < 0 := by omega
                      clear hneg ekk n1 n2
                      go_wp2_with fail
                      go_meet
                      exact hfin.out
                    · have ek : x.tmod 8 = (kk : Int) := by omega
                      clear hneg ekk n1 n2
                      go_wp2_with fail
                      go_meet
                      exact hfin.out
                  · have h0 : rd = 0 := by omega
                    subst h0
                    go_wp2_with fail
                    go_meet
                    exact ⟨R, RQ.out, HQ.out, HB1.out⟩
              case rest =>
                obtain ⟨R', rQ, hQ, hBx⟩ := hcut
                have RQ' := hid1 rQ
                have HQ' := hid1 hQ
                have HBx := hid1 hBx
                clear rQ hQ hBx RQ HQ HB1
                go_upto_region 26 with fail
                have bel : Below wc.heap.size wc (wc.alloc (.cells #[.slice none 0 0, .slice none 0 0] 57)) := bl_alloc (Below.refl _ _) _
                refine gen_world (fun W => Rm W wc.heap.size [] ∧ Below wc.heap.size wc W) ⟨rm_new wc, bel⟩ ?_
                rintro W ⟨hRm, hbW⟩
                clear bel
                have qlt := RQ'.out.lt
                have rlt := HBx.out.r.lt
                have rQW := keepr hbW RQ'.out
                have HQW : Hid (∀ k, k < 8 → Rz W (R' k)) := fun k hk => (HQ'.out k hk).below hbW
                have HBW := hid1 (HBx.out.below hbW)
                have HBel := hid1 hbW
                obtain ⟨M, eM⟩ : ∃ M, wc.heap.size = M := ⟨_, rfl⟩
                rw [eM] at hRm qlt rlt
                rw [eM]
                have EM := hid1 eM
                have HRm := hid1 hRm
                have hMW : M ≤ W.heap.size := by rw [← eM]; exact hbW.size
                clear hRm hbW eM
                obtain ⟨d0, d1, d2, d3, d4, d5, d6, d7, d8, d9, d10, d11, d12, d13, d14, d15⟩ := c16 rQW
                have RQW := hid1 rQW
                clear rQW
                go_wp2_with fail
                refine gen_anyg' (fun U => Below W.heap.size W U ∧ U.rowIs W.heap.size 36 16 (pfc R')) ⟨bl_alloc (Below.refl _ _) _, p_new W R' _⟩ ?_
                rintro U ⟨hbU, rM⟩
                obtain ⟨mb, emb⟩ : ∃ mb, W.heap.size = mb := ⟨_, rfl⟩
                have hmb : M ≤ mb := by rw [← emb]; exact hMW
                rw [emb] at rM
                rw [emb]
                have RM := hid1 rM
                have HRU := hid1 (HRm.out.below hbU)
                have HBM : Hid (Below M W U) := hid1 (hbU.mono hMW)
                clear d0 d1 d2 d3 d4 d5 d6 d7 d8 d9 d10 d11 d12 d13 d14 d15 hbU rM HRm emb
                go_loopw [21] (fun v wy => ∃ (k : Nat) (L : List (Bt × Value)) (T : Nat → Bt), k ≤ 8 ∧ v = .int .i64 k ∧ Tw8 L R' T k ∧ Rm wy M L ∧ KN W wy M mb T) (fun v _ => 8 - (intOf v).toNat)
                case atStart => exact ⟨0, [], R', by omega, rfl, ⟨rfl, fun j hj => absurd hj (by omega), fun _ _ => rfl, fun e he => absurd he (by simp)⟩, HRU.out, HBM.out, RM.out⟩
                case round =>
                  clear HRU HBM RM
                  rename World => Z
                  obtain ⟨k, L, T, hk, rfl, hTw, hRm, hKN⟩ := hrel
                  have HTw := hid1 hTw
                  have HRm := hid1 hRm
                  have HKN := hid1 hKN
                  clear hTw hRm hKN
                  have HBY : Hid (∀ Y, Below M W Y → Below wc.heap.size wc Y) := fun Y hY => by
                    have h := (HBel.out.mono (Nat.le_of_eq EM.out.symm)).trans hY
                    rw [← EM.out] at h
                    exact h
                  have HRZ : Hid (∀ Y, Below M W Y → (∀ k, k < 8 → Rz Y (R' k)) ∧ Rz Y A ∧ Rz Y B ∧ LaidP Y) := fun Y hY => by
                    have hb := HBY.out Y hY
                    exact ⟨fun k hk => (HQ'.out k hk).below hb, (HA.out.below HBx.out.b).below hb, (HB.out.below HBx.out.b).below hb, (HLD.out.on HBx.out.b).on hb⟩
                  by_cases hk8 : k < 8
                  · as_aux_lemma =>
                      have kk : (k : Int) < 8 := by omega
                      have kk0 : (0 : Int) ≤ (k : Int) := by omega
                      have rq := RQW.out.of_block (HKN.out.b.block _ qlt)
                      have a0 := rq.cell (i := k * 2) (by omega)
                      have a1 := rq.cell (i := k * 2 + 1) (by omega)
                      rw [pfc_even] at a0
                      rw [pfc_odd] at a1
                      clear rq
                      go_wp2_with fail
                      refine (room_bits (R' k) M L Z (by rw [HTw.out.len]; omega) HRm.out ((HRZ.out Z HKN.out.b).1 k hk8)).mono ?_
                      rintro e Z2 ⟨g9, c9, rfl, hRm2, hbM2, hFr2⟩
                      have r2 : Z2.rowIs mb 36 16 (pfc T) := hFr2 _ _ _ _ HKN.out.r (by decide) (by decide) (by decide)
                      have b0 := r2.cell (i := k * 2) (by omega)
                      have b1 := r2.cell (i := k * 2 + 1) (by omega)
                      have f0 := r2.frozen (k * 2)
                      have f1 := r2.frozen (k * 2 + 1)
                      have KF : Hid (Tw8 (L ++ [(R' k, tv (R' k) g9 c9)]) R' (put8 T k (tw (R' k) g9)) (k + 1) ∧ Rm ((Z2.setCell ⟨mb, k * 2, none⟩ (.int .i64 (R' k).n)).setCell ⟨mb, k * 2 + 1, none⟩ (.slice (some ⟨g9, 0, none⟩) (R' k).m ((R' k).m + 20))) M (L ++ [(R' k, tv (R' k) g9 c9)]) ∧ KN W ((Z2.setCell ⟨mb, k * 2, none⟩ (.int .i64 (R' k).n)).setCell ⟨mb, k * 2 + 1, none⟩ (.slice (some ⟨g9, 0, none⟩) (R' k).m ((R' k).m + 20))) M mb (put8 T k (tw (R' k) g9))) := hid1 (by
                        refine ⟨HTw.out.step g9 c9, ?_, ⟨?_, put8_row (tw (R' k) g9) r2⟩⟩
                        · have h1 := hRm2.put8 (j := k * 2) r2 (by decide) (by decide) (by decide) (.int .i64 (R' k).n)
                          exact h1.put8 (r2.set (k * 2) (.int .i64 (R' k).n)) (by decide) (by decide) (by decide) _
                        · exact ((HKN.out.b.trans hbM2).setCell (show M ≤ mb from hmb) _).setCell (show M ≤ mb from hmb) _)
                      clear hRm2 hbM2 hFr2 r2 a0 a1 HKN HRm HTw
                      go_wp2_with fail
                      refine ⟨?_, by simp [intOf]; omega⟩
                      (repeat apply Exists.intro)
                      exact ⟨⟨k + 1, _, _, by omega, by go_num, KF.out.1, KF.out.2.1, KF.out.2.2⟩, rfl⟩
                  · as_aux_lemma =>
                      have hk9 : k = 8 := by omega
                      subst hk9
                      have KQ0 := HKN.out
                      have HP0 := hid1 (And.intro HKN.out HRm.out)
                      have HBWr := HBW.out.r
                      obtain ⟨va, eva⟩ : ∃ v, nmV A B R' = v := ⟨_, rfl⟩
                      obtain ⟨ve, eve⟩ : ∃ v, nmE A B R' = v := ⟨_, rfl⟩
                      have NC : Hid (∀ g1 g2, nmE (tw A g1) (tw B g2) T = ve ∧ nmV (tw A g1) (tw B g2) T = va) := fun g1 g2 => by
                        rw [← eva, ← eve]
                        exact nm_congr fun p hp => by
                          obtain ⟨g, c, e, _⟩ := HTw.out.got p hp
                          rw [e]; exact ⟨rfl, rfl, rfl⟩
                      have CRN : Hid (∀ Y, Below M W Y → Calls Tryd.prog 33 #[rwv A B, pv R'] Y fun e w' => e = .returned (.tuple #[.int .i64 va, .int .i64 ve]) ∧ Below Y.heap.size Y w') := fun Y hY => by
                        obtain ⟨hz, za, zb', _⟩ := HRZ.out Y hY
                        rw [← eva, ← eve]
                        exact rnumbers_any A B R' Y za.1 zb'.1 (fun p hp => (hz p hp).1)
                      clear eva eve
                      have hLl : L.length ≤ 12 := by rw [HTw.out.len]; omega
                      go_wp2_with fail
                      go_region_held3 (fun Y => (Y.cell? ⟨w.heap.size, 0, none⟩ = some (.int .i64 A.n) ∧ Y.cell? ⟨w.heap.size, 1, none⟩ = some (.slice A.ao A.m A.cap) ∧ Y.cell? ⟨w.heap.size, 2, none⟩ = some (.int .i64 B.n) ∧ Y.cell? ⟨w.heap.size, 3, none⟩ = some (.slice B.ao B.m B.cap)) ∧ Y.cell? ⟨mb, 0, none⟩ = some (.int .i64 (T 0).n) ∧ Y.cell? ⟨mb, 1, none⟩ = some (.slice (T 0).ao (T 0).m (T 0).cap) ∧ Y.cell? ⟨mb, 2, none⟩ = some (.int .i64 (T 1).n) ∧ Y.cell? ⟨mb, 3, none⟩ = some (.slice (T 1).ao (T 1).m (T 1).cap) ∧ Y.cell? ⟨mb, 4, none⟩ = some (.int .i64 (T 2).n) ∧ Y.cell? ⟨mb, 5, none⟩ = some (.slice (T 2).ao (T 2).m (T 2).cap) ∧ Y.cell? ⟨mb, 6, none⟩ = some (.int .i64 (T 3).n) ∧ Y.cell? ⟨mb, 7, none⟩ = some (.slice (T 3).ao (T 3).m (T 3).cap) ∧ Y.cell? ⟨mb, 8, none⟩ = some (.int .i64 (T 4).n) ∧ Y.cell? ⟨mb, 9, none⟩ = some (.slice (T 4).ao (T 4).m (T 4).cap) ∧ Y.cell? ⟨mb, 10, none⟩ = some (.int .i64 (T 5).n) ∧ Y.cell? ⟨mb, 11, none⟩ = some (.slice (T 5).ao (T 5).m (T 5).cap) ∧ Y.cell? ⟨mb, 12, none⟩ = some (.int .i64 (T 6).n) ∧ Y.cell? ⟨mb, 13, none⟩ = some (.slice (T 6).ao (T 6).m (T 6).cap) ∧ Y.cell? ⟨mb, 14, none⟩ = some (.int .i64 (T 7).n) ∧ Y.cell? ⟨mb, 15, none⟩ = some (.slice (T 7).ao (T 7).m (T 7).cap))
                        (((try dsimp only); (refine kpN HBWr rlt ?_); (repeat (first | (with_reducible assumption) | (with_reducible refine KN.drew ?_))); done))
                        (first
                        | (go_at_call 14; refine gen_calls (fun X2 => KN W X2 M mb T ∧ Rm X2 M (L ++ [(A, tv A h1g c1g)] ++ [(B, tv B h2g c2g)])) (by first | exact HP1.out | exact ⟨HP1.out.1.drew, HP1.out.2.drew⟩) ?_; intro X3 hX3; obtain ⟨hz, za, zb', ld⟩ := HRZ.out X3 hX3.1.b; refine (numbers_any (tw A h1g) (tw B h2g) T X3 ld (hX3.2.twin (c := c1g) (by simp) za.1) (hX3.2.twin (c := c2g) (by simp) zb'.1) (fun p hp => (by obtain ⟨g, c, e, he⟩ := HTw.out.got p hp; rw [e]; exact hX3.2.twin (List.mem_append_left _ (List.mem_append_left _ he)) (hz p hp).1))).mono ?_; rintro e y3 ⟨rfl, hb3⟩; have KQ3 : KN W y3 M mb T := ⟨hX3.1.b.trans (hb3.mono (Nat.le_trans hMW hX3.1.b.size)), keepr hb3 hX3.1.r⟩; have HP3 := hid1 (And.intro KQ3 (hX3.2.below hb3)); clear hb3 hX3)
                        | (go_at_call 22; refine gen_calls (fun X1 => KN W X1 M mb T ∧ Rm X1 M L) (by first | exact HP0.out | exact ⟨HP0.out.1.drew, HP0.out.2.drew⟩) ?_; intro X1 hX1; refine (room_row A B M L X1 hLl hX1.2 (fun Y hY => (HRZ.out Y (hX1.1.b.trans hY)).2.1) (fun Y hY => (HRZ.out Y (hX1.1.b.trans hY)).2.2.1)).mono ?_; rintro e y1 ⟨h1g, c1g, h2g, c2g, rfl, hrm1, hbm1, hfr1⟩; have KQ1 : KN W y1 M mb T := ⟨hX1.1.b.trans hbm1, hfr1 _ _ _ _ hX1.1.r (by decide) (by decide) (by decide)⟩; have HP1 := hid1 (And.intro KQ1 hrm1); clear hrm1 hbm1 hX1 hfr1))
                      rw [(NC.out h1g h2g).1, (NC.out h1g h2g).2]
                      have rb3 := HBWr.of_block (KQ3.b.block _ rlt)
                      have a0 := q0 rb3
                      have a1 := q1 rb3
                      have a2 := q2 rb3
                      have a3 := q3 rb3
                      obtain ⟨d0, d1, d2, d3, d4, d5, d6, d7, d8, d9, d10, d11, d12, d13, d14, d15⟩ := c16 (RQW.out.of_block (KQ3.b.block _ qlt))
                      clear rb3 KQ0 KQ1 KQ3 HP0 HP1 HKN HRm
                      go_wp2_with fail
                      refine gen_calls (fun Y => KN W Y M mb T ∧ Rm Y M (L ++ [(A, tv A h1g c1g)] ++ [(B, tv B h2g c2g)])) (by first | exact HP3.out | exact ⟨HP3.out.1.drew, HP3.out.2.drew⟩) ?_
                      intro Y hY
                      refine (CRN.out Y hY.1.b).mono ?_
                      rintro e y4 ⟨rfl, hb4⟩
                      have hM4 : M ≤ Y.heap.size := Nat.le_trans hMW hY.1.b.size
                      have hB4 : Below M W y4 := hY.1.b.trans (hb4.mono hM4)
                      have HR4 := hid1 (hY.2.below hb4)
                      have HB4 := hid1 hB4
                      have hM5 : M ≤ y4.heap.size := Nat.le_trans hM4 hb4.size
                      clear a0 a1 a2 a3 d0 d1 d2 d3 d4 d5 d6 d7 d8 d9 d10 d11 d12 d13 d14 d15 hY hb4 hB4 HP3 CRN NC
                      go_wp2_with fail
                      refine (kept_any y4 M (L ++ [(A, tv A h1g c1g)] ++ [(B, tv B h2g c2g)]) (by simp; omega) HR4.out (fun e he => ?_)).mono ?_
                      · obtain ⟨hz, za, zb', _⟩ := HRZ.out y4 HB4.out
                        simp only [List.mem_append, List.mem_singleton] at he
                        rcases he with (he | rfl) | rfl
                        · obtain ⟨j, hj, ej⟩ := HTw.out.from_ e he
                          rw [ej]; exact hz j hj
                        · exact za
                        · exact zb'
                      rintro e y5 ⟨rfl, hb5⟩
                      have hBf := HBY.out y5 (HB4.out.trans (hb5.mono hM5))
                      have FIN : Hid (y5.rowIs qb 36 16 (pfc R') ∧ (∀ k, k < 8 → Rz y5 (R' k)) ∧ Bx2 w y5 A B X) := ⟨keepr hBf RQ'.out, fun k hk => (HQ'.out k hk).below hBf, HBx.out.below hBf⟩
                      clear hb5 hBf HR4 HB4
                      go_wp2_with fail
                      first
                        | exact ⟨⟨rd + 1, R', by omega, by go_num, FIN.out⟩, by simp [intOf]; omega⟩
                        | (refine ⟨?_, by simp [intOf]; omega⟩; (repeat apply Exists.intro); exact ⟨⟨rd + 1, R', by omega, by go_num, FIN.out⟩, rfl⟩)
            · have hr2' : rd = 2 := by omega
              subst hr2'
              go_wp2_with fail
              exact ⟨⟨i + 1, by omega, by go_num, HB1.out⟩, by simp [intOf]; omega⟩
    · have hkN : i = n := by omega
      subst hkN
      go_wp2_with fail
      go_ret
      exact ⟨rfl, HBX.out.b⟩
end Go.Proofs.YtgciefmjbaphiaaDoor
