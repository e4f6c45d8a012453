import Derived.Test.YtlgjoepeibodkaaGreatQAPlainTurned
import Derived.Test.YtlgjoepeibodkaaGreatNQ3
import Derived.BigQuiet
import Derived.Deep.QuietTactic
import Derived.Deep.RegionHeld3
import Derived.Lib.SliceRun
import Derived.Laws.CopyOwn
import Derived.Deep.RegionLaw
import Derived.Test.YtlgjoepeibodkaaGreatNO5
/- PLAIN: pass, told to Trace. -/
namespace Go.Proofs.YtlgjoepeibodkaaGreat.Nn
open Go.RowKit

/-- What is neither a step nor a list of steps is as it was. -/
def Kp (X y : World) : Prop := X.heap.size ≤ y.heap.size ∧ ∀ (b : Nat) (o : Obj), X.heap[b]? = some o → (∀ c z, o ≠ Obj.cells c 61 z) → (∀ c z, o ≠ Obj.cells c 44 z) → y.heap[b]? = some o
theorem Kp.row {X y : World} (h : Kp X y) {g t k : Nat} {F : Nat → Value} (r : X.rowIs g t k F) (h1 : t ≠ 61) (h2 : t ≠ 44) : y.rowIs g t k F := by
  obtain ⟨c, e, z, q⟩ := r
  exact ⟨c, h.2 g _ e (fun c z q => by injection q with _ q2 _; exact h1 q2) (fun c z q => by injection q with _ q2 _; exact h2 q2), z, q⟩
theorem Kp.own {X y : World} (h : Kp X y) {b e s n : Nat} {v : Value} {xs : List Value} (r : X.ownsRow b e s v n xs) (h1 : e ≠ 61) (h2 : e ≠ 44) : y.ownsRow b e s v n xs := by
  obtain ⟨hl, r⟩ := r
  refine ⟨hl, ?_⟩
  rcases r with r | ⟨g, cap, cur, e1, e2, e3, e4⟩
  · exact .inl r
  · exact .inr ⟨g, cap, cur, e1, e2, h.2 g _ e3 (fun c z q => by injection q with _ q2 _; exact h1 q2) (fun c z q => by injection q with _ q2 _; exact h2 q2), e4⟩
theorem own_setNeP {W : World} {base e size n g j : Nat} {v : Value} {xs : List Value} {u : Value} (h : W.ownsRow base e size v n xs) (hne : ∀ q, v.ownBlock = some q → q ≠ g) : (W.setCell ⟨g, j, none⟩ u).ownsRow base e size v n xs :=
  h.kept (row := some g) ⟨rfl, rfl, rfl, by simp, fun k _ hne => Below.heap_setCell _ _ _ _ (fun e => hne (by rw [e]))⟩ (by
    cases hv : v.ownBlock with
    | none => exact .inl rfl
    | some q => exact .inr (fun e => by cases e; exact hne g hv rfl))
theorem own_moB {V U y : World} {z e s n : Nat} {v : Value} {xs : List Value} (h : y.ownsRow U.heap.size e s v n xs) (hb : Below V.heap.size V U) (hz : z ≤ V.heap.size) : y.ownsRow z e s v n xs := h.mono (Nat.le_trans hz hb.size)
theorem own_four {Y : World} {b e s n c i j k l : Nat} {u v x z q : Value} {xs : List Value} (h : Y.ownsRow b e s q n xs) (hn : ∀ p, q.ownBlock = some p → p ≠ c) : ((((Y.setCell ⟨c, i, none⟩ u).setCell ⟨c, j, none⟩ v).setCell ⟨c, k, none⟩ x).setCell ⟨c, l, none⟩ z).ownsRow b e s q n xs := own_setNeP (own_setNeP (own_setNeP (own_setNeP h hn) hn) hn) hn
theorem p_four {P : Nat → World → Prop} {w : World} (hPt : ∀ k X T F j u, w.heap.size ≤ T → P k X → X.rowIs T 71 4 F → P k (X.setCell ⟨T, j, none⟩ u)) {k T : Nat} {X : World} {F : Nat → Value} (hT : w.heap.size ≤ T) (h : P k X) (r : X.rowIs T 71 4 F) {u v x z : Value} : P k ((((X.setCell ⟨T, 0, none⟩ u).setCell ⟨T, 1, none⟩ v).setCell ⟨T, 2, none⟩ x).setCell ⟨T, 3, none⟩ z) := by
  have r1 := r.set 0 u
  have r2 := r1.set 1 v
  have r3 := r2.set 2 x
  exact hPt _ _ _ _ _ _ hT (hPt _ _ _ _ _ _ hT (hPt _ _ _ _ _ _ hT (hPt _ _ _ _ _ _ hT h r) r1) r2) r3
set_option maxHeartbeats 6400000 in
set_option maxRecDepth 100000 in
theorem pass_inv (N : Nt) (sz : Nat → Nat) (val : Nat → Nat → Int) (hml : 1 ≤ N.ml ∧ N.ml ≤ 64) (hwk : ∀ i, i < N.ml → Wrk N sz val i) (ao : Option Addr) (cap : Nat) (f : Nat → Int) (hs0 : sz 0 ≤ 16777216) (hf : ∀ j, j < sz 0 → s8 (f j) = val 0 j) (gs cb : Nat) (w : World) (P : Nat → World → Prop)
    (hPb : ∀ k X Y, P k X → Below X.heap.size X Y → P k Y) (hPt : ∀ k X T F j u, w.heap.size ≤ T → P k X → X.rowIs T 71 4 F → P k (X.setCell ⟨T, j, none⟩ u)) (hPn : ∀ k X, P k X → NtW X N ∧ X.rowIs gs 23 (N.ml * 3) (shf N N.ml))
    (hPc : ∀ k X g cp, k < N.ml → P k X → X.ownsRow w.heap.size 2 1 (.slice (some ⟨g, 0, none⟩) (sz (k + 1)) cp) (sz (k + 1)) (i64L ((List.range (sz (k + 1))).map (val (k + 1)))) → Calls Tryz.prog 20 #[tnv (sp N (k + 1)).h (sp N (k + 1)).v (sp N (k + 1)).c (some ⟨g, 0, none⟩) (sz (k + 1)) cp, .pointer (some ⟨cb, 0, none⟩)] X fun e y => e = .returned (.tuple #[]) ∧ P (k + 1) y ∧ Kp X y)
    (hx : RB w ao (sz 0) f) (hP : P 0 w) :
    Calls Tryz.prog 19 #[ntv N, .slice ao (sz 0) cap, .slice (some ⟨gs, 0, none⟩) N.ml N.ml, .func (.func 20) #[] #[.pointer (some ⟨cb, 0, none⟩)]] w fun e w' => e = .returned (.tuple #[]) ∧ P N.ml w' := by
  have HWK := hid1 hwk
  have HF := hid1 hf
  have HXX := hid1 hx
  have HPB := hid1 hPb
  have HPT := hid1 hPt
  have HPN := hid1 hPn
  have HPC := hid1 hPc
  have HP0 := hid1 hP
  clear hwk hf hx hPb hPt hPn hPc hP
  obtain ⟨b, hb0⟩ : ∃ b, w.heap.size = b := ⟨_, rfl⟩
  go_enter Tryz.func19, Tryz.ntmps19
  go_wp2_with fail
  refine gen_calls (fun X => Below w.heap.size w X ∧ Nb X b N) ⟨by repeat (first | (with_reducible exact Below.refl _ _) | (with_reducible refine bl_alloc ?_ _) | (with_reducible refine Below.drew ?_) | (with_reducible refine bl_drewN ?_ _) | (with_reducible refine bl_set ?_ (by omega) _) | (with_reducible refine bl_step ?_ (by assumption))), by rw [← hb0]; exact nb_new _ _ _⟩ ?_
  rintro X ⟨BX, NX⟩
  refine (pworks_any X).mono ?_
  rintro e w1 ⟨rfl, PW, hb⟩
  have hMb0 : b < X.heap.size := lt_of_cell NX.1
  replace BX := bl_step BX hb
  replace NX := NX.keep hb
  obtain ⟨M, hM⟩ : ∃ M, X.heap.size = M := ⟨_, rfl⟩
  rw [hM] at PW hMb0 ⊢
  clear hb
  have CS := hid1 (fun W (h : Below w.heap.size w W) => signed_any ao (sz 0) cap f W hs0 (HXX.out.keep h))
  have n1 := NX.2.1
  have n2 := NX.2.2.1
  have n3 := NX.2.2.2.1
  have HNX := hid1 NX
  have HPW := hid1 PW
  have HBX := hid1 BX
  have lM := PW.lt
  clear NX PW BX
  have hfo := followsP
  go_upto_region 2 with fail
  go_cut [9] from 14 to 18 (fun s9 wx => ∃ T g, s9 = .pointer (some ⟨T, 0, none⟩) ∧ w1.heap.size ≤ T ∧ w1.heap.size ≤ g ∧ wx.rowIs T 71 4 (tnf N.h N.v N.c (some ⟨g, 0, none⟩) (sz 0) (sz 0)) ∧ wx.rowIs g 2 (sz 0) (fun k => .int .i64 (s8 (f k))) ∧ Below w1.heap.size w1 wx)
  case first =>
    go_region_held3 (fun Y => Y.cell? ⟨b, 1, none⟩ = some (.int .i64 N.h) ∧ Y.cell? ⟨b, 2, none⟩ = some (.int .i64 N.v) ∧ Y.cell? ⟨b, 3, none⟩ = some (.int .i64 N.c))
      (((try dsimp only); (with_reducible refine kpN (V := w1) HNX.out ?_); repeat (first | (with_reducible exact Below.refl _ _) | (with_reducible assumption) | (with_reducible refine Below.drew ?_) | (with_reducible refine bl_alloc ?_ _) | (with_reducible refine bl_set ?_ (by first | exact Nat.le_refl _ | exact by1.size) _))))
      ((go_at_call 29; refine (CS.out _ (bl_step HBX.out (by repeat (first | (with_reducible exact Below.refl _ _) | (with_reducible refine Below.drew ?_) | (with_reducible refine bl_alloc ?_ _))))).mono ?_; rintro e y1 ⟨rfl, rg, hb1⟩; have by1 : Below w1.heap.size w1 y1 := (bl_step (by repeat (first | (with_reducible exact Below.refl _ _) | (with_reducible refine Below.drew ?_) | (with_reducible refine bl_alloc ?_ _))) hb1); have HRG := hid1 rg; have HB1 := hid1 hb1; (try (have VR := World.rowIs.of_block (tn_new w1 0 0 0 none 0 0 71).drew (HB1.out.block _ (World.rowIs.lt (tn_new w1 0 0 0 none 0 0 71).drew)); obtain ⟨v0, v1, v2, v3⟩ := tn_cells VR; have f0 := VR.frozen 0; have f1 := VR.frozen 1; have f2 := VR.frozen 2; have f3 := VR.frozen 3; have HVR := hid1 VR; clear VR)); clear hb1 rg))
    all_goals (refine kmeet_p (by assumption) ?_; go_meet)
    · exact ⟨_, _, rfl, by1.size, Nat.le_refl _, tn_new _ _ _ _ _ _ _ _, HRG.out.alloc _, bl_alloc by1 _⟩
    · refine ⟨_, _, rfl, Nat.le_refl _, Nat.le_succ _, tn_set HVR.out _ _ _ _ _ _, ?_, bl_set (bl_set (bl_set (bl_set by1 (Nat.le_refl _) _) (Nat.le_refl _) _) (Nat.le_refl _) _) (Nat.le_refl _) _⟩
      obtain ⟨q, hq, hr⟩ : ∃ q, q = w1.heap.size + 1 ∧ y1.rowIs q 2 (sz 0) (fun k => .int .i64 (s8 (f k))) := ⟨_, by simp, HRG.out⟩
      subst hq
      exact (((hr.setOther (by show w1.heap.size + 1 ≠ w1.heap.size; omega) _).setOther (by show w1.heap.size + 1 ≠ w1.heap.size; omega) _).setOther (by show w1.heap.size + 1 ≠ w1.heap.size; omega) _).setOther (by show w1.heap.size + 1 ≠ w1.heap.size; omega) _
  case rest =>
    obtain ⟨T, g0, rfl, gT, gg0, RT, RG, Bc⟩ := hcut
    have lT := RT.lt
    have hTw : w.heap.size ≤ T := by have := HBX.out.size; omega
    have n4 := (HNX.out.keep Bc).2.2.2.2
    have K0 := hid1 (HPB.out 0 _ _ HP0.out (bl_step HBX.out Bc))
    have K1 := hid1 (HPW.out.keep Bc)
    have K2 := hid1 RT
    have K3 : Hid (R64 wc (some ⟨g0, 0, none⟩) (sz 0) (val 0)) := hid1 (fun j hj => ⟨g0, 0, rfl, by rw [Nat.zero_add, RG.cell hj, HF.out j hj]⟩)
    clear RT RG Bc HNX HPW HBX n1 n2 n3
    go_wp2_with fail
    clear n4
    go_loopw [22] (fun i wr => ∃ (k g cp : Nat), k ≤ N.ml ∧ i = .int .i64 k ∧ sz k ≤ cp ∧ T < wr.heap.size ∧ Hid (P k wr) ∧ Hid (Plw wr M) ∧ Hid (wr.rowIs T 71 4 (tnf (sp N k).h (sp N k).v (sp N k).c (some ⟨g, 0, none⟩) (sz k) cp)) ∧ Hid (R64 wr (some ⟨g, 0, none⟩) (sz k) (val k))) (fun i _ => N.ml - (intOf i).toNat)
    case atStart => exact ⟨0, g0, sz 0, Nat.zero_le _, rfl, Nat.le_refl _, lT, K0, K1, K2, K3⟩
    case round =>
      clear K0 K1 K2 K3 lT
      obtain ⟨k, g, cp, hk, rfl, hcp, lT, K0, K1, K2, K3⟩ := hrel
      have ik0 : (0 : Int) ≤ (k : Int) := by omega
      by_cases hlt : k < N.ml
      · have ik : (k : Int) < (N.ml : Int) := by omega
        obtain ⟨hNW, hSH⟩ := HPN.out k wr K0.out
        obtain ⟨gl, o, ea, LC, LL⟩ := hNW.1 k hlt
        have CK := HWK.out k hlt
        have hkd := CK.1
        have hs1 := CK.2.1
        have HCK := hid1 CK.2.2
        have HCB := hid1 (HPC.out k · · · hlt)
        have CF := plF_call (N.lf k).kd
        have LK := fun (W : World) (h : W.heap[M]? = some (Obj.map #[plE1, plE2, plE3] 3)) => lookP_run h (N.lf k).kd hkd
        have hsf := shf_atP N N.ml k hlt
        have s0 := World.rowIs.cell hSH (i := k * 3) (by omega)
        have s1 := World.rowIs.cell hSH (i := k * 3 + 1) (by omega)
        have s2 := World.rowIs.cell hSH (i := k * 3 + 2) (by omega)
        rw [hsf.1] at s0
        rw [hsf.2.1] at s1
        rw [hsf.2.2] at s2
        clear CK hsf hkd
        generalize plF (N.lf k).kd = fw at CF HCK LK
        generalize hLk : N.lf k = L at LC LL HCK LK CF
        have HLS := hid1 LL
        clear LL hLk
        generalize (sp N k).h = ih at K2 HCK
        generalize (sp N k).v = iv at K2 HCK
        generalize (sp N k).c = ic at K2 HCK
        obtain ⟨oh, hoh⟩ : ∃ z, (sp N (k + 1)).h = z := ⟨_, rfl⟩
        obtain ⟨ov, hov⟩ : ∃ z, (sp N (k + 1)).v = z := ⟨_, rfl⟩
        obtain ⟨oc, hoc⟩ : ∃ z, (sp N (k + 1)).c = z := ⟨_, rfl⟩
        rw [hoh] at s0
        rw [hov] at s1
        rw [hoc] at s2
        rw [hoh, hov, hoc] at HCK HCB
        have HOH := hid1 (And.intro hoh (And.intro hov hoc))
        clear hoh hov hoc
        have HSS := hid1 (And.intro s0 (And.intro s1 s2))
        obtain ⟨c0, c1, c2, c3, c4, c5, c6, c7, c8, c9, c10, c11, c12, c13, c14⟩ := LC
        obtain ⟨bl, hbl⟩ : ∃ x, wr.heap.size = x := ⟨_, rfl⟩
        go_upto_region 6 with fail
        clear c0 c1 c2 c3 c4 c5 c6 c7 c8 c9 c10 c11 c12 c13 c14 s0 s1 s2 ea
        refine gen_world (fun X => Below wr.heap.size wr X ∧ Lp X bl L ∧ X.heap.size = bl + 1) ⟨by repeat (first | (with_reducible exact Below.refl _ _) | (with_reducible refine bl_alloc ?_ _) | (with_reducible refine Below.drew ?_) | (with_reducible refine bl_drewN ?_ _) | (with_reducible refine bl_set ?_ (by omega) _) | (with_reducible refine bl_step ?_ (by assumption))), lp_new' hbl L _, by simp [hbl]⟩ ?_
        rintro V ⟨BV, LV, zV⟩
        have HLV := hid1 LV
        have K1' := hid1 (K1.out.keep BV)
        have K2' := hid1 (World.rowIs.of_block K2.out (BV.block _ (World.rowIs.lt K2.out)))
        have HSV := hid1 (And.intro (keepc BV HSS.out.1) (And.intro (keepc BV HSS.out.2.1) (keepc BV HSS.out.2.2)))
        have HLL := hid1 (HLS.out.keep BV)
        have K3' := hid1 (K3.out.keep' BV)
        have HGV := hid1 (HPB.out _ _ _ K0.out BV)
        have lTV : T < V.heap.size := by omega
        have hblV : bl < V.heap.size := by omega
        clear BV LV HSS HLS zV hbl
        have zwV : w.heap.size ≤ V.heap.size := by omega
        go_cut [12] (fun s12 wx => ∃ O g' cp', s12 = .pointer (some ⟨O, 0, none⟩) ∧ V.heap.size ≤ O ∧ V.heap.size ≤ g' ∧ sz (k + 1) ≤ cp' ∧ wx.rowIs O 71 4 (tnf oh ov oc (some ⟨g', 0, none⟩) (sz (k + 1)) cp') ∧ wx.ownsRow w.heap.size 2 1 (.slice (some ⟨g', 0, none⟩) (sz (k + 1)) cp') (sz (k + 1)) (i64L ((List.range (sz (k + 1))).map (val (k + 1)))) ∧ Below V.heap.size V wx)
        case first =>
          go_region_held3 (fun Y => (Y.cell? ⟨bl, 0, none⟩ = some (.int .i64 L.kd) ∧ Y.cell? ⟨bl, 1, none⟩ = some (.int .i64 L.wt) ∧ Y.cell? ⟨bl, 2, none⟩ = some (.int .i64 L.k) ∧ Y.cell? ⟨bl, 3, none⟩ = some (.int .i64 L.r) ∧ Y.cell? ⟨bl, 4, none⟩ = some (.int .i64 L.s) ∧ Y.cell? ⟨bl, 5, none⟩ = some (.int .i64 L.sy) ∧ Y.cell? ⟨bl, 6, none⟩ = some (.int .i64 L.sx) ∧ Y.cell? ⟨bl, 7, none⟩ = some (.int .i64 L.t) ∧ Y.cell? ⟨bl, 8, none⟩ = some (.int .i64 L.l) ∧ Y.cell? ⟨bl, 9, none⟩ = some (.int .i64 L.b) ∧ Y.cell? ⟨bl, 10, none⟩ = some (.int .i64 L.q) ∧ Y.cell? ⟨bl, 11, none⟩ = some (.int .i64 L.bd) ∧ Y.cell? ⟨bl, 12, none⟩ = some (.slice L.aw L.mw L.cw) ∧ Y.cell? ⟨bl, 13, none⟩ = some (.slice L.an L.mn L.cn) ∧ Y.cell? ⟨bl, 14, none⟩ = some (.slice L.ab L.mb L.cb)) ∧ (Y.cell? ⟨T, 0, none⟩ = some (.int .i64 ih) ∧ Y.cell? ⟨T, 1, none⟩ = some (.int .i64 iv) ∧ Y.cell? ⟨T, 2, none⟩ = some (.int .i64 ic) ∧ Y.cell? ⟨T, 3, none⟩ = some (.slice (some ⟨g, 0, none⟩) (sz k) cp)) ∧ (Y.cell? ⟨gs, k * 3, none⟩ = some (.int .i64 oh) ∧ Y.cell? ⟨gs, k * 3 + 1, none⟩ = some (.int .i64 ov) ∧ Y.cell? ⟨gs, k * 3 + 2, none⟩ = some (.int .i64 oc)) ∧ Y.heap[M]? = some (.map #[plE1, plE2, plE3] 3))
            (((try dsimp only); (with_reducible refine kpP (V := V) HLV.out K2'.out HSV.out K1'.out ?_); repeat (first | (with_reducible exact Below.refl _ _) | (with_reducible assumption) | (with_reducible refine Below.drew ?_) | (with_reducible refine bl_alloc ?_ _) | (with_reducible refine bl_set ?_ (by first | exact Nat.le_refl _ | exact by1.size) _))))
            ((refine (HCK.out _ _ _ hcp (HLL.out.keep (by repeat (first | (with_reducible exact Below.refl _ _) | (with_reducible refine Below.drew ?_) | (with_reducible refine bl_alloc ?_ _)))) (K3'.out.keep' (by repeat (first | (with_reducible exact Below.refl _ _) | (with_reducible refine Below.drew ?_) | (with_reducible refine bl_alloc ?_ _))))).mono ?_; rintro e y1 ⟨v', rfl, ow, hb1⟩; have by1 : Below V.heap.size V y1 := (bl_step (by repeat (first | (with_reducible exact Below.refl _ _) | (with_reducible refine Below.drew ?_) | (with_reducible refine bl_alloc ?_ _))) hb1); obtain ⟨g', cp', rfl, hg', hgl', hcp', hR'⟩ := own_64 ow hs1; have HR1 := hid1 (own_moB ow (by repeat (first | (with_reducible exact Below.refl _ _) | (with_reducible refine Below.drew ?_) | (with_reducible refine bl_alloc ?_ _))) zwV); have HB1 := hid1 hb1; (try (have VR := World.rowIs.of_block (tn_new V 0 0 0 none 0 0 71).drew (HB1.out.block _ (World.rowIs.lt (tn_new V 0 0 0 none 0 0 71).drew)); obtain ⟨v0, v1, v2, v3⟩ := tn_cells VR; have f0 := VR.frozen 0; have f1 := VR.frozen 1; have f2 := VR.frozen 2; have f3 := VR.frozen 3; have HVR := hid1 VR; clear VR)); clear hb1 ow hR' hgl'))
          all_goals (refine kmeet_p (by assumption) ?_; go_meet)
          · exact ⟨_, g', cp', rfl, by1.size, hg', hcp', tn_new _ _ _ _ _ _ _ _, own_bl HR1.out (bl_alloc (Below.refl _ _) _), bl_alloc by1 _⟩
          all_goals
            have zg : V.heap.size + 1 ≤ g' := by simpa using hg'
            refine ⟨_, g', cp', rfl, Nat.le_refl _, by omega, hcp', tn_set HVR.out _ _ _ _ _ _, ?_, bl_set (bl_set (bl_set (bl_set by1 (Nat.le_refl _) _) (Nat.le_refl _) _) (Nat.le_refl _) _) (Nat.le_refl _) _⟩
            exact own_four HR1.out (fun p hp => by cases hp; show g' ≠ V.heap.size; omega)
        case rest =>
          obtain ⟨O, g', cp', rfl, gO, gg', hcp2, RO, RR, Bc⟩ := hcut
          have J1 := hid1 (K1'.out.keep Bc)
          have J2 := hid1 (World.rowIs.of_block K2'.out (Bc.block _ lTV))
          have JG := hid1 (HPB.out _ _ _ HGV.out Bc)
          have JR := hid1 RR
          have JO := hid1 RO
          have JB := hid1 Bc
          have zO := RO.lt
          obtain ⟨t0, t1, t2, t3⟩ := tn_cells RO
          clear RO RR Bc K1' K2' K3' HGV HLV HSV HLL HCK CF LK
          go_wp2_with fail
          refine (HCB.out _ _ _ JG.out JR.out).mono ?_
          rintro e y ⟨rfl, PY, kp⟩
          have Q1 := hid1 (show Plw y M from kp.2 M _ J1.out (fun _ _ e => by cases e) (fun _ _ e => by cases e))
          have Q2 := hid1 (kp.row J2.out (by decide) (by decide))
          have QO := hid1 (kp.row JO.out (by decide) (by decide))
          have QR := hid1 (own_64 (kp.own JR.out (by decide) (by decide)) hs1)
          have QG := hid1 PY
          obtain ⟨t0, t1, t2, t3⟩ := tn_cells QO.out
          obtain ⟨p0, p1, p2, p3⟩ := tn_cells Q2.out
          have f0 := Q2.out.frozen 0
          have f1 := Q2.out.frozen 1
          have f2 := Q2.out.frozen 2
          have f3 := Q2.out.frozen 3
          have lTy := Q2.out.lt
          clear kp PY J1 J2 JG JR JO JB HCB
          go_wp2_with fail
          exact ⟨⟨k + 1, g', cp', by omega, by go_num, hcp2, by simpa using lTy, hid1 (p_four HPT.out hTw QG.out Q2.out), hid1 ((heap_four (by omega)).trans Q1.out), hid1 (by rw [HOH.out.1, HOH.out.2.1, HOH.out.2.2]; exact tn_set Q2.out _ _ _ _ _ _), hid1 (fun j hj => by
            obtain ⟨g3, c3, e3, -, -, -, R3⟩ := QR.out
            cases e3
            obtain ⟨g2, o2, e2, q2⟩ := R3 j hj
            cases e2
            exact ⟨g', 0, rfl, cell_four q2 (by omega)⟩)⟩, by simp [intOf]; omega⟩
      · have hkN : k = N.ml := by omega
        subst hkN
        go_wp2_with fail
        exact bodyPost_end (v := .tuple #[]) (by simp [results, go_sem]) rfl ⟨rfl, K0.out⟩
end Go.Proofs.YtlgjoepeibodkaaGreat.Nn
/- PLAIN: what Trace is told of each output. -/
namespace Go.Proofs.YtlgjoepeibodkaaGreat.Nn
open Go.RowKit

theorem info_st : (Tryz.prog.info? 61).map (fun i => (i.zero, i.size, i.bytes)) = some (some (.agg #[.int .i64 0, .int .i64 0, .int .i64 0, .slice none 0 0]), 4, 48) := by kernel_rfl
theorem und_sts : Tryz.prog.underlying 44 = some (.slice 61) := by kernel_rfl
def stC (h v c : Int) (xo : Option Addr) (F xc : Nat) : List Value := [.int .i64 h, .int .i64 v, .int .i64 c, .slice xo F xc]
theorem app_st {ops : Array Oper} {rest : List Oper} {o : Oper} {a : Act} {Q : Exit → Act → World → Prop} {w : World} (hgd : o.guard = none) (s x : Operand)
    (ho : o.op = .call { callee := .builtin .append, args := #[s, x], argTypes := #[44, 44] }) (base : Nat) (v : Value) (xs : List Value) (n : Nat) (hs : a.eval s = v) (hown : w.ownsRow base 61 4 v n xs)
    (g : Nat) (h v' c : Int) (xo : Option Addr) (F xc cb : Nat) (hx : a.eval x = .slice (some ⟨g, 0, none⟩) 1 cb) (hr : w.cell? ⟨g, 0, none⟩ = some (.int .i64 h) ∧ w.cell? ⟨g, 1, none⟩ = some (.int .i64 v') ∧ w.cell? ⟨g, 2, none⟩ = some (.int .i64 c) ∧ w.cell? ⟨g, 3, none⟩ = some (.slice xo F xc)) (hM : n ≤ 1000000000) (hb : base ≤ w.heap.size)
    (hq : ∀ u w', w'.ownsRow base 61 4 u (n + 1) (xs ++ stC h v' c xo F xc) → w.grownBy w' v.ownBlock → wpList Tryz.prog ops Q rest (a.put o.dst u) w') : wpList Tryz.prog ops Q (o :: rest) a w := by
  obtain ⟨i0, hi, hz0, hz1, hz2⟩ := info_parts info_st
  obtain ⟨r0, r1, r2, r3⟩ := hr
  refine wpList_append_own_at w hgd s x _ ho base 61 i0 _ 4 48 und_sts hi hz0 hz1 hz2 rfl (by decide) v n xs hs hown ⟨g, 0, none⟩ 1 cb (stC h v' c xo F xc) hx rfl
    (fun j u hu => ?_) (fun u hu => by simp [stC] at hu; rcases hu with rfl | rfl | rfl | rfl <;> rfl) (by unfold maxLen; omega) (by omega) hb ?_
  · rcases j with _ | _ | _ | _ | j
    · simp [stC] at hu; subst hu; exact r0
    · simp [stC] at hu; subst hu; exact r1
    · simp [stC] at hu; subst hu; exact r2
    · simp [stC] at hu; subst hu; exact r3
    · simp [stC] at hu
  · intro u w' h1 h2 _ _
    exact hq u w' h1 h2
theorem rows_neT {X : World} {g t k g' t' k' : Nat} {F F' : Nat → Value} (h : X.rowIs g t k F) (h' : X.rowIs g' t' k' F') (hne : t ≠ t') : g ≠ g' := by
  rintro rfl
  obtain ⟨c, e, -⟩ := h
  obtain ⟨c', e', -⟩ := h'
  rw [e] at e'
  injection e' with e'
  injection e' with _ e2 _
  exact hne e2
theorem own_row_neT {X : World} {g t k b e s n : Nat} {F : Nat → Value} {v : Value} {xs : List Value} (h : X.rowIs g t k F) (h' : X.ownsRow b e s v n xs) (hne : e ≠ t) : ∀ q, v.ownBlock = some q → q ≠ g := by
  rintro q hq rfl
  obtain ⟨c, e1, -⟩ := h
  rcases h'.2 with ⟨e2, -⟩ | ⟨g2, cap, cur, e2, -, e3, -⟩
  · rw [e2] at hq; cases hq
  · rw [e2] at hq
    cases hq
    rw [e1] at e3
    injection e3 with e3
    injection e3 with _ e4 _
    exact hne e4.symm
theorem own_isT {W : World} {b T s n : Nat} {v : Value} {xs : List Value} (h : W.ownsRow b T s v n xs) : ∃ a c, v = .slice a n c := by
  rcases h.2 with ⟨e, rfl⟩ | ⟨g, cap, cur, e, -⟩
  · exact ⟨_, _, e⟩
  · exact ⟨_, _, e⟩
/-- Nothing old has turned but two blocks. -/
structure Gr2 (w w' : World) (a : Nat) (q : Option Nat) : Prop where
  os : w'.os = w.os
  tape : w'.tape = w.tape
  output : w'.output = w.output
  size : w.heap.size ≤ w'.heap.size
  block : ∀ k, k < w.heap.size → k ≠ a → some k ≠ q → w'.heap[k]? = w.heap[k]?
set_option maxHeartbeats 3200000 in
set_option maxRecDepth 100000 in
theorem trace1_any (h v c : Int) (xo : Option Addr) (F xc cb base k : Nat) (xs : List Value) (u : Value) (w : World) (hk : k ≤ 1000000) (hc : w.rowIs cb 44 1 (fun _ => u)) (own : w.ownsRow base 61 4 u k xs) (hb : base ≤ w.heap.size) :
    Calls Tryz.prog 20 #[tnv h v c xo F xc, .pointer (some ⟨cb, 0, none⟩)] w fun e w' => e = .returned (.tuple #[]) ∧ ∃ u', w'.rowIs cb 44 1 (fun _ => u') ∧ w'.ownsRow base 61 4 u' (k + 1) (xs ++ stC h v c xo F xc) ∧ Gr2 w w' cb u.ownBlock := by
  obtain ⟨ua, uc, rfl⟩ := own_isT own
  have hl := hc.lt
  have HC := hid1 hc
  have HO := hid1 own
  clear hc own
  obtain ⟨b, hb0⟩ : ∃ b, w.heap.size = b := ⟨_, rfl⟩
  go_enter Tryz.func20, Tryz.ntmps20
  go_upto_region 1 with fail
  refine gen_world (fun X => X.rowIs b 71 4 (tnf h v c xo F xc) ∧ Below w.heap.size w X) ⟨by rw [← hb0]; exact tn_new _ _ _ _ _ _ _ _, bl_alloc (Below.refl _ _) _⟩ ?_
  rintro X ⟨RT, BX⟩
  obtain ⟨t0, t1, t2, t3⟩ := tn_cells RT
  have HC1 := World.rowIs.of_block HC.out (BX.block _ hl)
  have c0 := HC1.cell (i := 0) (by decide)
  have HCX := hid1 HC1
  have HOX := hid1 (own_bl HO.out BX)
  have HBX := hid1 BX
  have zX := BX.size
  have lX : cb < X.heap.size := by omega
  have HNE := hid1 (own_row_neT HC1 HOX.out (by decide))
  clear RT BX HC1
  go_wp2_with (at_builtin; refine app_st rfl _ _ rfl base (.slice ua k uc) xs k (by go_simp) (own_bl HOX.out (bl_alloc (Below.refl _ _) _)) X.heap.size h v c xo F xc 1 (by go_simp) (tn_cells (tn_new _ _ _ _ _ _ _ _)) (by omega) (by simp; omega) ?_; intro u2 y own2 gr2; obtain ⟨a3, c3, rfl⟩ := own_isT own2; have RC2 := World.rowIs.of_block HCX.out ((gr2.block cb (by simp; omega) (fun e => HNE.out cb e.symm rfl)).trans ((bl_alloc (Below.refl X.heap.size X) _).block cb lX)); have c1 := RC2.cell (i := 0) (by decide); have f1 := RC2.frozen 0; have HO2 := hid1 own2; have HG2 := hid1 gr2; have HR2 := hid1 RC2; clear own2 gr2 RC2)
  have bx := (show Below w.heap.size w _ from bl_alloc HBX.out (.cells #[.int .i64 h, .int .i64 v, .int .i64 c, .slice xo F xc] 61))
  have gr := HG2.out
  refine bodyPost_end (v := .tuple #[]) (by simp [results, go_sem]) rfl ⟨rfl, .slice a3 (k + 1) c3, (HR2.out.set 0 (.slice a3 (k + 1) c3)).congr fun i hi => ?_, own_setNeP HO2.out (own_row_neT HR2.out HO2.out (by decide)), ⟨gr.os.trans bx.os, gr.tape.trans bx.tape, gr.output.trans bx.output, by simpa using Nat.le_trans bx.size gr.size, fun q hq h1 h2 => ?_⟩⟩
  · obtain rfl : i = 0 := by omega
    rfl
  · rw [Below.heap_setCell _ _ _ _ (by show q ≠ cb; exact h1), gr.block q (Nat.lt_of_lt_of_le hq bx.size) h2, bx.block q hq]
end Go.Proofs.YtlgjoepeibodkaaGreat.Nn
/- PLAIN: a trace under way. -/
namespace Go.Proofs.YtlgjoepeibodkaaGreat.Nn
open Go.RowKit

/-- The steps of a trace, as they lie in memory. -/
def stF (N : Nt) (sz : Nat → Nat) (gl cl : Nat → Nat) (j : Nat) : List Value := stC (sp N (j + 1)).h (sp N (j + 1)).v (sp N (j + 1)).c (some ⟨gl j, 0, none⟩) (sz (j + 1)) (cl j)
def rlS (F : Nat → List Value) : Nat → List Value
  | 0 => []
  | n + 1 => rlS F n ++ F n
theorem rlS_len {F : Nat → List Value} {s : Nat} (h : ∀ j, (F j).length = s) : ∀ n, (rlS F n).length = n * s
  | 0 => by simp [rlS]
  | n + 1 => by rw [rlS, List.length_append, rlS_len h n, h, Nat.succ_mul]
theorem rlS_get {F : Nat → List Value} {s : Nat} (h : ∀ j, (F j).length = s) : ∀ n {j c : Nat}, j < n → c < s → (rlS F n)[j * s + c]? = (F j)[c]?
  | 0, j, c, hj, hc => by omega
  | n + 1, j, c, hj, hc => by
    rw [rlS]
    by_cases hjn : j < n
    · have hl : j * s + s ≤ n * s := by have := Nat.mul_le_mul_right s (show j + 1 ≤ n by omega); rw [Nat.succ_mul] at this; exact this
      rw [List.getElem?_append_left (by rw [rlS_len h]; omega)]
      exact rlS_get h n hjn hc
    · obtain rfl : j = n := by omega
      rw [List.getElem?_append_right (by rw [rlS_len h]; omega), rlS_len h, Nat.add_sub_cancel_left]
theorem rlS_congr {F G : Nat → List Value} : ∀ n, (∀ j, j < n → F j = G j) → rlS F n = rlS G n
  | 0, _ => rfl
  | n + 1, h => by rw [rlS, rlS, rlS_congr n fun j hj => h j (by omega), h n (by omega)]
def vaL (sz : Nat → Nat) (val : Nat → Nat → Int) (j : Nat) : List Value := i64L ((List.range (sz (j + 1))).map (val (j + 1)))
/-- Behind k layers. -/
def TrS (N : Nt) (sz : Nat → Nat) (val : Nat → Nat → Int) (base k : Nat) (X : World) (u : Value) (gl cl : Nat → Nat) : Prop := X.ownsRow base 61 4 u k (rlS (stF N sz gl cl) k) ∧ ∀ j, j < k → X.ownsRow base 2 1 (.slice (some ⟨gl j, 0, none⟩) (sz (j + 1)) (cl j)) (sz (j + 1)) (vaL sz val j)
def TrP (N : Nt) (sz : Nat → Nat) (val : Nat → Nat → Int) (w0 : World) (gs cb : Nat) (k : Nat) (X : World) : Prop := Below w0.heap.size w0 X ∧ X.rowIs gs 23 (N.ml * 3) (shf N N.ml) ∧ w0.heap.size ≤ cb ∧ ∃ (u : Value) (gl cl : Nat → Nat), X.rowIs cb 44 1 (fun _ => u) ∧ TrS N sz val w0.heap.size k X u gl cl
theorem TrS.keep {N : Nt} {sz : Nat → Nat} {val : Nat → Nat → Int} {base k : Nat} {X Y : World} {u : Value} {gl cl : Nat → Nat} (h : TrS N sz val base k X u gl cl) (hb : Below X.heap.size X Y) : TrS N sz val base k Y u gl cl := ⟨own_bl h.1 hb, fun j hj => own_bl (h.2 j hj) hb⟩
theorem TrP.keep {N : Nt} {sz : Nat → Nat} {val : Nat → Nat → Int} {w0 : World} {gs cb k : Nat} {X Y : World} (h : TrP N sz val w0 gs cb k X) (hb : Below X.heap.size X Y) : TrP N sz val w0 gs cb k Y := by
  obtain ⟨h1, h2, h3, u, gl, cl, h4, h5⟩ := h
  exact ⟨bl_step h1 hb, World.rowIs.of_block h2 (hb.block _ h2.lt), h3, u, gl, cl, World.rowIs.of_block h4 (hb.block _ h4.lt), h5.keep hb⟩
theorem TrP.set {N : Nt} {sz : Nat → Nat} {val : Nat → Nat → Int} {w0 : World} {gs cb k : Nat} {X : World} {T j : Nat} {F : Nat → Value} {x : Value} (hT : w0.heap.size ≤ T) (h : TrP N sz val w0 gs cb k X) (r : X.rowIs T 71 4 F) : TrP N sz val w0 gs cb k (X.setCell ⟨T, j, none⟩ x) := by
  obtain ⟨h1, h2, h3, u, gl, cl, h4, h5⟩ := h
  exact ⟨bl_set h1 hT _, h2.setOther (rows_neT h2 r (by decide)) _, h3, u, gl, cl, h4.setOther (rows_neT h4 r (by decide)) _, own_setNeP h5.1 (own_row_neT r h5.1 (by decide)), fun j hj => own_setNeP (h5.2 j hj) (own_row_neT r (h5.2 j hj) (by decide))⟩
theorem Gr2.kp {X y : World} {cb b n : Nat} {u u' : Value} {xs : List Value} (g : Gr2 X y cb u.ownBlock) (hc : X.rowIs cb 44 1 (fun _ => u')) (ho : X.ownsRow b 61 4 u n xs) : Kp X y := by
  refine ⟨g.size, fun q o hq h1 h2 => ?_⟩
  have hl : q < X.heap.size := (Array.getElem?_eq_some_iff.1 hq).1
  rw [g.block q hl (fun e => ?_) (fun e => ?_), hq]
  · subst e
    obtain ⟨c, e, -⟩ := hc
    rw [e] at hq
    exact h2 _ _ (Option.some.inj hq).symm
  · rcases ho.2 with ⟨e2, -⟩ | ⟨g2, cap, cur, e2, -, e3, -⟩
    · rw [e2] at e; cases e
    · rw [e2] at e
      cases e
      rw [e3] at hq
      exact h1 _ _ (Option.some.inj hq).symm
theorem TrP.step {N : Nt} {sz : Nat → Nat} {val : Nat → Nat → Int} {w0 : World} {gs cb k : Nat} {X : World} {g cp : Nat} (hk : k ≤ 1000000) (h : TrP N sz val w0 gs cb k X) (ow : X.ownsRow w0.heap.size 2 1 (.slice (some ⟨g, 0, none⟩) (sz (k + 1)) cp) (sz (k + 1)) (vaL sz val k)) :
    Calls Tryz.prog 20 #[tnv (sp N (k + 1)).h (sp N (k + 1)).v (sp N (k + 1)).c (some ⟨g, 0, none⟩) (sz (k + 1)) cp, .pointer (some ⟨cb, 0, none⟩)] X fun e y => e = .returned (.tuple #[]) ∧ TrP N sz val w0 gs cb (k + 1) y ∧ Kp X y := by
  obtain ⟨h1, h2, h3, u, gl, cl, h4, h5⟩ := h
  refine (trace1_any _ _ _ _ _ _ cb w0.heap.size k _ u X hk h4 h5.1 h1.size).mono ?_
  rintro e y ⟨rfl, u', r', o', gr⟩
  have kp := gr.kp h4 h5.1
  refine ⟨rfl, ⟨?_, kp.row h2 (by decide) (by decide), h3, u', fun j => if j = k then g else gl j, fun j => if j = k then cp else cl j, r', ?_, fun j hj => ?_⟩, kp⟩
  · refine ⟨gr.os.trans h1.os, gr.tape.trans h1.tape, gr.output.trans h1.output, Nat.le_trans h1.size gr.size, fun q hq => ?_⟩
    rw [gr.block q (Nat.lt_of_lt_of_le hq h1.size) (by omega) (fun e => ?_), h1.block q hq]
    have := (h5.1.lt q e.symm).1
    omega
  · have e1 : rlS (stF N sz (fun j => if j = k then g else gl j) (fun j => if j = k then cp else cl j)) (k + 1) = rlS (stF N sz gl cl) k ++ stC (sp N (k + 1)).h (sp N (k + 1)).v (sp N (k + 1)).c (some ⟨g, 0, none⟩) (sz (k + 1)) cp := by
      rw [rlS, rlS_congr (G := stF N sz gl cl) k fun j hj => by unfold stF; dsimp only; rw [if_neg (by omega), if_neg (by omega)]]
      congr 1
      unfold stF
      dsimp only
      rw [if_pos rfl, if_pos rfl]
    rw [e1]
    exact o'
  · by_cases hj' : j = k
    · subst hj'
      dsimp only
      rw [if_pos rfl, if_pos rfl]
      exact kp.own ow (by decide) (by decide)
    · dsimp only
      rw [if_neg hj', if_neg hj']
      exact kp.own (h5.2 j (by omega)) (by decide) (by decide)
end Go.Proofs.YtlgjoepeibodkaaGreat.Nn
/- PLAIN: Trace. -/
namespace Go.Proofs.YtlgjoepeibodkaaGreat.Nn
open Go.RowKit

set_option maxHeartbeats 1600000 in
set_option maxRecDepth 100000 in
theorem ready_bad (N : Nt) (ao : Option Addr) (n cap : Nat) (hz : ¬ chE N = 0) (w : World) (hN : NtW w N) :
    Calls Tryz.prog 17 #[ntv N, .slice ao n cap] w fun e w' => e = .returned (.tuple #[.slice none 0 0, .int .i64 (chE N)]) ∧ Below w.heap.size w w' := by
  have HW := hid1 (fun W (h : Below w.heap.size w W) => nshapes_any N W (hN.keep h))
  have HV : Hid (∀ W w' v, WkP N W w' v → v = .slice none 0 0) := hid1 (fun W w' v h => h.1 hz)
  clear hN
  generalize chE N = E at HW hz ⊢
  obtain ⟨b, hb0⟩ : ∃ b, w.heap.size = b := ⟨_, rfl⟩
  go_enter Tryz.func17, Tryz.ntmps17
  go_wp2_with fail
  refine gen_calls (fun X => Below w.heap.size w X ∧ Nb X b N) ⟨by repeat (first | (with_reducible exact Below.refl _ _) | (with_reducible refine bl_alloc ?_ _) | (with_reducible refine Below.drew ?_) | (with_reducible refine bl_drewN ?_ _) | (with_reducible refine bl_set ?_ (by omega) _) | (with_reducible refine bl_step ?_ (by assumption))), by rw [← hb0]; exact nb_new _ _ _⟩ ?_
  rintro X ⟨BX, NX⟩
  refine (HW.out X BX).mono ?_
  rintro e w1 ⟨v, rfl, hb, hv⟩
  obtain rfl := HV.out _ _ _ hv
  replace BX := bl_step BX hb
  clear hb hv NX HW HV
  go_wp2_with fail
  go_ret2
  exact ⟨rfl, BX⟩
set_option maxHeartbeats 1600000 in
set_option maxRecDepth 100000 in
theorem ready_in (N : Nt) (ao : Option Addr) (n cap : Nat) (hz : chE N = 0) (hn : ¬ (n : Int) = elN N.h N.v N.c) (w : World) (hN : NtW w N) :
    Calls Tryz.prog 17 #[ntv N, .slice ao n cap] w fun e w' => e = .returned (.tuple #[.slice none 0 0, .int .i64 60]) ∧ Below w.heap.size w w' := by
  have HW := hid1 hN
  have HZ := hid1 hz
  have CE := hid1 (fun W => pelems_any N.h N.v N.c W)
  generalize elN N.h N.v N.c = q at CE hn
  clear hN hz
  obtain ⟨b, hb0⟩ : ∃ b, w.heap.size = b := ⟨_, rfl⟩
  go_enter Tryz.func17, Tryz.ntmps17
  go_wp2_with fail
  refine gen_calls (fun X => Below w.heap.size w X ∧ Nb X b N) ⟨by repeat (first | (with_reducible exact Below.refl _ _) | (with_reducible refine bl_alloc ?_ _) | (with_reducible refine Below.drew ?_) | (with_reducible refine bl_drewN ?_ _) | (with_reducible refine bl_set ?_ (by omega) _) | (with_reducible refine bl_step ?_ (by assumption))), by rw [← hb0]; exact nb_new _ _ _⟩ ?_
  rintro X ⟨BX, NX⟩
  have CS := nshapes_any N X (HW.out.keep BX)
  rw [HZ.out] at CS
  refine CS.mono ?_
  rintro e w1 ⟨v, rfl, hb, hv⟩
  obtain ⟨g, hg, rfl, RG⟩ := hv.2 HZ.out
  replace BX := bl_step BX hb
  replace NX := NX.keep hb
  clear hb hv CS hg RG
  obtain ⟨n0, n1, n2, n3, n4⟩ := NX
  go_wp2_with fail
  refine (CE.out w1).mono ?_
  rintro e w2 ⟨rfl, hb⟩
  replace BX := bl_step BX hb
  clear hb
  go_wp2_with fail
  go_ret2
  exact ⟨rfl, BX⟩
theorem wh_of {N : Nt} (hz : chE N = 0) : whE N = 0 := by
  unfold chE at hz
  by_cases h0 : whE N = 0
  · exact h0
  · rw [if_neg h0] at hz; exact absurd hz h0
theorem rs_of_row {W : World} {gs : Nat} {N : Nt} (h : W.rowIs gs 23 (N.ml * 3) (shf N N.ml)) : RS W (some ⟨gs, 0, none⟩) N.ml (fun k => (sp N (k + 1)).h) (fun k => (sp N (k + 1)).v) (fun k => (sp N (k + 1)).c) := fun k hk => by
  obtain ⟨a, b, c⟩ := shf_atP N N.ml k hk
  have s0 := World.rowIs.cell h (i := k * 3) (by omega)
  have s1 := World.rowIs.cell h (i := k * 3 + 1) (by omega)
  have s2 := World.rowIs.cell h (i := k * 3 + 2) (by omega)
  rw [a] at s0
  rw [b] at s1
  rw [c] at s2
  exact ⟨gs, 0, rfl, by rw [Nat.zero_add]; exact s0, by rw [Nat.zero_add]; exact s1, by rw [Nat.zero_add]; exact s2⟩
/-- All outputs' elements. -/
def toN (N : Nt) : Int := toV (fun k => (sp N (k + 1)).h) (fun k => (sp N (k + 1)).v) (fun k => (sp N (k + 1)).c) N.ml
set_option maxHeartbeats 3200000 in
set_option maxRecDepth 100000 in
theorem ptrace_bad (N : Nt) (ao : Option Addr) (n cap : Nat) (hz : ¬ chE N = 0) (w : World) (hN : NtW w N) :
    Calls Tryz.prog 8 #[ntv N, .slice ao n cap] w fun e w' => e = .returned (.tuple #[.slice none 0 0, .int .i64 (chE N)]) ∧ Below w.heap.size w w' := by
  have CR := hid1 (fun W (h : Below w.heap.size w W) => ready_bad N ao n cap hz W (hN.keep h))
  clear hN
  generalize chE N = E at CR hz ⊢
  go_enter Tryz.func8, Tryz.ntmps8
  go_wp2_with fail
  refine gen_calls (fun X => Below w.heap.size w X) (by repeat (first | (with_reducible exact Below.refl _ _) | (with_reducible refine bl_alloc ?_ _) | (with_reducible refine Below.drew ?_))) ?_
  rintro X BX
  refine (CR.out X BX).mono ?_
  rintro e w1 ⟨rfl, hb⟩
  replace BX := bl_step BX hb
  clear hb CR
  go_wp2_with fail
  go_ret2
  exact ⟨rfl, BX⟩
set_option maxHeartbeats 3200000 in
set_option maxRecDepth 100000 in
theorem ptrace_in (N : Nt) (ao : Option Addr) (n cap : Nat) (hz : chE N = 0) (hn : ¬ (n : Int) = elN N.h N.v N.c) (w : World) (hN : NtW w N) :
    Calls Tryz.prog 8 #[ntv N, .slice ao n cap] w fun e w' => e = .returned (.tuple #[.slice none 0 0, .int .i64 60]) ∧ Below w.heap.size w w' := by
  have CR := hid1 (fun W (h : Below w.heap.size w W) => ready_in N ao n cap hz hn W (hN.keep h))
  clear hN hz hn
  go_enter Tryz.func8, Tryz.ntmps8
  go_wp2_with fail
  refine gen_calls (fun X => Below w.heap.size w X) (by repeat (first | (with_reducible exact Below.refl _ _) | (with_reducible refine bl_alloc ?_ _) | (with_reducible refine Below.drew ?_))) ?_
  rintro X BX
  refine (CR.out X BX).mono ?_
  rintro e w1 ⟨rfl, hb⟩
  replace BX := bl_step BX hb
  clear hb CR
  go_wp2_with fail
  go_ret2
  exact ⟨rfl, BX⟩
set_option maxHeartbeats 3200000 in
set_option maxRecDepth 100000 in
theorem ptrace_big (N : Nt) (ao : Option Addr) (n cap : Nat) (hz : chE N = 0) (hn : elN N.h N.v N.c = n) (ht : 4194304 < toN N) (w : World) (hN : NtW w N) :
    Calls Tryz.prog 8 #[ntv N, .slice ao n cap] w fun e w' => e = .returned (.tuple #[.slice none 0 0, .int .i64 31]) ∧ Below w.heap.size w w' := by
  have CR := hid1 (fun W (h : Below w.heap.size w W) => ready_ok N ao n cap hz hn W (hN.keep h))
  have hml := (wh_parts (wh_of hz)).2.2
  clear hN hz hn
  go_enter Tryz.func8, Tryz.ntmps8
  go_wp2_with fail
  refine gen_calls (fun X => Below w.heap.size w X) (by repeat (first | (with_reducible exact Below.refl _ _) | (with_reducible refine bl_alloc ?_ _) | (with_reducible refine Below.drew ?_))) ?_
  rintro X BX
  refine (CR.out X BX).mono ?_
  rintro e w1 ⟨gs, rfl, hgs, RS, hb⟩
  replace BX := bl_step BX hb
  have CT := hid1 (together_any (some ⟨gs, 0, none⟩) N.ml N.ml _ _ _ w1 (by omega) (rs_of_row RS))
  have ht' : 4194304 < toV (fun k => (sp N (k + 1)).h) (fun k => (sp N (k + 1)).v) (fun k => (sp N (k + 1)).c) N.ml := ht
  generalize toV (fun k => (sp N (k + 1)).h) (fun k => (sp N (k + 1)).v) (fun k => (sp N (k + 1)).c) N.ml = q at CT ht'
  clear hb CR RS hgs ht
  go_wp2_with fail
  refine CT.out.mono ?_
  rintro e w2 ⟨rfl, hb⟩
  replace BX := bl_step BX hb
  clear hb CT
  go_wp2_with fail
  go_ret2
  exact ⟨rfl, BX⟩
set_option maxHeartbeats 3200000 in
set_option maxRecDepth 100000 in
/-- Trace of a network that may be, over an input of its size. -/
theorem ptrace_ok (N : Nt) (sz : Nat → Nat) (val : Nat → Nat → Int) (hz : chE N = 0) (hn : elN N.h N.v N.c = sz 0) (hwk : ∀ i, i < N.ml → Wrk N sz val i) (ht : toN N ≤ 4194304) (ao : Option Addr) (cap : Nat) (f : Nat → Int) (hf : ∀ j, j < sz 0 → s8 (f j) = val 0 j) (w : World) (hN : NtW w N) (hx : RB w ao (sz 0) f) :
    Calls Tryz.prog 8 #[ntv N, .slice ao (sz 0) cap] w fun e w' => ∃ u gl cl, e = .returned (.tuple #[u, .int .i64 0]) ∧ TrS N sz val w.heap.size N.ml w' u gl cl ∧ Below w.heap.size w w' := by
  have CR := hid1 (fun W (h : Below w.heap.size w W) => ready_ok N ao (sz 0) cap hz hn W (hN.keep h))
  have hml := (wh_parts (wh_of hz)).2.2
  have hs0 : sz 0 ≤ 16777216 := by have := el_bd N.h N.v N.c; omega
  have HP : Hid (∀ gs cb W, Below w.heap.size w W → TrP N sz val w gs cb 0 W → Calls Tryz.prog 19 #[ntv N, .slice ao (sz 0) cap, .slice (some ⟨gs, 0, none⟩) N.ml N.ml, .func (.func 20) #[] #[.pointer (some ⟨cb, 0, none⟩)]] W fun e w' => e = .returned (.tuple #[]) ∧ TrP N sz val w gs cb N.ml w') := hid1 (fun gs cb W hW hP => pass_inv N sz val hml hwk ao cap f hs0 hf gs cb W (TrP N sz val w gs cb) (fun k X Y h hb => h.keep hb) (fun k X T F j u hT h r => h.set (Nat.le_trans hW.size hT) r) (fun k X h => ⟨hN.keep h.1, h.2.1⟩) (fun k X g cp hk h ow => h.step (by omega) (ow.mono hW.size)) (hx.keep hW) hP)
  clear hN hx hz hn hwk hf
  obtain ⟨i0, hi, hz0, hz1, hz2⟩ := info_parts info_st
  obtain ⟨b, hb0⟩ : ∃ b, w.heap.size = b := ⟨_, rfl⟩
  go_enter Tryz.func8, Tryz.ntmps8
  go_wp2_with fail
  refine gen_calls (fun X => Below w.heap.size w X ∧ Nb X b N) ⟨by repeat (first | (with_reducible exact Below.refl _ _) | (with_reducible refine bl_alloc ?_ _) | (with_reducible refine Below.drew ?_) | (with_reducible refine bl_drewN ?_ _) | (with_reducible refine bl_set ?_ (by omega) _) | (with_reducible refine bl_step ?_ (by assumption))), by rw [← hb0]; exact nb_new _ _ _⟩ ?_
  rintro X ⟨BX, NX⟩
  refine (CR.out X BX).mono ?_
  rintro e w1 ⟨gs, rfl, hgs, RS, hb⟩
  replace BX := bl_step BX hb
  replace NX := NX.keep hb
  have CT := hid1 (together_any (some ⟨gs, 0, none⟩) N.ml N.ml _ _ _ w1 (by omega) (rs_of_row RS))
  have ht' : ¬ 4194304 < toV (fun k => (sp N (k + 1)).h) (fun k => (sp N (k + 1)).v) (fun k => (sp N (k + 1)).c) N.ml := by have := ht; unfold toN at this; omega
  generalize toV (fun k => (sp N (k + 1)).h) (fun k => (sp N (k + 1)).v) (fun k => (sp N (k + 1)).c) N.ml = q at CT ht'
  have HRS := hid1 RS
  clear hb CR RS ht hgs
  go_wp2_with fail
  refine CT.out.mono ?_
  rintro e w2 ⟨rfl, hb⟩
  replace BX := bl_step BX hb
  replace NX := NX.keep hb
  replace HRS := hid1 (World.rowIs.of_block HRS.out (hb.block _ HRS.out.lt))
  clear hb CT
  go_upto_region 6 with fail
  obtain ⟨w3, mk, own, gr⟩ := run_make_own (P := Tryz.prog) w2 w.heap.size 44 61 i0 _ 4 und_sts hi hz0 hz1 .i64 .i64 N.ml (by rw [hz2]; omega) (by unfold maxLen; omega) BX.size
  have B3 : Below w.heap.size w w3 := BX.grown gr BX.size (fun q hq => by cases hq)
  have B23 : Below w2.heap.size w2 w3 := (Below.refl _ _).grown gr (Nat.le_refl _) (fun q hq => by cases hq)
  have N3 := hid1 (NX.keep B23)
  have R3 := hid1 (World.rowIs.of_block HRS.out (B23.block _ HRS.out.lt))
  have HO := hid1 own
  have HB3 := hid1 B3
  obtain ⟨cb, hcb⟩ : ∃ c, w3.heap.size = c := ⟨_, rfl⟩
  clear own gr B3 B23 NX HRS
  go_upto_region 7 with fail
  refine gen_world (fun Y => Below w.heap.size w Y ∧ Nb Y b N ∧ TrP N sz val w gs cb 0 Y) ⟨bl_alloc HB3.out _, N3.out.keep (bl_alloc (Below.refl _ _) _), bl_alloc HB3.out _, R3.out.alloc _, by rw [← hcb]; exact HB3.out.size, .slice (some ⟨w2.heap.size, 0, none⟩) 0 N.ml, fun _ => 0, fun _ => 0, by rw [← hcb]; exact World.rowIs_alloc w3 #[.slice (some ⟨w2.heap.size, 0, none⟩) 0 N.ml] 44 _ (fun i hi => by simp at hi; subst hi; rfl), own_bl HO.out (bl_alloc (Below.refl _ _) _), fun j hj => absurd hj (by omega)⟩ ?_
  clear N3 R3 HO HB3 hcb mk
  rintro Y ⟨BY, NY, TY⟩
  have CP := hid1 (HP.out gs cb Y BY TY)
  obtain ⟨n0, n1, n2, n3, n4⟩ := NY
  clear BY TY HP BX
  go_wp2_with fail
  refine CP.out.mono ?_
  rintro e y ⟨rfl, T1, -, -, u, gl, cl, RC, TS⟩
  have c0 := RC.cell (i := 0) (by decide)
  have HT := hid1 TS
  have HB := hid1 T1
  clear CP RC TS T1 n0 n1 n2 n3 n4
  go_wp2_with fail
  go_ret2
  exact ⟨u, gl, cl, rfl, HT.out, HB.out⟩
end Go.Proofs.YtlgjoepeibodkaaGreat.Nn
/- NETWORKS: LISTS OF SHAPES HELD AGAINST EACH OTHER. -/
namespace Go.Proofs.YtlgjoepeibodkaaGreat.Nn
open Go.RowKit

def Lsq (W : World) (ao : Option Addr) (m : Nat) (H V C : Nat → Int) : Prop := ∀ k, k < m → ∃ g o, ao = some ⟨g, o, none⟩ ∧ W.cell? ⟨g, o + k * 3, none⟩ = some (.int .i64 (H k)) ∧ W.cell? ⟨g, o + k * 3 + 1, none⟩ = some (.int .i64 (V k)) ∧ W.cell? ⟨g, o + k * 3 + 2, none⟩ = some (.int .i64 (C k))
theorem Lsq.keep {W w' : World} {ao : Option Addr} {m : Nat} {H V C : Nat → Int} (h : Lsq W ao m H V C) (hb : Below W.heap.size W w') : Lsq w' ao m H V C := fun k hk => by
  obtain ⟨g, o, e, a, b, c⟩ := h k hk
  exact ⟨g, o, e, keepc hb a, keepc hb b, keepc hb c⟩
def sq3 (H V C H' V' C' : Nat → Int) (k : Nat) : Prop := H k = H' k ∧ V k = V' k ∧ C k = C' k
instance (H V C H' V' C' : Nat → Int) (k : Nat) : Decidable (sq3 H V C H' V' C' k) := by unfold sq3; infer_instance
def sqB (m n : Nat) (H V C H' V' C' : Nat → Int) : Bool := decide (m = n ∧ ∀ k, k < m → sq3 H V C H' V' C' k)
theorem sqB_len {m n : Nat} {H V C H' V' C' : Nat → Int} (h : ¬ m = n) : sqB m n H V C H' V' C' = false := decide_eq_false fun k => h k.1
theorem sqB_no {m n k : Nat} {H V C H' V' C' : Nat → Int} (hk : k < m) (h : ¬ sq3 H V C H' V' C' k) : sqB m n H V C H' V' C' = false := decide_eq_false fun x => h (x.2 k hk)
theorem sqB_ok {m n : Nat} {H V C H' V' C' : Nat → Int} (h : m = n) (h2 : ∀ k, k < m → sq3 H V C H' V' C' k) : sqB m n H V C H' V' C' = true := decide_eq_true ⟨h, h2⟩
end Go.Proofs.YtlgjoepeibodkaaGreat.Nn
/- PLAIN'S STATEMENTS: traces and answers that are the same. -/
namespace Go.Proofs.YtlgjoepeibodkaaGreat.Nn
open Go.RowKit

theorem numbers_same (m : Nat) (f : Nat → Int) (ao bo : Option Addr) (ca cb : Nat) (w : World) (hm : m ≤ 9223372036854775807) (ra : R64 w ao m f) (rb : R64 w bo m f) :
    Calls Tryz.prog 21 #[.slice ao m ca, .slice bo m cb] w fun e w' => e = .returned (.bool true) ∧ Below w.heap.size w w' := by
  have HA := hid1 ra
  have HB := hid1 rb
  clear ra rb
  go_enter Tryz.func21, Tryz.ntmps21
  go_wp2_with fail
  go_loopw [5] (fun i wr => ∃ k : Nat, k ≤ m ∧ i = .int .i64 k ∧ Below w.heap.size w wr) (fun i _ => m - (intOf i).toNat)
  case atStart => exact ⟨0, Nat.zero_le _, rfl, Below.refl _ _⟩
  case round =>
    obtain ⟨k, hk, rfl, hnx⟩ := hrel
    have ik0 : (0 : Int) ≤ (k : Int) := by omega
    by_cases hlt : k < m
    · obtain ⟨ga, oa, rfl, a1⟩ := (HA.out.keep' hnx) k hlt
      obtain ⟨gb, ob, rfl, b1⟩ := (HB.out.keep' hnx) k hlt
      have ik : (k : Int) < (m : Nat) := by omega
      go_wp2_with fail
      go_quiet (fail)
      go_wp2_with fail
      exact ⟨⟨k + 1, by omega, by go_num, bl_drewN hnx _⟩, by simp [intOf]; omega⟩
    · have hkN : k = m := by omega
      subst hkN
      go_wp2_with fail
      go_ret
      exact ⟨rfl, hnx⟩
/-- A list of steps lies in memory. -/
def StR (W : World) (ao : Option Addr) (n : Nat) (fh fv fc : Nat → Int) (sz : Nat → Nat) (val : Nat → Nat → Int) : Prop := ∀ j, j < n → ∃ (g o : Nat) (xo : Option Addr) (xc : Nat), ao = some ⟨g, o, none⟩ ∧ Sh W g (o + j * 4) (fh j) (fv j) (fc j) ∧ W.cell? ⟨g, o + j * 4 + 3, none⟩ = some (.slice xo (sz j) xc) ∧ R64 W xo (sz j) (val j) ∧ sz j ≤ 9223372036854775807
theorem StR.keep {W X : World} {ao : Option Addr} {n : Nat} {fh fv fc : Nat → Int} {sz : Nat → Nat} {val : Nat → Nat → Int} (h : StR W ao n fh fv fc sz val) (hb : Below W.heap.size W X) : StR X ao n fh fv fc sz val := fun j hj => by
  obtain ⟨g, o, xo, xc, e, ⟨a, b, c⟩, d, r, l⟩ := h j hj
  exact ⟨g, o, xo, xc, e, ⟨keepc hb a, keepc hb b, keepc hb c⟩, keepc hb d, r.keep' hb, l⟩
theorem kp44 {W Y : World} {g h a b c d a' b' c' d' : Nat} {u0 u1 u2 u3 v0 v1 v2 v3 : Value} (h1 : W.cell? ⟨g, a, none⟩ = some u0 ∧ W.cell? ⟨g, b, none⟩ = some u1 ∧ W.cell? ⟨g, c, none⟩ = some u2 ∧ W.cell? ⟨g, d, none⟩ = some u3) (h2 : W.cell? ⟨h, a', none⟩ = some v0 ∧ W.cell? ⟨h, b', none⟩ = some v1 ∧ W.cell? ⟨h, c', none⟩ = some v2 ∧ W.cell? ⟨h, d', none⟩ = some v3) (hb : Below W.heap.size W Y) :
    (Y.cell? ⟨g, a, none⟩ = some u0 ∧ Y.cell? ⟨g, b, none⟩ = some u1 ∧ Y.cell? ⟨g, c, none⟩ = some u2 ∧ Y.cell? ⟨g, d, none⟩ = some u3) ∧ (Y.cell? ⟨h, a', none⟩ = some v0 ∧ Y.cell? ⟨h, b', none⟩ = some v1 ∧ Y.cell? ⟨h, c', none⟩ = some v2 ∧ Y.cell? ⟨h, d', none⟩ = some v3) := ⟨⟨keepc hb h1.1, keepc hb h1.2.1, keepc hb h1.2.2.1, keepc hb h1.2.2.2⟩, keepc hb h2.1, keepc hb h2.2.1, keepc hb h2.2.2.1, keepc hb h2.2.2.2⟩
set_option maxHeartbeats 1600000 in
set_option maxRecDepth 100000 in
theorem steps_same (n : Nat) (fh fv fc : Nat → Int) (sz : Nat → Nat) (val : Nat → Nat → Int) (ao bo : Option Addr) (ca cb : Nat) (w : World) (hm : n ≤ 9223372036854775807) (ra : StR w ao n fh fv fc sz val) (rb : StR w bo n fh fv fc sz val) :
    Calls Tryz.prog 10 #[.slice ao n ca, .slice bo n cb] w fun e w' => e = .returned (.bool true) ∧ Below w.heap.size w w' := by
  have HA := hid1 ra
  have HB := hid1 rb
  clear ra rb
  go_enter Tryz.func10, Tryz.ntmps10
  go_wp2_with fail
  go_loopw [5] (fun i wr => ∃ k : Nat, k ≤ n ∧ i = .int .i64 k ∧ Below w.heap.size w wr) (fun i _ => n - (intOf i).toNat)
  case atStart => exact ⟨0, Nat.zero_le _, rfl, Below.refl _ _⟩
  case round =>
    obtain ⟨k, hk, rfl, hnx⟩ := hrel
    have ik0 : (0 : Int) ≤ (k : Int) := by omega
    by_cases hlt : k < n
    · obtain ⟨ga, oa, xa, xca, ea, ⟨a0, a1, a2⟩, a3, ra, hl⟩ := (HA.out.keep hnx) k hlt
      obtain ⟨gb, ob, xb, xcb, eb, ⟨b0, b1, b2⟩, b3, rb, -⟩ := (HB.out.keep hnx) k hlt
      subst ea eb
      have ik : (k : Int) < (n : Nat) := by omega
      have we : ∀ w, Sem.run Tryz.prog (Op.equalIn 10000 23 (shp (fh k) (fv k) (fc k)) (shp (fh k) (fv k) (fc k))) w = Result.ok true w := fun w => by rw [shp_eql]; simp
      have CN := hid1 (fun W (h : Below wr.heap.size wr W) => numbers_same (sz k) (val k) xa xb xca xcb W hl (ra.keep' h) (rb.keep' h))
      have HNX := hid1 hnx
      have HC8 := hid1 (And.intro (And.intro a0 (And.intro a1 (And.intro a2 a3))) (And.intro b0 (And.intro b1 (And.intro b2 b3))))
      clear ra rb hnx
      go_wp2_with fail
      go_region_held3 (fun Y => (Y.cell? ⟨ga, oa + k * 4, none⟩ = some (.int .i64 (fh k)) ∧ Y.cell? ⟨ga, oa + k * 4 + 1, none⟩ = some (.int .i64 (fv k)) ∧ Y.cell? ⟨ga, oa + k * 4 + 2, none⟩ = some (.int .i64 (fc k)) ∧ Y.cell? ⟨ga, oa + k * 4 + 3, none⟩ = some (.slice xa (sz k) xca)) ∧ (Y.cell? ⟨gb, ob + k * 4, none⟩ = some (.int .i64 (fh k)) ∧ Y.cell? ⟨gb, ob + k * 4 + 1, none⟩ = some (.int .i64 (fv k)) ∧ Y.cell? ⟨gb, ob + k * 4 + 2, none⟩ = some (.int .i64 (fc k)) ∧ Y.cell? ⟨gb, ob + k * 4 + 3, none⟩ = some (.slice xb (sz k) xcb)))
        (((try dsimp only); (with_reducible refine kp44 (W := wr) HC8.out.1 HC8.out.2 ?_); repeat (first | (with_reducible exact Below.refl _ _) | (with_reducible assumption) | (with_reducible refine Below.drew ?_))))
        ((go_at_call 21; refine (CN.out _ (by repeat (first | (with_reducible exact Below.refl _ _) | (with_reducible refine Below.drew ?_)))).mono ?_; rintro e y ⟨rfl, hb⟩; have bb1 : Below wr.heap.size wr y := bl_step (by repeat (first | (with_reducible exact Below.refl _ _) | (with_reducible refine Below.drew ?_))) hb; clear hb))
      have HB2 := hid1 (bl_step HNX.out bb1)
      clear a0 a1 a2 a3 b0 b1 b2 b3
      go_wp2_with fail
      exact ⟨⟨k + 1, by omega, by go_num, HB2.out⟩, by simp [intOf]; omega⟩
    · have hkN : k = n := by omega
      subst hkN
      go_wp2_with fail
      go_ret
      exact ⟨rfl, hnx⟩
set_option maxHeartbeats 1600000 in
set_option maxRecDepth 100000 in
theorem results_same (m : Nat) (f : Nat → Int) (z : Int) (ao bo : Option Addr) (ca cb : Nat) (w : World) (hm : m ≤ 9223372036854775807) (ra : R64 w ao m f) (rb : R64 w bo m f) :
    Calls Tryz.prog 13 #[.agg #[.slice ao m ca, .int .i64 z], .agg #[.slice bo m cb, .int .i64 z]] w fun e w' => e = .returned (.bool true) ∧ Below w.heap.size w w' := by
  have HA := hid1 ra
  have HB := hid1 rb
  clear ra rb
  go_enter Tryz.func13, Tryz.ntmps13
  go_wp2_with fail
  refine gen_calls (fun W => Below w.heap.size w W) (bl_alloc (bl_alloc (Below.refl _ _) _) _) ?_
  rintro W B0
  refine (numbers_same m f ao bo ca cb W hm (HA.out.keep' B0) (HB.out.keep' B0)).mono ?_
  rintro e w1 ⟨rfl, hb⟩
  go_wp2_with fail
  go_ret
  exact ⟨rfl, bl_step B0 hb⟩
/-- A trace's steps. -/
theorem TrS.str {N : Nt} {sz : Nat → Nat} {val : Nat → Nat → Int} {base n : Nat} {W : World} {u : Value} {gl cl : Nat → Nat} (h : TrS N sz val base n W u gl cl) (hn : 1 ≤ n) (hs : ∀ j, j < n → 1 ≤ sz (j + 1) ∧ sz (j + 1) ≤ 9223372036854775807) : ∃ g cp, u = .slice (some ⟨g, 0, none⟩) n cp ∧ base ≤ g ∧ StR W (some ⟨g, 0, none⟩) n (fun j => (sp N (j + 1)).h) (fun j => (sp N (j + 1)).v) (fun j => (sp N (j + 1)).c) (fun j => sz (j + 1)) (fun j => val (j + 1)) := by
  have hl := rlS_len (F := stF N sz gl cl) (s := 4) (fun _ => rfl) n
  obtain ⟨-, r⟩ := h.1
  rcases r with ⟨-, e⟩ | ⟨g, cap, cur, e1, e2, e3, e4, -, e5, e6⟩
  · omega
  · have key : ∀ j c, j < n → c < 4 → W.cell? ⟨g, 0 + j * 4 + c, none⟩ = (stF N sz gl cl j)[c]? := fun j c hj hc => by
      have hx : (cur.toList.take (n * 4))[j * 4 + c]? = (stF N sz gl cl j)[c]? := by rw [e6]; exact rlS_get (s := 4) (fun _ => rfl) n hj hc
      rw [List.getElem?_take, if_pos (by omega)] at hx
      rw [Nat.zero_add, ← hx]
      simp [World.cell?, e3]
    refine ⟨g, cap, e1, e2, fun j hj => ⟨g, 0, some ⟨gl j, 0, none⟩, cl j, rfl, ⟨key j 0 hj (by decide), key j 1 hj (by decide), key j 2 hj (by decide)⟩, key j 3 hj (by decide), ?_, (hs j hj).2⟩⟩
    obtain ⟨g2, c2, e, -, -, -, R⟩ := own_64 (h.2 j hj) (hs j hj).1
    cases e
    exact R
end Go.Proofs.YtlgjoepeibodkaaGreat.Nn
/- PLAIN: what a window sees. -/
namespace Go.Proofs.YtlgjoepeibodkaaGreat.Nn
open Go.RowKit

/-- copy into a row of words, from p on, out of any cells. -/
theorem copy_64 {w : World} {G T p L n s c d : Nat} {a : Addr} {f h : Nat → Value} (hp : p + d ≤ T) (hL : d = Nat.min s L) (r : w.rowIs G 2 T f) (hs : ∀ j, j < d → w.cell? (a.add j) = some (h j)) (h1 : ∀ k, (h k).oneCell' = true) :
    ∃ w', (∀ ty, (Builtin.copy_ #[36, 36] ty #[.slice (some ⟨G, p, none⟩) L n, .slice (some a) s c]).run Tryz.prog w = .ok (.int .i64 d) w') ∧ w'.rowIs G 2 T (fun j => if p ≤ j ∧ j < p + d then h (j - p) else f j) ∧ w.grownBy w' (some G) := by
  obtain ⟨cur, hb, hsz, hc⟩ := r
  have hlen : ((List.range d).map h).length = d := by simp
  refine ⟨w.setRow G (cur.toList.take p ++ (List.range d).map h ++ cur.toList.drop (p + d)).toArray, fun ty => ?_, ⟨(cur.toList.take p ++ (List.range d).map h ++ cur.toList.drop (p + d)).toArray, ?_, ?_, ?_⟩, ?_⟩
  · have := run_copy_row (P := Tryz.prog) w 36 36 ty 2 G p L n a s c cur 2 ((List.range d).map h) und_i64s (by
      obtain ⟨i, hi, _, hz, _⟩ := info_parts info_i64
      rw [hi]; simp [hz]) hb (by rw [hlen]; exact hL) (fun j v hv => by
        rw [List.getElem?_map] at hv
        by_cases hj : j < d
        · rw [List.getElem?_range hj] at hv
          cases hv
          exact hs j hj
        · rw [List.getElem?_eq_none (by simpa using hj)] at hv
          cases hv) (by rw [hlen]; omega) (fun v hv => by
        obtain ⟨k, _, rfl⟩ := List.mem_map.1 hv
        exact h1 k)
    rw [hlen] at this
    exact this
  · exact setRow_heap w G _ _ _ _ hb
  · simp; omega
  · intro i hi
    rw [List.getElem?_toArray]
    show _ = some (if p ≤ i ∧ i < p + d then h (i - p) else f i)
    have hcl : cur.toList.length = T := by simpa using hsz
    by_cases e1 : i < p
    · rw [if_neg (by omega), List.getElem?_append_left (by simp; omega), List.getElem?_append_left (by simp; omega), List.getElem?_take_of_lt e1]
      simpa using hc i hi
    · by_cases e2 : i < p + d
      · rw [if_pos (by omega), List.getElem?_append_left (by simp; omega), List.getElem?_append_right (by simp; omega)]
        simp only [List.length_take, hcl]
        rw [show min p T = p by omega, List.getElem?_map, List.getElem?_range (by omega)]
        rfl
      · rw [if_neg (by omega), List.getElem?_append_right (by simp; omega)]
        simp only [List.length_append, List.length_take, hcl, hlen]
        rw [show min p T = p by omega, List.getElem?_drop, show p + d + (i - (p + d)) = i by omega]
        simpa using hc i hi
  · exact ⟨rfl, rfl, rfl, by simp [World.setRow], fun k hk hne => setRow_other w G k _ (fun e => hne (by rw [e]))⟩

/-- Does the place (r, s) of a window at (y, x) lie within H times V? -/
def Inw (y x : Int) (H V : Nat) (r s : Nat) : Prop := (0 ≤ y + r ∧ y + r < H) ∧ (0 ≤ x + s ∧ x + s < V)
instance (y x : Int) (H V r s : Nat) : Decidable (Inw y x H V r s) := by unfold Inw; infer_instance
/-- What is seen at the place j of the list, up to the row rr and its column ss; the border elsewhere. -/
def lkU (y x bd : Int) (H V C S : Nat) (val : Nat → Int) (rr ss : Nat) (j : Nat) : Int :=
  if Inw y x H V (j / C / S) (j / C % S) ∧ (j / C / S < rr ∨ (j / C / S = rr ∧ j / C % S < ss)) then val (((y + (j / C / S : Nat)).toNat * V + (x + (j / C % S : Nat)).toNat) * C + j % C) else bd
/-- What is seen. -/
def lkW (y x bd : Int) (H V C S : Nat) (val : Nat → Int) (j : Nat) : Int :=
  if Inw y x H V (j / C / S) (j / C % S) then val (((y + (j / C / S : Nat)).toNat * V + (x + (j / C % S : Nat)).toNat) * C + j % C) else bd
theorem lkU_first {y x bd : Int} {H V C S : Nat} {val : Nat → Int} {rr ss : Nat} (h : rr = 0 ∨ y + rr ≤ 0) (h2 : ss = 0 ∨ x + ss ≤ 0) (j : Nat) : lkU y x bd H V C S val rr ss j = bd := by
  unfold lkU
  rw [if_neg]
  rintro ⟨h1, h3⟩
  generalize j / C / S = r at h1 h3
  generalize j / C % S = s at h1 h3
  unfold Inw at h1
  omega
theorem lkU_last {y x bd : Int} {H V C S R : Nat} {val : Nat → Int} {rr ss : Nat} (hC : 1 ≤ C) (hS : 1 ≤ S) (h : (R : Int) ≤ rr ∨ (H : Int) ≤ y + rr) {j : Nat} (hj : j < R * S * C) : lkU y x bd H V C S val rr ss j = lkW y x bd H V C S val j := by
  unfold lkU lkW
  have hq : j / C < R * S := (Nat.div_lt_iff_lt_mul (by omega)).2 hj
  have hr : j / C / S < R := (Nat.div_lt_iff_lt_mul (by omega)).2 hq
  by_cases hi : Inw y x H V (j / C / S) (j / C % S)
  · rw [if_pos hi, if_pos ⟨hi, .inl (by unfold Inw at hi; omega)⟩]
  · rw [if_neg hi, if_neg (fun h => hi h.1)]
theorem lkU_row {y x bd : Int} {H V C S : Nat} {val : Nat → Int} {rr ss : Nat} (hS : 1 ≤ S) (h : (S : Int) ≤ ss ∨ (V : Int) ≤ x + ss) (t : Nat) (ht : x + t ≤ 0 ∨ t = 0) (j : Nat) : lkU y x bd H V C S val rr ss j = lkU y x bd H V C S val (rr + 1) t j := by
  unfold lkU
  have hs : j / C % S < S := Nat.mod_lt _ (by omega)
  have e : (Inw y x H V (j / C / S) (j / C % S) ∧ (j / C / S < rr ∨ (j / C / S = rr ∧ j / C % S < ss))) ↔ (Inw y x H V (j / C / S) (j / C % S) ∧ (j / C / S < rr + 1 ∨ (j / C / S = rr + 1 ∧ j / C % S < t))) := by
    unfold Inw
    omega
  by_cases hi : Inw y x H V (j / C / S) (j / C % S) ∧ (j / C / S < rr ∨ (j / C / S = rr ∧ j / C % S < ss))
  · rw [if_pos hi, if_pos (e.1 hi)]
  · rw [if_neg hi, if_neg (fun h => hi (e.2 h))]
theorem lkU_step {y x bd : Int} {H V C S : Nat} {val : Nat → Int} {rr ss a b : Nat} (hC : 1 ≤ C) (hss : ss < S) (hi : Inw y x H V rr ss) (ha : y + rr = a) (hb : x + ss = b) (j : Nat) :
    (if (rr * S + ss) * C ≤ j ∧ j < (rr * S + ss) * C + C then Value.int .i64 (val ((a * V + b) * C + (j - (rr * S + ss) * C))) else Value.int .i64 (lkU y x bd H V C S val rr ss j)) = Value.int .i64 (lkU y x bd H V C S val rr (ss + 1) j) := by
  have hS : 1 ≤ S := by omega
  by_cases hj : (rr * S + ss) * C ≤ j ∧ j < (rr * S + ss) * C + C
  · rw [if_pos hj]
    have q : j / C = rr * S + ss := by
      apply Nat.div_eq_of_lt_le
      · rw [Nat.mul_comm] at hj; rw [Nat.mul_comm]; omega
      · have : (rr * S + ss + 1) * C = (rr * S + ss) * C + C := Nat.succ_mul _ _
        omega
    have hm : j % C = j - (rr * S + ss) * C := by have := Nat.div_add_mod j C; rw [q, Nat.mul_comm] at this; omega
    have q1 : (rr * S + ss) / S = rr := by rw [Nat.mul_comm, Nat.mul_add_div (by omega), Nat.div_eq_of_lt hss]; omega
    have q2 : (rr * S + ss) % S = ss := by rw [Nat.mul_comm, Nat.mul_add_mod, Nat.mod_eq_of_lt hss]
    unfold lkU
    rw [q, q1, q2, if_pos ⟨hi, .inr ⟨rfl, by omega⟩⟩, hm, ha, hb]
    rfl
  · rw [if_neg hj]
    have hne : ¬ (j / C / S = rr ∧ j / C % S = ss) := by
      rintro ⟨h1, h2⟩
      have e1 := Nat.div_add_mod (j / C) S
      rw [h1, h2] at e1
      have e2 := Nat.div_add_mod j C
      rw [← e1] at e2
      have e3 := Nat.mod_lt j (show 0 < C by omega)
      rw [Nat.mul_comm C, Nat.mul_comm S] at e2
      omega
    unfold lkU
    congr 1
    by_cases hh : Inw y x H V (j / C / S) (j / C % S) ∧ (j / C / S < rr ∨ (j / C / S = rr ∧ j / C % S < ss))
    · rw [if_pos hh, if_pos ⟨hh.1, by omega⟩]
    · rw [if_neg hh, if_neg (fun h => hh ⟨h.1, by omega⟩)]
end Go.Proofs.YtlgjoepeibodkaaGreat.Nn
/- PLAIN: look. -/
namespace Go.Proofs.YtlgjoepeibodkaaGreat.Nn
open Go.RowKit

abbrev bdf (bd : Int) (f : Nat → Value) (k : Nat) : Nat → Value := fun j => if j < k then .int .i64 bd else f j
theorem addP (b o n : Nat) : Addr.add ⟨b, o, none⟩ n = ⟨b, o + n, none⟩ := by
  unfold Addr.add
  by_cases h : n = 0
  · subst h; rfl
  · rw [if_neg h]
theorem gr_set {w Y : World} {c j : Nat} {u : Value} (h : w.grownBy Y (some c)) : w.grownBy (Y.setCell ⟨c, j, none⟩ u) (some c) :=
  ⟨h.os, h.tape, h.output, by simpa using h.size, fun n hn hne => (Below.heap_setCell _ _ _ _ (fun e => hne (by rw [e]))).trans (h.block n hn hne)⟩
set_option maxHeartbeats 6400000 in
set_option maxRecDepth 100000 in
theorem look_any (L : Ly) (R S H V C T : Nat) (hR : L.r = R) (hS : L.s = S) (hRb : 1 ≤ R ∧ R ≤ 15) (hSb : 1 ≤ S ∧ S ≤ 15) (hC : 1 ≤ C ∧ C ≤ 4096) (hH : H ≤ 4096) (hV : V ≤ 4096) (hn : H * V * C ≤ 16777216) (hT : R * S * C = T) (tc : Nat) (y x : Int) (hy : -1000000 ≤ y ∧ y ≤ 1000000) (hx : -1000000 ≤ x ∧ x ≤ 1000000)
    (xo : Option Addr) (xc : Nat) (hxc : H * V * C ≤ xc) (htc : T ≤ tc) (val : Nat → Int) (G : Nat) (f : Nat → Value) (w : World) (hr : w.rowIs G 2 T f) (hv : R64 w xo (H * V * C) val) (hG : ∀ g o, xo = some ⟨g, o, none⟩ → g ≠ G) :
    Calls Tryz.prog 77 #[lyv L, tnv H V C xo (H * V * C) xc, .int .i64 y, .int .i64 x, .slice (some ⟨G, 0, none⟩) T tc] w fun e w' => e = .returned (.tuple #[]) ∧ w'.rowIs G 2 T (fun j => .int .i64 (lkW y x L.bd H V C S val j)) ∧ w.grownBy w' (some G) := by
  have HR := hid1 hR
  have HS := hid1 hS
  have HT := hid1 hT
  have HROW := hid1 hr
  have HV := hid1 hv
  have HG := hid1 hG
  have lG := hr.lt
  have hTb : T ≤ 1000000 := by
    rw [← hT]
    have h1 : R * S ≤ 225 := Nat.mul_le_mul hRb.2 hSb.2
    exact Nat.le_trans (Nat.mul_le_mul h1 hC.2) (by decide)
  obtain ⟨N, hN⟩ : ∃ N, H * V * C = N := ⟨_, rfl⟩
  rw [hN] at hn hxc ⊢
  have HN := hid1 hN
  rw [hN] at HV
  clear hR hS hT hr hv hG hN
  obtain ⟨b, hb0⟩ : ∃ b, w.heap.size = b := ⟨_, rfl⟩
  go_enter Tryz.func77, Tryz.ntmps77
  go_upto_region 1 with fail
  refine gen_world (fun X => Below w.heap.size w X ∧ Lp X b L ∧ X.rowIs (b + 1) 71 4 (tnf H V C xo N xc)) ⟨by repeat (first | (with_reducible exact Below.refl _ _) | (with_reducible refine bl_alloc ?_ _) | (with_reducible refine Below.drew ?_) | (with_reducible refine bl_drewN ?_ _) | (with_reducible refine bl_set ?_ (by omega) _) | (with_reducible refine bl_step ?_ (by assumption))), (lp_new' hb0 L _).keep (bl_alloc (Below.refl _ _) _), by have := tn_new (w.alloc (lyo L)) H V C xo N xc 71; rw [show (w.alloc (lyo L)).heap.size = b + 1 by simp [hb0]] at this; exact this⟩ ?_
  rintro X ⟨BX, LX, TX⟩
  have K1 := hid1 LX
  have K2 := hid1 TX
  have K3 := hid1 (World.rowIs.of_block HROW.out (BX.block _ lG))
  have K4 := hid1 (gr_below (gr_refl w (some G)) BX)
  have lb1 := TX.lt
  clear LX TX BX HROW
  go_wp2_with fail
  go_loopw [21] (fun iv wr => ∃ k : Nat, k ≤ T ∧ iv = .int .i64 k ∧ b + 1 < wr.heap.size ∧ Hid (Lp wr b L) ∧ Hid (wr.rowIs (b + 1) 71 4 (tnf H V C xo N xc)) ∧ Hid (wr.rowIs G 2 T (bdf L.bd f k)) ∧ Hid (w.grownBy wr (some G))) (fun iv _ => T - (intOf iv).toNat)
  case atStart => exact ⟨0, Nat.zero_le _, rfl, lb1, K1, K2, hid1 (K3.out.congr fun j _ => by simp), K4⟩
  case round =>
    clear K1 K2 K3 K4 lb1
    obtain ⟨k, hk, rfl, lb1, K1, K2, K3, K4⟩ := hrel
    have ik0 : (0 : Int) ≤ (k : Int) := by omega
    by_cases hlt : k < T
    · as_aux_lemma =>
      have ik : (k : Int) < (T : Int) := by omega
      have l11 : wr.cell? ⟨b, 11, none⟩ = some (.int .i64 L.bd) := K1.out.2.2.2.2.2.2.2.2.2.2.2.1
      have r0 := K3.out.cell hlt
      have f0 := K3.out.frozen k
      simp only [bdf] at r0
      go_wp2_with fail
      exact ⟨⟨k + 1, by omega, by go_num, by simpa using lb1, hid1 (K1.out.of_block (Below.heap_setCell _ _ _ _ (by show b ≠ G; omega))), hid1 (K2.out.setOther (by show b + 1 ≠ G; omega) _), hid1 ((K3.out.set k _).congr fun j _ => by
        by_cases e : j = k
        · rw [if_pos e]; simp [bdf, e]
        · rw [if_neg e]; simp only [bdf]; by_cases e2 : j < k
          · rw [if_pos e2, if_pos (by omega)]
          · rw [if_neg e2, if_neg (by omega)]), hid1 (gr_set K4.out)⟩, by simp [intOf]; omega⟩
    · have hkT : k = T := by omega
      have K3' : Hid (wr.rowIs G 2 T (fun _ => .int .i64 L.bd)) := hid1 (K3.out.congr fun j hj => by simp only [bdf]; rw [if_pos (by omega)])
      clear K3
      have r3 : wr.cell? ⟨b, 3, none⟩ = some (.int .i64 (R : Int)) := by rw [← HR.out]; exact K1.out.2.2.2.1
      have r4 : wr.cell? ⟨b, 4, none⟩ = some (.int .i64 (S : Int)) := by rw [← HS.out]; exact K1.out.2.2.2.2.1
      obtain ⟨t0, t1, t2, t3⟩ := tn_cells K2.out
      have W1 := hid1 (within_any y R H (by omega) (by omega) wr)
      have W2 := hid1 (within_any x S V (by omega) (by omega) wr)
      obtain ⟨top, etop⟩ := Int.eq_ofNat_of_zero_le (show 0 ≤ max 0 (-y) by omega)
      obtain ⟨lef', elef⟩ := Int.eq_ofNat_of_zero_le (show 0 ≤ max 0 (-x) by omega)
      obtain ⟨bot, ebot⟩ : ∃ q, min (R : Int) (H - y) = q := ⟨_, rfl⟩
      obtain ⟨rig, erig⟩ : ∃ q, min (S : Int) (V - x) = q := ⟨_, rfl⟩
      rw [etop, ebot] at W1
      rw [elef, erig] at W2
      go_wp2_with fail
      refine W1.out.mono ?_
      rintro e w1 ⟨rfl, hw1⟩
      rw [hw1]
      go_wp2_with fail
      refine W2.out.mono ?_
      rintro e w2 ⟨rfl, hw2⟩
      rw [hw2]
      go_wp2_with fail
      clear hw1 hw2 w1 w2 W1 W2 r3
      have K5 : Hid (wr.rowIs G 2 T (fun j => .int .i64 (lkU y x L.bd H V C S val top lef' j))) := hid1 (K3'.out.congr fun j _ => by rw [lkU_first (by omega) (by omega)])
      clear K3'
      go_loopw [16] (fun rv wy => ∃ rr : Nat, rv = .int .i64 rr ∧ top ≤ rr ∧ b + 1 < wy.heap.size ∧ Hid (Lp wy b L) ∧ Hid (wy.rowIs (b + 1) 71 4 (tnf H V C xo N xc)) ∧ Hid (wy.rowIs G 2 T (fun j => .int .i64 (lkU y x L.bd H V C S val rr lef' j))) ∧ Hid (w.grownBy wy (some G))) (fun rv _ => (bot - intOf rv).toNat)
      case atStart => exact ⟨top, rfl, Nat.le_refl _, lb1, K1, K2, K5, K4⟩
      case round =>
        clear K1 K2 K4 K5 lb1 r4 t0 t1 t2 t3
        obtain ⟨rr, rfl, hrr, lb1, K1, K2, K5, K4⟩ := hrel
        have ir0 : (0 : Int) ≤ (rr : Int) := by omega
        by_cases hlr : (rr : Int) < bot
        · go_wp2_with fail
          go_loopw [17] (fun sv wz => ∃ ss : Nat, sv = .int .i64 ss ∧ lef' ≤ ss ∧ b + 1 < wz.heap.size ∧ Hid (Lp wz b L) ∧ Hid (wz.rowIs (b + 1) 71 4 (tnf H V C xo N xc)) ∧ Hid (wz.rowIs G 2 T (fun j => .int .i64 (lkU y x L.bd H V C S val rr ss j))) ∧ Hid (w.grownBy wz (some G))) (fun sv _ => (rig - intOf sv).toNat)
          case atStart => exact ⟨lef', rfl, Nat.le_refl _, lb1, K1, K2, K5, K4⟩
          case round =>
            clear K1 K2 K4 K5 lb1
            obtain ⟨ss, rfl, hss, lb1, K1, K2, K5, K4⟩ := hrel
            have is0 : (0 : Int) ≤ (ss : Int) := by omega
            by_cases hls : (ss : Int) < rig
            · as_aux_lemma =>
              obtain ⟨a, ea⟩ := Int.eq_ofNat_of_zero_le (show 0 ≤ y + rr by omega)
              obtain ⟨q, eq⟩ := Int.eq_ofNat_of_zero_le (show 0 ≤ x + ss by omega)
              have haH : a < H := by omega
              have hqV : q < V := by omega
              have hin : Inw y x H V rr ss := ⟨by omega, by omega⟩
              have hrR : rr < R := by omega
              have hsS : ss < S := by omega
              have hD : rr * S + ss < R * S := by have := Nat.mul_le_mul_right S (show rr + 1 ≤ R by omega); rw [Nat.succ_mul] at this; omega
              have hE : (rr * S + ss) * C + C ≤ T := by rw [← HT.out]; have := Nat.mul_le_mul_right C (show rr * S + ss + 1 ≤ R * S by omega); rw [Nat.succ_mul] at this; exact this
              have hA : a * V + q < H * V := by have := Nat.mul_le_mul_right V (show a + 1 ≤ H by omega); rw [Nat.succ_mul] at this; omega
              have hF : (a * V + q) * C + C ≤ N := by rw [← HN.out]; have := Nat.mul_le_mul_right C (show a * V + q + 1 ≤ H * V by omega); rw [Nat.succ_mul] at this; exact this
              have HST := hid1 (fun j => lkU_step (bd := L.bd) (val := val) (y := y) (x := x) hC.1 hsS hin ea eq j)
              have hkk : H * V ≤ 16777216 := Nat.le_trans (Nat.mul_le_mul hH hV) (by decide)
              obtain ⟨AV, eAV⟩ : ∃ z, a * V = z := ⟨_, rfl⟩
              obtain ⟨RS, eRS⟩ : ∃ z, rr * S = z := ⟨_, rfl⟩
              rw [eAV] at hA hF HST
              rw [eRS] at hD hE HST
              obtain ⟨B, eB⟩ : ∃ z, AV + q = z := ⟨_, rfl⟩
              obtain ⟨D, eD⟩ : ∃ z, RS + ss = z := ⟨_, rfl⟩
              rw [eB] at hA hF HST
              rw [eD] at hD hE HST
              obtain ⟨FM, eFM⟩ : ∃ z, B * C = z := ⟨_, rfl⟩
              obtain ⟨E, eE⟩ : ∃ z, D * C = z := ⟨_, rfl⟩
              rw [eFM] at hF HST
              rw [eE] at hE HST
              have p1 : IntKind.i64.wrap (y + (rr : Int)) = (a : Int) := by rw [IntKind.wrap_i64]; omega
              have p2 : IntKind.i64.wrap ((a : Int) * (V : Int)) = (AV : Int) := by rw [IntKind.wrap_i64, ← eAV]; push_cast; have := eAV; omega
              have p3 : IntKind.i64.wrap ((AV : Int) + x) = (AV : Int) + x := by rw [IntKind.wrap_i64]; omega
              have p4 : IntKind.i64.wrap ((AV : Int) + x + (ss : Int)) = (B : Int) := by rw [IntKind.wrap_i64]; omega
              have p5 : IntKind.i64.wrap ((B : Int) * (C : Int)) = (FM : Int) := by rw [IntKind.wrap_i64, ← eFM]; push_cast; have := eFM; omega
              obtain ⟨FE, eFE⟩ : ∃ z, FM + C = z := ⟨_, rfl⟩
              have p6 : IntKind.i64.wrap ((FM : Int) + (C : Int)) = (FE : Int) := by rw [IntKind.wrap_i64]; omega
              have hrs : R * S ≤ 225 := Nat.mul_le_mul hRb.2 hSb.2
              have hRSb : RS ≤ 1000 := by omega
              have s1 : IntKind.i64.wrap ((rr : Int) * (S : Int)) = (RS : Int) := by rw [IntKind.wrap_i64, ← eRS]; push_cast; have := eRS; omega
              have s2 : IntKind.i64.wrap ((RS : Int) + (ss : Int)) = (D : Int) := by rw [IntKind.wrap_i64]; omega
              have s3 : IntKind.i64.wrap ((D : Int) * (C : Int)) = (E : Int) := by rw [IntKind.wrap_i64, ← eE]; push_cast; have := eE; omega
              have hR6 : R64 wr xo N val := fun k hk => by
                obtain ⟨g, o, e1, c1⟩ := HV.out k hk
                exact ⟨g, o, e1, K4.out.cell c1 (fun e => HG.out g o e1 (by simpa using e))⟩
              obtain ⟨g, o, ex, -⟩ := hR6 0 (by omega)
              obtain ⟨W', hcp, hrw, hgr⟩ := copy_64 (w := wr.drew) (G := G) (T := T) (p := E) (L := T - E) (n := tc - E) (s := C) (c := xc - FM) (d := C) (a := ⟨g, o + FM, none⟩) (f := fun j => .int .i64 (lkU y x L.bd H V C S val rr ss j)) (h := fun k => .int .i64 (val (FM + k))) hE (show C = min C (T - E) by omega) K5.out.drew (fun k hk => by
                obtain ⟨g', o', e1, c1⟩ := hR6 (FM + k) (by omega)
                rw [ex] at e1
                cases e1
                rw [addP, Nat.add_assoc]
                exact c1) (fun k => rfl)
              have hrow2 : Hid (W'.rowIs G 2 T (fun j => .int .i64 (lkU y x L.bd H V C S val rr (ss + 1) j))) := hid1 (hrw.congr fun j _ => HST.out j)
              have hgr2 : Hid (w.grownBy W' (some G)) := hid1 (gr_step (gr_below K4.out (Below.drew (Below.refl _ _))) hgr (.inl rfl))
              have hz2 := hgr.size
              have hL2 : Hid (Lp W' b L) := hid1 ((K1.out.keep (Below.drew (Below.refl _ _))).of_block (hgr.block b (show b < wr.heap.size by omega) (fun e => by cases e; omega)))
              have hT2 : Hid (W'.rowIs (b + 1) 71 4 (tnf H V C xo N xc)) := hid1 (World.rowIs.of_block K2.out.drew (hgr.block (b + 1) (show b + 1 < wr.heap.size by omega) (fun e => by cases e; omega)))
              have r4 : wr.cell? ⟨b, 4, none⟩ = some (.int .i64 (S : Int)) := by rw [← HS.out]; exact K1.out.2.2.2.2.1
              obtain ⟨t0, t1, t2, t3⟩ := tn_cells K2.out
              rw [ex] at t3
              have nE : ¬ tc = E := by omega
              have nF : ¬ xc = FM := by omega
              have iE : (E : Int) ≤ (T : Int) := by omega
              have iE2 : (T : Int) ≤ (tc : Int) := by omega
              have iF : (FM : Int) ≤ (FE : Int) := by omega
              have iF2 : (FE : Int) ≤ (xc : Int) := by omega
              have eFC : FE - FM = C := by omega
              clear eAV eRS eB eD eFM eE eFE hrw hgr hR6 ex HST hin ea eq
              go_upto_region 16 with fail
              refine still_tailP 18 (by kernel_rfl) ?_
              simp only [List.take_succ_cons, List.take_zero, List.drop_succ_cons, List.drop_zero]
              repeat still_step
              refine wpStill_nil ?_
              go_wp2
              exact ⟨⟨ss + 1, by go_num, by omega, by simp at hz2; omega, hL2, hT2, hrow2, hgr2⟩, by simp [intOf]; omega⟩
            · have hE2 := hid1 (fun j => lkU_row (bd := L.bd) (val := val) (y := y) (x := x) (H := H) (V := V) (C := C) (S := S) (rr := rr) (ss := ss) hSb.1 (by omega) lef' (by omega) j)
              go_wp2_with fail
              exact ⟨⟨rr + 1, by go_num, by omega, lb1, K1, K2, hid1 (K5.out.congr fun j _ => by rw [hE2.out j]), K4⟩, by simp [intOf]; omega⟩
        · go_wp2_with fail
          refine bodyPost_end (v := .tuple #[]) (by simp [results, go_sem]) rfl ⟨rfl, K5.out.congr fun j hj => by rw [lkU_last (R := R) hC.1 hSb.1 (by omega) (by rw [HT.out]; exact hj)], K4.out⟩
end Go.Proofs.YtlgjoepeibodkaaGreat.Nn
/- PLAIN: slide. -/
namespace Go.Proofs.YtlgjoepeibodkaaGreat.Nn
open Go.RowKit

/-- The first block of four that a call makes, and the three behind it, are as they were; nothing outside memory has turned. -/
structure Fo (b : Nat) (w w' : World) : Prop where
  os : w'.os = w.os
  tape : w'.tape = w.tape
  output : w'.output = w.output
  size : w.heap.size ≤ w'.heap.size
  block : ∀ k, b ≤ k → k < b + 4 → w'.heap[k]? = w.heap[k]?
theorem sh_block {W X : World} {g o : Nat} {h v c : Int} (k : Sh W g o h v c) (e : X.heap[g]? = W.heap[g]?) : Sh X g o h v c :=
  ⟨(World.cell?_of_block (w := W) e).trans k.1, (World.cell?_of_block (w := W) e).trans k.2.1, (World.cell?_of_block (w := W) e).trans k.2.2⟩
/-- What is seen at the k-th place, row by row. -/
def plW (L : Ly) (H V C S OW : Nat) (val : Nat → Int) (k j : Nat) : Int := lkW ((k / OW : Nat) * L.sy - L.t) ((k % OW : Nat) * L.sx - L.l) L.bd H V C S val j
set_option maxHeartbeats 6400000 in
set_option maxRecDepth 100000 in
theorem pslide_any (L : Ly) (R S H V C T OH OW : Nat) (oc : Int) (hR : L.r = R) (hS : L.s = S) (hRb : 1 ≤ R ∧ R ≤ 15) (hSb : 1 ≤ S ∧ S ≤ 15) (hC : 1 ≤ C ∧ C ≤ 4096) (hH : H ≤ 4096) (hV : V ≤ 4096) (hn : H * V * C ≤ 16777216) (hT : R * S * C = T) (hOH : 1 ≤ OH ∧ OH ≤ 4096) (hOW : 1 ≤ OW ∧ OW ≤ 4096) (hsy : 0 ≤ L.sy ∧ L.sy ≤ 15) (hsx : 0 ≤ L.sx ∧ L.sx ≤ 15) (ht : 0 ≤ L.t ∧ L.t ≤ 15) (hl : 0 ≤ L.l ∧ L.l ≤ 15)
    (xo : Option Addr) (xc : Nat) (hxc : H * V * C ≤ xc) (val : Nat → Int) (F : Nat) (c1 c2 : Value) (hcf : ∀ (args : Array Value) (w : World), (callFunc F args).run Tryz.prog w = .ok (.enter F args) w) (Inv : Nat → World → Prop) (w : World) (hv : ∀ k W, Inv k W → R64 W xo (H * V * C) val)
    (hkp : ∀ k W X, Inv k W → w.heap.size + 4 ≤ W.heap.size → W.grownBy X (some (w.heap.size + 3)) → Inv k X) (hxl : ∀ g o, xo = some ⟨g, o, none⟩ → g < w.heap.size) (h0 : ∀ X, Below w.heap.size w X → Inv 0 X)
    (htell : ∀ k W, k < OH * OW → Inv k W → w.heap.size + 4 ≤ W.heap.size → W.rowIs (w.heap.size + 3) 2 T (fun j => .int .i64 (plW L H V C S OW val k j)) → Calls Tryz.prog F #[.slice (some ⟨w.heap.size + 3, 0, none⟩) T T, c1, c2] W fun e w' => e = .returned (.tuple #[]) ∧ Inv (k + 1) w' ∧ Fo w.heap.size W w') :
    Calls Tryz.prog 50 #[lyv L, tnv H V C xo (H * V * C) xc, shp OH OW oc, .func (.func F) #[] #[c1, c2]] w fun e w' => e = .returned (.tuple #[]) ∧ Inv (OH * OW) w' := by
  have HR := hid1 hR
  have HS := hid1 hS
  have HT := hid1 hT
  have HV := hid1 hv
  have HKP := hid1 hkp
  have HXL := hid1 hxl
  have H00 := hid1 h0
  have HTL := hid1 htell
  have hTb : T ≤ 1000000 := by
    rw [← hT]
    have h1 : R * S ≤ 225 := Nat.mul_le_mul hRb.2 hSb.2
    exact Nat.le_trans (Nat.mul_le_mul h1 hC.2) (by decide)
  have hrs : R * S ≤ 225 := Nat.mul_le_mul hRb.2 hSb.2
  obtain ⟨RS, eRS⟩ : ∃ z, R * S = z := ⟨_, rfl⟩
  have q1 : IntKind.i64.wrap ((R : Int) * (S : Int)) = (RS : Int) := by rw [IntKind.wrap_i64, ← eRS]; push_cast; have := eRS; omega
  have q2 : IntKind.i64.wrap ((RS : Int) * (C : Int)) = (T : Int) := by
    have e : (RS : Int) * (C : Int) = (T : Int) := by rw [← eRS, ← hT]; push_cast; rfl
    rw [IntKind.wrap_i64]; omega
  clear hT hv hkp hxl h0 htell eRS hR hS
  obtain ⟨b, hb0⟩ : ∃ b, w.heap.size = b := ⟨_, rfl⟩
  rw [hb0] at HTL HKP
  go_enter Tryz.func50, Tryz.ntmps50
  go_upto_region 1 with fail
  refine gen_world (fun X => Below w.heap.size w X ∧ Lp X b L ∧ X.rowIs (b + 1) 71 4 (tnf H V C xo (H * V * C) xc) ∧ Sh X (b + 2) 0 OH OW oc ∧ X.heap.size = b + 3) ⟨by repeat (first | (with_reducible exact Below.refl _ _) | (with_reducible refine bl_alloc ?_ _) | (with_reducible refine Below.drew ?_) | (with_reducible refine bl_drewN ?_ _) | (with_reducible refine bl_set ?_ (by omega) _) | (with_reducible refine bl_step ?_ (by assumption))), (lp_new' hb0 L _).keep (bl_alloc (bl_alloc (Below.refl _ _) _) _), by have := (tn_new (w.alloc (lyo L)) H V C xo (H * V * C) xc 71).alloc (sho OH OW oc); rw [show (w.alloc (lyo L)).heap.size = b + 1 by simp [hb0]] at this; exact this, by have := sh_new ((w.alloc (lyo L)).alloc (.cells #[.int .i64 H, .int .i64 V, .int .i64 C, .slice xo (H * V * C) xc] 71)) OH OW oc 23; rw [show ((w.alloc (lyo L)).alloc (.cells #[.int .i64 H, .int .i64 V, .int .i64 C, .slice xo (H * V * C) xc] 71)).heap.size = b + 2 by simp [hb0]] at this; exact this, by simp [hb0]⟩ ?_
  rintro X ⟨BX, LX, TX, SX, zX⟩
  obtain ⟨i0, hi, hz0, hz1, hz2⟩ := info_parts info_i64
  obtain ⟨Y, mk, BY, RY, zY⟩ : ∃ Y, (Instr.makeSlice 36 (.int .i64 (T : Int)) (.int .i64 (T : Int))).run Tryz.prog X = .ok (.slice (some ⟨b + 3, 0, none⟩) T T) Y ∧ Below X.heap.size X Y ∧ Y.rowIs (b + 3) 2 T (fun _ => .int .i64 0) ∧ Y.heap.size = b + 4 := by
    have := run_make X 36 2 i0 _ und_i64s hi hz0 .i64 .i64 (T : Int) (T : Int) (by omega) (by omega) (by rw [hz2]; omega) (by omega)
    rw [Int.toNat_natCast, hz1, zX] at this
    refine ⟨_, this, bl_alloc (Below.refl _ _) _, ?_, by simp [zX]⟩
    have r := World.rowIs_made X (.int .i64 0) (T * 1) 2
    rw [zX, Nat.mul_one] at r
    rw [Nat.mul_one]
    exact r
  have BB := bl_step BX BY
  have hL3 : X.cell? ⟨b, 3, none⟩ = some (.int .i64 (R : Int)) := by rw [← HR.out]; exact LX.2.2.2.1
  have hL4 : X.cell? ⟨b, 4, none⟩ = some (.int .i64 (S : Int)) := by rw [← HS.out]; exact LX.2.2.2.2.1
  obtain ⟨t0, t1, t2, t3⟩ := tn_cells TX
  have K1 := hid1 (LX.keep BY)
  have K2 := hid1 (World.rowIs.of_block TX (BY.block _ TX.lt))
  have K3 := hid1 (SX.keep BY)
  have K4 := hid1 RY
  have K5 := hid1 (H00.out Y BB)
  have s0 := K3.out.1
  clear LX TX SX BX RY BB
  obtain ⟨N, hN⟩ : ∃ N, H * V * C = N := ⟨_, rfl⟩
  rw [hN] at hn hxc K2 HV ⊢
  have HN := hid1 hN
  clear hN
  go_wp2_with fail
  clear mk hL3 hL4 t0 t1 t2 t3 s0
  go_loopw [25] (fun yv wr => ∃ yy : Nat, yy ≤ OH ∧ yv = .int .i64 yy ∧ b + 4 ≤ wr.heap.size ∧ Hid (Lp wr b L) ∧ Hid (wr.rowIs (b + 1) 71 4 (tnf H V C xo N xc)) ∧ Hid (Sh wr (b + 2) 0 OH OW oc) ∧ Hid (∃ f, wr.rowIs (b + 3) 2 T f) ∧ Hid (Inv (yy * OW) wr)) (fun yv _ => OH - (intOf yv).toNat)
  case atStart => exact ⟨0, Nat.zero_le _, rfl, by omega, K1, K2, K3, hid1 ⟨_, K4.out⟩, hid1 (by rw [Nat.zero_mul]; exact K5.out)⟩
  case round =>
    clear K1 K2 K3 K4 K5 zX zY BY
    obtain ⟨yy, hyy, rfl, lz, K1, K2, K3, K4, K5⟩ := hrel
    have iy0 : (0 : Int) ≤ (yy : Int) := by omega
    by_cases hly : yy < OH
    · have iy : (yy : Int) < (OH : Int) := by omega
      have s1 := K3.out.2.1
      go_wp2_with fail
      clear s1
      go_loopw [30] (fun xv wy => ∃ xx : Nat, xx ≤ OW ∧ xv = .int .i64 xx ∧ b + 4 ≤ wy.heap.size ∧ Hid (Lp wy b L) ∧ Hid (wy.rowIs (b + 1) 71 4 (tnf H V C xo N xc)) ∧ Hid (Sh wy (b + 2) 0 OH OW oc) ∧ Hid (∃ f, wy.rowIs (b + 3) 2 T f) ∧ Hid (Inv (yy * OW + xx) wy)) (fun xv _ => OW - (intOf xv).toNat)
      case atStart => exact ⟨0, Nat.zero_le _, rfl, lz, K1, K2, K3, K4, K5⟩
      case round =>
        clear K1 K2 K3 K4 K5 lz
        obtain ⟨xx, hxx, rfl, lz, K1, K2, K3, K4, K5⟩ := hrel
        have ix0 : (0 : Int) ≤ (xx : Int) := by omega
        by_cases hlx : xx < OW
        · as_aux_lemma =>
          have ix : (xx : Int) < (OW : Int) := by omega
          obtain ⟨f, RF⟩ := K4.out
          obtain ⟨c0, c1', c2', c3, c4, c5, c6, c7, c8, c9, c10, c11, c12, c13, c14⟩ := K1.out
          obtain ⟨t0, t1, t2, t3⟩ := tn_cells K2.out
          have m1 : (0 : Int) ≤ (yy : Int) * L.sy ∧ (yy : Int) * L.sy ≤ 61440 := ⟨Int.mul_nonneg (by omega) hsy.1, Int.le_trans (Int.mul_le_mul (show (yy : Int) ≤ 4096 by omega) hsy.2 hsy.1 (by decide)) (by decide)⟩
          have m2 : (0 : Int) ≤ (xx : Int) * L.sx ∧ (xx : Int) * L.sx ≤ 61440 := ⟨Int.mul_nonneg (by omega) hsx.1, Int.le_trans (Int.mul_le_mul (show (xx : Int) ≤ 4096 by omega) hsx.2 hsx.1 (by decide)) (by decide)⟩
          have hkk : yy * OW + xx < OH * OW := by have := Nat.mul_le_mul_right OW (show yy + 1 ≤ OH by omega); rw [Nat.succ_mul] at this; omega
          have hd1 : (yy * OW + xx) / OW = yy := by rw [Nat.mul_comm, Nat.mul_add_div (by omega), Nat.div_eq_of_lt hlx]; omega
          have hd2 : (yy * OW + xx) % OW = xx := by rw [Nat.mul_comm, Nat.mul_add_mod, Nat.mod_eq_of_lt hlx]
          have HPW : Hid (∀ j, plW L H V C S OW val (yy * OW + xx) j = lkW ((yy : Int) * L.sy - L.t) ((xx : Int) * L.sx - L.l) L.bd H V C S val j) := hid1 (fun j => by unfold plW; rw [hd1, hd2])
          have CL := hid1 (look_any L R S H V C T HR.out HS.out hRb hSb hC hH hV (by rw [HN.out]; exact hn) HT.out T ((yy : Int) * L.sy - L.t) ((xx : Int) * L.sx - L.l) (by omega) (by omega) xo xc (by rw [HN.out]; exact hxc) (Nat.le_refl _) val (b + 3) f wr RF (by rw [HN.out]; exact HV.out _ _ K5.out) (fun g o e => by have := HXL.out g o e; omega))
          rw [HN.out] at CL
          clear hd1 hd2 RF
          obtain ⟨a1, ea1⟩ : ∃ z, (yy : Int) * L.sy = z := ⟨_, rfl⟩
          obtain ⟨a2, ea2⟩ : ∃ z, (xx : Int) * L.sx = z := ⟨_, rfl⟩
          rw [ea1] at m1 CL HPW
          rw [ea2] at m2 CL HPW
          have w1 : IntKind.i64.wrap ((yy : Int) * L.sy) = a1 := by rw [IntKind.wrap_i64, ea1]; omega
          have w2 : IntKind.i64.wrap ((xx : Int) * L.sx) = a2 := by rw [IntKind.wrap_i64, ea2]; omega
          have w3 : IntKind.i64.wrap (a1 - L.t) = a1 - L.t := by rw [IntKind.wrap_i64]; omega
          have w4 : IntKind.i64.wrap (a2 - L.l) = a2 - L.l := by rw [IntKind.wrap_i64]; omega
          clear ea1 ea2
          go_wp2_with fail
          refine CL.out.mono ?_
          rintro e z1 ⟨rfl, R1, g1⟩
          have J5 := hid1 (HKP.out _ _ _ K5.out lz g1)
          have hz1' := g1.size
          have J1 := hid1 (K1.out.of_block (g1.block b (by omega) (fun e => absurd (Option.some.inj e) (by omega))))
          have J2 := hid1 (World.rowIs.of_block K2.out (g1.block (b + 1) (by omega) (fun e => absurd (Option.some.inj e) (by omega))))
          have J3 := hid1 (sh_block K3.out (g1.block (b + 2) (by omega) (fun e => absurd (Option.some.inj e) (by omega))))
          have J4 := hid1 (World.rowIs.congr R1 fun j _ => by rw [← HPW.out j])
          clear R1 g1 CL c0 c1' c2' c3 c4 c5 c6 c7 c8 c9 c10 c11 c12 c13 c14 t0 t1 t2 t3
          go_wp2_with fail
          refine (HTL.out _ z1 hkk J5.out (by omega) J4.out).mono ?_
          rintro e z2 ⟨rfl, I2, F2⟩
          have hz2' := F2.size
          have E1 := hid1 (J1.out.of_block (F2.block b (by omega) (by omega)))
          have E2 := hid1 (World.rowIs.of_block J2.out (F2.block (b + 1) (by omega) (by omega)))
          have E3 := hid1 (sh_block J3.out (F2.block (b + 2) (by omega) (by omega)))
          have E4 : Hid (∃ f, z2.rowIs (b + 3) 2 T f) := hid1 ⟨_, World.rowIs.of_block J4.out (F2.block (b + 3) (by omega) (by omega))⟩
          have E5 := hid1 I2
          clear I2 F2
          go_wp2_with fail
          exact ⟨⟨xx + 1, by omega, by go_num, by omega, E1, E2, E3, E4, E5⟩, by simp [intOf]; omega⟩
        · have hxe : OW = xx := by omega
          go_wp2_with fail
          exact ⟨⟨yy + 1, by omega, by go_num, lz, K1, K2, K3, K4, hid1 (by rw [Nat.succ_mul]; rw [← hxe] at K5; exact K5.out)⟩, by simp [intOf]; omega⟩
    · have hye : yy = OH := by omega
      go_wp2_with fail
      refine bodyPost_end (v := .tuple #[]) (by simp [results, go_sem]) rfl ⟨rfl, by rw [hye] at K5; exact K5.out⟩
end Go.Proofs.YtlgjoepeibodkaaGreat.Nn
/- PLAIN: the closure of convolve. -/
namespace Go.Proofs.YtlgjoepeibodkaaGreat.Nn
open Go.RowKit

theorem row_ownP {W : World} {c t n base e s m : Nat} {f : Nat → Value} {v : Value} {xs : List Value} (h : W.rowIs c t n f) (h2 : W.ownsRow base e s v m xs) (hne : t ≠ e) : v.ownBlock ≠ some c := fun he => by
  rcases h2.2 with ⟨e', _⟩ | ⟨g, c', cu, e', _, hg, _⟩
  · subst e'; cases he
  · subst e'
    have : g = c := by simpa [Value.ownBlock] using he
    subst this
    obtain ⟨cur, hb, _⟩ := h
    rw [hb] at hg
    simp at hg
    exact hne hg.2
theorem own_is64 {W : World} {b T s n : Nat} {v : Value} {xs : List Value} (h : W.ownsRow b T s v n xs) : ∃ a c, v = .slice a n c := by
  rcases h.2 with ⟨e, hn⟩ | ⟨g, c, _, e, _⟩
  · exact ⟨none, 0, by rw [e, hn]⟩
  · exact ⟨_, _, e⟩
theorem own_setne {W : World} {base e size n c j : Nat} {v u : Value} {xs : List Value} (h : W.ownsRow base e size v n xs) (hc : v.ownBlock ≠ some c) : (W.setCell ⟨c, j, none⟩ u).ownsRow base e size v n xs :=
  h.kept (row := some c) ⟨rfl, rfl, rfl, by simp, fun k _ hne => Below.heap_setCell _ _ _ _ (fun e => hne (by rw [e]))⟩ (.inr hc)
/-- All outputs at the first k places. -/
def cvL (L : Ly) (T K : Nat) (x : Nat → Nat → Int) : Nat → List Int
  | 0 => []
  | k + 1 => cvL L T K x k ++ ouL L T (x k) K
/-- What stands behind k places: values in the cell cv, in memory that is none of slide's blocks. -/
def Cvi (w0 : World) (b0 bs cv T K : Nat) (L : Ly) (x : Nat → Nat → Int) (k : Nat) (W : World) : Prop :=
  Below w0.heap.size w0 W ∧ Lp W b0 L ∧ ∃ u, W.rowIs cv 36 1 (fun _ => u) ∧ W.ownsRow w0.heap.size 2 1 u (k * K) (i64L (cvL L T K x k)) ∧ ∀ q, u.ownBlock = some q → (q < bs ∨ bs + 4 ≤ q) ∧ q ≠ b0
theorem Cvi.kp {w0 W X : World} {b0 bs cv T K k : Nat} {L : Ly} {x : Nat → Nat → Int} (h : Cvi w0 b0 bs cv T K L x k W) (h0 : w0.heap.size ≤ bs) (hb : b0 < bs) (hc : cv < bs) (hg : W.grownBy X (some (bs + 3))) : Cvi w0 b0 bs cv T K L x k X := by
  obtain ⟨h1, h2, u, h3, h4, h5⟩ := h
  refine ⟨gr_bel hg h1 (fun k e => by cases e; omega), h2.of_block (hg.block b0 (lt_of_cell h2.1) (fun e => absurd (Option.some.inj e) (by omega))), u, World.rowIs.of_block h3 (hg.block cv h3.lt (fun e => absurd (Option.some.inj e) (by omega))), h4.kept hg ?_, h5⟩
  cases hu : u.ownBlock with
  | none => exact .inl rfl
  | some q => exact .inr (fun e => by cases e; have := (h5 _ hu).1; omega)
set_option maxHeartbeats 3200000 in
set_option maxRecDepth 100000 in
theorem conv1_any (L : Ly) (K T : Nat) (hK : L.k = K) (h1 : 1 ≤ K) (h2 : K ≤ 4096) (hw : L.mw = K * T) (hT1 : 1 ≤ T) (hm : K * T ≤ 16777216) (hcw : L.mw ≤ L.cw) (hws : ∀ j, j < L.mw → -1 ≤ L.ws j ∧ L.ws j ≤ 1) (w0 : World) (hL : Lst w0 L) (b0 bs cv : Nat) (hbb : b0 < bs) (hcb : cv < bs) (hc0 : w0.heap.size ≤ cv) (hbc : b0 ≠ cv) (x : Nat → Nat → Int) (k : Nat) (hx : ∀ j, j < T → -128 ≤ x k j ∧ x k j ≤ 128) (hbe : ∀ o, o < K → BeOk L T (x k) o) (hkK : k * K ≤ 100000000) (W : World) (hI : Cvi w0 b0 bs cv T K L x k W) (hz : bs + 4 ≤ W.heap.size) (hs : W.rowIs (bs + 3) 2 T (fun j => .int .i64 (x k j))) :
    Calls Tryz.prog 51 #[.slice (some ⟨bs + 3, 0, none⟩) T T, .pointer (some ⟨cv, 0, none⟩), .pointer (some ⟨b0, 0, none⟩)] W fun e w' => e = .returned (.tuple #[]) ∧ Cvi w0 b0 bs cv T K L x (k + 1) w' ∧ Fo bs W w' := by
  obtain ⟨i1, i2, u, i3, i4, i5⟩ := hI
  have hub : ∀ q, u.ownBlock = some q → w0.heap.size ≤ q ∧ q < W.heap.size := i4.lt
  have hucv := row_ownP i3 i4 (by decide)
  have CW := hid1 (pweigh_any L K T hK h1 h2 hw hT1 hm hcw hws (some ⟨bs + 3, 0, none⟩) T (x k) hx hbe u (k * K) w0.heap.size (cvL L T K x k) hkK W i4 i1.size (fun X hX => ⟨hL.keep (gr_bel hX i1 (fun q hq => (hub q hq).1)), fun j hj => ⟨bs + 3, 0, rfl, by
    rw [Nat.zero_add]
    exact (World.cell?_of_block (w := W) (hX.block (bs + 3) (by omega) (fun e => by have := (i5 (bs + 3) e.symm).1; omega))).trans (hs.cell hj)⟩⟩))
  have HI := hid1 (And.intro i1 (And.intro i2 (And.intro i3 (And.intro i4 i5))))
  have HUB := hid1 hub
  have HUC := hid1 hucv
  have c0 : W.cell? ⟨cv, 0, none⟩ = some u := i3.cell (i := 0) (by decide)
  obtain ⟨l0, l1, l2, l3, l4, l5, l6, l7, l8, l9, l10, l11, l12, l13, l14⟩ := i2
  obtain ⟨ua, uc, eu⟩ := own_is64 i4
  clear hK hw hws hx hbe hs i1 i3 i4 i5 hub hucv hL
  subst eu
  go_enter Tryz.func51, Tryz.ntmps51
  go_wp2_with fail
  refine CW.out.mono ?_
  rintro e y ⟨v', rfl, ov, gr, hat⟩
  obtain ⟨i1, i2, i3, i4, i5⟩ := HI.out
  have rcv : y.rowIs cv 36 1 (fun _ => .slice ua (k * K) uc) := World.rowIs.of_block i3 (gr.block cv i3.lt (fun e => HUC.out e.symm))
  have hvcv := row_ownP rcv ov (by decide)
  obtain ⟨va, vc, ev⟩ := own_is64 ov
  subst ev
  have m0 : y.cell? ⟨cv, 0, none⟩ = some (.slice ua (k * K) uc) := rcv.cell (i := 0) (by decide)
  have fz := rcv.frozen 0
  have zy := gr.size
  have lcv := rcv.lt
  have E1 : Hid (Cvi w0 b0 bs cv T K L x (k + 1) (y.setCell ⟨cv, 0, none⟩ (.slice va (k * K + K) vc))) := hid1 (by
    refine ⟨bl_set (gr_bel gr i1 (fun q hq => (HUB.out q hq).1)) hc0 _, (i2.of_block (gr.block b0 (by omega) (fun e => (i5 b0 e.symm).2 rfl))).of_block (Below.heap_setCell _ _ _ _ (by show b0 ≠ cv; exact hbc)), .slice va (k * K + K) vc, (rcv.set 0 (.slice va (k * K + K) vc)).congr fun i hi => ?_, ?_, ?_⟩
    · obtain rfl : i = 0 := by omega
      rfl
    · have := own_setne (c := cv) (j := 0) (u := .slice va (k * K + K) vc) ov hvcv
      rw [Nat.succ_mul]
      exact this
    · intro q hq
      rcases hat with h | ⟨r, h, hr⟩
      · exact i5 q (by rw [← h]; exact hq)
      · rw [h] at hq; cases hq; omega)
  have E2 : Hid (Fo bs W (y.setCell ⟨cv, 0, none⟩ (.slice va (k * K + K) vc))) := hid1 ⟨gr.os, gr.tape, gr.output, by simpa using gr.size, fun q h1 h2 => (Below.heap_setCell _ _ _ _ (by show q ≠ cv; omega)).trans (gr.block q (by omega) (fun e => by have := (i5 q e.symm).1; omega))⟩
  clear i1 i2 i3 i4 i5 gr hat ov rcv HI HUB HUC CW l0 l1 l2 l3 l4 l5 l6 l7 l8 l9 l10 l11 l12 l13 l14
  go_wp2_with fail
  refine bodyPost_end (v := .tuple #[]) (by simp [results, go_sem]) rfl ⟨rfl, E1.out, E2.out⟩
end Go.Proofs.YtlgjoepeibodkaaGreat.Nn
/- PLAIN: the work of an LConv. -/
namespace Go.Proofs.YtlgjoepeibodkaaGreat.Nn
open Go.RowKit

set_option maxHeartbeats 3200000 in
set_option maxRecDepth 100000 in
theorem convolve_any (L : Ly) (R S H V C T OH OW K : Nat) (hR : L.r = R) (hS : L.s = S) (hRb : 1 ≤ R ∧ R ≤ 15) (hSb : 1 ≤ S ∧ S ≤ 15) (hC : 1 ≤ C ∧ C ≤ 4096) (hH : H ≤ 4096) (hV : V ≤ 4096) (hn : H * V * C ≤ 16777216) (hT : R * S * C = T) (hOH : 1 ≤ OH ∧ OH ≤ 4096) (hOW : 1 ≤ OW ∧ OW ≤ 4096) (hsy : 0 ≤ L.sy ∧ L.sy ≤ 15) (hsx : 0 ≤ L.sx ∧ L.sx ≤ 15) (ht : 0 ≤ L.t ∧ L.t ≤ 15) (hl : 0 ≤ L.l ∧ L.l ≤ 15)
    (hK : L.k = K) (h1 : 1 ≤ K) (h2 : K ≤ 4096) (hw : L.mw = K * T) (hm : K * T ≤ 16777216) (hcw : L.mw ≤ L.cw) (hws : ∀ j, j < L.mw → -1 ≤ L.ws j ∧ L.ws j ≤ 1) (xo : Option Addr) (xc : Nat) (hxc : H * V * C ≤ xc) (val : Nat → Int)
    (hx : ∀ k j, k < OH * OW → j < T → -128 ≤ plW L H V C S OW val k j ∧ plW L H V C S OW val k j ≤ 128) (hbe : ∀ k o, k < OH * OW → o < K → BeOk L T (plW L H V C S OW val k) o) (hkK : OH * OW * K ≤ 16777216) (oc : Int) (w : World) (hL : Lst w L) (hv : R64 w xo (H * V * C) val) (hxl : ∀ g o, xo = some ⟨g, o, none⟩ → g < w.heap.size) :
    Calls Tryz.prog 35 #[lyv L, tnv H V C xo (H * V * C) xc, shp OH OW oc] w fun e w' => ∃ v', e = .returned v' ∧ w'.ownsRow w.heap.size 2 1 v' (OH * OW * K) (i64L (cvL L T K (plW L H V C S OW val) (OH * OW))) ∧ Below w.heap.size w w' := by
  have hT1 : 1 ≤ T := by rw [← hT]; exact Nat.mul_pos (Nat.mul_pos hRb.1 hSb.1) hC.1
  obtain ⟨n, hen⟩ := Int.eq_ofNat_of_zero_le (el_bd OH OW oc).1
  have CR := hid1 (fun W => room_any OH OW oc n hen W)
  have CS := hid1 (fun (bs cv : Nat) (W : World) (hb : Below w.heap.size w W) (hz : W.heap.size = bs) (hbb : w.heap.size < bs) (hcb : cv < bs) (hc0 : w.heap.size ≤ cv) (hbc : w.heap.size ≠ cv) (hI : ∀ X, Below W.heap.size W X → Cvi w w.heap.size bs cv T K L (plW L H V C S OW val) 0 X) =>
    pslide_any L R S H V C T OH OW oc hR hS hRb hSb hC hH hV hn hT hOH hOW hsy hsx ht hl xo xc hxc val 51 (.pointer (some ⟨cv, 0, none⟩)) (.pointer (some ⟨w.heap.size, 0, none⟩)) (fun _ _ => rfl) (Cvi w w.heap.size bs cv T K L (plW L H V C S OW val)) W (fun k Z hZ => hv.keep' hZ.1)
      (fun k Z X hZ _ hg => by rw [hz] at hg; exact hZ.kp (by omega) hbb hcb hg) (fun g o e => Nat.lt_of_lt_of_le (hxl g o e) hb.size) hI
      (fun k Z hk hZ hzz hs => by
        rw [hz] at hs hzz ⊢
        have hkk : k * K ≤ OH * OW * K := Nat.mul_le_mul_right K (by omega)
        exact conv1_any L K T hK h1 h2 hw hT1 hm hcw hws w hL w.heap.size bs cv hbb hcb hc0 hbc (plW L H V C S OW val) k (fun j hj => hx k j hk hj) (fun o ho => hbe k o hk ho) (by omega) Z hZ hzz hs))
  clear hR hS hRb hSb hC hH hV hT hOH hOW hsy hsx ht hl hK h1 h2 hw hm hcw hws hxc hx hbe hL hv hxl hen hn
  obtain ⟨N, hN⟩ : ∃ N, H * V * C = N := ⟨_, rfl⟩
  rw [hN] at CS ⊢
  clear hN
  obtain ⟨b, hb0⟩ : ∃ b, w.heap.size = b := ⟨_, rfl⟩
  go_enter Tryz.func35, Tryz.ntmps35
  go_upto_region 1 with fail
  refine gen_world (fun X => Below w.heap.size w X ∧ Lp X b L ∧ X.rowIs (b + 1) 71 4 (tnf H V C xo N xc) ∧ Sh X (b + 2) 0 OH OW oc ∧ X.heap.size = b + 3) ⟨by repeat (first | (with_reducible exact Below.refl _ _) | (with_reducible refine bl_alloc ?_ _) | (with_reducible refine Below.drew ?_) | (with_reducible refine bl_drewN ?_ _) | (with_reducible refine bl_set ?_ (by omega) _) | (with_reducible refine bl_step ?_ (by assumption))), (lp_new' hb0 L _).keep (bl_alloc (bl_alloc (Below.refl _ _) _) _), by have := (tn_new (w.alloc (lyo L)) H V C xo N xc 71).alloc (sho OH OW oc); rw [show (w.alloc (lyo L)).heap.size = b + 1 by simp [hb0]] at this; exact this, by have := sh_new ((w.alloc (lyo L)).alloc (.cells #[.int .i64 H, .int .i64 V, .int .i64 C, .slice xo N xc] 71)) OH OW oc 23; rw [show ((w.alloc (lyo L)).alloc (.cells #[.int .i64 H, .int .i64 V, .int .i64 C, .slice xo N xc] 71)).heap.size = b + 2 by simp [hb0]] at this; exact this, by simp [hb0]⟩ ?_
  rintro X ⟨BX, LX, TX, SX, zX⟩
  have s0 := SX.1
  have s1 := SX.2.1
  have s2 := SX.2.2
  have HLX := hid1 LX
  have HTX := hid1 TX
  have HSX := hid1 SX
  clear LX TX
  go_wp2_with fail
  refine (CR.out X).mono ?_
  rintro e y ⟨g, rfl, ow, hb⟩
  have hgl := (ow.lt g rfl)
  obtain ⟨cv, hcv⟩ : ∃ c, y.heap.size = c := ⟨_, rfl⟩
  have hycv : b + 3 ≤ cv := by have := hb.size; omega
  go_upto_region 2 with fail
  refine gen_world (fun Z => Below w.heap.size w Z ∧ Lp Z b L ∧ Z.rowIs (b + 1) 71 4 (tnf H V C xo N xc) ∧ Sh Z (b + 2) 0 OH OW oc ∧ Z.rowIs cv 36 1 (fun _ => .slice (some ⟨g, 0, none⟩) 0 n) ∧ Z.ownsRow w.heap.size 2 1 (.slice (some ⟨g, 0, none⟩) 0 n) 0 [] ∧ Z.heap.size = cv + 1 ∧ g < cv ∧ b + 3 ≤ g) ⟨bl_alloc (bl_step BX hb) _, HLX.out.keep (bl_step hb (bl_alloc (Below.refl _ _) _)), World.rowIs.of_block HTX.out ((bl_step hb (bl_alloc (Below.refl _ _) _)).block _ (World.rowIs.lt HTX.out)), HSX.out.keep (bl_step hb (bl_alloc (Below.refl _ _) _)), by rw [← hcv]; exact World.rowIs_alloc y #[.slice (some ⟨g, 0, none⟩) 0 n] 36 _ (fun i hi => by simp at hi; subst hi; rfl), (ow.mono BX.size).alloc _, by simp [hcv], by omega, by omega⟩ ?_
  clear BX HLX HTX HSX SX s0 s1 s2 ow hb hgl hcv hycv zX
  rintro Z ⟨BZ, LZ, TZ, SZ, RZ, OZ, zZ, hgc, hgb⟩
  rw [hb0] at CS
  have C1 := CS.out (cv + 1) cv Z (by rw [← hb0]; exact BZ) zZ (by omega) (by omega) (by omega) (by omega) (fun X' hX' => ⟨bl_step BZ hX', LZ.keep hX', .slice (some ⟨g, 0, none⟩) 0 n, World.rowIs.of_block RZ (hX'.block _ RZ.lt), by rw [Nat.zero_mul]; exact own_bl OZ hX', fun q hq => by cases hq; exact ⟨.inl (show g < cv + 1 by omega), show g ≠ b by omega⟩⟩)
  obtain ⟨l0, l1, l2, l3, l4, l5, l6, l7, l8, l9, l10, l11, l12, l13, l14⟩ := LZ
  obtain ⟨t0, t1, t2, t3⟩ := tn_cells TZ
  obtain ⟨s0, s1, s2⟩ := SZ
  clear TZ RZ OZ CS CR BZ
  go_wp2_with fail
  refine C1.mono ?_
  rintro e z ⟨rfl, i1, i2, u, i3, i4, i5⟩
  have c0 : z.cell? ⟨cv, 0, none⟩ = some u := i3.cell (i := 0) (by decide)
  have HI1 := hid1 i1
  have HI4 := hid1 i4
  obtain ⟨ua, uc, eu⟩ := own_is64 i4
  subst eu
  clear i1 i2 i3 i4 i5 C1 l0 l1 l2 l3 l4 l5 l6 l7 l8 l9 l10 l11 l12 l13 l14 t0 t1 t2 t3 s0 s1 s2
  go_wp2_with fail
  go_ret
  exact ⟨_, rfl, HI4.out, HI1.out⟩
end Go.Proofs.YtlgjoepeibodkaaGreat.Nn
/- PLAIN: the closure of pool. -/
namespace Go.Proofs.YtlgjoepeibodkaaGreat.Nn
open Go.RowKit

/-- The greatest of each channel. -/
def pvC (x : Nat → Int) (C P c : Nat) : List Int := (List.range c).map fun q => hiV x q C P
theorem pvC_succ (x : Nat → Int) (C P c : Nat) : pvC x C P (c + 1) = pvC x C P c ++ [hiV x c C P] := by unfold pvC; rw [List.range_succ, List.map_append]; rfl
def pvL (x : Nat → Nat → Int) (C P : Nat) : Nat → List Int
  | 0 => []
  | k + 1 => pvL x C P k ++ pvC (x k) C P C
def Pvi (w0 : World) (b2 bs cv : Nat) (oh ow : Int) (C P : Nat) (x : Nat → Nat → Int) (k : Nat) (W : World) : Prop :=
  Below w0.heap.size w0 W ∧ Sh W b2 0 oh ow C ∧ ∃ u, W.rowIs cv 36 1 (fun _ => u) ∧ W.ownsRow w0.heap.size 2 1 u (k * C) (i64L (pvL x C P k)) ∧ ∀ q, u.ownBlock = some q → (q < bs ∨ bs + 4 ≤ q) ∧ q ≠ b2
theorem Pvi.kp {w0 W X : World} {b2 bs cv C P k : Nat} {oh ow : Int} {x : Nat → Nat → Int} (h : Pvi w0 b2 bs cv oh ow C P x k W) (h0 : w0.heap.size ≤ bs) (hb : b2 < bs) (hc : cv < bs) (hg : W.grownBy X (some (bs + 3))) : Pvi w0 b2 bs cv oh ow C P x k X := by
  obtain ⟨h1, h2, u, h3, h4, h5⟩ := h
  refine ⟨gr_bel hg h1 (fun k e => by cases e; omega), sh_block h2 (hg.block b2 (lt_of_cell h2.1) (fun e => absurd (Option.some.inj e) (by omega))), u, World.rowIs.of_block h3 (hg.block cv h3.lt (fun e => absurd (Option.some.inj e) (by omega))), h4.kept hg ?_, h5⟩
  cases hu : u.ownBlock with
  | none => exact .inl rfl
  | some q => exact .inr (fun e => by cases e; have := (h5 _ hu).1; omega)
set_option maxHeartbeats 3200000 in
set_option maxRecDepth 100000 in
theorem pool1_any (C P T : Nat) (hC : 1 ≤ C ∧ C ≤ 4096) (hT : T = (P + 1) * C) (hTb : T ≤ 16777216) (w0 : World) (b2 bs cv : Nat) (hcb : cv < bs) (hc0 : w0.heap.size ≤ cv) (hbc : b2 ≠ cv) (oh ow : Int) (x : Nat → Nat → Int) (k : Nat) (hkK : k * C ≤ 100000000) (W : World) (hI : Pvi w0 b2 bs cv oh ow C P x k W) (hz : bs + 4 ≤ W.heap.size) (hs : W.rowIs (bs + 3) 2 T (fun j => .int .i64 (x k j))) :
    Calls Tryz.prog 53 #[.slice (some ⟨bs + 3, 0, none⟩) T T, .pointer (some ⟨b2, 0, none⟩), .pointer (some ⟨cv, 0, none⟩)] W fun e w' => e = .returned (.tuple #[]) ∧ Pvi w0 b2 bs cv oh ow C P x (k + 1) w' ∧ Fo bs W w' := by
  obtain ⟨i1, i2, u, i3, i4, i5⟩ := hI
  have HT := hid1 hT
  have HS := hid1 hs
  have K1 := hid1 i1
  have K2 := hid1 i2
  have K3 := hid1 i3
  have K4 := hid1 i4
  have K5 := hid1 i5
  have s2 := i2.2.2
  obtain ⟨ua, uc, eu⟩ := own_is64 i4
  subst eu
  clear i1 i2 i3 i4 i5 hT hs
  go_enter Tryz.func53, Tryz.ntmps53
  go_wp2_with fail
  go_loopw [7] (fun v7 wr => ∃ (c : Nat) (ua : Option Addr) (uc : Nat), c ≤ C ∧ v7 = .int .i64 c ∧ Hid (Below w0.heap.size w0 wr) ∧ Hid (Sh wr b2 0 oh ow C) ∧ Hid (wr.rowIs cv 36 1 (fun _ => .slice ua (k * C + c) uc)) ∧ Hid (wr.ownsRow w0.heap.size 2 1 (.slice ua (k * C + c) uc) (k * C + c) (i64L (pvL x C P k ++ pvC (x k) C P c))) ∧ Hid (∀ q, (Value.slice ua (k * C + c) uc).ownBlock = some q → (q < bs ∨ bs + 4 ≤ q) ∧ q ≠ b2) ∧ Hid (Fo bs W wr)) (fun v7 _ => C - (intOf v7).toNat)
  case atStart => exact ⟨0, ua, uc, Nat.zero_le _, rfl, K1, K2, K3, hid1 (by rw [Nat.add_zero, show pvC (x k) C P 0 = [] from rfl, List.append_nil]; exact K4.out), K5, hid1 ⟨rfl, rfl, rfl, Nat.le_refl _, fun _ _ _ => rfl⟩⟩
  case round =>
    clear K1 K2 K3 K4 K5 s2
    obtain ⟨c, ua, uc, hc, rfl, K1, K2, K3, K4, K5, K6⟩ := hrel
    have ic0 : (0 : Int) ≤ (c : Int) := by omega
    by_cases hlt : c < C
    · as_aux_lemma =>
      have ic : (c : Int) < (C : Int) := by omega
      have s2 := K2.out.2.2
      have c0 : wr.cell? ⟨cv, 0, none⟩ = some (.slice ua (k * C + c) uc) := K3.out.cell (i := 0) (by decide)
      have zF := K6.out.size
      have hR : R64 wr (some ⟨bs + 3, 0, none⟩) T (x k) := fun j hj => ⟨bs + 3, 0, rfl, by
        rw [Nat.zero_add]
        exact (World.cell?_of_block (w := W) (K6.out.block (bs + 3) (by omega) (by omega))).trans (HS.out.cell hj)⟩
      have CH := hid1 (highest_any (some ⟨bs + 3, 0, none⟩) T T c C P (x k) wr.drew hTb (by omega) hlt HT.out hR)
      have HSU := hid1 (pvC_succ (x k) C P c)
      obtain ⟨hv, ehv⟩ : ∃ z, hiV (x k) c C P = z := ⟨_, rfl⟩
      rw [ehv] at CH HSU
      have hcvn := row_ownP K3.out K4.out (by decide)
      have HCV := hid1 hcvn
      have lcv := K3.out.lt
      have lb2 := lt_of_cell K2.out.1
      have HUB := hid1 (K4.out.lt)
      have zB := K1.out.size
      obtain ⟨n, en⟩ : ∃ n, k * C + c = n := ⟨_, rfl⟩
      have hnb : n ≤ 1000000000 := by omega
      rw [en] at c0 K3 K4 K5 HCV HUB
      clear ehv hR hcvn
      go_upto_region 3 with fail
      go_region_law (first
        | (refine step_appP rfl (.tmp 10) (.tmp 16) rfl w0.heap.size (.slice ua n uc) (pvL x C P k ++ pvC (x k) C P c) n (by go_simp) (own_bl K4.out (by repeat (first | (with_reducible exact Below.refl _ _) | (with_reducible refine Below.drew ?_) | (with_reducible refine bl_alloc ?_ _)))) wr.heap.size hv 1 (by go_simp) (by simp [go_sem]) hnb (by simp; omega) ?_; intro v3 y3 own3 gr3 at3; obtain ⟨a3, c3, rfl⟩ := own_is64 own3; have rcv := World.rowIs.of_block K3.out ((gr3.block cv (by simp; omega) (fun e => HCV.out e.symm)).trans ((show Below wr.heap.size wr _ from (by repeat (first | (with_reducible exact Below.refl _ _) | (with_reducible refine Below.drew ?_) | (with_reducible refine bl_alloc ?_ _)))).block cv lcv)); have m0 : y3.cell? ⟨cv, 0, none⟩ = some (.slice ua n uc) := rcv.cell (i := 0) (by decide); have fz := rcv.frozen 0; have RCV := hid1 rcv; have O3 := hid1 own3; have BW := hid1 (gr_bel gr3 (show Below w0.heap.size w0 _ from bl_step K1.out (by repeat (first | (with_reducible exact Below.refl _ _) | (with_reducible refine Below.drew ?_) | (with_reducible refine bl_alloc ?_ _)))) (fun q hq => (HUB.out q hq).1)); have GB := hid1 (show ∀ q, q < wr.heap.size → (Value.slice ua n uc).ownBlock ≠ some q → y3.heap[q]? = wr.heap[q]? from fun q hq hne => (gr3.block q (by simp; omega) (fun e => hne e.symm)).trans ((show Below wr.heap.size wr _ from (by repeat (first | (with_reducible exact Below.refl _ _) | (with_reducible refine Below.drew ?_) | (with_reducible refine bl_alloc ?_ _)))).block q hq)); have TO := hid1 (show y3.os = wr.os ∧ y3.tape = wr.tape ∧ y3.output = wr.output from ⟨gr3.os, gr3.tape, gr3.output⟩); have z3 := gr3.size; have A3 := hid1 at3; clear own3 gr3 at3 rcv)
        | (go_simp; go_at_call 54; refine CH.out.mono ?_; rintro e y0 ⟨rfl, rfl⟩))
      all_goals
        have z3' : wr.heap.size ≤ y3.heap.size := by simp at z3; omega
        have hvcv := row_ownP RCV.out O3.out (by decide)
        have e1 : k * C + (c + 1) = n + 1 := by omega
        have E1 : Hid (Below w0.heap.size w0 (y3.setCell ⟨cv, 0, none⟩ (.slice a3 (n + 1) c3))) := hid1 (bl_set BW.out hc0 _)
        have E2 : Hid (Sh (y3.setCell ⟨cv, 0, none⟩ (.slice a3 (n + 1) c3)) b2 0 oh ow C) := hid1 (sh_block K2.out ((Below.heap_setCell _ _ _ _ (by show b2 ≠ cv; exact hbc)).trans (GB.out b2 lb2 (fun e => (K5.out b2 e).2 rfl))))
        have E3 : Hid ((y3.setCell ⟨cv, 0, none⟩ (.slice a3 (n + 1) c3)).rowIs cv 36 1 (fun _ => .slice a3 (k * C + (c + 1)) c3)) := hid1 ((RCV.out.set 0 (.slice a3 (n + 1) c3)).congr fun i hi => by (have h0 : i = 0 := by omega); subst h0; rw [e1]; rfl)
        have E4 : Hid ((y3.setCell ⟨cv, 0, none⟩ (.slice a3 (n + 1) c3)).ownsRow w0.heap.size 2 1 (.slice a3 (k * C + (c + 1)) c3) (k * C + (c + 1)) (i64L (pvL x C P k ++ pvC (x k) C P (c + 1)))) := hid1 (by rw [e1, HSU.out, ← List.append_assoc]; exact own_setne O3.out hvcv)
        have E5 : Hid (∀ q, (Value.slice a3 (k * C + (c + 1)) c3).ownBlock = some q → (q < bs ∨ bs + 4 ≤ q) ∧ q ≠ b2) := hid1 (by
          rw [e1]
          intro q hq
          rcases A3.out with h | h
          · exact K5.out q (by rw [← h]; exact hq)
          · rw [h] at hq
            have hq' := Option.some.inj hq
            simp at hq'
            omega)
        have E6 : Hid (Fo bs W (y3.setCell ⟨cv, 0, none⟩ (.slice a3 (n + 1) c3))) := hid1 ⟨TO.out.1.trans K6.out.os, TO.out.2.1.trans K6.out.tape, TO.out.2.2.trans K6.out.output, by simp; omega, fun q h1 h2 => (Below.heap_setCell _ _ _ _ (by show q ≠ cv; omega)).trans ((GB.out q (by omega) (fun e => by have := (K5.out q e).1; omega)).trans (K6.out.block q h1 h2))⟩
        go_wp2
        exact ⟨⟨c + 1, a3, c3, by omega, by go_num, E1, E2, E3, E4, E5, E6⟩, by simp [intOf]; omega⟩
    · have hcC : c = C := by omega
      subst hcC
      have e1 : (k + 1) * c = k * c + c := Nat.succ_mul _ _
      go_wp2_with fail
      refine bodyPost_end (v := .tuple #[]) (by simp [results, go_sem]) rfl ⟨rfl, ⟨K1.out, K2.out, _, K3.out, by rw [e1]; exact K4.out, K5.out⟩, K6.out⟩
end Go.Proofs.YtlgjoepeibodkaaGreat.Nn
/- PLAIN: the work of an LPool. -/
namespace Go.Proofs.YtlgjoepeibodkaaGreat.Nn
open Go.RowKit

set_option maxHeartbeats 3200000 in
set_option maxRecDepth 100000 in
theorem ppool_any (L : Ly) (R S H V C T OH OW : Nat) (hR : L.r = R) (hS : L.s = S) (hRb : 1 ≤ R ∧ R ≤ 15) (hSb : 1 ≤ S ∧ S ≤ 15) (hC : 1 ≤ C ∧ C ≤ 4096) (hH : H ≤ 4096) (hV : V ≤ 4096) (hn : H * V * C ≤ 16777216) (hT : R * S * C = T) (hOH : 1 ≤ OH ∧ OH ≤ 4096) (hOW : 1 ≤ OW ∧ OW ≤ 4096) (hsy : 0 ≤ L.sy ∧ L.sy ≤ 15) (hsx : 0 ≤ L.sx ∧ L.sx ≤ 15) (ht : 0 ≤ L.t ∧ L.t ≤ 15) (hl : 0 ≤ L.l ∧ L.l ≤ 15)
    (xo : Option Addr) (xc : Nat) (hxc : H * V * C ≤ xc) (val : Nat → Int) (hkK : OH * OW * C ≤ 16777216) (w : World) (hv : R64 w xo (H * V * C) val) (hxl : ∀ g o, xo = some ⟨g, o, none⟩ → g < w.heap.size) :
    Calls Tryz.prog 37 #[lyv L, tnv H V C xo (H * V * C) xc, shp OH OW C] w fun e w' => ∃ v', e = .returned v' ∧ w'.ownsRow w.heap.size 2 1 v' (OH * OW * C) (i64L (pvL (plW L H V C S OW val) C (R * S - 1) (OH * OW))) ∧ Below w.heap.size w w' := by
  have hRS : 1 ≤ R * S := Nat.mul_pos hRb.1 hSb.1
  have hTP : T = (R * S - 1 + 1) * C := by rw [← hT, Nat.sub_add_cancel hRS]
  have hTb : T ≤ 16777216 := by
    rw [← hT]
    exact Nat.le_trans (Nat.mul_le_mul (Nat.mul_le_mul hRb.2 hSb.2) hC.2) (by decide)
  obtain ⟨n, hen⟩ := Int.eq_ofNat_of_zero_le (el_bd OH OW C).1
  have CR := hid1 (fun W => room_any OH OW C n hen W)
  have CS := hid1 (fun (bs cv : Nat) (W : World) (hb : Below w.heap.size w W) (hz : W.heap.size = bs) (hbb : w.heap.size + 2 < bs) (hcb : cv < bs) (hc0 : w.heap.size ≤ cv) (hbc : w.heap.size + 2 ≠ cv) (hI : ∀ X, Below W.heap.size W X → Pvi w (w.heap.size + 2) bs cv OH OW C (R * S - 1) (plW L H V C S OW val) 0 X) =>
    pslide_any L R S H V C T OH OW C hR hS hRb hSb hC hH hV hn hT hOH hOW hsy hsx ht hl xo xc hxc val 53 (.pointer (some ⟨w.heap.size + 2, 0, none⟩)) (.pointer (some ⟨cv, 0, none⟩)) (fun _ _ => rfl) (Pvi w (w.heap.size + 2) bs cv OH OW C (R * S - 1) (plW L H V C S OW val)) W (fun k Z hZ => hv.keep' hZ.1)
      (fun k Z X hZ _ hg => by rw [hz] at hg; exact hZ.kp (by omega) hbb hcb hg) (fun g o e => Nat.lt_of_lt_of_le (hxl g o e) hb.size) hI
      (fun k Z hk hZ hzz hs => by
        rw [hz] at hs hzz ⊢
        have hkk : k * C ≤ OH * OW * C := Nat.mul_le_mul_right C (by omega)
        exact pool1_any C (R * S - 1) T hC hTP hTb w (w.heap.size + 2) bs cv hcb hc0 hbc OH OW (plW L H V C S OW val) k (by omega) Z hZ hzz hs))
  clear hR hS hRb hSb hC hH hV hT hOH hOW hsy hsx ht hl hxc hv hxl hen hn hRS hTP hTb hkK
  obtain ⟨N, hN⟩ : ∃ N, H * V * C = N := ⟨_, rfl⟩
  rw [hN] at CS ⊢
  clear hN
  obtain ⟨b, hb0⟩ : ∃ b, w.heap.size = b := ⟨_, rfl⟩
  go_enter Tryz.func37, Tryz.ntmps37
  go_upto_region 1 with fail
  refine gen_world (fun X => Below w.heap.size w X ∧ Lp X b L ∧ X.rowIs (b + 1) 71 4 (tnf H V C xo N xc) ∧ Sh X (b + 2) 0 OH OW C ∧ X.heap.size = b + 3) ⟨by repeat (first | (with_reducible exact Below.refl _ _) | (with_reducible refine bl_alloc ?_ _) | (with_reducible refine Below.drew ?_) | (with_reducible refine bl_drewN ?_ _) | (with_reducible refine bl_set ?_ (by omega) _) | (with_reducible refine bl_step ?_ (by assumption))), (lp_new' hb0 L _).keep (bl_alloc (bl_alloc (Below.refl _ _) _) _), by have := (tn_new (w.alloc (lyo L)) H V C xo N xc 71).alloc (sho OH OW C); rw [show (w.alloc (lyo L)).heap.size = b + 1 by simp [hb0]] at this; exact this, by have := sh_new ((w.alloc (lyo L)).alloc (.cells #[.int .i64 H, .int .i64 V, .int .i64 C, .slice xo N xc] 71)) OH OW C 23; rw [show ((w.alloc (lyo L)).alloc (.cells #[.int .i64 H, .int .i64 V, .int .i64 C, .slice xo N xc] 71)).heap.size = b + 2 by simp [hb0]] at this; exact this, by simp [hb0]⟩ ?_
  rintro X ⟨BX, LX, TX, SX, zX⟩
  have s0 := SX.1
  have s1 := SX.2.1
  have s2 := SX.2.2
  have HLX := hid1 LX
  have HTX := hid1 TX
  have HSX := hid1 SX
  clear LX TX
  go_wp2_with fail
  refine (CR.out X).mono ?_
  rintro e y ⟨g, rfl, ow, hb⟩
  have hgl := (ow.lt g rfl)
  obtain ⟨cv, hcv⟩ : ∃ c, y.heap.size = c := ⟨_, rfl⟩
  have hycv : b + 3 ≤ cv := by have := hb.size; omega
  go_upto_region 2 with fail
  refine gen_world (fun Z => Below w.heap.size w Z ∧ Lp Z b L ∧ Z.rowIs (b + 1) 71 4 (tnf H V C xo N xc) ∧ Sh Z (b + 2) 0 OH OW C ∧ Z.rowIs cv 36 1 (fun _ => .slice (some ⟨g, 0, none⟩) 0 n) ∧ Z.ownsRow w.heap.size 2 1 (.slice (some ⟨g, 0, none⟩) 0 n) 0 [] ∧ Z.heap.size = cv + 1 ∧ g < cv ∧ b + 3 ≤ g) ⟨bl_alloc (bl_step BX hb) _, HLX.out.keep (bl_step hb (bl_alloc (Below.refl _ _) _)), World.rowIs.of_block HTX.out ((bl_step hb (bl_alloc (Below.refl _ _) _)).block _ (World.rowIs.lt HTX.out)), HSX.out.keep (bl_step hb (bl_alloc (Below.refl _ _) _)), by rw [← hcv]; exact World.rowIs_alloc y #[.slice (some ⟨g, 0, none⟩) 0 n] 36 _ (fun i hi => by simp at hi; subst hi; rfl), (ow.mono BX.size).alloc _, by simp [hcv], by omega, by omega⟩ ?_
  clear BX HLX HTX HSX SX s0 s1 s2 ow hb hgl hcv zX
  rintro Z ⟨BZ, LZ, TZ, SZ, RZ, OZ, zZ, hgc, hgb⟩
  rw [hb0] at CS
  have C1 := CS.out (cv + 1) cv Z (by rw [← hb0]; exact BZ) zZ (by omega) (by omega) (by omega) (by omega) (fun X' hX' => ⟨bl_step BZ hX', SZ.keep hX', .slice (some ⟨g, 0, none⟩) 0 n, World.rowIs.of_block RZ (hX'.block _ RZ.lt), by rw [Nat.zero_mul]; exact own_bl OZ hX', fun q hq => by cases hq; exact ⟨.inl (show g < cv + 1 by omega), show g ≠ b + 2 by omega⟩⟩)
  obtain ⟨l0, l1, l2, l3, l4, l5, l6, l7, l8, l9, l10, l11, l12, l13, l14⟩ := LZ
  obtain ⟨t0, t1, t2, t3⟩ := tn_cells TZ
  obtain ⟨s0, s1, s2⟩ := SZ
  clear TZ RZ OZ CS CR BZ
  go_wp2_with fail
  refine C1.mono ?_
  rintro e z ⟨rfl, i1, i2, u, i3, i4, i5⟩
  have c0 : z.cell? ⟨cv, 0, none⟩ = some u := i3.cell (i := 0) (by decide)
  have HI1 := hid1 i1
  have HI4 := hid1 i4
  obtain ⟨ua, uc, eu⟩ := own_is64 i4
  subst eu
  clear i1 i2 i3 i4 i5 C1 l0 l1 l2 l3 l4 l5 l6 l7 l8 l9 l10 l11 l12 l13 l14 t0 t1 t2 t3 s0 s1 s2
  go_wp2_with fail
  go_ret
  exact ⟨_, rfl, HI4.out, HI1.out⟩
end Go.Proofs.YtlgjoepeibodkaaGreat.Nn
/- PLAIN: what the works make, as lists; bounds. -/
namespace Go.Proofs.YtlgjoepeibodkaaGreat.Nn
open Go.RowKit

theorem range_getD (l : List Int) : ∀ n, l.length = n → (List.range n).map (fun j => l.getD j 0) = l := by
  rintro n rfl
  refine List.ext_getElem (by simp) fun i h1 h2 => ?_
  simp [List.getD, h2]
theorem ouL_len (L : Ly) (T K : Nat) (x : Nat → Int) : (ouL L T x K).length = K := by simp [ouL]
theorem cvL_len (L : Ly) (T K : Nat) (x : Nat → Nat → Int) : ∀ k, (cvL L T K x k).length = k * K
  | 0 => by simp [cvL]
  | k + 1 => by rw [cvL, List.length_append, cvL_len L T K x k, ouL_len, Nat.succ_mul]
theorem pvC_len (x : Nat → Int) (C P c : Nat) : (pvC x C P c).length = c := by simp [pvC]
theorem pvL_len (x : Nat → Nat → Int) (C P : Nat) : ∀ k, (pvL x C P k).length = k * C
  | 0 => by simp [pvL]
  | k + 1 => by rw [pvL, List.length_append, pvL_len x C P k, pvC_len, Nat.succ_mul]
/-- What a window sees keeps the bounds of what comes in and of the border. -/
theorem lkW_bd {y x bd : Int} {H V C S : Nat} {val : Nat → Int} {lo hi : Int} (hC : 1 ≤ C) (hv : ∀ j, j < H * V * C → lo ≤ val j ∧ val j ≤ hi) (hb : lo ≤ bd ∧ bd ≤ hi) (j : Nat) : lo ≤ lkW y x bd H V C S val j ∧ lkW y x bd H V C S val j ≤ hi := by
  unfold lkW
  by_cases h : Inw y x H V (j / C / S) (j / C % S)
  · rw [if_pos h]
    have hm : j % C < C := Nat.mod_lt _ (by omega)
    generalize j / C / S = r at *
    generalize j / C % S = s at *
    unfold Inw at h
    have ha : (y + r).toNat < H := by omega
    have hq : (x + s).toNat < V := by omega
    refine hv _ ?_
    generalize (y + r).toNat = a at *
    generalize (x + s).toNat = q at *
    have hA : a * V + q < H * V := by have := Nat.mul_le_mul_right V (show a + 1 ≤ H by omega); rw [Nat.succ_mul] at this; omega
    have hF : (a * V + q) * C + C ≤ H * V * C := by have := Nat.mul_le_mul_right C (show a * V + q + 1 ≤ H * V by omega); rw [Nat.succ_mul] at this; exact this
    omega
  · rw [if_neg h]; exact hb
theorem plW_bd {L : Ly} {H V C S OW : Nat} {val : Nat → Int} {lo hi : Int} (hC : 1 ≤ C) (hv : ∀ j, j < H * V * C → lo ≤ val j ∧ val j ≤ hi) (hb : lo ≤ L.bd ∧ L.bd ≤ hi) (k j : Nat) : lo ≤ plW L H V C S OW val k j ∧ plW L H V C S OW val k j ≤ hi := lkW_bd hC hv hb j
theorem hiV_bd {x : Nat → Int} {lo hi : Int} {c s : Nat} : ∀ p, (∀ j, j < (p + 1) * s → lo ≤ x j ∧ x j ≤ hi) → c < s → lo ≤ hiV x c s p ∧ hiV x c s p ≤ hi
  | 0, h, hc => by
    have := h c (by omega)
    simpa [hiV] using this
  | p + 1, h, hc => by
    have ih := hiV_bd p (fun j hj => h j (by rw [Nat.succ_mul]; omega)) hc
    have h2 := h (c + (p + 1) * s) (by rw [Nat.succ_mul (p + 1)]; omega)
    simp only [hiV]
    omega
end Go.Proofs.YtlgjoepeibodkaaGreat.Nn
/- PLAIN: the work of an LDense of any network that may be. -/
namespace Go.Proofs.YtlgjoepeibodkaaGreat.Nn
open Go.RowKit

/-- The weights of a layer without a fault; how it ends. -/
theorem lay_ws {L : Ly} {S : Sp} (h : faE L S = 0) (h3 : ¬ L.kd = 3) : (∀ j, j < L.mw → -1 ≤ L.ws j ∧ L.ws j ≤ 1) ∧ (((L.mb : Int) = L.k ∧ L.mn = 0) ∨ (L.mb = 0 ∧ (L.mn : Int) = L.k)) := by
  unfold faE at h
  by_cases h1 : L.kd = 1
  · rw [if_pos h1] at h
    have h := frF_z h
    have e7 : wsE L S = 0 := h 7 (by decide)
    have e8 : nmE L = 0 := h 8 (by decide)
    have e7 := zero_else (by decide) e7
    have e8 := (zero_else (by decide) e8).1
    exact ⟨fun j hj => (e7.2 j hj).1, .inr ⟨e8.2, e8.1⟩⟩
  · rw [if_neg h1] at h
    by_cases h2 : L.kd = 2
    · rw [if_pos h2] at h
      have h := frF_z h
      have e4 : wsE L S = 0 := h 4 (by decide)
      have e5 : enE L S = 0 := h 5 (by decide)
      have e4 := zero_else (by decide) e4
      refine ⟨fun j hj => (e4.2 j hj).1, ?_⟩
      unfold enE at e5
      by_cases hl : S.la = true
      · rw [if_pos hl] at e5
        exact .inl (zero_else (by decide) e5)
      · rw [if_neg hl] at e5
        have e5 := (zero_else (by decide) e5).1
        exact .inr ⟨e5.2, e5.1⟩
    · rw [if_neg h2, if_neg h3] at h; cases h
/-- What become wants, of every output of a layer without a fault. -/
theorem be_ok {L : Ly} {S : Sp} (hs : SpOk S) (h : faE L S = 0) (h3 : ¬ L.kd = 3) {F : Nat} (hF : fan L S.h S.v S.c = F) {x : Nat → Int} (hx : ∀ j, j < F → -128 ≤ x j ∧ x j ≤ 128) {k : Nat} (hk : (k : Int) < L.k) : BeOk L F x k := by
  obtain ⟨-, -, K, F', eK, eF, k1, k2, hw, f1, hm, hmb, hbs⟩ := lay_w hs h h3
  obtain rfl : F' = F := by omega
  obtain ⟨hws, hend⟩ := lay_ws h h3
  have hkK : k < K := by omega
  have hkm2 : k * F' + F' ≤ K * F' := by have := Nat.mul_le_mul_right F' (show k + 1 ≤ K by omega); rw [Nat.succ_mul] at this; exact this
  have sb := sm_bd (f := fun j => L.ws (k * F' + j)) (g := x) (m := F') (fun j hj => hws _ (by omega)) hx F' (Nat.le_refl _)
  have hF2 : F' ≤ 16777216 := Nat.le_trans (Nat.le_mul_of_pos_left F' (by omega)) hm
  rcases hend with ⟨e1, e2⟩ | ⟨e1, e2⟩
  · exact .inl ⟨by omega, by omega, by omega, by have := hbs k (by omega); omega⟩
  · exact .inr ⟨e1, by omega⟩
theorem wrk_dense (N : Nt) (sz : Nat → Nat) (val : Nat → Nat → Int) {i : Nat} (hs : SpOk (sp N i)) (h0 : fl N i = 0) (hc : (N.lf i).mw ≤ (N.lf i).cw) (hk : (N.lf i).kd = 2) (hsz0 : sz i = fanN N i) (hsz1 : sz (i + 1) = cN N (i + 1)) (hval : ∀ j, j < sz (i + 1) → val (i + 1) j = ouV (N.lf i) (fanN N i) (val i) j) (hb : ∀ j, j < sz i → -128 ≤ val i j ∧ val i j ≤ 128) : Wrk N sz val i := by
  have h3 : ¬ (N.lf i).kd = 3 := by omega
  obtain ⟨-, e1, K, F, eK, eF, k1, k2, hw, f1, hm, hmb, hbs⟩ := lay_w hs h0 h3
  have hc' : (sp N (i + 1)).c = oC (N.lf i) (sp N i).h (sp N i).v (sp N i).c := rfl
  have e2 : cN N (i + 1) = K := by unfold cN; rw [hc', e1, eK]; rfl
  have e3 : fanN N i = F := by unfold fanN; rw [eF]; rfl
  rw [e2] at hsz1
  rw [e3] at hsz0 hval
  refine ⟨.inr (.inl hk), by omega, fun W xo xc _ hL hR => ?_⟩
  rw [hsz0] at hR hb ⊢
  rw [hsz1] at hval ⊢
  have hp : plF (N.lf i).kd = 36 := by unfold plF; rw [if_neg (by omega), if_pos hk]
  rw [hp]
  refine (connect_any (N.lf i) K F eK k1 k2 hw f1 hm hc (lay_ws h0 h3).1 xo xc (val i) hb (fun k hkk => be_ok hs h0 h3 eF hb (by omega)) _ _ _ _ _ _ W hL hR).mono ?_
  rintro e w' ⟨v', rfl, o', hb'⟩
  refine ⟨v', rfl, ?_, hb'⟩
  have el : ouL (N.lf i) F (val i) K = (List.range K).map (val (i + 1)) := by
    unfold ouL
    exact List.map_congr_left fun j hj => (hval j (by simpa using hj)).symm
  rw [← el]
  exact o'
end Go.Proofs.YtlgjoepeibodkaaGreat.Nn
/- PLAIN: what every network that may be makes of an input, layer by layer; each layer's work. -/
namespace Go.Proofs.YtlgjoepeibodkaaGreat.Nn
open Go.RowKit

/-- How many elements there are ahead of a layer. -/
def szN (N : Nt) (i : Nat) : Nat := (sp N i).h.toNat * (sp N i).v.toNat * cN N i
/-- What a layer makes of what comes in. -/
def opN (L : Ly) (H V C F OW : Nat) (x : Nat → Int) (j : Nat) : Int :=
  if L.kd = 2 then ouV L F x j else if L.kd = 1 then ouV L F (plW L H V C L.s.toNat OW x (j / L.k.toNat)) (j % L.k.toNat) else hiV (plW L H V C L.s.toNat OW x (j / C)) (j % C) C (L.r.toNat * L.s.toNat - 1)
/-- The elements ahead of a layer. -/
def valN (N : Nt) (x : Nat → Int) : Nat → Nat → Int
  | 0 => x
  | i + 1 => opN (N.lf i) (sp N i).h.toNat (sp N i).v.toNat (cN N i) (fanN N i) (sp N (i + 1)).v.toNat (valN N x i)
theorem flat_range (K : Nat) (hK : 1 ≤ K) (g : Nat → Nat → Int) (k : Nat) : (List.range (k * K)).map (fun j => g (j / K) (j % K)) ++ (List.range K).map (g k) = (List.range ((k + 1) * K)).map (fun j => g (j / K) (j % K)) := by
  rw [Nat.succ_mul, List.range_add, List.map_append, List.map_map]
  congr 1
  refine List.map_congr_left fun o ho => ?_
  have ho : o < K := by simpa using ho
  show g k o = g ((k * K + o) / K) ((k * K + o) % K)
  rw [Nat.mul_comm k K, Nat.mul_add_div (by omega), Nat.mul_add_mod, Nat.div_eq_of_lt ho, Nat.mod_eq_of_lt ho]
  rfl
theorem cvL_map (L : Ly) (T K : Nat) (hK : 1 ≤ K) (x : Nat → Nat → Int) : ∀ k, cvL L T K x k = (List.range (k * K)).map fun j => ouV L T (x (j / K)) (j % K)
  | 0 => by simp [cvL]
  | k + 1 => by
    rw [cvL, cvL_map L T K hK x k]
    exact flat_range K hK (fun a o => ouV L T (x a) o) k
theorem pvL_map (x : Nat → Nat → Int) (C P : Nat) (hC : 1 ≤ C) : ∀ k, pvL x C P k = (List.range (k * C)).map fun j => hiV (x (j / C)) (j % C) C P
  | 0 => by simp [pvL]
  | k + 1 => by
    rw [pvL, pvL_map x C P hC k]
    exact flat_range C hC (fun a o => hiV (x a) o C P) k
theorem chk_prod {h v c : Int} (e : chk h v c = 0) : Sides h v c ∧ h * v * c ≤ 16777216 := by
  unfold chk at e
  by_cases hs : Sides h v c
  · rw [if_pos hs] at e
    by_cases h2 : h * v * c > 16777216
    · rw [if_pos h2] at e; cases e
    · exact ⟨hs, by omega⟩
  · rw [if_neg hs] at e; cases e
theorem sl_chk {h v c r s sy sx t l b q k : Int} (e : slE h v c r s sy sx t l b q k = 0) : chk h v c = 0 ∧ WOk r s sy sx t l b q ∧ chk (stN h t b r sy) (stN v l q s sx) k = 0 := by
  unfold slE at e
  by_cases h1 : chk h v c ≠ 0
  · rw [if_pos h1] at e; exact absurd e h1
  · rw [if_neg h1] at e
    by_cases h2 : k < 1 ∨ k > 4096
    · rw [if_pos h2] at e; cases e
    · rw [if_neg h2] at e
      by_cases h3 : ¬ WOk r s sy sx t l b q
      · rw [if_pos h3] at e; cases e
      · rw [if_neg h3] at e
        by_cases h4 : mn2 (stN h t b r sy) (stN v l q s sx) = 0
        · rw [if_pos h4] at e; cases e
        · rw [if_neg h4] at e
          exact ⟨Classical.not_not.1 h1, Classical.not_not.1 h3, e⟩
/-- The window of a layer that has one, without a fault. -/
theorem win_ok {L : Ly} {S : Sp} (h : faE L S = 0) (h2 : ¬ L.kd = 2) : oE L S.h S.v S.c = 0 ∧ slE S.h S.v S.c L.r L.s L.sy L.sx L.t L.l L.b L.q (if L.kd = 3 then S.c else L.k) = 0 ∧ (L.bd = 0 ∨ L.bd = 1 ∨ L.bd = -1) ∧ S.la = false ∧ (L.kd = 1 ∨ L.kd = 3) ∧ (L.kd = 3 → S.fs = false) := by
  have A : oE L S.h S.v S.c = 0 ∧ (L.bd = 0 ∨ L.bd = 1 ∨ L.bd = -1) ∧ S.la = false ∧ (L.kd = 1 ∨ L.kd = 3) ∧ (L.kd = 3 → S.fs = false) := by
    unfold faE at h
    by_cases h1 : L.kd = 1
    · rw [if_pos h1] at h
      have h := frF_z h
      have e0 : (if S.la = true then (51 : Int) else 0) = 0 := h 0 (by decide)
      have e3 : boE L = 0 := h 3 (by decide)
      have e3 := zero_else (by decide) e3
      refine ⟨h 4 (by decide), by omega, ?_, .inl h1, fun h3 => by omega⟩
      cases hl : S.la
      · rfl
      · rw [hl] at e0; simp at e0
    · rw [if_neg h1, if_neg h2] at h
      by_cases h3 : L.kd = 3
      · rw [if_pos h3] at h
        have h := frF_z h
        have e0 : (if S.fs = true then (51 : Int) else 0) = 0 := h 0 (by decide)
        have e1 : (if S.la = true then (51 : Int) else 0) = 0 := h 1 (by decide)
        have e2 : owE L = 0 := h 2 (by decide)
        have e2 := zero_else (by decide) e2
        refine ⟨h 5 (by decide), .inl e2.1.2.2, ?_, .inr h3, fun _ => ?_⟩
        · cases hl : S.la
          · rfl
          · rw [hl] at e1; simp at e1
        · cases hl : S.fs
          · rfl
          · rw [hl] at e0; simp at e0
      · rw [if_neg h3] at h; cases h
  refine ⟨A.1, ?_, A.2⟩
  have := A.1
  unfold oE at this
  rwa [if_neg h2] at this
theorem nat_le3 {a b c : Nat} (h : (a : Int) * b * c ≤ 16777216) : a * b * c ≤ 16777216 := by
  have h2 : ((a * b * c : Nat) : Int) ≤ 16777216 := by rw [Int.natCast_mul, Int.natCast_mul]; exact h
  omega
theorem r64_lt {W : World} {xo : Option Addr} {n : Nat} {f : Nat → Int} (h : R64 W xo n f) (hn : 1 ≤ n) : ∀ g o, xo = some ⟨g, o, none⟩ → g < W.heap.size := by
  intro g o e
  obtain ⟨g', o', e', hc⟩ := h 0 (by omega)
  rw [e'] at e
  cases e
  exact lt_of_cell hc
theorem wrk_conv (N : Nt) (x : Nat → Int) {i : Nat} (hs : SpOk (sp N i)) (h0 : fl N i = 0) (hc : (N.lf i).mw ≤ (N.lf i).cw) (hk : (N.lf i).kd = 1) (hb : ∀ j, j < szN N i → -128 ≤ valN N x i j ∧ valN N x i j ≤ 128) : Wrk N (szN N) (valN N x) i := by
  have h3 : ¬ (N.lf i).kd = 3 := by omega
  have h2 : ¬ (N.lf i).kd = 2 := by omega
  obtain ⟨-, e1, K, F, eK, eF, k1, k2, hw, f1, hm, hmb, hbs⟩ := lay_w hs h0 h3
  obtain ⟨qo, q1, q2, -⟩ := win_ok h0 h2
  rw [if_neg h3] at q1
  obtain ⟨c1, cw, c2⟩ := sl_chk q1
  have eh : (sp N (i + 1)).h = stN (sp N i).h (N.lf i).t (N.lf i).b (N.lf i).r (N.lf i).sy := by show oH _ _ _ _ = _; unfold oH; rw [if_neg h2, if_pos qo]
  have ev : (sp N (i + 1)).v = stN (sp N i).v (N.lf i).l (N.lf i).q (N.lf i).s (N.lf i).sx := by show oV _ _ _ _ = _; unfold oV; rw [if_neg h2, if_pos qo]
  have ec : (sp N (i + 1)).c = (K : Int) := by show oC _ _ _ _ = _; rw [e1, eK]
  rw [← eh, ← ev, eK] at c2
  obtain ⟨s1, p1⟩ := chk_prod c1
  obtain ⟨s2, p2⟩ := chk_prod c2
  obtain ⟨⟨w1, w2, w3, w4⟩, ⟨w5, w6, w7, w8⟩⟩ := cw
  obtain ⟨⟨a1, a2⟩, ⟨a3, a4⟩, ⟨a5, a6⟩⟩ := s1
  obtain ⟨⟨a7, a8⟩, ⟨a9, a10⟩, -⟩ := s2
  obtain ⟨H, eH⟩ := Int.eq_ofNat_of_zero_le (show 0 ≤ (sp N i).h by omega)
  obtain ⟨V, eV⟩ := Int.eq_ofNat_of_zero_le (show 0 ≤ (sp N i).v by omega)
  obtain ⟨C, eC⟩ := Int.eq_ofNat_of_zero_le (show 0 ≤ (sp N i).c by omega)
  obtain ⟨OH, eOH⟩ := Int.eq_ofNat_of_zero_le (show 0 ≤ (sp N (i + 1)).h by omega)
  obtain ⟨OW, eOW⟩ := Int.eq_ofNat_of_zero_le (show 0 ≤ (sp N (i + 1)).v by omega)
  obtain ⟨R, eR⟩ := Int.eq_ofNat_of_zero_le (show 0 ≤ (N.lf i).r by omega)
  obtain ⟨S, eS⟩ := Int.eq_ofNat_of_zero_le (show 0 ≤ (N.lf i).s by omega)
  have hz0 : szN N i = H * V * C := by unfold szN cN; rw [eH, eV, eC]; rfl
  have hz1 : szN N (i + 1) = OH * OW * K := by unfold szN cN; rw [eOH, eOW, ec]; rfl
  have eT : R * S * C = F := by
    unfold fan at eF
    rw [if_neg h2, eR, eS, eC] at eF
    exact_mod_cast eF
  have hv : ∀ j, valN N x (i + 1) j = ouV (N.lf i) F (plW (N.lf i) H V C S OW (valN N x i) (j / K)) (j % K) := by
    intro j
    show opN _ _ _ _ _ _ _ _ = _
    unfold opN fanN cN
    rw [if_neg h2, if_pos hk, eF, eH, eV, eC, eOW, eS, eK]
    rfl
  rw [eH, eV, eC] at p1
  rw [eOH, eOW] at p2
  have p1 : H * V * C ≤ 16777216 := nat_le3 p1
  have p2 : OH * OW * K ≤ 16777216 := nat_le3 p2
  rw [hz0] at hb
  have hpl : ∀ k j, -128 ≤ plW (N.lf i) H V C S OW (valN N x i) k j ∧ plW (N.lf i) H V C S OW (valN N x i) k j ≤ 128 := fun k j => plW_bd (by omega) hb (by omega) k j
  have hp1 : 1 ≤ OH * OW * K := Nat.mul_pos (Nat.mul_pos (by omega) (by omega)) k1
  have hp0 : 1 ≤ H * V * C := Nat.mul_pos (Nat.mul_pos (by omega) (by omega)) (by omega)
  refine ⟨.inl hk, by rw [hz1]; exact hp1, fun W xo xc hxc hL hR => ?_⟩
  have hp : plF (N.lf i).kd = 35 := by unfold plF; rw [if_pos hk]
  rw [hz0] at hxc hR ⊢
  rw [hp, hz1, eH, eV, eC, eOH, eOW, ec]
  have el : (List.range (OH * OW * K)).map (valN N x (i + 1)) = cvL (N.lf i) F K (plW (N.lf i) H V C S OW (valN N x i)) (OH * OW) := by
    rw [cvL_map _ _ _ k1]
    exact List.map_congr_left fun j _ => hv j
  rw [el]
  exact convolve_any (N.lf i) R S H V C F OH OW K eR eS (by omega) (by omega) (by omega) (by omega) (by omega) p1 eT (by omega) (by omega) (by omega) (by omega) (by omega) (by omega) eK k1 k2 hw hm hc (lay_ws h0 h3).1 xo xc hxc (valN N x i) (fun k j _ _ => hpl k j) (fun k o _ ho => be_ok hs h0 h3 eF (fun j _ => hpl k j) (by omega)) p2 K W hL hR (r64_lt hR hp0)
theorem wrk_pool (N : Nt) (x : Nat → Int) {i : Nat} (h0 : fl N i = 0) (hk : (N.lf i).kd = 3) : Wrk N (szN N) (valN N x) i := by
  have h2 : ¬ (N.lf i).kd = 2 := by omega
  obtain ⟨qo, q1, q2, -⟩ := win_ok h0 h2
  rw [if_pos hk] at q1
  obtain ⟨c1, cw, c2⟩ := sl_chk q1
  have eh : (sp N (i + 1)).h = stN (sp N i).h (N.lf i).t (N.lf i).b (N.lf i).r (N.lf i).sy := by show oH _ _ _ _ = _; unfold oH; rw [if_neg h2, if_pos qo]
  have ev : (sp N (i + 1)).v = stN (sp N i).v (N.lf i).l (N.lf i).q (N.lf i).s (N.lf i).sx := by show oV _ _ _ _ = _; unfold oV; rw [if_neg h2, if_pos qo]
  have ec : (sp N (i + 1)).c = (sp N i).c := lay_p h0 hk
  rw [← eh, ← ev] at c2
  obtain ⟨s1, p1⟩ := chk_prod c1
  obtain ⟨s2, p2⟩ := chk_prod c2
  obtain ⟨⟨w1, w2, w3, w4⟩, ⟨w5, w6, w7, w8⟩⟩ := cw
  obtain ⟨⟨a1, a2⟩, ⟨a3, a4⟩, ⟨a5, a6⟩⟩ := s1
  obtain ⟨⟨a7, a8⟩, ⟨a9, a10⟩, -⟩ := s2
  obtain ⟨H, eH⟩ := Int.eq_ofNat_of_zero_le (show 0 ≤ (sp N i).h by omega)
  obtain ⟨V, eV⟩ := Int.eq_ofNat_of_zero_le (show 0 ≤ (sp N i).v by omega)
  obtain ⟨C, eC⟩ := Int.eq_ofNat_of_zero_le (show 0 ≤ (sp N i).c by omega)
  obtain ⟨OH, eOH⟩ := Int.eq_ofNat_of_zero_le (show 0 ≤ (sp N (i + 1)).h by omega)
  obtain ⟨OW, eOW⟩ := Int.eq_ofNat_of_zero_le (show 0 ≤ (sp N (i + 1)).v by omega)
  obtain ⟨R, eR⟩ := Int.eq_ofNat_of_zero_le (show 0 ≤ (N.lf i).r by omega)
  obtain ⟨S, eS⟩ := Int.eq_ofNat_of_zero_le (show 0 ≤ (N.lf i).s by omega)
  have hz0 : szN N i = H * V * C := by unfold szN cN; rw [eH, eV, eC]; rfl
  have hz1 : szN N (i + 1) = OH * OW * C := by unfold szN cN; rw [eOH, eOW, ec, eC]; rfl
  have hv : ∀ j, valN N x (i + 1) j = hiV (plW (N.lf i) H V C S OW (valN N x i) (j / C)) (j % C) C (R * S - 1) := by
    intro j
    show opN _ _ _ _ _ _ _ _ = _
    unfold opN fanN cN
    rw [if_neg h2, if_neg (by omega), eH, eV, eC, eOW, eS, eR]
    rfl
  rw [eH, eV, eC] at p1
  rw [eOH, eOW, eC] at p2
  have p1 : H * V * C ≤ 16777216 := nat_le3 p1
  have p2 : OH * OW * C ≤ 16777216 := nat_le3 p2
  have hp1 : 1 ≤ OH * OW * C := Nat.mul_pos (Nat.mul_pos (by omega) (by omega)) (by omega)
  have hp0 : 1 ≤ H * V * C := Nat.mul_pos (Nat.mul_pos (by omega) (by omega)) (by omega)
  refine ⟨.inr (.inr hk), by rw [hz1]; exact hp1, fun W xo xc hxc hL hR => ?_⟩
  have hp : plF (N.lf i).kd = 37 := by unfold plF; rw [if_neg (by omega), if_neg h2]
  rw [hz0] at hxc hR ⊢
  rw [hp, hz1, ec, eH, eV, eC, eOH, eOW]
  have el : (List.range (OH * OW * C)).map (valN N x (i + 1)) = pvL (plW (N.lf i) H V C S OW (valN N x i)) C (R * S - 1) (OH * OW) := by
    rw [pvL_map _ _ _ (by omega)]
    exact List.map_congr_left fun j _ => hv j
  rw [el]
  exact ppool_any (N.lf i) R S H V C (R * S * C) OH OW eR eS (by omega) (by omega) (by omega) (by omega) (by omega) p1 rfl (by omega) (by omega) (by omega) (by omega) (by omega) (by omega) xo xc hxc (valN N x i) p2 W hR (r64_lt hR hp0)
theorem la_sp (N : Nt) : ∀ i, (sp N i).la = decide (N.ml = i + 1) ∧ (sp N i).fs = decide (i = 0)
  | 0 => ⟨rfl, rfl⟩
  | i + 1 => ⟨rfl, by simp [sp]⟩
theorem be_pm {L : Ly} {k : Nat} (h : L.mb = 0) (x : Int) : beV L k x = 1 ∨ beV L k x = -1 := by
  unfold beV
  rw [if_neg (by omega)]
  split
  · exact .inl rfl
  · exact .inr rfl
theorem fl_all {N : Nt} (hz : chE N = 0) : whE N = 0 ∧ ∀ i, i < N.ml → fl N i = 0 := by
  have h0 : whE N = 0 := by
    unfold chE at hz
    by_cases h0 : whE N = 0
    · exact h0
    · rw [if_neg h0] at hz; exact absurd hz h0
  refine ⟨h0, ?_⟩
  unfold chE at hz
  rw [if_pos h0] at hz
  exact frF_z hz
theorem sp_all {N : Nt} (hz : chE N = 0) : ∀ i, i ≤ N.ml → SpOk (sp N i) := by
  intro i hi
  obtain ⟨h0, hf⟩ := fl_all hz
  exact sp_ok (wh_parts h0).2.1 fun j hj => hf j (by omega)
/-- The elements ahead of a layer keep their reach. -/
theorem val_bd (N : Nt) (x : Nat → Int) (hz : chE N = 0) (hx : ∀ j, j < szN N 0 → -128 ≤ x j ∧ x j ≤ 127) : ∀ i, i < N.ml → ∀ j, j < szN N i → inL i ≤ valN N x i j ∧ valN N x i j ≤ inH i
  | 0, _, j, hj => hx j hj
  | i + 1, hi, j, hj => by
    obtain ⟨hw0, hf⟩ := fl_all hz
    have h0 := hf i (by omega)
    have hs := sp_all hz i (by omega)
    have hin : ∀ j, j < szN N i → inL i ≤ valN N x i j ∧ valN N x i j ≤ inH i := val_bd N x hz hx i (by omega)
    have hla : (sp N i).la = false := by rw [(la_sp N i).1]; simp; omega
    have key : -1 ≤ valN N x (i + 1) j ∧ valN N x (i + 1) j ≤ 1 := by
      show -1 ≤ opN _ _ _ _ _ _ _ _ ∧ opN _ _ _ _ _ _ _ _ ≤ 1
      unfold opN
      by_cases h3 : (N.lf i).kd = 3
      · rw [if_neg (by omega), if_neg (by omega)]
        obtain ⟨qo, q1, -, -, -, q4⟩ := win_ok h0 (by omega)
        have q4 := q4 h3
        rw [if_pos h3] at q1
        obtain ⟨c1, cw, c2⟩ := sl_chk q1
        obtain ⟨⟨w1, w2, w3, w4⟩, ⟨w5, w6, w7, w8⟩⟩ := cw
        obtain ⟨⟨⟨a1, a2⟩, ⟨a3, a4⟩, ⟨a5, a6⟩⟩, p1⟩ := chk_prod c1
        have hi0 : ¬ i = 0 := by rw [(la_sp N i).2] at q4; simpa using q4
        have hC : 1 ≤ cN N i := by unfold cN; omega
        have hbd : (N.lf i).bd = 0 := by
          unfold fl faE at h0
          rw [if_neg (by omega), if_neg (by omega), if_pos h3] at h0
          have e2 : owE (N.lf i) = 0 := frF_z h0 2 (by decide)
          exact (zero_else (by decide) e2).1.2.2
        have hv : ∀ j, j < (sp N i).h.toNat * (sp N i).v.toNat * cN N i → -1 ≤ valN N x i j ∧ valN N x i j ≤ 1 := by
          intro j hj
          have := hin j hj
          unfold inL inH at this
          rwa [if_neg hi0, if_neg hi0] at this
        refine hiV_bd _ (fun j' _ => ?_) (Nat.mod_lt _ hC)
        exact plW_bd (lo := -1) (hi := 1) hC hv (by omega) _ _
      · have hmb : (N.lf i).mb = 0 := by
          obtain ⟨-, hend⟩ := lay_ws h0 h3
          rcases hend with ⟨e1, e2⟩ | ⟨e1, -⟩
          · exfalso
            obtain ⟨-, -, K, F, eK, eF, k1, -⟩ := lay_w hs h0 h3
            unfold fl faE at h0
            by_cases h1 : (N.lf i).kd = 1
            · rw [if_pos h1] at h0
              have e8 : nmE (N.lf i) = 0 := frF_z h0 8 (by decide)
              have := (zero_else (by decide) e8).1.2
              omega
            · rw [if_neg h1] at h0
              by_cases h2 : (N.lf i).kd = 2
              · rw [if_pos h2] at h0
                have e5 : enE (N.lf i) (sp N i) = 0 := frF_z h0 5 (by decide)
                unfold enE at e5
                rw [hla, if_neg (by simp)] at e5
                have := (zero_else (by decide) e5).1.2
                omega
              · rw [if_neg h2, if_neg h3] at h0; cases h0
          · exact e1
        by_cases h2 : (N.lf i).kd = 2
        · rw [if_pos h2]
          unfold ouV
          rcases be_pm (k := j) hmb (smV (fun j_1 => (N.lf i).ws (j * fanN N i + j_1)) (valN N x i) (fanN N i)) with e | e <;> rw [e] <;> decide
        · have h1 : (N.lf i).kd = 1 := by
            obtain ⟨q, -⟩ := lay_w hs h0 h3
            omega
          rw [if_neg h2, if_pos h1]
          unfold ouV
          rcases be_pm (k := j % (N.lf i).k.toNat) hmb (smV (fun j_1 => (N.lf i).ws (j % (N.lf i).k.toNat * fanN N i + j_1)) (plW (N.lf i) (sp N i).h.toNat (sp N i).v.toNat (cN N i) (N.lf i).s.toNat (sp N (i + 1)).v.toNat (valN N x i) (j / (N.lf i).k.toNat)) (fanN N i)) with e | e <;> rw [e] <;> decide
    unfold inL inH
    rw [if_neg (by omega), if_neg (by omega)]
    exact key
theorem wrk_all (N : Nt) (x : Nat → Int) (hz : chE N = 0) (hc : ∀ i, i < N.ml → (N.lf i).mw ≤ (N.lf i).cw) (hx : ∀ j, j < szN N 0 → -128 ≤ x j ∧ x j ≤ 127) : ∀ i, i < N.ml → Wrk N (szN N) (valN N x) i := by
  intro i hi
  obtain ⟨hw0, hf⟩ := fl_all hz
  have h0 := hf i hi
  have hs := sp_all hz i (by omega)
  have hb : ∀ j, j < szN N i → -128 ≤ valN N x i j ∧ valN N x i j ≤ 128 := by
    intro j hj
    have := val_bd N x hz hx i hi j hj
    unfold inL inH at this
    split at this <;> omega
  by_cases h3 : (N.lf i).kd = 3
  · exact wrk_pool N x h0 h3
  · obtain ⟨q, e1, K, F, eK, eF, -⟩ := lay_w hs h0 h3
    by_cases h2 : (N.lf i).kd = 2
    · refine wrk_dense N (szN N) (valN N x) hs h0 (hc i hi) h2 ?_ ?_ (fun j _ => ?_) hb
      · unfold szN fanN cN fan
        rw [if_pos h2]
        obtain ⟨⟨⟨a1, a2⟩, ⟨a3, a4⟩, ⟨a5, a6⟩⟩, -⟩ := hs
        obtain ⟨H, eH⟩ := Int.eq_ofNat_of_zero_le (show 0 ≤ (sp N i).h by omega)
        obtain ⟨V, eV⟩ := Int.eq_ofNat_of_zero_le (show 0 ≤ (sp N i).v by omega)
        obtain ⟨C, eC⟩ := Int.eq_ofNat_of_zero_le (show 0 ≤ (sp N i).c by omega)
        rw [eH, eV, eC, ← Int.natCast_mul, ← Int.natCast_mul]
        rfl
      · unfold szN
        have e3 : (sp N (i + 1)).h = 1 := by show oH _ _ _ _ = _; unfold oH; rw [if_pos h2]
        have e4 : (sp N (i + 1)).v = 1 := by show oV _ _ _ _ = _; unfold oV; rw [if_pos h2]
        rw [e3, e4]
        simp
      · show opN _ _ _ _ _ _ _ _ = _
        unfold opN
        rw [if_pos h2]
    · exact wrk_conv N x hs h0 (hc i hi) (by omega) hb
/-- The last layer of a network that may be. -/
theorem last_ok {N : Nt} (hz : chE N = 0) {m : Nat} (hm : N.ml = m + 1) : (N.lf m).kd = 2 ∧ ((N.lf m).mb : Int) = (N.lf m).k ∧ (N.lf m).mn = 0 ∧ szN N (m + 1) = (N.lf m).k.toNat ∧ 1 ≤ (N.lf m).k ∧ (N.lf m).k ≤ 4096 ∧ szN N m = fanN N m := by
  obtain ⟨hw0, hf⟩ := fl_all hz
  have h0 := hf m (by omega)
  have hs := sp_all hz m (by omega)
  have hla : (sp N m).la = true := by rw [(la_sp N m).1]; simp; omega
  have h2 : (N.lf m).kd = 2 := by
    by_cases h2 : (N.lf m).kd = 2
    · exact h2
    · have := (win_ok h0 h2).2.2.2.1
      rw [hla] at this; cases this
  have h0' := h0
  unfold fl faE at h0'
  rw [if_neg (by omega), if_pos h2] at h0'
  have e5 : enE (N.lf m) (sp N m) = 0 := frF_z h0' 5 (by decide)
  have e0 : ouE (N.lf m) = 0 := frF_z h0' 0 (by decide)
  have e0 := zero_else (by decide) e0
  unfold enE at e5
  rw [if_pos hla] at e5
  have e5 := zero_else (by decide) e5
  refine ⟨h2, e5.1, e5.2, ?_, e0.1, e0.2, ?_⟩
  · unfold szN cN
    have e3 : (sp N (m + 1)).h = 1 := by show oH _ _ _ _ = _; unfold oH; rw [if_pos h2]
    have e4 : (sp N (m + 1)).v = 1 := by show oV _ _ _ _ = _; unfold oV; rw [if_pos h2]
    have e6 : (sp N (m + 1)).c = (N.lf m).k := by show oC _ _ _ _ = _; unfold oC; rw [if_pos h2]
    rw [e3, e4, e6]
    simp
  · unfold szN fanN cN fan
    rw [if_pos h2]
    obtain ⟨⟨⟨a1, a2⟩, ⟨a3, a4⟩, ⟨a5, a6⟩⟩, -⟩ := hs
    obtain ⟨H, eH⟩ := Int.eq_ofNat_of_zero_le (show 0 ≤ (sp N m).h by omega)
    obtain ⟨V, eV⟩ := Int.eq_ofNat_of_zero_le (show 0 ≤ (sp N m).v by omega)
    obtain ⟨C, eC⟩ := Int.eq_ofNat_of_zero_le (show 0 ≤ (sp N m).c by omega)
    rw [eH, eV, eC, ← Int.natCast_mul, ← Int.natCast_mul]
    rfl
/-- plain.Run OF EVERY NETWORK that may be, over an input of its size. -/
theorem prun_all (N : Nt) (hz : chE N = 0) (hc : ∀ i, i < N.ml → (N.lf i).mw ≤ (N.lf i).cw) (ao : Option Addr) (cap : Nat) (f : Nat → Int) (hf : ∀ j, j < szN N 0 → 0 ≤ f j ∧ f j ≤ 255) (w : World) (hN : NtW w N) (hx : RB w ao (szN N 0) f) :
    Calls Tryz.prog 12 #[ntv N, .slice ao (szN N 0) cap] w fun e w' => ∃ g cp, e = .returned (.tuple #[.agg #[.slice (some ⟨g, 0, none⟩) (szN N N.ml) cp, .int .i64 (grV (valN N (fun j => s8 (f j)) N.ml) (szN N N.ml))], .int .i64 0]) ∧ w.heap.size ≤ g ∧ R64 w' (some ⟨g, 0, none⟩) (szN N N.ml) (valN N (fun j => s8 (f j)) N.ml) ∧ Below w.heap.size w w' := by
  have h1 := (wh_parts (fl_all hz).1)
  obtain ⟨m, hm⟩ : ∃ m, N.ml = m + 1 := ⟨N.ml - 1, by have := h1.2.2; omega⟩
  have hl := last_ok hz hm
  refine prun_ok N (szN N) (valN N (fun j => s8 (f j))) hz ?_ (wrk_all N _ hz hc fun j hj => ?_) (by rw [hm, hl.2.2.2.1]; omega) ao cap f (fun j _ => rfl) w hN hx
  · unfold elN szN cN
    rw [if_pos h1.2.1]
    obtain ⟨⟨⟨a1, a2⟩, ⟨a3, a4⟩, ⟨a5, a6⟩⟩, -⟩ := chk_prod h1.2.1
    show _ = ((N.h.toNat * N.v.toNat * N.c.toNat : Nat) : Int)
    obtain ⟨H, eH⟩ := Int.eq_ofNat_of_zero_le (show 0 ≤ N.h by omega)
    obtain ⟨V, eV⟩ := Int.eq_ofNat_of_zero_le (show 0 ≤ N.v by omega)
    obtain ⟨C, eC⟩ := Int.eq_ofNat_of_zero_le (show 0 ≤ N.c by omega)
    rw [eH, eV, eC]
    push_cast
    rfl
  · have := hf j hj
    unfold s8
    split <;> omega
end Go.Proofs.YtlgjoepeibodkaaGreat.Nn
/- PLAIN: Trace OF EVERY NETWORK that may be. -/
namespace Go.Proofs.YtlgjoepeibodkaaGreat.Nn
open Go.RowKit

theorem ptrace_all (N : Nt) (hz : chE N = 0) (hc : ∀ i, i < N.ml → (N.lf i).mw ≤ (N.lf i).cw) (ht : toN N ≤ 4194304) (ao : Option Addr) (cap : Nat) (f : Nat → Int) (hf : ∀ j, j < szN N 0 → 0 ≤ f j ∧ f j ≤ 255) (w : World) (hN : NtW w N) (hx : RB w ao (szN N 0) f) :
    Calls Tryz.prog 8 #[ntv N, .slice ao (szN N 0) cap] w fun e w' => ∃ u gl cl, e = .returned (.tuple #[u, .int .i64 0]) ∧ TrS N (szN N) (valN N (fun j => s8 (f j))) w.heap.size N.ml w' u gl cl ∧ Below w.heap.size w w' := by
  refine ptrace_ok N (szN N) (valN N (fun j => s8 (f j))) hz ?_ (wrk_all N _ hz hc fun j hj => ?_) ht ao cap f (fun j _ => rfl) w hN hx
  · have h1 := (wh_parts (fl_all hz).1)
    unfold elN szN cN
    rw [if_pos h1.2.1]
    obtain ⟨⟨⟨a1, a2⟩, ⟨a3, a4⟩, ⟨a5, a6⟩⟩, -⟩ := chk_prod h1.2.1
    show _ = ((N.h.toNat * N.v.toNat * N.c.toNat : Nat) : Int)
    obtain ⟨H, eH⟩ := Int.eq_ofNat_of_zero_le (show 0 ≤ N.h by omega)
    obtain ⟨V, eV⟩ := Int.eq_ofNat_of_zero_le (show 0 ≤ N.v by omega)
    obtain ⟨C, eC⟩ := Int.eq_ofNat_of_zero_le (show 0 ≤ N.c by omega)
    rw [eH, eV, eC]
    push_cast
    rfl
  · have := hf j hj
    unfold s8
    split <;> omega
theorem sz_one {N : Nt} (hz : chE N = 0) (hc : ∀ i, i < N.ml → (N.lf i).mw ≤ (N.lf i).cw) {j : Nat} (hj : j < N.ml) : 1 ≤ szN N (j + 1) := (wrk_all N (fun _ => 0) hz hc (fun _ _ => by decide) j hj).2.1
end Go.Proofs.YtlgjoepeibodkaaGreat.Nn
