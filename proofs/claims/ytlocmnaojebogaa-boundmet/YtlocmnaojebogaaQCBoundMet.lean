import Derived.Test.YtlocmnaojebogaaQBBoundMet
/- PLAIN: a network passed through, for Run. -/
namespace Go.Proofs.Ytlocmnaojebogaa.Nn
open Go.RowKit

theorem shf_atP (N : Nt) (m k : Nat) (hk : k < m) : shf N m (k * 3) = .int .i64 (sp N (k + 1)).h ∧ shf N m (k * 3 + 1) = .int .i64 (sp N (k + 1)).v ∧ shf N m (k * 3 + 2) = .int .i64 (sp N (k + 1)).c := by
  unfold shf
  rw [if_pos (by omega), if_pos (by omega), if_pos (by omega), show k * 3 / 3 = k by omega, show (k * 3 + 1) / 3 = k by omega, show (k * 3 + 2) / 3 = k by omega, show k * 3 % 3 = 0 by omega, show (k * 3 + 1) % 3 = 1 by omega, show (k * 3 + 2) % 3 = 2 by omega]
  exact ⟨rfl, rfl, rfl⟩
theorem cell_four {Y : World} {b c i j k l n : Nat} {u v x z q : Value} (h : Y.cell? ⟨b, n, none⟩ = some q) (hn : b ≠ c) : ((((Y.setCell ⟨c, i, none⟩ u).setCell ⟨c, j, none⟩ v).setCell ⟨c, k, none⟩ x).setCell ⟨c, l, none⟩ z).cell? ⟨b, n, none⟩ = some q :=
  (World.cell?_of_block (w := Y) (by rw [Below.heap_setCell _ _ _ _ (by show b ≠ c; exact hn), Below.heap_setCell _ _ _ _ (by show b ≠ c; exact hn), Below.heap_setCell _ _ _ _ (by show b ≠ c; exact hn), Below.heap_setCell _ _ _ _ (by show b ≠ c; exact hn)])).trans h
theorem heap_four {Y : World} {b c i j k l : Nat} {u v x z : Value} (hn : b ≠ c) : ((((Y.setCell ⟨c, i, none⟩ u).setCell ⟨c, j, none⟩ v).setCell ⟨c, k, none⟩ x).setCell ⟨c, l, none⟩ z).heap[b]? = Y.heap[b]? := by rw [Below.heap_setCell _ _ _ _ (by show b ≠ c; exact hn), Below.heap_setCell _ _ _ _ (by show b ≠ c; exact hn), Below.heap_setCell _ _ _ _ (by show b ≠ c; exact hn), Below.heap_setCell _ _ _ _ (by show b ≠ c; exact hn)]
theorem gr_four {w Y : World} {c i j k l : Nat} {u v x z : Value} {q : Option Nat} (h : w.grownBy Y q) (hc : w.heap.size ≤ c) : w.grownBy ((((Y.setCell ⟨c, i, none⟩ u).setCell ⟨c, j, none⟩ v).setCell ⟨c, k, none⟩ x).setCell ⟨c, l, none⟩ z) q :=
  ⟨h.os, h.tape, h.output, by simpa using h.size, fun n hn hne => (heap_four (by omega)).trans (h.block n hn hne)⟩
theorem kmeet_p {J K : Act → World → Prop} {Q : Exit → Act → World → Prop} {a : Act} {w : World} (hK : ∀ a' w', Met J a' w' → K a' w') (h : Met J a w) : Exit.then K Q Exit.normal a w := hK _ _ h
theorem tn_cells {V : World} {T : Nat} {t : TypeId} {h v c : Int} {xo : Option Addr} {F xc : Nat} (r : V.rowIs T t 4 (tnf h v c xo F xc)) : V.cell? ⟨T, 0, none⟩ = some (.int .i64 h) ∧ V.cell? ⟨T, 1, none⟩ = some (.int .i64 v) ∧ V.cell? ⟨T, 2, none⟩ = some (.int .i64 c) ∧ V.cell? ⟨T, 3, none⟩ = some (.slice xo F xc) :=
  ⟨r.cell (i := 0) (by decide), r.cell (i := 1) (by decide), r.cell (i := 2) (by decide), r.cell (i := 3) (by decide)⟩
theorem tn_set {V : World} {T : Nat} {t : TypeId} {h v c : Int} {xo : Option Addr} {F xc : Nat} (r : V.rowIs T t 4 (tnf h v c xo F xc)) (h' v' c' : Int) (xo' : Option Addr) (F' xc' : Nat) : ((((V.setCell ⟨T, 0, none⟩ (.int .i64 h')).setCell ⟨T, 1, none⟩ (.int .i64 v')).setCell ⟨T, 2, none⟩ (.int .i64 c')).setCell ⟨T, 3, none⟩ (.slice xo' F' xc')).rowIs T t 4 (tnf h' v' c' xo' F' xc') := by
  refine ((((r.set 0 (.int .i64 h')).set 1 (.int .i64 v')).set 2 (.int .i64 c')).set 3 (.slice xo' F' xc')).congr fun i hi => ?_
  rcases i with _ | _ | _ | _ | i
  · rfl
  · rfl
  · rfl
  · rfl
  · omega
theorem kpP {V Y : World} {bl T gs k M : Nat} {L : Ly} {ih iv ic oh ov oc : Int} {xo : Option Addr} {F xc : Nat} {t : TypeId} (h1 : Lp V bl L) (h2 : V.rowIs T t 4 (tnf ih iv ic xo F xc)) (h3 : V.cell? ⟨gs, k * 3, none⟩ = some (.int .i64 oh) ∧ V.cell? ⟨gs, k * 3 + 1, none⟩ = some (.int .i64 ov) ∧ V.cell? ⟨gs, k * 3 + 2, none⟩ = some (.int .i64 oc)) (h4 : Plw V M) (hb : Below V.heap.size V Y) :
    (Y.cell? ⟨bl, 0, none⟩ = some (.int .i64 L.kd) ∧ Y.cell? ⟨bl, 1, none⟩ = some (.int .i64 L.wt) ∧ Y.cell? ⟨bl, 2, none⟩ = some (.int .i64 L.k) ∧ Y.cell? ⟨bl, 3, none⟩ = some (.int .i64 L.r) ∧ Y.cell? ⟨bl, 4, none⟩ = some (.int .i64 L.s) ∧ Y.cell? ⟨bl, 5, none⟩ = some (.int .i64 L.sy) ∧ Y.cell? ⟨bl, 6, none⟩ = some (.int .i64 L.sx) ∧ Y.cell? ⟨bl, 7, none⟩ = some (.int .i64 L.t) ∧ Y.cell? ⟨bl, 8, none⟩ = some (.int .i64 L.l) ∧ Y.cell? ⟨bl, 9, none⟩ = some (.int .i64 L.b) ∧ Y.cell? ⟨bl, 10, none⟩ = some (.int .i64 L.q) ∧ Y.cell? ⟨bl, 11, none⟩ = some (.int .i64 L.bd) ∧ Y.cell? ⟨bl, 12, none⟩ = some (.slice L.aw L.mw L.cw) ∧ Y.cell? ⟨bl, 13, none⟩ = some (.slice L.an L.mn L.cn) ∧ Y.cell? ⟨bl, 14, none⟩ = some (.slice L.ab L.mb L.cb)) ∧ (Y.cell? ⟨T, 0, none⟩ = some (.int .i64 ih) ∧ Y.cell? ⟨T, 1, none⟩ = some (.int .i64 iv) ∧ Y.cell? ⟨T, 2, none⟩ = some (.int .i64 ic) ∧ Y.cell? ⟨T, 3, none⟩ = some (.slice xo F xc)) ∧ (Y.cell? ⟨gs, k * 3, none⟩ = some (.int .i64 oh) ∧ Y.cell? ⟨gs, k * 3 + 1, none⟩ = some (.int .i64 ov) ∧ Y.cell? ⟨gs, k * 3 + 2, none⟩ = some (.int .i64 oc)) ∧ Y.heap[M]? = some (.map #[plE1, plE2, plE3] 3) :=
  ⟨h1.keep hb, ⟨keepc hb (tn_cells h2).1, keepc hb (tn_cells h2).2.1, keepc hb (tn_cells h2).2.2.1, keepc hb (tn_cells h2).2.2.2⟩, ⟨keepc hb h3.1, keepc hb h3.2.1, keepc hb h3.2.2⟩, h4.keep hb⟩
theorem kpN {V Y : World} {b : Nat} {N : Nt} (h : Nb V b N) (hb : Below V.heap.size V Y) : Y.cell? ⟨b, 1, none⟩ = some (.int .i64 N.h) ∧ Y.cell? ⟨b, 2, none⟩ = some (.int .i64 N.v) ∧ Y.cell? ⟨b, 3, none⟩ = some (.int .i64 N.c) := ⟨keepc hb h.2.1, keepc hb h.2.2.1, keepc hb h.2.2.2.1⟩
/-- The values that come in to the layer i, of which there are sz i; what is asked of each layer's work. -/
def Wrk (N : Nt) (sz : Nat → Nat) (val : Nat → Nat → Int) (i : Nat) : Prop := ((N.lf i).kd = 1 ∨ (N.lf i).kd = 2 ∨ (N.lf i).kd = 3) ∧ 1 ≤ sz (i + 1) ∧ ∀ (W : World) (xo : Option Addr) (xc : Nat), Lst W (N.lf i) → R64 W xo (sz i) (val i) → Calls Try.prog (plF (N.lf i).kd) #[lyv (N.lf i), tnv (sp N i).h (sp N i).v (sp N i).c xo (sz i) xc, shp (sp N (i + 1)).h (sp N (i + 1)).v (sp N (i + 1)).c] W fun e w' => ∃ v', e = .returned v' ∧ w'.ownsRow W.heap.size 2 1 v' (sz (i + 1)) (i64L ((List.range (sz (i + 1))).map (val (i + 1)))) ∧ Below W.heap.size W w'
/-- An own row of numbers reads as they do. -/
theorem own_64 {w : World} {base n : Nat} {v : Value} {f : Nat → Int} (h : w.ownsRow base 2 1 v n (i64L ((List.range n).map f))) (hn : 1 ≤ n) : ∃ g cap, v = .slice (some ⟨g, 0, none⟩) n cap ∧ base ≤ g ∧ g < w.heap.size ∧ R64 w (some ⟨g, 0, none⟩) n f := by
  rcases h.2 with ⟨_, h0⟩ | ⟨g, cap, cur, hv, hb, hg, h4, h5, h6, h7⟩
  · omega
  · refine ⟨g, cap, hv, hb, (Array.getElem?_eq_some_iff.1 hg).1, fun k hk => ⟨g, 0, rfl, ?_⟩⟩
    have e : (i64L ((List.range n).map f))[k]? = some (.int .i64 (f k)) := by simp [i64L, hk]
    rw [← h7, Nat.mul_one, List.getElem?_take_of_lt hk] at e
    rw [Nat.zero_add]
    simp only [World.cell?, hg]
    rw [Array.getElem?_toList] at e
    simpa using e
set_option maxHeartbeats 6400000 in
set_option maxRecDepth 100000 in
theorem pass_any (N : Nt) (sz : Nat → Nat) (val : Nat → Nat → Int) (hml : 1 ≤ N.ml ∧ N.ml ≤ 64) (hwk : ∀ i, i < N.ml → Wrk N sz val i) (ao : Option Addr) (cap : Nat) (f : Nat → Int) (hs0 : sz 0 ≤ 16777216) (hf : ∀ j, j < sz 0 → s8 (f j) = val 0 j) (gs cb : Nat) (u0 : Value) (w : World) (hN : NtW w N) (hx : RB w ao (sz 0) f) (hsh : w.rowIs gs 42 (N.ml * 3) (shf N N.ml)) (hcb : w.rowIs cb 23 1 (fun _ => u0)) (hk : ∀ X, w.grownBy X (some cb) → NtW X N ∧ X.rowIs gs 42 (N.ml * 3) (shf N N.ml)) :
    Calls Try.prog 36 #[ntv N, .slice ao (sz 0) cap, .slice (some ⟨gs, 0, none⟩) N.ml N.ml, .func (.func 37) #[] #[.pointer (some ⟨cb, 0, none⟩)]] w fun e w' => e = .returned (.tuple #[]) ∧ w.grownBy w' (some cb) ∧ ∃ g cap', w'.rowIs cb 23 1 (fun _ => .slice (some ⟨g, 0, none⟩) (sz N.ml) cap') ∧ w.heap.size ≤ g ∧ R64 w' (some ⟨g, 0, none⟩) (sz N.ml) (val N.ml) := by
  have HW := hid1 hN
  have HWK := hid1 hwk
  have HF := hid1 hf
  have HXX := hid1 hx
  have HSH := hid1 hsh
  have HCB := hid1 hcb
  have HKK := hid1 hk
  have lcb := hcb.lt
  have lgs := hsh.lt
  clear hN hwk hf hx hsh hcb hk
  obtain ⟨b, hb0⟩ : ∃ b, w.heap.size = b := ⟨_, rfl⟩
  go_enter Try.func36, Try.ntmps36
  go_wp2_with fail
  refine gen_calls (fun X => Below w.heap.size w X ∧ Nb X b N) ⟨by repeat (first | (with_reducible exact Below.refl _ _) | (with_reducible refine bl_alloc ?_ _) | (with_reducible refine Below.drew ?_) | (with_reducible refine bl_drewN ?_ _) | (with_reducible refine bl_set ?_ (by omega) _) | (with_reducible refine bl_step ?_ (by assumption))), by rw [← hb0]; exact nb_new _ _ _⟩ ?_
  rintro X ⟨BX, NX⟩
  refine (pworks_any X).mono ?_
  rintro e w1 ⟨rfl, PW, hb⟩
  have hMb0 : b < X.heap.size := lt_of_cell NX.1
  replace BX := bl_step BX hb
  replace NX := NX.keep hb
  obtain ⟨M, hM⟩ : ∃ M, X.heap.size = M := ⟨_, rfl⟩
  rw [hM] at PW hMb0 ⊢
  clear hb
  have CS := hid1 (fun W (h : Below w.heap.size w W) => signed_any ao (sz 0) cap f W hs0 (HXX.out.keep h))
  have n1 := NX.2.1
  have n2 := NX.2.2.1
  have n3 := NX.2.2.2.1
  have HNX := hid1 NX
  have HPW := hid1 PW
  have HBX := hid1 BX
  have lM := PW.lt
  clear NX PW BX
  have hfo := followsP
  go_upto_region 2 with fail
  go_cut [9] from 14 to 18 (fun s9 wx => ∃ T g, s9 = .pointer (some ⟨T, 0, none⟩) ∧ w1.heap.size ≤ T ∧ w1.heap.size ≤ g ∧ wx.rowIs T 123 4 (tnf N.h N.v N.c (some ⟨g, 0, none⟩) (sz 0) (sz 0)) ∧ wx.rowIs g 2 (sz 0) (fun k => .int .i64 (s8 (f k))) ∧ Below w1.heap.size w1 wx)
  case first =>
    go_region_held3 (fun Y => Y.cell? ⟨b, 1, none⟩ = some (.int .i64 N.h) ∧ Y.cell? ⟨b, 2, none⟩ = some (.int .i64 N.v) ∧ Y.cell? ⟨b, 3, none⟩ = some (.int .i64 N.c))
      (((try dsimp only); (with_reducible refine kpN (V := w1) HNX.out ?_); repeat (first | (with_reducible exact Below.refl _ _) | (with_reducible assumption) | (with_reducible refine Below.drew ?_) | (with_reducible refine bl_alloc ?_ _) | (with_reducible refine bl_set ?_ (by first | exact Nat.le_refl _ | exact by1.size) _))))
      ((go_at_call 62; refine (CS.out _ (bl_step HBX.out (by repeat (first | (with_reducible exact Below.refl _ _) | (with_reducible refine Below.drew ?_) | (with_reducible refine bl_alloc ?_ _))))).mono ?_; rintro e y1 ⟨rfl, rg, hb1⟩; have by1 : Below w1.heap.size w1 y1 := (bl_step (by repeat (first | (with_reducible exact Below.refl _ _) | (with_reducible refine Below.drew ?_) | (with_reducible refine bl_alloc ?_ _))) hb1); have HRG := hid1 rg; have HB1 := hid1 hb1; (try (have VR := World.rowIs.of_block (tn_new w1 0 0 0 none 0 0 123).drew (HB1.out.block _ (World.rowIs.lt (tn_new w1 0 0 0 none 0 0 123).drew)); obtain ⟨v0, v1, v2, v3⟩ := tn_cells VR; have f0 := VR.frozen 0; have f1 := VR.frozen 1; have f2 := VR.frozen 2; have f3 := VR.frozen 3; have HVR := hid1 VR; clear VR)); clear hb1 rg))
    all_goals (refine kmeet_p (by assumption) ?_; go_meet)
    · exact ⟨_, _, rfl, by1.size, Nat.le_refl _, tn_new _ _ _ _ _ _ _ _, HRG.out.alloc _, bl_alloc by1 _⟩
    · refine ⟨_, _, rfl, Nat.le_refl _, Nat.le_succ _, tn_set HVR.out _ _ _ _ _ _, ?_, bl_set (bl_set (bl_set (bl_set by1 (Nat.le_refl _) _) (Nat.le_refl _) _) (Nat.le_refl _) _) (Nat.le_refl _) _⟩
      obtain ⟨q, hq, hr⟩ : ∃ q, q = w1.heap.size + 1 ∧ y1.rowIs q 2 (sz 0) (fun k => .int .i64 (s8 (f k))) := ⟨_, by simp, HRG.out⟩
      subst hq
      exact (((hr.setOther (by show w1.heap.size + 1 ≠ w1.heap.size; omega) _).setOther (by show w1.heap.size + 1 ≠ w1.heap.size; omega) _).setOther (by show w1.heap.size + 1 ≠ w1.heap.size; omega) _).setOther (by show w1.heap.size + 1 ≠ w1.heap.size; omega) _
  case rest =>
    obtain ⟨T, g0, rfl, gT, gg0, RT, RG, Bc⟩ := hcut
    have lT := RT.lt
    have n4 := (HNX.out.keep Bc).2.2.2.2
    have K0 := hid1 (gr_below (gr_refl w (some cb)) (bl_step HBX.out Bc))
    have K1 := hid1 (HPW.out.keep Bc)
    have K2 := hid1 RT
    have K3 : Hid (R64 wc (some ⟨g0, 0, none⟩) (sz 0) (val 0)) := hid1 (fun j hj => ⟨g0, 0, rfl, by rw [Nat.zero_add, RG.cell hj, HF.out j hj]⟩)
    have K4 := hid1 (World.rowIs.of_block HCB.out ((bl_step HBX.out Bc).block _ lcb))
    clear RT RG Bc HNX HPW HBX n1 n2 n3
    go_wp2_with fail
    clear n4
    go_loopw [22] (fun i wr => ∃ (k g cp : Nat) (u : Value), k ≤ N.ml ∧ i = .int .i64 k ∧ T < wr.heap.size ∧ Hid (w.grownBy wr (some cb)) ∧ Hid (Plw wr M) ∧ Hid (wr.rowIs T 123 4 (tnf (sp N k).h (sp N k).v (sp N k).c (some ⟨g, 0, none⟩) (sz k) cp)) ∧ Hid (R64 wr (some ⟨g, 0, none⟩) (sz k) (val k)) ∧ Hid (wr.rowIs cb 23 1 (fun _ => u)) ∧ Hid (0 < k → u = .slice (some ⟨g, 0, none⟩) (sz k) cp ∧ w.heap.size ≤ g)) (fun i _ => N.ml - (intOf i).toNat)
    case atStart => exact ⟨0, g0, sz 0, u0, Nat.zero_le _, rfl, lT, K0, K1, K2, K3, K4, hid1 (fun h => absurd h (by omega))⟩
    case round =>
      clear K0 K1 K2 K3 K4 lT
      obtain ⟨k, g, cp, u, hk, rfl, lT, K0, K1, K2, K3, K4, K5⟩ := hrel
      have ik0 : (0 : Int) ≤ (k : Int) := by omega
      by_cases hlt : k < N.ml
      · have ik : (k : Int) < (N.ml : Int) := by omega
        obtain ⟨hNW, hSH⟩ := HKK.out wr K0.out
        obtain ⟨gl, o, ea, LC, LL⟩ := hNW.1 k hlt
        have CK := HWK.out k hlt
        have hkd := CK.1
        have hs1 := CK.2.1
        have HCK := hid1 CK.2.2
        have CF := plF_call (N.lf k).kd
        have LK := fun (W : World) (h : W.heap[M]? = some (Obj.map #[plE1, plE2, plE3] 3)) => lookP_run h (N.lf k).kd hkd
        have hsf := shf_atP N N.ml k hlt
        have s0 := World.rowIs.cell hSH (i := k * 3) (by omega)
        have s1 := World.rowIs.cell hSH (i := k * 3 + 1) (by omega)
        have s2 := World.rowIs.cell hSH (i := k * 3 + 2) (by omega)
        rw [hsf.1] at s0
        rw [hsf.2.1] at s1
        rw [hsf.2.2] at s2
        clear CK hsf hkd
        generalize plF (N.lf k).kd = fw at CF HCK LK
        generalize hLk : N.lf k = L at LC LL HCK LK CF
        have HLS := hid1 LL
        clear LL hLk
        generalize (sp N k).h = ih at K2 HCK
        generalize (sp N k).v = iv at K2 HCK
        generalize (sp N k).c = ic at K2 HCK
        obtain ⟨oh, hoh⟩ : ∃ z, (sp N (k + 1)).h = z := ⟨_, rfl⟩
        obtain ⟨ov, hov⟩ : ∃ z, (sp N (k + 1)).v = z := ⟨_, rfl⟩
        obtain ⟨oc, hoc⟩ : ∃ z, (sp N (k + 1)).c = z := ⟨_, rfl⟩
        rw [hoh] at s0
        rw [hov] at s1
        rw [hoc] at s2
        rw [hoh, hov, hoc] at HCK
        have HOH := hid1 (And.intro hoh (And.intro hov hoc))
        clear hoh hov hoc
        have HSS := hid1 (And.intro s0 (And.intro s1 s2))
        obtain ⟨c0, c1, c2, c3, c4, c5, c6, c7, c8, c9, c10, c11, c12, c13, c14⟩ := LC
        obtain ⟨bl, hbl⟩ : ∃ x, wr.heap.size = x := ⟨_, rfl⟩
        go_upto_region 6 with fail
        clear c0 c1 c2 c3 c4 c5 c6 c7 c8 c9 c10 c11 c12 c13 c14 s0 s1 s2 ea
        refine gen_world (fun X => Below wr.heap.size wr X ∧ Lp X bl L ∧ X.heap.size = bl + 1) ⟨by repeat (first | (with_reducible exact Below.refl _ _) | (with_reducible refine bl_alloc ?_ _) | (with_reducible refine Below.drew ?_) | (with_reducible refine bl_drewN ?_ _) | (with_reducible refine bl_set ?_ (by omega) _) | (with_reducible refine bl_step ?_ (by assumption))), lp_new' hbl L _, by simp [hbl]⟩ ?_
        rintro V ⟨BV, LV, zV⟩
        have HLV := hid1 LV
        have K1' := hid1 (K1.out.keep BV)
        have K2' := hid1 (World.rowIs.of_block K2.out (BV.block _ (World.rowIs.lt K2.out)))
        have HSV := hid1 (And.intro (keepc BV HSS.out.1) (And.intro (keepc BV HSS.out.2.1) (keepc BV HSS.out.2.2)))
        have HLL := hid1 (HLS.out.keep BV)
        have K3' := hid1 (K3.out.keep' BV)
        have HGV := hid1 (gr_below K0.out BV)
        have K4' := hid1 (World.rowIs.of_block K4.out (BV.block _ (World.rowIs.lt K4.out)))
        have lTV : T < V.heap.size := by omega
        have hblV : bl < V.heap.size := by omega
        clear BV LV HSS HLS zV hbl
        have hcV := K4'.out.lt
        go_cut [12] (fun s12 wx => ∃ O g' cp', s12 = .pointer (some ⟨O, 0, none⟩) ∧ V.heap.size ≤ O ∧ V.heap.size ≤ g' ∧ wx.rowIs O 123 4 (tnf oh ov oc (some ⟨g', 0, none⟩) (sz (k + 1)) cp') ∧ R64 wx (some ⟨g', 0, none⟩) (sz (k + 1)) (val (k + 1)) ∧ Below V.heap.size V wx)
        case first =>
          go_region_held3 (fun Y => (Y.cell? ⟨bl, 0, none⟩ = some (.int .i64 L.kd) ∧ Y.cell? ⟨bl, 1, none⟩ = some (.int .i64 L.wt) ∧ Y.cell? ⟨bl, 2, none⟩ = some (.int .i64 L.k) ∧ Y.cell? ⟨bl, 3, none⟩ = some (.int .i64 L.r) ∧ Y.cell? ⟨bl, 4, none⟩ = some (.int .i64 L.s) ∧ Y.cell? ⟨bl, 5, none⟩ = some (.int .i64 L.sy) ∧ Y.cell? ⟨bl, 6, none⟩ = some (.int .i64 L.sx) ∧ Y.cell? ⟨bl, 7, none⟩ = some (.int .i64 L.t) ∧ Y.cell? ⟨bl, 8, none⟩ = some (.int .i64 L.l) ∧ Y.cell? ⟨bl, 9, none⟩ = some (.int .i64 L.b) ∧ Y.cell? ⟨bl, 10, none⟩ = some (.int .i64 L.q) ∧ Y.cell? ⟨bl, 11, none⟩ = some (.int .i64 L.bd) ∧ Y.cell? ⟨bl, 12, none⟩ = some (.slice L.aw L.mw L.cw) ∧ Y.cell? ⟨bl, 13, none⟩ = some (.slice L.an L.mn L.cn) ∧ Y.cell? ⟨bl, 14, none⟩ = some (.slice L.ab L.mb L.cb)) ∧ (Y.cell? ⟨T, 0, none⟩ = some (.int .i64 ih) ∧ Y.cell? ⟨T, 1, none⟩ = some (.int .i64 iv) ∧ Y.cell? ⟨T, 2, none⟩ = some (.int .i64 ic) ∧ Y.cell? ⟨T, 3, none⟩ = some (.slice (some ⟨g, 0, none⟩) (sz k) cp)) ∧ (Y.cell? ⟨gs, k * 3, none⟩ = some (.int .i64 oh) ∧ Y.cell? ⟨gs, k * 3 + 1, none⟩ = some (.int .i64 ov) ∧ Y.cell? ⟨gs, k * 3 + 2, none⟩ = some (.int .i64 oc)) ∧ Y.heap[M]? = some (.map #[plE1, plE2, plE3] 3))
            (((try dsimp only); (with_reducible refine kpP (V := V) HLV.out K2'.out HSV.out K1'.out ?_); repeat (first | (with_reducible exact Below.refl _ _) | (with_reducible assumption) | (with_reducible refine Below.drew ?_) | (with_reducible refine bl_alloc ?_ _) | (with_reducible refine bl_set ?_ (by first | exact Nat.le_refl _ | exact by1.size) _))))
            ((refine (HCK.out _ _ _ (HLL.out.keep (by repeat (first | (with_reducible exact Below.refl _ _) | (with_reducible refine Below.drew ?_) | (with_reducible refine bl_alloc ?_ _)))) (K3'.out.keep' (by repeat (first | (with_reducible exact Below.refl _ _) | (with_reducible refine Below.drew ?_) | (with_reducible refine bl_alloc ?_ _))))).mono ?_; rintro e y1 ⟨v', rfl, ow, hb1⟩; have by1 : Below V.heap.size V y1 := (bl_step (by repeat (first | (with_reducible exact Below.refl _ _) | (with_reducible refine Below.drew ?_) | (with_reducible refine bl_alloc ?_ _))) hb1); obtain ⟨g', cp', rfl, hg', hgl', hR'⟩ := own_64 ow hs1; have HR1 := hid1 hR'; have HB1 := hid1 hb1; (try (have VR := World.rowIs.of_block (tn_new V 0 0 0 none 0 0 123).drew (HB1.out.block _ (World.rowIs.lt (tn_new V 0 0 0 none 0 0 123).drew)); obtain ⟨v0, v1, v2, v3⟩ := tn_cells VR; have f0 := VR.frozen 0; have f1 := VR.frozen 1; have f2 := VR.frozen 2; have f3 := VR.frozen 3; have HVR := hid1 VR; clear VR)); clear hb1 ow hR'))
          all_goals (refine kmeet_p (by assumption) ?_; go_meet)
          · exact ⟨_, g', cp', rfl, by1.size, hg', tn_new _ _ _ _ _ _ _ _, HR1.out.keep' (bl_alloc (Below.refl _ _) _), bl_alloc by1 _⟩
          all_goals
            have zg : V.heap.size + 1 ≤ g' := by simpa using hg'
            refine ⟨_, g', cp', rfl, Nat.le_refl _, by omega, tn_set HVR.out _ _ _ _ _ _, fun j hj => ?_, bl_set (bl_set (bl_set (bl_set by1 (Nat.le_refl _) _) (Nat.le_refl _) _) (Nat.le_refl _) _) (Nat.le_refl _) _⟩
            obtain ⟨g2, o2, e2, q2⟩ := HR1.out j hj
            cases e2
            exact ⟨_, _, rfl, cell_four q2 (by omega)⟩
        case rest =>
          obtain ⟨O, g', cp', rfl, gO, gg', RO, RR, Bc⟩ := hcut
          have J1 := hid1 (K1'.out.keep Bc)
          have J2 := hid1 (World.rowIs.of_block K2'.out (Bc.block _ lTV))
          have J4 := hid1 (World.rowIs.of_block K4'.out (Bc.block _ hcV))
          have JG := hid1 (gr_below HGV.out Bc)
          have JR := hid1 RR
          have JO := hid1 RO
          have JB := hid1 Bc
          have zO := RO.lt
          obtain ⟨t0, t1, t2, t3⟩ := tn_cells RO
          clear RO RR Bc K1' K2' K3' K4' HGV HLV HSV HLL HCK CF LK
          go_wp2_with fail
          refine (run1_any oh ov oc (some ⟨g', 0, none⟩) (sz (k + 1)) cp' cb u wc J4.out).mono ?_
          rintro e y ⟨rfl, RC, gr⟩
          have hOc : O ≠ cb := by omega
          have hgc : g' ≠ cb := by omega
          have hTc : T ≠ cb := by omega
          have zy := gr.size
          have Q1 := hid1 (show Plw y M from (gr.block M J1.out.lt (fun e => by cases e; omega)).trans J1.out)
          have Q2 := hid1 (World.rowIs.of_block J2.out (gr.block T (World.rowIs.lt J2.out) (fun e => by cases e; omega)))
          have QO := hid1 (World.rowIs.of_block JO.out (gr.block O zO (fun e => by cases e; omega)))
          have QR : Hid (R64 y (some ⟨g', 0, none⟩) (sz (k + 1)) (val (k + 1))) := hid1 (fun j hj => by
            obtain ⟨g2, o2, e2, q2⟩ := JR.out j hj
            cases e2
            exact ⟨g', 0, rfl, (World.cell?_of_block (w := wc) (gr.block g' (lt_of_cell q2) (fun e => hgc (Option.some.inj e)))).trans q2⟩)
          have QG := hid1 (gr_step JG.out gr (.inl rfl))
          have QC := hid1 RC
          obtain ⟨t0, t1, t2, t3⟩ := tn_cells QO.out
          obtain ⟨p0, p1, p2, p3⟩ := tn_cells Q2.out
          have f0 := Q2.out.frozen 0
          have f1 := Q2.out.frozen 1
          have f2 := Q2.out.frozen 2
          have f3 := Q2.out.frozen 3
          have lTy := Q2.out.lt
          clear gr RC J1 J2 J4 JG JR JO JB
          go_wp2_with fail
          exact ⟨⟨k + 1, g', cp', .slice (some ⟨g', 0, none⟩) (sz (k + 1)) cp', by omega, by go_num, by simpa using lTy, hid1 (gr_four QG.out (by omega)), hid1 ((heap_four (by omega)).trans Q1.out), hid1 (by rw [HOH.out.1, HOH.out.2.1, HOH.out.2.2]; exact tn_set Q2.out _ _ _ _ _ _), hid1 (fun j hj => by
            obtain ⟨g2, o2, e2, q2⟩ := QR.out j hj
            cases e2
            exact ⟨g', 0, rfl, cell_four q2 (by omega)⟩), hid1 (World.rowIs.of_block QC.out (heap_four (by omega))), hid1 (fun _ => ⟨rfl, by omega⟩)⟩, by simp [intOf]; omega⟩
      · have hkN : k = N.ml := by omega
        subst hkN
        go_wp2_with fail
        refine bodyPost_end (v := .tuple #[]) (by simp [results, go_sem]) rfl ⟨rfl, K0.out, ?_⟩
        obtain ⟨rfl, h2⟩ := K5.out (by omega)
        exact ⟨g, cp, K4.out, h2, K3.out⟩
end Go.Proofs.Ytlocmnaojebogaa.Nn
/- PLAIN: Run of a network that may be, over an input of its size. -/
namespace Go.Proofs.Ytlocmnaojebogaa.Nn
open Go.RowKit

set_option maxHeartbeats 1600000 in
set_option maxRecDepth 100000 in
theorem ready_ok (N : Nt) (ao : Option Addr) (n cap : Nat) (hz : chE N = 0) (hn : elN N.h N.v N.c = n) (w : World) (hN : NtW w N) :
    Calls Try.prog 35 #[ntv N, .slice ao n cap] w fun e w' => ∃ g, e = .returned (.tuple #[.slice (some ⟨g, 0, none⟩) N.ml N.ml, .int .i64 0]) ∧ w.heap.size ≤ g ∧ w'.rowIs g 42 (N.ml * 3) (shf N N.ml) ∧ Below w.heap.size w w' := by
  have HW := hid1 hN
  have HZ := hid1 hz
  have CE := hid1 (fun W => pelems_any N.h N.v N.c W)
  rw [hn] at CE
  clear hN hz hn
  obtain ⟨b, hb0⟩ : ∃ b, w.heap.size = b := ⟨_, rfl⟩
  go_enter Try.func35, Try.ntmps35
  go_wp2_with fail
  refine gen_calls (fun X => Below w.heap.size w X ∧ Nb X b N) ⟨by repeat (first | (with_reducible exact Below.refl _ _) | (with_reducible refine bl_alloc ?_ _) | (with_reducible refine Below.drew ?_) | (with_reducible refine bl_drewN ?_ _) | (with_reducible refine bl_set ?_ (by omega) _) | (with_reducible refine bl_step ?_ (by assumption))), by rw [← hb0]; exact nb_new _ _ _⟩ ?_
  rintro X ⟨BX, NX⟩
  have CS := nshapes_any N X (HW.out.keep BX)
  rw [HZ.out] at CS
  refine CS.mono ?_
  rintro e w1 ⟨v, rfl, hb, hv⟩
  obtain ⟨g, hg, rfl, RG⟩ := hv.2 HZ.out
  have hgw : w.heap.size ≤ g := Nat.le_trans BX.size hg
  replace BX := bl_step BX hb
  replace NX := NX.keep hb
  have HR := hid1 RG
  clear hb hv CS hg RG
  obtain ⟨n0, n1, n2, n3, n4⟩ := NX
  go_wp2_with fail
  refine (CE.out w1).mono ?_
  rintro e w2 ⟨rfl, hb⟩
  replace BX := bl_step BX hb
  replace HR := hid1 (World.rowIs.of_block HR.out (hb.block _ (World.rowIs.lt HR.out)))
  clear hb
  go_wp2_with fail
  go_ret2
  exact ⟨g, rfl, hgw, HR.out, BX⟩
/-- Result's two cells. -/
def rsf (xo : Option Addr) (m c : Nat) (a : Int) : Nat → Value := fun i => if i = 0 then .slice xo m c else .int .i64 a
theorem cell_two' {Y : World} {b c i j k : Nat} {u v x : Value} (h : Y.cell? ⟨b, i, none⟩ = some x) (hn : b ≠ c) : ((Y.setCell ⟨c, j, none⟩ u).setCell ⟨c, k, none⟩ v).drew.cell? ⟨b, i, none⟩ = some x := by
  have e : ((Y.setCell ⟨c, j, none⟩ u).setCell ⟨c, k, none⟩ v).heap[b]? = Y.heap[b]? := by rw [Below.heap_setCell _ _ _ _ (by show b ≠ c; exact hn), Below.heap_setCell _ _ _ _ (by show b ≠ c; exact hn)]
  exact (World.cell?_of_block (w := Y) e).trans h
theorem rs_new (W : World) (xo : Option Addr) (m c : Nat) (a : Int) (t : TypeId) : (W.alloc (.cells #[.slice xo m c, .int .i64 a] t)).rowIs W.heap.size t 2 (rsf xo m c a) :=
  World.rowIs_alloc W _ t _ fun i hi => by
    rcases i with _ | _ | i
    · rfl
    · rfl
    · simp at hi; omega
set_option maxHeartbeats 3200000 in
set_option maxRecDepth 100000 in
theorem prun_ok (N : Nt) (sz : Nat → Nat) (val : Nat → Nat → Int) (hz : chE N = 0) (hn : elN N.h N.v N.c = sz 0) (hwk : ∀ i, i < N.ml → Wrk N sz val i) (hsm : sz N.ml ≤ 16777216) (ao : Option Addr) (cap : Nat) (f : Nat → Int) (hf : ∀ j, j < sz 0 → s8 (f j) = val 0 j) (w : World) (hN : NtW w N) (hx : RB w ao (sz 0) f) :
    Calls Try.prog 14 #[ntv N, .slice ao (sz 0) cap] w fun e w' => ∃ g cp, e = .returned (.tuple #[.agg #[.slice (some ⟨g, 0, none⟩) (sz N.ml) cp, .int .i64 (grV (val N.ml) (sz N.ml))], .int .i64 0]) ∧ w.heap.size ≤ g ∧ R64 w' (some ⟨g, 0, none⟩) (sz N.ml) (val N.ml) ∧ Below w.heap.size w w' := by
  have HW := hid1 hN
  have HX := hid1 hx
  have hml : 1 ≤ N.ml ∧ N.ml ≤ 64 := by
    have h0 : whE N = 0 := by
      unfold chE at hz
      by_cases h0 : whE N = 0
      · exact h0
      · rw [if_neg h0] at hz; exact absurd hz h0
    exact (wh_parts h0).2.2
  have hs0 : sz 0 ≤ 16777216 := by have := el_bd N.h N.v N.c; omega
  have CR := hid1 (fun W (h : Below w.heap.size w W) => ready_ok N ao (sz 0) cap hz hn W (HW.out.keep h))
  have CP := hid1 (fun gs cb u0 W (h : Below w.heap.size w W) => fun h1 h2 h3 => pass_any N sz val hml hwk ao cap f hs0 hf gs cb u0 W (HW.out.keep h) (HX.out.keep h) h1 h2 h3)
  clear hN hx hz hn hwk hf
  obtain ⟨b, hb0⟩ : ∃ b, w.heap.size = b := ⟨_, rfl⟩
  go_enter Try.func14, Try.ntmps14
  go_wp2_with fail
  refine gen_calls (fun X => Below w.heap.size w X ∧ Nb X b N ∧ X.rowIs (b + 1) 57 2 (rsf none 0 0 0)) ⟨by repeat (first | (with_reducible exact Below.refl _ _) | (with_reducible refine bl_alloc ?_ _) | (with_reducible refine Below.drew ?_) | (with_reducible refine bl_drewN ?_ _) | (with_reducible refine bl_set ?_ (by omega) _) | (with_reducible refine bl_step ?_ (by assumption))), by rw [← hb0]; exact (nb_new _ _ _).keep (bl_alloc (Below.refl _ _) _), by have := rs_new (w.alloc (.cells #[.string N.nm, .int .i64 N.h, .int .i64 N.v, .int .i64 N.c, .slice N.al N.ml N.cl] 45)) none 0 0 0 57; rw [show (w.alloc (.cells #[.string N.nm, .int .i64 N.h, .int .i64 N.v, .int .i64 N.c, .slice N.al N.ml N.cl] 45)).heap.size = b + 1 by simp [hb0]] at this; exact this⟩ ?_
  rintro X ⟨BX, NX, RX⟩
  refine (CR.out X BX).mono ?_
  rintro e w1 ⟨gs, rfl, hgs, RS, hb⟩
  replace BX := bl_step BX hb
  replace NX := NX.keep hb
  replace RX := World.rowIs.of_block RX (hb.block _ RX.lt)
  clear hb CR
  obtain ⟨cb, hcb⟩ : ∃ c, w1.heap.size = c := ⟨_, rfl⟩
  go_upto_region 5 with fail
  have lgs := RS.lt
  have lRX := RX.lt
  refine gen_world (fun Y => Below w.heap.size w Y ∧ Nb Y b N ∧ Y.rowIs (b + 1) 57 2 (rsf none 0 0 0) ∧ Y.rowIs gs 42 (N.ml * 3) (shf N N.ml) ∧ Y.rowIs cb 23 1 (fun _ => .slice none 0 0) ∧ gs < cb ∧ b + 1 < cb) ⟨by repeat (first | (with_reducible exact Below.refl _ _) | (with_reducible refine bl_alloc ?_ _) | (with_reducible refine Below.drew ?_) | (with_reducible refine bl_drewN ?_ _) | (with_reducible refine bl_set ?_ (by omega) _) | (with_reducible refine bl_step ?_ (by assumption))), NX.keep (bl_alloc (Below.refl _ _) _), RX.alloc _, RS.alloc _, by rw [← hcb]; exact World.rowIs_alloc w1 #[.slice none 0 0] 23 _ (fun i hi => by simp at hi; subst hi; rfl), by omega, by omega⟩ ?_
  clear BX NX RX RS hcb lgs lRX
  rintro Y ⟨BY, NY, RY, SY, CY, hgc, hbc⟩
  have C1 := CP.out gs cb (.slice none 0 0) Y BY SY CY (fun Z hZ => ⟨HW.out.keep (gr_bel hZ BY (fun k e => by cases e; omega)), World.rowIs.of_block SY (hZ.block gs SY.lt (fun e => by cases e; omega))⟩)
  obtain ⟨n0, n1, n2, n3, n4⟩ := NY
  have HRY := hid1 RY
  have HBY := hid1 BY
  have lRY := RY.lt
  clear RY SY CY BY
  go_wp2_with fail
  refine C1.mono ?_
  rintro e y1 ⟨rfl, gr, g, cp, RC, hg, RR⟩
  have BY1 := hid1 (gr_bel gr HBY.out (fun k e => by cases e; omega))
  have HRR := hid1 (World.rowIs.of_block HRY.out (gr.block (b + 1) lRY (fun e => by cases e; omega)))
  have gw : w.heap.size ≤ g := by have := HBY.out.size; omega
  have gn : b + 1 < g := by omega
  have c0 := RC.cell (i := 0) (by decide)
  have CG := hid1 (greatest_any (some ⟨g, 0, none⟩) (sz N.ml) cp (val N.ml) y1.drew hsm RR)
  have HR64 := hid1 RR
  clear gr RC hg RR C1 HBY HRY n0 n1 n2 n3 n4
  have r0 := HRR.out.cell (i := 0) (by decide)
  have r1 := HRR.out.cell (i := 1) (by decide)
  have f0 := HRR.out.frozen 0
  have f1 := HRR.out.frozen 1
  have hl1 := HRR.out.lt
  go_upto_region 6 with fail
  refine still_tailP 4 (by kernel_rfl) ?_
  simp only [List.take_succ_cons, List.take_zero, List.drop_succ_cons, List.drop_zero]
  repeat still_step
  still_call CG.out
  repeat still_step
  refine wpStill_nil ?_
  go_wp2
  refine bodyPost_ret (v := .tuple #[.agg #[.slice (some ⟨g, 0, none⟩) (sz N.ml) cp, .int .i64 (grV (val N.ml) (sz N.ml))], .int .i64 0]) (by simp [results, Try.results14, go_sem, *]) rfl ⟨g, cp, rfl, gw, fun j hj => ?_, ?_⟩
  · obtain ⟨g2, o2, e2, q2⟩ := HR64.out j hj
    cases e2
    exact ⟨g, 0, rfl, cell_two' q2 (by omega)⟩
  · have := BY1.out
    exact (bl_set (bl_set this (by omega) _) (by omega) _).drew
end Go.Proofs.Ytlocmnaojebogaa.Nn
