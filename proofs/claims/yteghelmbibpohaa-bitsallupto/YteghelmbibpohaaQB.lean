import Derived.Test.YteghelmbibpohaaQA
import Derived.BigQuiet
import Derived.Test.YteghelmbibpohaaBW43
import Derived.Deep.RegionHeld3
/- The whole Hand: its blocks, what stands in them. -/
namespace Go.Proofs.Yteghelmbibpohaa
open Go.RowKit

/-- All blocks of the Hand, what stands in each; all of them lie in S. -/
structure Hk (w : World) (S : Nat → Prop) (hb ga ca gb cb gs cs gr cr : Nat) (vw : Value) (gw lw : Nat) (gi ci : Nat → Nat) (fa fb fs fr : Nat → Value) (ff : Nat → Nat → Value) : Prop where
  h : Hd w hb (.slice (some ⟨ga, 0, none⟩) ca ca) (.slice (some ⟨gb, 0, none⟩) cb cb) (.slice (some ⟨gs, 0, none⟩) cs cs) vw (.slice (some ⟨gr, 0, none⟩) cr cr)
  a : w.rowIs ga 35 ca fa
  b : w.rowIs gb 35 cb fb
  s : w.rowIs gs 24 cs fs
  r : w.rowIs gr 27 (cr * 2) fr
  d : Wd w vw gw lw gi ci ff
  mx : ca ≤ maxLen ∧ cb ≤ maxLen ∧ cs ≤ maxLen ∧ cr ≤ maxLen ∧ lw ≤ 1048576
  ap : ga ≠ gb ∧ (∀ j, j < lw → ga ≠ gi j) ∧ ∀ j, j < lw → gb ≠ gi j
  lo : S hb ∧ S ga ∧ S gb ∧ S gs ∧ S gr ∧ (vw = .slice none 0 0 ∨ S gw) ∧ ∀ j, j < lw → S (gi j)
section
variable {w w1 : World} {S : Nat → Prop} {hb ga ca gb cb gs cs gr cr gw lw : Nat} {vw : Value} {gi ci : Nat → Nat} {fa fb fs fr f : Nat → Value} {ff : Nat → Nat → Value}
theorem Wd.keep' {g T n : Nat} {F : Nat → Value} (h : Wd w vw gw lw gi ci ff) (hr : w.rowIs g T n F) (hT : T ≠ 25) (hb : But g w w1) (h2 : ∀ j, j < lw → gi j ≠ g) : Wd w1 vw gw lw gi ci ff :=
  ⟨by
    rcases h.val with h | ⟨cw, f, e, k1, k2, k3, k4⟩
    · exact .inl h
    · exact .inr ⟨cw, f, e, k1, k2, hb.row (row_ne k3 hr (Ne.symm hT)) k3, k4⟩, fun j hj => hb.row (h2 j hj) (h.row j hj), h.max, h.inj⟩
theorem Hk.onA (h : Hk w S hb ga ca gb cb gs cs gr cr vw gw lw gi ci fa fb fs fr ff) (hu : But ga w w1) (hr : w1.rowIs ga 35 ca f) : Hk w1 S hb ga ca gb cb gs cs gr cr vw gw lw gi ci f fb fs fr ff :=
  ⟨hu.row (row_ne h.h h.a (by decide)) h.h, hr, hu.row h.ap.1.symm h.b, hu.row (row_ne h.s h.a (by decide)) h.s, hu.row (row_ne h.r h.a (by decide)) h.r, h.d.keep' h.a (by decide) hu fun j hj => (h.ap.2.1 j hj).symm, h.mx, h.ap, h.lo⟩
theorem Hk.onB (h : Hk w S hb ga ca gb cb gs cs gr cr vw gw lw gi ci fa fb fs fr ff) (hu : But gb w w1) (hr : w1.rowIs gb 35 cb f) : Hk w1 S hb ga ca gb cb gs cs gr cr vw gw lw gi ci fa f fs fr ff :=
  ⟨hu.row (row_ne h.h h.b (by decide)) h.h, hu.row h.ap.1 h.a, hr, hu.row (row_ne h.s h.b (by decide)) h.s, hu.row (row_ne h.r h.b (by decide)) h.r, h.d.keep' h.b (by decide) hu fun j hj => (h.ap.2.2 j hj).symm, h.mx, h.ap, h.lo⟩
theorem Hk.onS (h : Hk w S hb ga ca gb cb gs cs gr cr vw gw lw gi ci fa fb fs fr ff) (hu : But gs w w1) (hr : w1.rowIs gs 24 cs f) : Hk w1 S hb ga ca gb cb gs cs gr cr vw gw lw gi ci fa fb f fr ff :=
  ⟨hu.row (row_ne h.h h.s (by decide)) h.h, hu.row (row_ne h.a h.s (by decide)) h.a, hu.row (row_ne h.b h.s (by decide)) h.b, hr, hu.row (row_ne h.r h.s (by decide)) h.r, h.d.keep' h.s (by decide) hu fun j hj => row_ne (h.d.row j hj) h.s (by decide), h.mx, h.ap, h.lo⟩
theorem Hk.onR (h : Hk w S hb ga ca gb cb gs cs gr cr vw gw lw gi ci fa fb fs fr ff) (hu : But gr w w1) (hr : w1.rowIs gr 27 (cr * 2) f) : Hk w1 S hb ga ca gb cb gs cs gr cr vw gw lw gi ci fa fb fs f ff :=
  ⟨hu.row (row_ne h.h h.r (by decide)) h.h, hu.row (row_ne h.a h.r (by decide)) h.a, hu.row (row_ne h.b h.r (by decide)) h.b, hu.row (row_ne h.s h.r (by decide)) h.s, hr, h.d.keep' h.r (by decide) hu fun j hj => row_ne (h.d.row j hj) h.r (by decide), h.mx, h.ap, h.lo⟩
theorem Hk.onW (h : Hk w S hb ga ca gb cb gs cs gr cr vw gw lw gi ci fa fb fs fr ff) {i : Nat} (hi : i < lw) (hu : But (gi i) w w1) (hr : w1.rowIs (gi i) 35 (ci i) f) : Hk w1 S hb ga ca gb cb gs cs gr cr vw gw lw gi ci fa fb fs fr (upd ff i f) :=
  ⟨hu.row (row_ne h.h (h.d.row i hi) (by decide)) h.h, hu.row (h.ap.2.1 i hi) h.a, hu.row (h.ap.2.2 i hi) h.b, hu.row (row_ne h.s (h.d.row i hi) (by decide)) h.s, hu.row (row_ne h.r (h.d.row i hi) (by decide)) h.r,
   ⟨by
    rcases h.d.val with h | ⟨cw, f, e, k1, k2, k3, k4⟩
    · exact .inl h
    · exact .inr ⟨cw, f, e, k1, k2, hu.row (row_ne k3 (h.d.row i hi) (by decide)) k3, k4⟩, fun j hj => by
      by_cases e : j = i
      · subst e; rw [upd_same]; exact hr
      · rw [upd_other _ _ _ e]; exact hu.row (fun he => e (h.d.inj j i hj hi he)) (h.d.row j hj), h.d.max, h.d.inj⟩, h.mx, h.ap, h.lo⟩
theorem Hk.bp {T : Nat → Prop} (h : Hk w S hb ga ca gb cb gs cs gr cr vw gw lw gi ci fa fb fs fr ff) (hu : BP T w w1) (hT : ∀ b, S b → ¬ T b) : Hk w1 S hb ga ca gb cb gs cs gr cr vw gw lw gi ci fa fb fs fr ff :=
  ⟨hu.row (hT _ h.lo.1) h.h, hu.row (hT _ h.lo.2.1) h.a, hu.row (hT _ h.lo.2.2.1) h.b, hu.row (hT _ h.lo.2.2.2.1) h.s, hu.row (hT _ h.lo.2.2.2.2.1) h.r,
   ⟨by
    rcases h.d.val with k | ⟨cw, f, e, k1, k2, k3, k4⟩
    · exact .inl k
    · refine .inr ⟨cw, f, e, k1, k2, hu.row ?_ k3, k4⟩
      rcases h.lo.2.2.2.2.2.1 with e2 | e2
      · rw [e] at e2; injection e2 with e2; cases e2
      · exact hT _ e2, fun j hj => hu.row (hT _ (h.lo.2.2.2.2.2.2 j hj)) (h.d.row j hj), h.d.max, h.d.inj⟩, h.mx, h.ap, h.lo⟩
theorem Hk.below (h : Hk w S hb ga ca gb cb gs cs gr cr vw gw lw gi ci fa fb fs fr ff) (hu : Below w.heap.size w w1) : Hk w1 S hb ga ca gb cb gs cs gr cr vw gw lw gi ci fa fb fs fr ff :=
  h.bp (BP.bel (S := fun _ => False) hu) fun _ _ h => h
theorem Hk.toR (h : Hk w S hb ga ca gb cb gs cs gr cr vw gw lw gi ci fa fb fs fr ff) (hf : ∀ k, k < cr * 2 → fr k = f k) : Hk w S hb ga ca gb cb gs cs gr cr vw gw lw gi ci fa fb fs f ff :=
  ⟨h.h, h.a, h.b, h.s, h.r.congr hf, h.d, h.mx, h.ap, h.lo⟩
theorem Hk.toS (h : Hk w S hb ga ca gb cb gs cs gr cr vw gw lw gi ci fa fb fs fr ff) (hf : ∀ k, k < cs → fs k = f k) : Hk w S hb ga ca gb cb gs cs gr cr vw gw lw gi ci fa fb f fr ff :=
  ⟨h.h, h.a, h.b, h.s.congr hf, h.r, h.d, h.mx, h.ap, h.lo⟩
theorem BP.on {T : Nat → Prop} {g : Nat} (h : BP T w w1) {w2 : World} (hu : But g w1 w2) (hg : T g) : BP T w w2 := h.trans (BP.but hu) fun _ _ e => by rw [e]; exact hg
theorem But.self (g o : Nat) (v : Value) : But g w (w.setCell ⟨g, o, none⟩ v) := (But.refl g w).set v
end
/-- The operation's own blocks are none of S. -/
structure Ob (S : Nat → Prop) (o : Oq) (ao bo lo ro : Option Addr) (ad : Nat → Option Addr) : Prop where
  a : ∀ p, ao = some p → 0 < o.m1 → ¬ S p.block
  b : ∀ p, bo = some p → 0 < o.m2 → ¬ S p.block
  l : ∀ p, lo = some p → 0 < o.l.length → ¬ S p.block
  r : ∀ p, ro = some p → 0 < o.J → ¬ S p.block
  d : ∀ j, j < o.J → ∀ p, ad j = some p → 0 < o.m j → ¬ S p.block
theorem R8.bp {S : Nat → Prop} {w w' : World} {ao : Option Addr} {l : List Int} (h : R8 w ao l) (hb : BP S w w') (hs : ∀ p, ao = some p → 0 < l.length → ¬ S p.block) : R8 w' ao l :=
  fun k hk => by
    obtain ⟨g, o, e, c⟩ := h k hk
    exact ⟨g, o, e, hb.cell (hs ⟨g, o, none⟩ e (by omega)) c⟩
theorem Ow.bp {S : Nat → Prop} {w w' : World} {o : Oq} {ao bo lo ro : Option Addr} {ca cb : Nat} {ad : Nat → Option Addr} {cp : Nat → Nat} (h : Ow w o ao ca bo cb lo ro ad cp) (hu : BP S w w') (hs : Ob S o ao bo lo ro ad) : Ow w' o ao ca bo cb lo ro ad cp :=
  ⟨h.a.bp hu hs.a, h.am, h.az, h.b.bp hu hs.b, h.bm, h.bz, h.l.bp hu hs.l, h.lm, h.r.bp hu hs.r hs.d, h.rm, h.rz, h.jm, h.f⟩
/-- The nine cells of an operation. -/
def opf (kd n1 : Int) (ao : Option Addr) (m1 ca : Nat) (n2 : Int) (bo : Option Addr) (m2 cb : Nat) (lo : Option Addr) (ll lc : Nat) (ro : Option Addr) (J rc : Nat) (fr to_ : Int) : Nat → Value := fun k =>
  if k = 0 then .int .i64 kd else if k = 1 then .int .i64 n1 else if k = 2 then .slice ao m1 ca else if k = 3 then .int .i64 n2 else if k = 4 then .slice bo m2 cb else if k = 5 then .slice lo ll lc else if k = 6 then .slice ro J rc else if k = 7 then .int .i64 fr else .int .i64 to_
theorem op_new (w : World) (kd n1 : Int) (ao : Option Addr) (m1 ca : Nat) (n2 : Int) (bo : Option Addr) (m2 cb : Nat) (lo : Option Addr) (ll lc : Nat) (ro : Option Addr) (J rc : Nat) (fr to_ : Int) (t : TypeId) :
    (w.alloc (.cells #[.int .i64 kd, .int .i64 n1, .slice ao m1 ca, .int .i64 n2, .slice bo m2 cb, .slice lo ll lc, .slice ro J rc, .int .i64 fr, .int .i64 to_] t)).rowIs w.heap.size t 9 (opf kd n1 ao m1 ca n2 bo m2 cb lo ll lc ro J rc fr to_) :=
  World.rowIs_alloc w _ t _ (fun i hi => by
    rcases i with _ | _ | _ | _ | _ | _ | _ | _ | _ | i
    all_goals first
      | rfl
      | (simp at hi; omega))
theorem op_cells {w : World} {b t : Nat} {kd n1 : Int} {ao : Option Addr} {m1 ca : Nat} {n2 : Int} {bo : Option Addr} {m2 cb : Nat} {lo : Option Addr} {ll lc : Nat} {ro : Option Addr} {J rc : Nat} {fr to_ : Int} (h : w.rowIs b t 9 (opf kd n1 ao m1 ca n2 bo m2 cb lo ll lc ro J rc fr to_)) :
    w.cell? ⟨b, 0, none⟩ = some (.int .i64 kd) ∧ w.cell? ⟨b, 1, none⟩ = some (.int .i64 n1) ∧ w.cell? ⟨b, 2, none⟩ = some (.slice ao m1 ca) ∧ w.cell? ⟨b, 3, none⟩ = some (.int .i64 n2) ∧ w.cell? ⟨b, 4, none⟩ = some (.slice bo m2 cb) ∧ w.cell? ⟨b, 5, none⟩ = some (.slice lo ll lc) ∧ w.cell? ⟨b, 6, none⟩ = some (.slice ro J rc) ∧ w.cell? ⟨b, 7, none⟩ = some (.int .i64 fr) ∧ w.cell? ⟨b, 8, none⟩ = some (.int .i64 to_) :=
  ⟨h.cell (by omega), h.cell (by omega), h.cell (by omega), h.cell (by omega), h.cell (by omega), h.cell (by omega), h.cell (by omega), h.cell (by omega), h.cell (by omega)⟩
/-- The Hand, filled with an operation's arguments. -/
structure Hm (w : World) (o : Oq) (S : Nat → Prop) (hb ga ca gb cb gs cs gr cr : Nat) (vw : Value) (gw lw : Nat) (gi ci : Nat → Nat) (ff : Nat → Nat → Value) : Prop where
  k : Hk w S hb ga ca gb cb gs cs gr cr vw gw lw gi ci (fwf o.A o.m1) (fwf o.B o.m2) (nmf o.l) (lsf o.n o.m o.J gi ci) ff
  am : o.m1 + 2 ≤ ca
  bm : o.m2 + 2 ≤ cb
  sm : o.l.length + 2 ≤ cs
  rm : o.J + 1 ≤ cr
  dl : o.J ≤ lw
  dn : ∀ j, j < o.J → ff j = fwf (o.N j) (o.m j) ∧ o.m j + 2 ≤ ci j
/-- The Hand, whatever stands in it: nothing yet, or blocks of S. -/
def Hi (w : World) (S : Nat → Prop) (hb : Nat) : Prop :=
  (Hd w hb (.slice none 0 0) (.slice none 0 0) (.slice none 0 0) (.slice none 0 0) (.slice none 0 0) ∧ S hb) ∨ ∃ ga ca gb cb gs cs gr cr vw gw lw gi ci fa fb fs fr ff, Hk w S hb ga ca gb cb gs cs gr cr vw gw lw gi ci fa fb fs fr ff
end Go.Proofs.Yteghelmbibpohaa
/- Hand.kept. -/
namespace Go.Proofs.Yteghelmbibpohaa
open Go.RowKit

/-- The first k small numbers are written over. -/
def sgk (f : Nat → Value) (k : Nat) : Nat → Value := fun j => if j < k then .int .i8 (-99) else f j
theorem sgk_step {w : World} {g c k : Nat} {f : Nat → Value} (h : w.rowIs g 24 c (sgk f k)) : (w.setCell ⟨g, k, none⟩ (.int .i8 (-99))).rowIs g 24 c (sgk f (k + 1)) := by
  refine (h.set k _).congr fun j _ => ?_
  unfold sgk
  by_cases e : j = k
  · subst e; simp
  · rw [if_neg e]
    by_cases h : j < k
    · rw [if_pos h, if_pos (by omega)]
    · rw [if_neg h, if_neg (by omega)]
/-- The first k rows are written over. -/
def rwk (f : Nat → Value) (k : Nat) : Nat → Value := fun p => if p / 2 < k then (if p % 2 = 0 then .int .i64 (-99) else .slice none 0 0) else f p
theorem rwk_step {w : World} {g c k : Nat} {f : Nat → Value} (h : w.rowIs g 27 c (rwk f k)) :
    ((w.setCell ⟨g, k * 2, none⟩ (.int .i64 (-99))).setCell ⟨g, k * 2 + 1, none⟩ (.slice none 0 0)).rowIs g 27 c (rwk f (k + 1)) :=
  ((h.set (k * 2) _).set (k * 2 + 1) _).congr fun p hp => by
    by_cases h1 : p = k * 2 + 1
    · rw [if_pos h1]; subst h1
      unfold rwk
      rw [if_pos (by omega), if_neg (by omega)]
    · rw [if_neg h1]
      by_cases h2 : p = k * 2
      · rw [if_pos h2]; subst h2
        unfold rwk
        rw [if_pos (by omega), if_pos (by omega)]
      · rw [if_neg h2]
        unfold rwk
        by_cases h3 : p / 2 < k
        · rw [if_pos h3, if_pos (show p / 2 < k + 1 by omega)]
        · rw [if_neg h3, if_neg (show ¬ p / 2 < k + 1 by omega)]
theorem bl_drewN' (w : World) (n : Nat) : Below w.heap.size w (w.drewN n) := by
  have h : But w.heap.size w (w.drewN n) := (But.refl _ w).drewN n
  exact ⟨h.os, h.tape, h.output, h.size, fun k hk => h.block k hk (by omega)⟩
theorem BP.step {S : Nat → Prop} {a b c : World} (h : BP S a b) (k : Below b.heap.size b c) : BP S a c := h.trans (BP.bel (S := fun _ => False) k) fun _ _ h => h.elim
set_option maxHeartbeats 3200000 in
set_option maxRecDepth 100000 in
theorem kept_hand (kd n1 : Int) (m1 A : Nat) (n2 : Int) (m2 B : Nat) (l : List Int) (ll : Nat) (hll : l.length = ll) (J : Nat) (n : Nat → Int) (m N : Nat → Nat) (fr to_ : Int) (S : Nat → Prop) (hb ga ca gb cb gs cs gr cr : Nat) (vw : Value) (gw lw : Nat) (gi ci : Nat → Nat) (ff : Nat → Nat → Value) (ao : Option Addr) (ka : Nat) (bo : Option Addr) (kb : Nat) (lo : Option Addr) (kl : Nat) (ro : Option Addr) (kr : Nat) (ad : Nat → Option Addr) (cp : Nat → Nat) (w : World)
    (hz : ¬ S w.heap.size) (hs : Hm w ⟨kd, n1, m1, A, n2, m2, B, l, J, n, m, N, fr, to_⟩ S hb ga ca gb cb gs cs gr cr vw gw lw gi ci ff) (ho : Ow w ⟨kd, n1, m1, A, n2, m2, B, l, J, n, m, N, fr, to_⟩ ao ka bo kb lo ro ad cp) (hob : Ob S ⟨kd, n1, m1, A, n2, m2, B, l, J, n, m, N, fr, to_⟩ ao bo lo ro ad) :
    Calls Try.prog 43 #[.pointer (some ⟨hb, 0, none⟩), ov kd n1 ao m1 ka n2 bo m2 kb lo ll kl ro J kr fr to_] w fun e w' => e = .returned (.bool true) ∧ Hi w' S hb ∧ BP S w w' := by
  have HO := hid1 ho
  have HB := hid1 hob
  have HS := hid1 hs
  have HZ := hid1 hz
  have HL := hid1 hll
  clear ho hob hs hz hll
  go_enter Try.func43, Try.ntmps43
  go_upto_region 1 with fail
  refine gen_world (fun W => Below w.heap.size w W ∧ W.rowIs w.heap.size 55 9 (opf kd n1 ao m1 ka n2 bo m2 kb lo ll kl ro J kr fr to_)) ⟨bl_alloc (Below.refl _ _) _, op_new _ _ _ _ _ _ _ _ _ _ _ _ _ _ _ _ _ _ _⟩ ?_
  rintro W ⟨B0, r0⟩
  have hk := HS.out.k.below B0
  have hP : BP S w W := BP.bel B0
  have x0 : W.cell? ⟨hb, 0, none⟩ = some (.slice (some ⟨ga, 0, none⟩) ca ca) := hk.h.cell (by omega)
  obtain ⟨_, _, b2, _, b4, b5, b6, _, _⟩ := op_cells r0
  have HK := hid1 hk
  have HR0 := hid1 r0
  clear hk r0 b4 b5 b6
  refine still_tail 7 (by kernel_rfl) ?_
  simp only [List.take_succ_cons, List.take_zero, List.drop_succ_cons, List.drop_zero]
  repeat still_step
  refine wpStill_nil ?_
  go_upto_region 2 with (go_at_call 59; refine gen_calls (fun X => Below W.heap.size W X) (Below.drew (Below.refl _ _)) ?_; intro X hX; refine (asFilled_any ga ca m1 A ka ao X HO.out.am HK.out.mx.1 (HK.out.below hX).a (HO.out.a.bp (hP.step hX) HB.out.a) (fun b o he h hbg => HB.out.a _ he h (by rw [hbg]; exact HK.out.lo.2.1))).mono ?_; rintro e w1 ⟨rfl, hrow1, hbut1⟩)
  have hk1 := (HK.out.below hX).onA hbut1 hrow1
  have hP1 := (hP.step hX).on hbut1 HK.out.lo.2.1
  have r1 := (BP.bel hX : BP S W X).on hbut1 HK.out.lo.2.1 |>.row HZ.out HR0.out
  clear HK HR0 hX hbut1 hrow1 hP x0 b2 B0
  obtain ⟨V, rfl⟩ : ∃ V, V = w1 := ⟨_, rfl⟩
  have x1 : V.cell? ⟨hb, 1, none⟩ = some (.slice (some ⟨gb, 0, none⟩) cb cb) := hk1.h.cell (by omega)
  obtain ⟨_, _, _, _, b4, _, _, _, _⟩ := op_cells r1
  have HK := hid1 hk1
  have HR := hid1 r1
  clear hk1 r1
  refine still_tail 7 (by kernel_rfl) ?_
  simp only [List.take_succ_cons, List.take_zero, List.drop_succ_cons, List.drop_zero]
  repeat still_step
  refine wpStill_nil ?_
  go_upto_region 3 with (go_at_call 59; refine gen_calls (fun X => Below V.heap.size V X) (Below.drew (Below.refl _ _)) ?_; intro X hX; refine (asFilled_any gb cb m2 B kb bo X HO.out.bm HK.out.mx.2.1 (HK.out.below hX).b (HO.out.b.bp (hP1.step hX) HB.out.b) (fun b o he h hbg => HB.out.b _ he h (by rw [hbg]; exact HK.out.lo.2.2.1))).mono ?_; rintro e w1 ⟨rfl, hrow1, hbut1⟩)
  have hk2 := (HK.out.below hX).onB hbut1 hrow1
  have hP2 := (hP1.step hX).on hbut1 HK.out.lo.2.2.1
  have r2 := (BP.bel hX : BP S V X).on hbut1 HK.out.lo.2.2.1 |>.row HZ.out HR.out
  clear HK HR hX hbut1 hrow1 hP1 x1 b4
  obtain ⟨U, rfl⟩ : ∃ U, U = w1 := ⟨_, rfl⟩
  have HK := hid1 (hk2.toS (f := sgk (nmf l) 0) fun k _ => by simp [sgk])
  have HR := hid1 r2
  have HP := hid1 hP2
  have hcs : cs ≤ 9223372036854775807 := by have := hk2.mx.2.2.1; unfold maxLen at this; omega
  have ics : (cs : Int) ≤ 9223372036854775807 := by omega
  have hcr : cr ≤ 9223372036854775807 := by have := hk2.mx.2.2.2.1; unfold maxLen at this; omega
  have icr : (cr : Int) ≤ 9223372036854775807 := by omega
  have il0 : (0 : Int) ≤ (ll : Int) := by omega
  have ilm : ll ≤ 1048576 := by have := HO.out.lm; have := HL.out; simp only at *; omega
  have ilm' : (ll : Int) ≤ 1048576 := by omega
  clear hk2 r2 hP2
  go_wp2_with fail
  go_loopw [5, 7] (fun s i wr => ∃ k : Nat, k ≤ cs ∧ i = .int .i64 k ∧ s = .bool true ∧ Hk wr S hb ga ca gb cb gs cs gr cr vw gw lw gi ci (fun _ => ee) (fun _ => ee) (sgk (nmf l) k) (lsf n m J gi ci) ff ∧ BP S w wr ∧ wr.rowIs w.heap.size 55 9 (opf kd n1 ao m1 ka n2 bo m2 kb lo ll kl ro J kr fr to_)) (fun _ i _ => cs - (intOf i).toNat)
  case atStart => exact ⟨0, Nat.zero_le _, rfl, rfl, HK.out, HP.out, HR.out⟩
  case round =>
    clear HK HP HR
    obtain ⟨k, hk, rfl, rfl, hkk, hP, hr⟩ := hrel
    have ik0 : (0 : Int) ≤ (k : Int) := by omega
    obtain ⟨_, _, _, _, _, b5, _, _, _⟩ := op_cells hr
    have x2 : wr.cell? ⟨hb, 2, none⟩ = some (.slice (some ⟨gs, 0, none⟩) cs cs) := hkk.h.cell (by omega)
    by_cases hlt : k < cs
    · have ik : (k : Int) < (cs : Int) := by omega
      have fw := hkk.s.frozen k
      have cw := hkk.s.cell hlt
      simp only [sgk, Nat.lt_irrefl, if_false, nmf, HL.out] at cw
      have HK := hid1 hkk
      have HP := hid1 hP
      have HR := hid1 hr
      clear hkk hP hr
      by_cases hkm : k < ll
      · have ikm : (k : Int) < (ll : Int) := by omega
        obtain ⟨b, o, hlo, c8⟩ := (HO.out.l.bp HP.out HB.out.l) k (by simp only; rw [HL.out]; exact hkm)
        subst hlo
        rw [if_pos hkm] at cw
        simp only at c8
        go_wp2_with fail
        have hk' := HK.out
        exact ⟨⟨k + 1, by omega, by go_num, rfl, hk'.onS (But.self _ _ _) (sgk_step hk'.s), HP.out.on (But.self _ _ _) hk'.lo.2.2.2.1, HR.out.setOther (a := ⟨gs, k, none⟩) (row_ne HR.out hk'.s (by decide)) _⟩, by simp [intOf]; omega⟩
      · have ikm : ¬ (k : Int) < (ll : Int) := by omega
        rw [if_neg hkm] at cw
        unfold mk8 at cw
        go_wp2_with fail
        have hk' := HK.out
        exact ⟨⟨k + 1, by omega, by go_num, rfl, hk'.onS (But.self _ _ _) (sgk_step hk'.s), HP.out.on (But.self _ _ _) hk'.lo.2.2.2.1, HR.out.setOther (a := ⟨gs, k, none⟩) (row_ne HR.out hk'.s (by decide)) _⟩, by simp [intOf]; omega⟩
    · have hkc : k = cs := by omega
      subst hkc
      have HK := hid1 hkk
      have HP := hid1 hP
      have HR := hid1 hr
      clear hkk hP hr
      obtain ⟨U, rfl⟩ : ∃ U, U = wr := ⟨_, rfl⟩
      have HF := hid1 (fun j (hj : j < J) => (HS.out.dn j hj).1)
      have hJl := HS.out.dl
      simp only at hJl
      have hJm := HO.out.jm
      simp only at hJm
      have iJ0 : (0 : Int) ≤ (J : Int) := by omega
      have iJm : (J : Int) ≤ 1048576 := by omega
      go_wp2_with fail
      go_loopw [5, 6, 9] (fun s z i wr => ∃ q : Nat, ∃ ff', q ≤ cr ∧ i = .int .i64 q ∧ s = .bool true ∧ z = .bool true ∧ Hk wr S hb ga ca gb cb gs k gr cr vw gw lw gi ci (fun _ => ee) (fun _ => ee) (sgk (nmf l) k) (rwk (lsf n m J gi ci) q) ff' ∧ (∀ j, q ≤ j → j < J → ff' j = fwf (N j) (m j)) ∧ BP S w wr ∧ wr.rowIs w.heap.size 55 9 (opf kd n1 ao m1 ka n2 bo m2 kb lo ll kl ro J kr fr to_)) (fun _ _ i _ => cr - (intOf i).toNat)
      case atStart => exact ⟨0, ff, Nat.zero_le _, rfl, rfl, rfl, HK.out.toR fun p _ => by simp [rwk], fun j _ hj => HF.out j hj, HP.out, HR.out⟩
      case round =>
        clear HK HP HR HF
        obtain ⟨q, ff', hq, rfl, rfl, rfl, hkk, hff, hP, hr⟩ := hrel
        have iq0 : (0 : Int) ≤ (q : Int) := by omega
        obtain ⟨_, _, _, _, _, _, b6, _, _⟩ := op_cells hr
        have x4 : wr.cell? ⟨hb, 4, none⟩ = some (.slice (some ⟨gr, 0, none⟩) cr cr) := hkk.h.cell (by omega)
        by_cases hlt : q < cr
        · have iq : (q : Int) < (cr : Int) := by omega
          have fw0 := hkk.r.frozen (q * 2)
          have fw1 := hkk.r.frozen (q * 2 + 1)
          have cw0 := hkk.r.cell (i := q * 2) (by omega)
          have cw1 := hkk.r.cell (i := q * 2 + 1) (by omega)
          have HK := hid1 hkk
          have HP := hid1 hP
          have HR := hid1 hr
          have HF := hid1 hff
          clear hkk hP hr hff
          by_cases hqJ : q < J
          · have iqJ : (q : Int) < (J : Int) := by omega
            have e0 : rwk (lsf n m J gi ci) q (q * 2) = .int .i64 (n q) := by
              unfold rwk lsf
              rw [if_neg (by omega), if_pos (by omega), if_pos (by omega), show q * 2 / 2 = q by omega]
            have e1 : rwk (lsf n m J gi ci) q (q * 2 + 1) = .slice (some ⟨gi q, 0, none⟩) (m q) (ci q) := by
              unfold rwk lsf
              rw [if_neg (by omega), if_pos (by omega), if_neg (by omega), show (q * 2 + 1) / 2 = q by omega]
            rw [e0] at cw0
            rw [e1] at cw1
            have hJo := HO.out.r.bp HP.out HB.out.r HB.out.d
            obtain ⟨gl, ol, rfl, d0, d1⟩ := hJo.at_ q hqJ
            simp only at d0 d1
            clear hJo
            go_upto_region 17 with fail
            go_quiet (fail)
            go_upto_region 18 with fail
            refine gen_world (fun X => Below wr.heap.size wr X) (bl_drewN' _ _) ?_
            intro Y hY
            have hqlw : q < lw := by omega
            have iqlw : (q : Int) < (lw : Int) := by omega
            have hk1 := HK.out.below hY
            obtain ⟨cw, fv, rfl, k1, k2, k3, k4⟩ : ∃ cw f, vw = .slice (some ⟨gw, 0, none⟩) lw cw ∧ lw ≤ cw ∧ cw ≤ maxLen ∧ Y.rowIs gw 25 cw f ∧ ∀ j, j < lw → f j = wsf gi ci j := by
              rcases hk1.d.val with ⟨_, e⟩ | h
              · omega
              · exact h
            have cwq : Y.cell? ⟨gw, q, none⟩ = some (.slice (some ⟨gi q, 0, none⟩) (ci q) (ci q)) := by
              have h := k3.cell (i := q) (by omega)
              rw [k4 q hqlw] at h
              exact h
            have x3 : Y.cell? ⟨hb, 3, none⟩ = some (.slice (some ⟨gw, 0, none⟩) lw cw) := hk1.h.cell (by omega)
            replace b6 := keepc hY b6
            replace d1 := keepc hY d1
            have hP1 := HP.out.step hY
            have HK1 := hid1 hk1
            have HR1 := hid1 (keepr hY HR.out)
            clear HK HR HP hk1 k3 k4 cw0 cw1 fw0 fw1 x4 d0
            refine still_tail 13 (by kernel_rfl) ?_
            simp only [List.take_succ_cons, List.take_zero, List.drop_succ_cons, List.drop_zero]
            repeat still_step
            refine wpStill_nil ?_
            go_upto_region 19 with (go_at_call 59; refine gen_calls (fun X => Below Y.heap.size Y X) (Below.drew (Below.refl _ _)) ?_; intro X hX; refine (asFilled_any (gi q) (ci q) (m q) (N q) (cp q) (ad q) X (HO.out.rm q hqJ) (HK1.out.d.max q hqlw) (by rw [← HF.out q (Nat.le_refl _) hqJ]; exact (HK1.out.below hX).d.row q hqlw) ((HO.out.r.rd q hqJ).bp (hP1.step hX) (HB.out.d q hqJ)) (fun b o he h hbg => HB.out.d q hqJ _ he h (by rw [hbg]; exact HK1.out.lo.2.2.2.2.2.2 q hqlw))).mono ?_; rintro e w1 ⟨rfl, hrow1, hbut1⟩)
            have hk2 := (HK1.out.below hX).onW hqlw hbut1 hrow1
            have hP2 := (hP1.step hX).on hbut1 (HK1.out.lo.2.2.2.2.2.2 q hqlw)
            have r2 := (BP.bel hX : BP S Y X).on hbut1 (HK1.out.lo.2.2.2.2.2.2 q hqlw) |>.row HZ.out HR1.out
            clear HK1 HR1 hX hbut1 hrow1 hP1 x3 b6 d1 cwq
            have x4 : w1.cell? ⟨hb, 4, none⟩ = some (.slice (some ⟨gr, 0, none⟩) cr cr) := hk2.h.cell (by omega)
            have fw0 := hk2.r.frozen (q * 2)
            have fw1 := hk2.r.frozen (q * 2 + 1)
            have cw0 := hk2.r.cell (i := q * 2) (by omega)
            have cw1 := hk2.r.cell (i := q * 2 + 1) (by omega)
            rw [e0] at cw0
            rw [e1] at cw1
            have HK := hid1 hk2
            have HR := hid1 r2
            clear hk2 r2
            go_wp2_with fail
            have hk' := HK.out
            have k1 := hk'.onR ((But.self gr (q * 2) (.int .i64 (-99))).set (o := q * 2 + 1) (.slice none 0 0)) (rwk_step hk'.r)
            refine ⟨⟨q + 1, _, by omega, by go_num, rfl, rfl, k1, fun j hj hJ => ?_, hP2.on ((But.self gr (q * 2) (.int .i64 (-99))).set (o := q * 2 + 1) (.slice none 0 0)) hk'.lo.2.2.2.2.1, (HR.out.setOther (a := ⟨gr, q * 2, none⟩) (row_ne HR.out hk'.r (by decide)) _).setOther (a := ⟨gr, q * 2 + 1, none⟩) (row_ne HR.out hk'.r (by decide)) _⟩, by simp [intOf]; omega⟩
            rw [upd_other _ _ _ (by omega)]
            exact HF.out j (by omega) hJ
          · have iqJ : (J : Int) ≤ (q : Int) := by omega
            have e0 : rwk (lsf n m J gi ci) q (q * 2) = .int .i64 (-77) := by
              unfold rwk lsf
              rw [if_neg (by omega), if_neg (by omega), if_pos (by omega)]
            have e1 : rwk (lsf n m J gi ci) q (q * 2 + 1) = .slice none 0 0 := by
              unfold rwk lsf
              rw [if_neg (by omega), if_neg (by omega), if_neg (by omega)]
            rw [e0] at cw0
            rw [e1] at cw1
            go_wp2_with fail
            have hk' := HK.out
            have k1 := hk'.onR ((But.self gr (q * 2) (.int .i64 (-99))).set (o := q * 2 + 1) (.slice none 0 0)) (rwk_step hk'.r)
            refine ⟨⟨q + 1, ff', by omega, by go_num, rfl, rfl, k1, fun j hj hJ => HF.out j (by omega) hJ, HP.out.on ((But.self gr (q * 2) (.int .i64 (-99))).set (o := q * 2 + 1) (.slice none 0 0)) hk'.lo.2.2.2.2.1, (HR.out.setOther (a := ⟨gr, q * 2, none⟩) (row_ne HR.out hk'.r (by decide)) _).setOther (a := ⟨gr, q * 2 + 1, none⟩) (row_ne HR.out hk'.r (by decide)) _⟩, by simp [intOf]; omega⟩
        · have hqc : q = cr := by omega
          subst hqc
          have HK := hid1 hkk
          have HP := hid1 hP
          clear hkk hP hr hff
          go_wp2_with fail
          go_ret
          exact ⟨rfl, .inr ⟨_, _, _, _, _, _, _, _, _, _, _, _, _, _, _, _, _, _, HK.out⟩, HP.out⟩
end Go.Proofs.Yteghelmbibpohaa
/- The Hand while it is being filled. -/
namespace Go.Proofs.Yteghelmbibpohaa
open Go.RowKit

/-- Nothing, or a whole block at or above h0 that is none of X. -/
def Pl (w : World) (h0 : Nat) (T : TypeId) (k : Nat) (X : Nat → Prop) (v : Value) : Prop := v = .slice none 0 0 ∨ ∃ g co f, v = .slice (some ⟨g, 0, none⟩) co co ∧ w.rowIs g T (co * k) f ∧ co ≤ maxLen ∧ h0 ≤ g ∧ ¬ X g
theorem Pl.but {w w1 : World} {h0 T k g : Nat} {X : Nat → Prop} {v : Value} (h : Pl w h0 T k X v) (hu : But g w w1) (hg : ∀ co, v ≠ .slice (some ⟨g, 0, none⟩) co co) : Pl w1 h0 T k X v := by
  rcases h with h | ⟨b, co, f, e, h1, h2, h3, h4⟩
  · exact .inl h
  · refine .inr ⟨b, co, f, e, hu.row ?_ h1, h2, h3, h4⟩
    rintro rfl
    exact hg co e
/-- A block of another type is none of it. -/
theorem Pl.ne {w : World} {h0 T k g T' n : Nat} {X : Nat → Prop} {v : Value} {F : Nat → Value} (h : Pl w h0 T k X v) (hr : w.rowIs g T' n F) (hT : T ≠ T') : ∀ co, v ≠ .slice (some ⟨g, 0, none⟩) co co := by
  rintro co rfl
  rcases h with h | ⟨b, co, f, e, h1, _⟩
  · injection h with h; cases h
  · injection e with e; injection e with e; injection e with e; subst e
    exact row_ne h1 hr hT rfl
theorem Pl.new {w : World} {h0 T k g : Nat} {X : Nat → Prop} {v : Value} (h : Pl w h0 T k X v) (hg : w.heap.size ≤ g) : ∀ co, v ≠ .slice (some ⟨g, 0, none⟩) co co := by
  rintro co rfl
  rcases h with h | ⟨b, co, f, e, h1, _⟩
  · injection h with h; cases h
  · injection e with e; injection e with e; injection e with e; subst e
    have := h1.lt; omega
theorem Pl.mono {w : World} {h0 T k : Nat} {X Y : Nat → Prop} {v : Value} (h : Pl w h0 T k X v) (hx : ∀ b co, v = .slice (some ⟨b, 0, none⟩) co co → Y b → X b) : Pl w h0 T k Y v := by
  rcases h with h | ⟨b, co, f, e, h1, h2, h3, h4⟩
  · exact .inl h
  · exact .inr ⟨b, co, f, e, h1, h2, h3, fun hy => h4 (hx b co e hy)⟩
structure Hq (w : World) (h0 hb : Nat) (va vb vs vw vr : Value) (gw lw : Nat) (gi ci : Nat → Nat) (ff : Nat → Nat → Value) : Prop where
  h : Hd w hb va vb vs vw vr
  lo : h0 ≤ hb
  a : Pl w h0 35 1 (fun b => ∃ j, j < lw ∧ b = gi j) va
  b : Pl w h0 35 1 (fun b => (∃ co, va = .slice (some ⟨b, 0, none⟩) co co) ∨ ∃ j, j < lw ∧ b = gi j) vb
  s : Pl w h0 24 1 (fun _ => False) vs
  r : Pl w h0 27 2 (fun _ => False) vr
  d : Wd w vw gw lw gi ci ff
  dl : lw ≤ 1048576
  dg : (vw = .slice none 0 0 ∨ h0 ≤ gw) ∧ ∀ j, j < lw → h0 ≤ gi j
section
variable {w w1 : World} {h0 hb gw lw : Nat} {va vb vs vw vr : Value} {gi ci : Nat → Nat} {ff : Nat → Nat → Value}
theorem Hd.set0 (h : Hd w hb va vb vs vw vr) (x : Value) : Hd (w.setCell ⟨hb, 0, none⟩ x) hb x vb vs vw vr :=
  (h.set 0 x).congr fun j hj => by
    rcases (show j = 0 ∨ j = 1 ∨ j = 2 ∨ j = 3 ∨ j = 4 by omega) with rfl | rfl | rfl | rfl | rfl <;> rfl
theorem Hd.set1 (h : Hd w hb va vb vs vw vr) (x : Value) : Hd (w.setCell ⟨hb, 1, none⟩ x) hb va x vs vw vr :=
  (h.set 1 x).congr fun j hj => by
    rcases (show j = 0 ∨ j = 1 ∨ j = 2 ∨ j = 3 ∨ j = 4 by omega) with rfl | rfl | rfl | rfl | rfl <;> rfl
theorem Wd.keep2 {g : Nat} (h : Wd w vw gw lw gi ci ff) (hu : But g w w1) (h1 : ∀ T n F, w.rowIs g T n F → T ≠ 25) (h2 : ∀ j, j < lw → gi j ≠ g) : Wd w1 vw gw lw gi ci ff :=
  ⟨by
    rcases h.val with h | ⟨cw, f, e, k1, k2, k3, k4⟩
    · exact .inl h
    · refine .inr ⟨cw, f, e, k1, k2, hu.row ?_ k3, k4⟩
      rintro rfl
      exact h1 _ _ _ k3 rfl, fun j hj => hu.row (h2 j hj) (h.row j hj), h.max, h.inj⟩
/-- The Hand is as it was behind what turns its own first cells alone. -/
theorem Hq.below (h : Hq w h0 hb va vb vs vw vr gw lw gi ci ff) (hu : Below w.heap.size w w1) : Hq w1 h0 hb va vb vs vw vr gw lw gi ci ff := by
  have hu' : But w.heap.size w w1 := But.of_below hu
  exact ⟨hu'.row (by have := h.h.lt; omega) h.h, h.lo, h.a.but hu' (h.a.new (Nat.le_refl _)), h.b.but hu' (h.b.new (Nat.le_refl _)), h.s.but hu' (h.s.new (Nat.le_refl _)), h.r.but hu' (h.r.new (Nat.le_refl _)),
    h.d.keep2 hu' (fun T n F k => by have := k.lt; omega) (fun j hj => by have := (h.d.row j hj).lt; omega), h.dl, h.dg⟩
/-- filled of h.a: where, and what is then. -/
theorem Hq.fillA (h : Hq w h0 hb va vb vs vw vr gw lw gi ci ff) (hz : h0 ≤ w.heap.size) : ∃ ga, Om w 35 va ga ∧ ∀ w1 g c F, But ga w w1 → (g = ga ∨ w.heap.size ≤ g) → w1.rowIs g 35 c F → c ≤ maxLen →
    Hd w1 hb va vb vs vw vr ∧ Hq (w1.setCell ⟨hb, 0, none⟩ (.slice (some ⟨g, 0, none⟩) c c)) h0 hb (.slice (some ⟨g, 0, none⟩) c c) vb vs vw vr gw lw gi ci ff ∧ BP (h0 ≤ ·) w (w1.setCell ⟨hb, 0, none⟩ (.slice (some ⟨g, 0, none⟩) c c)) ∧ (w1.setCell ⟨hb, 0, none⟩ (.slice (some ⟨g, 0, none⟩) c c)).rowIs g 35 c F ∧ ∀ b T n G, T ≠ 35 → T ≠ 53 → w.rowIs b T n G → (w1.setCell ⟨hb, 0, none⟩ (.slice (some ⟨g, 0, none⟩) c c)).rowIs b T n G := by
  have key : ∀ ga, h0 ≤ ga → hb ≠ ga → (∀ co, vb ≠ .slice (some ⟨ga, 0, none⟩) co co) → (∀ co, vs ≠ .slice (some ⟨ga, 0, none⟩) co co) → (∀ co, vr ≠ .slice (some ⟨ga, 0, none⟩) co co) → (∀ T n F, w.rowIs ga T n F → T ≠ 25) → (∀ j, j < lw → gi j ≠ ga) → (∀ b T n G, T ≠ 35 → w.rowIs b T n G → b ≠ ga) →
      ∀ w1 g c F, But ga w w1 → (g = ga ∨ w.heap.size ≤ g) → w1.rowIs g 35 c F → c ≤ maxLen → Hd w1 hb va vb vs vw vr ∧ Hq (w1.setCell ⟨hb, 0, none⟩ (.slice (some ⟨g, 0, none⟩) c c)) h0 hb (.slice (some ⟨g, 0, none⟩) c c) vb vs vw vr gw lw gi ci ff ∧ BP (h0 ≤ ·) w (w1.setCell ⟨hb, 0, none⟩ (.slice (some ⟨g, 0, none⟩) c c)) ∧ (w1.setCell ⟨hb, 0, none⟩ (.slice (some ⟨g, 0, none⟩) c c)).rowIs g 35 c F ∧ ∀ b T n G, T ≠ 35 → T ≠ 53 → w.rowIs b T n G → (w1.setCell ⟨hb, 0, none⟩ (.slice (some ⟨g, 0, none⟩) c c)).rowIs b T n G := by
    intro ga q0 q1 q2 q3 q4 q5 q6 q7 w1 g c F hu hg hr hc
    have h1 := hu.row q1 h.h
    have hgh : g ≠ hb := row_ne hr h1 (by decide)
    have hr' := hr.setOther (a := ⟨hb, 0, none⟩) hgh (.slice (some ⟨g, 0, none⟩) c c)
    have u2 : But hb w1 (w1.setCell ⟨hb, 0, none⟩ (.slice (some ⟨g, 0, none⟩) c c)) := But.self _ _ _
    have hgi : ∀ j, j < lw → g ≠ gi j := fun j hj => by
      rcases hg with rfl | hg
      · exact (q6 j hj).symm
      · have := (h.d.row j hj).lt; omega
    have b1 := h.b.but hu q2
    have s1 := h.s.but hu q3
    have r1 := h.r.but hu q4
    have d1 := h.d.keep2 hu q5 q6
    refine ⟨h1, ⟨Hd.set0 h1 _, h.lo, .inr ⟨g, c, F, rfl, by rw [Nat.mul_one]; exact hr', hc, by rcases hg with rfl | hg <;> omega, by rintro ⟨j, hj, e⟩; exact hgi j hj e⟩, ?_, s1.but u2 (s1.ne h1 (by decide)), r1.but u2 (r1.ne h1 (by decide)), d1.setH h1 (by decide) (by decide) _, h.dl, h.dg⟩, (((BP.refl (h0 ≤ ·) w).trans (BP.but hu) fun _ _ e => by rw [e]; exact q0).set (.inl h.lo) _), hr', fun b T n G t1 t2 hG => by
      have k1 := hu.row (q7 b T n G t1 hG) hG
      exact k1.setOther (a := ⟨hb, 0, none⟩) (row_ne k1 h1 t2) _⟩
    refine (b1.but u2 (b1.ne h1 (by decide))).mono ?_
    rintro b co e (⟨co', e'⟩ | hx)
    · exfalso
      injection e' with e'; injection e' with e'; injection e' with e'; subst e'
      rcases hg with rfl | hg
      · exact q2 _ e
      · exact h.b.new hg _ e
    · exact .inr hx
  rcases h.a with rfl | ⟨g0, co, f, rfl, h1, h2, h3, h4⟩
  · exact ⟨w.heap.size, .inl rfl, key _ hz (by have := h.h.lt; omega) (h.b.new (Nat.le_refl _)) (h.s.new (Nat.le_refl _)) (h.r.new (Nat.le_refl _)) (fun T n F k => by have := k.lt; omega) (fun j hj => by have := (h.d.row j hj).lt; omega) fun b T n G _ hG => by have := hG.lt; omega⟩
  · rw [Nat.mul_one] at h1
    refine ⟨g0, .inr ⟨co, f, rfl, h1, h2⟩, key _ h3 (row_ne h.h h1 (by decide)) ?_ (h.s.ne h1 (by decide)) (h.r.ne h1 (by decide)) ?_ (fun j hj e => h4 ⟨j, hj, e.symm⟩) fun b T n G t1 hG => row_ne hG h1 t1⟩
    · rintro co' rfl
      rcases h.b with e | ⟨b, co, f, e, k1, k2, k3, k4⟩
      · injection e with e; cases e
      · injection e with e; injection e with e; injection e with e; subst e
        exact k4 (.inl ⟨_, rfl⟩)
    · intro T n F k hT
      subst hT
      exact row_ne k h1 (by decide) rfl
/-- filled of h.b. -/
theorem Hq.fillB {ga ca : Nat} (h : Hq w h0 hb (.slice (some ⟨ga, 0, none⟩) ca ca) vb vs vw vr gw lw gi ci ff) (hz : h0 ≤ w.heap.size) : ∃ gb, Om w 35 vb gb ∧ ∀ w1 g c F, But gb w w1 → (g = gb ∨ w.heap.size ≤ g) → w1.rowIs g 35 c F → c ≤ maxLen →
    Hd w1 hb (.slice (some ⟨ga, 0, none⟩) ca ca) vb vs vw vr ∧ Hq (w1.setCell ⟨hb, 1, none⟩ (.slice (some ⟨g, 0, none⟩) c c)) h0 hb (.slice (some ⟨ga, 0, none⟩) ca ca) (.slice (some ⟨g, 0, none⟩) c c) vs vw vr gw lw gi ci ff ∧ BP (h0 ≤ ·) w (w1.setCell ⟨hb, 1, none⟩ (.slice (some ⟨g, 0, none⟩) c c)) ∧ (w1.setCell ⟨hb, 1, none⟩ (.slice (some ⟨g, 0, none⟩) c c)).rowIs g 35 c F ∧ (∀ G, w.rowIs ga 35 ca G → (w1.setCell ⟨hb, 1, none⟩ (.slice (some ⟨g, 0, none⟩) c c)).rowIs ga 35 ca G) ∧ ∀ b T n G, T ≠ 35 → T ≠ 53 → w.rowIs b T n G → (w1.setCell ⟨hb, 1, none⟩ (.slice (some ⟨g, 0, none⟩) c c)).rowIs b T n G := by
  have ha : ∃ fa, w.rowIs ga 35 ca fa ∧ h0 ≤ ga ∧ ca ≤ maxLen ∧ ¬ ∃ j, j < lw ∧ ga = gi j := by
    rcases h.a with e | ⟨b, co, f, e, k1, k2, k3, k4⟩
    · injection e with e; cases e
    · injection e with e e1 e2; injection e with e; injection e with e; subst e; subst e1
      rw [Nat.mul_one] at k1
      exact ⟨f, k1, k3, k2, k4⟩
  obtain ⟨fa, a1, a2, a3, a4⟩ := ha
  have key : ∀ gb, h0 ≤ gb → hb ≠ gb → ga ≠ gb → (∀ co, vs ≠ .slice (some ⟨gb, 0, none⟩) co co) → (∀ co, vr ≠ .slice (some ⟨gb, 0, none⟩) co co) → (∀ T n F, w.rowIs gb T n F → T ≠ 25) → (∀ j, j < lw → gi j ≠ gb) → (∀ b T n G, T ≠ 35 → w.rowIs b T n G → b ≠ gb) →
      ∀ w1 g c F, But gb w w1 → (g = gb ∨ w.heap.size ≤ g) → w1.rowIs g 35 c F → c ≤ maxLen → Hd w1 hb (.slice (some ⟨ga, 0, none⟩) ca ca) vb vs vw vr ∧ Hq (w1.setCell ⟨hb, 1, none⟩ (.slice (some ⟨g, 0, none⟩) c c)) h0 hb (.slice (some ⟨ga, 0, none⟩) ca ca) (.slice (some ⟨g, 0, none⟩) c c) vs vw vr gw lw gi ci ff ∧ BP (h0 ≤ ·) w (w1.setCell ⟨hb, 1, none⟩ (.slice (some ⟨g, 0, none⟩) c c)) ∧ (w1.setCell ⟨hb, 1, none⟩ (.slice (some ⟨g, 0, none⟩) c c)).rowIs g 35 c F ∧ (∀ G, w.rowIs ga 35 ca G → (w1.setCell ⟨hb, 1, none⟩ (.slice (some ⟨g, 0, none⟩) c c)).rowIs ga 35 ca G) ∧ ∀ b T n G, T ≠ 35 → T ≠ 53 → w.rowIs b T n G → (w1.setCell ⟨hb, 1, none⟩ (.slice (some ⟨g, 0, none⟩) c c)).rowIs b T n G := by
    intro gb q0 q1 q2 q3 q4 q5 q6 q7 w1 g c F hu hg hr hc
    have h1 := hu.row q1 h.h
    have hgh : g ≠ hb := row_ne hr h1 (by decide)
    have hr' := hr.setOther (a := ⟨hb, 1, none⟩) hgh (.slice (some ⟨g, 0, none⟩) c c)
    have u2 : But hb w1 (w1.setCell ⟨hb, 1, none⟩ (.slice (some ⟨g, 0, none⟩) c c)) := But.self _ _ _
    have hgi : ∀ j, j < lw → g ≠ gi j := fun j hj => by
      rcases hg with rfl | hg
      · exact (q6 j hj).symm
      · have := (h.d.row j hj).lt; omega
    have hga : g ≠ ga := by
      rcases hg with rfl | hg
      · exact q2.symm
      · have := a1.lt; omega
    have s1 := h.s.but hu q3
    have r1 := h.r.but hu q4
    have d1 := h.d.keep2 hu q5 q6
    have ka : ∀ G, w.rowIs ga 35 ca G → (w1.setCell ⟨hb, 1, none⟩ (.slice (some ⟨g, 0, none⟩) c c)).rowIs ga 35 ca G := fun G hG => by
      have k1 := hu.row q2 hG
      exact k1.setOther (a := ⟨hb, 1, none⟩) (row_ne k1 h1 (by decide)) _
    refine ⟨h1, ⟨Hd.set1 h1 _, h.lo, .inr ⟨ga, ca, fa, rfl, by rw [Nat.mul_one]; exact ka fa a1, a3, a2, a4⟩, .inr ⟨g, c, F, rfl, by rw [Nat.mul_one]; exact hr', hc, by rcases hg with rfl | hg <;> omega, ?_⟩, s1.but u2 (s1.ne h1 (by decide)), r1.but u2 (r1.ne h1 (by decide)), d1.setH h1 (by decide) (by decide) _, h.dl, h.dg⟩, (((BP.refl (h0 ≤ ·) w).trans (BP.but hu) fun _ _ e => by rw [e]; exact q0).set (.inl h.lo) _), hr', ka, fun b T n G t1 t2 hG => by
      have k1 := hu.row (q7 b T n G t1 hG) hG
      exact k1.setOther (a := ⟨hb, 1, none⟩) (row_ne k1 h1 t2) _⟩
    rintro (⟨co', e'⟩ | ⟨j, hj, e⟩)
    · injection e' with e'; injection e' with e'; injection e' with e'
      exact hga e'.symm
    · exact hgi j hj e
  rcases h.b with rfl | ⟨g0, co, f, rfl, h1, h2, h3, h4⟩
  · exact ⟨w.heap.size, .inl rfl, key _ hz (by have := h.h.lt; omega) (by have := a1.lt; omega) (h.s.new (Nat.le_refl _)) (h.r.new (Nat.le_refl _)) (fun T n F k => by have := k.lt; omega) (fun j hj => by have := (h.d.row j hj).lt; omega) fun b T n G _ hG => by have := hG.lt; omega⟩
  · rw [Nat.mul_one] at h1
    refine ⟨g0, .inr ⟨co, f, rfl, h1, h2⟩, key _ h3 (row_ne h.h h1 (by decide)) (fun e => h4 (.inl ⟨ca, by rw [e]⟩)) (h.s.ne h1 (by decide)) (h.r.ne h1 (by decide)) ?_ (fun j hj e => h4 (.inr ⟨j, hj, e.symm⟩)) fun b T n G t1 hG => row_ne hG h1 t1⟩
    intro T n F k hT
    subst hT
    exact row_ne k h1 (by decide) rfl
/-- numbers. -/
theorem Hq.fillS (h : Hq w h0 hb va vb vs vw vr gw lw gi ci ff) (hz : h0 ≤ w.heap.size) : ∃ gs, Om w 24 vs gs ∧ hb ≠ gs ∧ ∀ w1 g c F, BS [gs, hb] w w1 → (g = gs ∨ w.heap.size ≤ g) → w1.rowIs g 24 c F → c ≤ maxLen → Hd w1 hb va vb (.slice (some ⟨g, 0, none⟩) c c) vw vr →
    Hq w1 h0 hb va vb (.slice (some ⟨g, 0, none⟩) c c) vw vr gw lw gi ci ff ∧ BP (h0 ≤ ·) w w1 ∧ ∀ b T n G, T ≠ 24 → T ≠ 53 → w.rowIs b T n G → w1.rowIs b T n G := by
  have key : ∀ gs, h0 ≤ gs → hb ≠ gs → (∀ b T n G, T ≠ 24 → w.rowIs b T n G → b ≠ gs) →
      ∀ w1 g c F, BS [gs, hb] w w1 → (g = gs ∨ w.heap.size ≤ g) → w1.rowIs g 24 c F → c ≤ maxLen → Hd w1 hb va vb (.slice (some ⟨g, 0, none⟩) c c) vw vr →
    Hq w1 h0 hb va vb (.slice (some ⟨g, 0, none⟩) c c) vw vr gw lw gi ci ff ∧ BP (h0 ≤ ·) w w1 ∧ ∀ b T n G, T ≠ 24 → T ≠ 53 → w.rowIs b T n G → w1.rowIs b T n G := by
    intro gs q0 q1 q7 w1 g c F hu hg hr hc hh
    have ot : ∀ b T n G, T ≠ 24 → T ≠ 53 → w.rowIs b T n G → w1.rowIs b T n G := fun b T n G t1 t2 hG =>
      hu.row (by simp; exact ⟨q7 b T n G t1 hG, row_ne hG h.h t2⟩) hG
    have pl : ∀ {T k X v}, T ≠ 24 → T ≠ 53 → Pl w h0 T k X v → Pl w1 h0 T k X v := fun {T k X v} t1 t2 hp => by
      rcases hp with e | ⟨b, co, f, e, h1, h2, h3, h4⟩
      · exact .inl e
      · exact .inr ⟨b, co, f, e, ot b T _ f t1 t2 h1, h2, h3, h4⟩
    refine ⟨⟨hh, h.lo, pl (by decide) (by decide) h.a, pl (by decide) (by decide) h.b, .inr ⟨g, c, F, rfl, by rw [Nat.mul_one]; exact hr, hc, by rcases hg with rfl | hg <;> omega, fun k => k⟩, pl (by decide) (by decide) h.r, ⟨?_, fun j hj => ot _ _ _ _ (by decide) (by decide) (h.d.row j hj), h.d.max, h.d.inj⟩, h.dl, h.dg⟩, ⟨hu.os, hu.tape, hu.output, hu.size, fun k hk hn => hu.block k hk ?_⟩, ot⟩
    · rcases h.d.val with k | ⟨cw, f, e, k1, k2, k3, k4⟩
      · exact .inl k
      · exact .inr ⟨cw, f, e, k1, k2, ot _ _ _ _ (by decide) (by decide) k3, k4⟩
    · simp
      have := h.lo
      constructor <;> (rintro rfl; omega)
  rcases h.s with rfl | ⟨g0, co, f, rfl, h1, h2, h3, h4⟩
  · exact ⟨w.heap.size, .inl rfl, by have := h.h.lt; omega, key _ hz (by have := h.h.lt; omega) fun b T n G _ hG => by have := hG.lt; omega⟩
  · rw [Nat.mul_one] at h1
    exact ⟨g0, .inr ⟨co, f, rfl, h1, h2⟩, row_ne h.h h1 (by decide), key _ h3 (row_ne h.h h1 (by decide)) fun b T n G t1 hG => row_ne hG h1 t1⟩
/-- list. -/
theorem Hq.fillL {ga ca gb cb gs cs : Nat} (h : Hq w h0 hb (.slice (some ⟨ga, 0, none⟩) ca ca) (.slice (some ⟨gb, 0, none⟩) cb cb) (.slice (some ⟨gs, 0, none⟩) cs cs) vw vr gw lw gi ci ff) (hz : h0 ≤ w.heap.size) :
    ∃ gw gr, Wd w vw gw lw gi ci ff ∧ Or2 w vr gr ∧ gr ≠ hb ∧ gw ≠ gr ∧ (∀ j, j < lw → gi j ≠ gr) ∧ (∀ b, Lb hb gw gr lw gi b → h0 ≤ b) ∧
      ∀ w1 g c J n m N vw' gw' lw' gi' ci' ff', J + 1 ≤ c → c ≤ maxLen → Ls w w1 (Lb hb gw gr lw gi) hb g c J n m N (lsf n m J gi' ci') (.slice (some ⟨ga, 0, none⟩) ca ca) (.slice (some ⟨gb, 0, none⟩) cb cb) (.slice (some ⟨gs, 0, none⟩) cs cs) (.slice (some ⟨g, 0, none⟩) c c) c vw' gw' lw' gi' ci' ff' →
        ∀ fa fb fs, w.rowIs ga 35 ca fa → w.rowIs gb 35 cb fb → w.rowIs gs 24 cs fs → Hk w1 (h0 ≤ ·) hb ga ca gb cb gs cs g c vw' gw' lw' gi' ci' fa fb fs (lsf n m J gi' ci') ff' ∧ BP (h0 ≤ ·) w w1 ∧
          ∀ b T n G, T ≠ 35 → T ≠ 53 → T ≠ 25 → (T = 27 → ∀ co, vr ≠ .slice (some ⟨b, 0, none⟩) co co) → w.rowIs b T n G → w1.rowIs b T n G := by
  have ha : h0 ≤ ga ∧ ca ≤ maxLen ∧ ∀ j, j < lw → ga ≠ gi j := by
    rcases h.a with e | ⟨b, co, f, e, k1, k2, k3, k4⟩
    · injection e with e; cases e
    · injection e with e e1 e2; injection e with e; injection e with e; subst e; subst e1
      exact ⟨k3, k2, fun j hj e => k4 ⟨j, hj, e⟩⟩
  have hbb : h0 ≤ gb ∧ cb ≤ maxLen ∧ ga ≠ gb ∧ ∀ j, j < lw → gb ≠ gi j := by
    rcases h.b with e | ⟨b, co, f, e, k1, k2, k3, k4⟩
    · injection e with e; cases e
    · injection e with e e1 e2; injection e with e; injection e with e; subst e; subst e1
      exact ⟨k3, k2, fun e => k4 (.inl ⟨ca, by rw [e]⟩), fun j hj e => k4 (.inr ⟨j, hj, e⟩)⟩
  have hss : h0 ≤ gs ∧ cs ≤ maxLen := by
    rcases h.s with e | ⟨b, co, f, e, k1, k2, k3, k4⟩
    · injection e with e; cases e
    · injection e with e e1 e2; injection e with e; injection e with e; subst e; subst e1
      exact ⟨k3, k2⟩
  obtain ⟨gr, r1, r2, r3, r4, r5⟩ : ∃ gr, Or2 w vr gr ∧ h0 ≤ gr ∧ (gr = w.heap.size ∨ ∃ n F, w.rowIs gr 27 n F) ∧ (gr ≠ hb) ∧ ((∃ co, vr = .slice (some ⟨gr, 0, none⟩) co co) ∨ gr = w.heap.size) := by
    rcases h.r with rfl | ⟨g0, co, f, rfl, k1, k2, k3, k4⟩
    · exact ⟨w.heap.size, .inl rfl, hz, .inl rfl, by have := h.h.lt; omega, .inr rfl⟩
    · exact ⟨g0, .inr ⟨co, f, rfl, k1, k2⟩, k3, .inr ⟨_, _, k1⟩, row_ne k1 h.h (by decide), .inl ⟨_, rfl⟩⟩
  obtain ⟨gw2, d1, d2, d3⟩ : ∃ gw, Wd w vw gw lw gi ci ff ∧ h0 ≤ gw ∧ (gw = w.heap.size + 1 ∨ ∃ n F, w.rowIs gw 25 n F) := by
    rcases h.d.val with ⟨e, e0⟩ | ⟨cw, f, e, k1, k2, k3, k4⟩
    · exact ⟨w.heap.size + 1, ⟨.inl ⟨e, e0⟩, h.d.row, h.d.max, h.d.inj⟩, by omega, .inl rfl⟩
    · refine ⟨gw, h.d, ?_, .inr ⟨_, _, k3⟩⟩
      rcases h.dg.1 with e2 | e2
      · rw [e] at e2; injection e2 with e2; cases e2
      · exact e2
  have wr : gw2 ≠ gr := by
    rcases d3 with d3 | ⟨n, F, d3⟩ <;> rcases r3 with r3 | ⟨n', F', r3⟩
    · omega
    · have := r3.lt; omega
    · have := d3.lt; omega
    · exact row_ne d3 r3 (by decide)
  have ir : ∀ j, j < lw → gi j ≠ gr := fun j hj => by
    rcases r3 with r3 | ⟨n', F', r3⟩
    · have := (h.d.row j hj).lt; omega
    · exact row_ne (h.d.row j hj) r3 (by decide)
  have lb : ∀ b, Lb hb gw2 gr lw gi b → h0 ≤ b := by
    rintro b (rfl | rfl | rfl | ⟨j, hj, rfl⟩)
    · exact h.lo
    · exact d2
    · exact r2
    · exact h.dg.2 j hj
  have out : ∀ b T n G, w.rowIs b T n G → T ≠ 53 → T ≠ 25 → (T = 27 → ∀ co, vr ≠ .slice (some ⟨b, 0, none⟩) co co) → (T = 35 → ∀ j, j < lw → b ≠ gi j) → ¬ Lb hb gw2 gr lw gi b := by
    rintro b T n G hG t2 t3 t4 t5 (e | e | e | ⟨j, hj, e⟩)
    · subst e; exact row_ne hG h.h t2 rfl
    · subst e
      rcases d3 with d3 | ⟨n', F', d3⟩
      · have := hG.lt; omega
      · exact row_ne hG d3 t3 rfl
    · subst e
      rcases r3 with r3 | ⟨n', F', r3⟩
      · have := hG.lt; omega
      · by_cases eT : T = 27
        · rcases r5 with ⟨co, r5⟩ | r5
          · exact t4 eT co r5
          · have := hG.lt; omega
        · exact row_ne hG r3 eT rfl
    · by_cases eT : T = 35
      · exact t5 eT j hj e
      · subst e; exact row_ne hG (h.d.row j hj) eT rfl
  refine ⟨gw2, gr, d1, r1, r4, wr, ir, lb, ?_⟩
  intro w1 g c J n m N vw' gw' lw' gi' ci' ff' hJ hc hl fa fb fs ka kb ks
  have oa := out _ _ _ _ ka (by decide) (by decide) (fun e => absurd e (by decide)) (fun _ => ha.2.2)
  have ob := out _ _ _ _ kb (by decide) (by decide) (fun e => absurd e (by decide)) (fun _ => hbb.2.2.2)
  have os := out _ _ _ _ ks (by decide) (by decide) (fun e => absurd e (by decide)) (fun e => absurd e (by decide))
  have up : ∀ b, Lb hb gw2 gr lw gi b ∨ w.heap.size ≤ b → h0 ≤ b := fun b hb' => by
    rcases hb' with k | k
    · exact lb b k
    · omega
  refine ⟨⟨hl.h, hl.bp.row oa ka, hl.bp.row ob kb, hl.bp.row os ks, hl.x.congr fun p hp => by unfold lsk; rw [if_pos (by omega)], hl.d, ⟨ha.2.1, hbb.2.1, hss.2, hc, hl.ll⟩, ⟨hbb.2.2.1, fun j hj e => ?_, fun j hj e => ?_⟩, ⟨h.lo, ha.1, hbb.1, hss.1, up _ hl.gs.1, .inr (up _ hl.gs.2.1), fun j hj => up _ (hl.gs.2.2 j hj)⟩⟩, ⟨hl.bp.os, hl.bp.tape, hl.bp.output, hl.bp.size, fun k hk hn => hl.bp.block k hk fun hx => hn (lb k hx)⟩, fun b T n G t1 t2 t3 t4 hG => hl.bp.row (out b T n G hG t2 t3 t4 fun e => absurd e t1) hG⟩
  · rcases hl.gs.2.2 j hj with k | k
    · rw [← e] at k; exact oa k
    · have := ka.lt; omega
  · rcases hl.gs.2.2 j hj with k | k
    · rw [← e] at k; exact ob k
    · have := kb.lt; omega
end
end Go.Proofs.Yteghelmbibpohaa
/- told. -/
namespace Go.Proofs.Yteghelmbibpohaa
open Go.RowKit

theorem wd_nil (w : World) (gw : Nat) (gi ci : Nat → Nat) (ff : Nat → Nat → Value) : Wd w (.slice none 0 0) gw 0 gi ci ff :=
  ⟨.inl ⟨rfl, rfl⟩, fun j hj => absurd hj (by omega), fun j hj => absurd hj (by omega), fun j k hj => absurd hj (by omega)⟩
theorem Hi.q {w : World} {h0 hb : Nat} (h : Hi w (h0 ≤ ·) hb) : ∃ va vb vs vw vr gw lw gi ci ff, Hq w h0 hb va vb vs vw vr gw lw gi ci ff := by
  rcases h with ⟨h, h1⟩ | ⟨ga, ca, gb, cb, gs, cs, gr, cr, vw, gw, lw, gi, ci, fa, fb, fs, fr, ff, h⟩
  · exact ⟨_, _, _, _, _, 0, 0, fun _ => 0, fun _ => 0, fun _ _ => .bool false, h, h1, .inl rfl, .inl rfl, .inl rfl, .inl rfl, wd_nil _ _ _ _ _, by omega, .inl rfl, fun j hj => absurd hj (by omega)⟩
  · refine ⟨_, _, _, _, _, _, _, _, _, _, h.h, h.lo.1, .inr ⟨_, _, _, rfl, by rw [Nat.mul_one]; exact h.a, h.mx.1, h.lo.2.1, ?_⟩, .inr ⟨_, _, _, rfl, by rw [Nat.mul_one]; exact h.b, h.mx.2.1, h.lo.2.2.1, ?_⟩, .inr ⟨_, _, _, rfl, by rw [Nat.mul_one]; exact h.s, h.mx.2.2.1, h.lo.2.2.2.1, fun k => k⟩, .inr ⟨_, _, _, rfl, h.r, h.mx.2.2.2.1, h.lo.2.2.2.2.1, fun k => k⟩, h.d, h.mx.2.2.2.2, h.lo.2.2.2.2.2.1, h.lo.2.2.2.2.2.2⟩
    · rintro ⟨j, hj, e⟩; exact h.ap.2.1 j hj e
    · rintro (⟨co, e⟩ | ⟨j, hj, e⟩)
      · injection e with e; injection e with e; injection e with e; exact h.ap.1 e
      · exact h.ap.2.2 j hj e
/-- told's own cells. -/
structure Lc (w wx : World) (z h0 : Nat) (kd n1 : Int) (ao : Option Addr) (m1 ka : Nat) (n2 : Int) (bo : Option Addr) (m2 kb : Nat) (lo : Option Addr) (ll kl : Nat) (ro : Option Addr) (J kr : Nat) (fr to_ : Int) : Prop where
  o : wx.rowIs z 55 9 (opf kd n1 ao m1 ka n2 bo m2 kb lo ll kl ro J kr fr to_)
  t : wx.rowIs (z + 1) 57 6 tz
  p : BP (h0 ≤ ·) w wx
  z : z + 2 ≤ wx.heap.size
  op : ∀ b n G, w.rowIs b 55 n G → wx.rowIs b 55 n G
theorem Lc.step {w wx wy : World} {z h0 : Nat} {kd n1 : Int} {ao : Option Addr} {m1 ka : Nat} {n2 : Int} {bo : Option Addr} {m2 kb : Nat} {lo : Option Addr} {ll kl : Nat} {ro : Option Addr} {J kr : Nat} {fr to_ : Int} (h : Lc w wx z h0 kd n1 ao m1 ka n2 bo m2 kb lo ll kl ro J kr fr to_)
    (hp : BP (h0 ≤ ·) wx wy) (ho : ∀ b T n G, T = 55 ∨ T = 57 → wx.rowIs b T n G → wy.rowIs b T n G) : Lc w wy z h0 kd n1 ao m1 ka n2 bo m2 kb lo ll kl ro J kr fr to_ :=
  ⟨ho _ _ _ _ (.inl rfl) h.o, ho _ _ _ _ (.inr rfl) h.t, h.p.trans hp fun _ _ k => k, Nat.le_trans h.z hp.size, fun b n G k => ho _ _ _ _ (.inl rfl) (h.op b n G k)⟩
theorem Lc.below {w wx wy : World} {z h0 : Nat} {kd n1 : Int} {ao : Option Addr} {m1 ka : Nat} {n2 : Int} {bo : Option Addr} {m2 kb : Nat} {lo : Option Addr} {ll kl : Nat} {ro : Option Addr} {J kr : Nat} {fr to_ : Int} (h : Lc w wx z h0 kd n1 ao m1 ka n2 bo m2 kb lo ll kl ro J kr fr to_)
    (hp : Below wx.heap.size wx wy) : Lc w wy z h0 kd n1 ao m1 ka n2 bo m2 kb lo ll kl ro J kr fr to_ := h.step (BP.bel hp) fun _ _ _ _ _ k => keepr hp k
section
variable {w w1 : World} {S : Nat → Prop} {o : Oq} {h0 hb ga ca gb cb gs cs gr cr gw lw : Nat} {vw : Value} {gi ci : Nat → Nat} {fa fb fs fr f : Nat → Value} {ff : Nat → Nat → Value}
theorem Hk.narrow (h : Hk w (h0 ≤ ·) hb ga ca gb cb gs cs gr cr vw gw lw gi ci fa fb fs fr ff) : Hk w (fun b => h0 ≤ b ∧ b < w.heap.size ∧ ∀ n F, ¬ w.rowIs b 55 n F ∧ ¬ w.rowIs b 57 n F) hb ga ca gb cb gs cs gr cr vw gw lw gi ci fa fb fs fr ff := by
  have no : ∀ {b T n F}, w.rowIs b T n F → T ≠ 55 → T ≠ 57 → ∀ n F, ¬ w.rowIs b 55 n F ∧ ¬ w.rowIs b 57 n F := fun hr t1 t2 n F => ⟨fun k => row_ne hr k t1 rfl, fun k => row_ne hr k t2 rfl⟩
  exact ⟨h.h, h.a, h.b, h.s, h.r, h.d, h.mx, h.ap, ⟨h.lo.1, h.h.lt, no h.h (by decide) (by decide)⟩, ⟨h.lo.2.1, h.a.lt, no h.a (by decide) (by decide)⟩, ⟨h.lo.2.2.1, h.b.lt, no h.b (by decide) (by decide)⟩, ⟨h.lo.2.2.2.1, h.s.lt, no h.s (by decide) (by decide)⟩, ⟨h.lo.2.2.2.2.1, h.r.lt, no h.r (by decide) (by decide)⟩, by
    rcases h.d.val with ⟨e, _⟩ | ⟨cw, f, e, k1, k2, k3, k4⟩
    · exact .inl e
    · rcases h.lo.2.2.2.2.2.1 with e2 | e2
      · exact .inl e2
      · exact .inr ⟨e2, k3.lt, no k3 (by decide) (by decide)⟩, fun j hj => ⟨h.lo.2.2.2.2.2.2 j hj, (h.d.row j hj).lt, no (h.d.row j hj) (by decide) (by decide)⟩⟩
theorem Hk.mono {T : Nat → Prop} (h : Hk w S hb ga ca gb cb gs cs gr cr vw gw lw gi ci fa fb fs fr ff) (hT : ∀ b, S b → T b) : Hk w T hb ga ca gb cb gs cs gr cr vw gw lw gi ci fa fb fs fr ff :=
  ⟨h.h, h.a, h.b, h.s, h.r, h.d, h.mx, h.ap, hT _ h.lo.1, hT _ h.lo.2.1, hT _ h.lo.2.2.1, hT _ h.lo.2.2.2.1, hT _ h.lo.2.2.2.2.1, h.lo.2.2.2.2.2.1.imp id (hT _), fun j hj => hT _ (h.lo.2.2.2.2.2.2 j hj)⟩
theorem Hi.mono {T : Nat → Prop} (h : Hi w S hb) (hT : ∀ b, S b → T b) : Hi w T hb := by
  rcases h with ⟨h, h1⟩ | ⟨ga, ca, gb, cb, gs, cs, gr, cr, vw, gw, lw, gi, ci, fa, fb, fs, fr, ff, h⟩
  · exact .inl ⟨h, hT _ h1⟩
  · exact .inr ⟨_, _, _, _, _, _, _, _, _, _, _, _, _, _, _, _, _, _, h.mono hT⟩
theorem Hi.bp {T : Nat → Prop} (h : Hi w S hb) (hu : BP T w w1) (hT : ∀ b, S b → ¬ T b) : Hi w1 S hb := by
  rcases h with ⟨h, h1⟩ | ⟨ga, ca, gb, cb, gs, cs, gr, cr, vw, gw, lw, gi, ci, fa, fb, fs, fr, ff, h⟩
  · exact .inl ⟨hu.row (hT _ h1) h, h1⟩
  · exact .inr ⟨_, _, _, _, _, _, _, _, _, _, _, _, _, _, _, _, _, _, h.bp hu hT⟩
theorem Hm.below (h : Hm w o S hb ga ca gb cb gs cs gr cr vw gw lw gi ci ff) (hu : Below w.heap.size w w1) : Hm w1 o S hb ga ca gb cb gs cs gr cr vw gw lw gi ci ff :=
  ⟨h.k.below hu, h.am, h.bm, h.sm, h.rm, h.dl, h.dn⟩
theorem Hm.bel {w2 : World} {z : Nat} (h : Hm w o S hb ga ca gb cb gs cs gr cr vw gw lw gi ci ff) (hu : Below w.heap.size w w1) (hb2 : BP (· = z) w1 w2) (hz : ∀ b, S b → b < z) : Hm w2 o S hb ga ca gb cb gs cs gr cr vw gw lw gi ci ff :=
  ⟨(h.k.below hu).bp hb2 fun b hS e => by have := hz b hS; omega, h.am, h.bm, h.sm, h.rm, h.dl, h.dn⟩
theorem Hm.rdA (h : Hm w o S hb ga ca gb cb gs cs gr cr vw gw lw gi ci ff) (hA : o.A < 2 ^ (64 * o.m1)) : Rd w (some ⟨ga, 0, none⟩) o.m1 o.A :=
  ⟨hA, fun _ => ⟨ga, rfl, fun k hk => by
    have c := h.k.a.cell (i := k) (by have := h.am; omega)
    rw [fwf, if_pos hk] at c
    exact c⟩⟩
theorem Hm.rdB (h : Hm w o S hb ga ca gb cb gs cs gr cr vw gw lw gi ci ff) (hB : o.B < 2 ^ (64 * o.m2)) : Rd w (some ⟨gb, 0, none⟩) o.m2 o.B :=
  ⟨hB, fun _ => ⟨gb, rfl, fun k hk => by
    have c := h.k.b.cell (i := k) (by have := h.bm; omega)
    rw [fwf, if_pos hk] at c
    exact c⟩⟩
theorem Hm.r8 (h : Hm w o S hb ga ca gb cb gs cs gr cr vw gw lw gi ci ff) : R8 w (some ⟨gs, 0, none⟩) o.l := fun k hk => ⟨gs, 0, rfl, by
  have c := h.k.s.cell (i := k) (by have := h.sm; omega)
  rw [nmf, if_pos hk] at c
  rw [Nat.zero_add]
  exact c⟩
theorem Hm.jo {w0 : World} {lo : Option Addr} {ad : Nat → Option Addr} {cp : Nat → Nat} (h : Hm w o S hb ga ca gb cb gs cs gr cr vw gw lw gi ci ff) (hj : Jo Ro w0 lo o.J o.n o.m o.N ad cp) : Jo Rd w (some ⟨gr, 0, none⟩) o.J o.n o.m o.N (fun j => some ⟨gi j, 0, none⟩) ci :=
  ⟨fun j hjJ => ⟨gr, 0, rfl, by
      have c := h.k.r.cell (i := j * 2) (by have := h.rm; omega)
      rw [lsf, if_pos (by omega), if_pos (by omega), show j * 2 / 2 = j by omega] at c
      rw [Nat.zero_add]
      exact c, by
      have c := h.k.r.cell (i := j * 2 + 1) (by have := h.rm; omega)
      rw [lsf, if_pos (by omega), if_neg (by omega), show (j * 2 + 1) / 2 = j by omega] at c
      rw [Nat.zero_add]
      exact c⟩, fun j hjJ => ⟨(hj.rd j hjJ).1, fun _ => ⟨gi j, rfl, fun k hk => by
    obtain ⟨e, h2⟩ := h.dn j hjJ
    have c := (h.k.d.row j (by have := h.dl; omega)).cell (i := k) (by omega)
    rw [e, fwf, if_pos hk] at c
    exact c⟩⟩⟩
end
theorem Ob.mono {S T : Nat → Prop} {o : Oq} {ao bo lo ro : Option Addr} {ad : Nat → Option Addr} (h : Ob S o ao bo lo ro ad) (hT : ∀ b, T b → S b) : Ob T o ao bo lo ro ad :=
  ⟨fun p hp hm hx => h.a p hp hm (hT _ hx), fun p hp hm hx => h.b p hp hm (hT _ hx), fun p hp hm hx => h.l p hp hm (hT _ hx), fun p hp hm hx => h.r p hp hm (hT _ hx), fun j hj p hp hm hx => h.d j hj p hp hm (hT _ hx)⟩
theorem Lc.bel {w wx wy wz : World} {h0 y : Nat} {kd n1 : Int} {ao : Option Addr} {m1 ka : Nat} {n2 : Int} {bo : Option Addr} {m2 kb : Nat} {lo : Option Addr} {ll kl : Nat} {ro : Option Addr} {J kr : Nat} {fr to_ : Int} (h : Lc w wx w.heap.size h0 kd n1 ao m1 ka n2 bo m2 kb lo ll kl ro J kr fr to_)
    (hp : Below wx.heap.size wx wy) (hu : BP (· = y) wy wz) (hy : w.heap.size + 2 ≤ y) : Lc w wz w.heap.size h0 kd n1 ao m1 ka n2 bo m2 kb lo ll kl ro J kr fr to_ := by
  have h1 := h.below hp
  exact ⟨hu.row (by omega) h1.o, hu.row (by omega) h1.t, h1.p.trans hu fun b hb' e => by omega, Nat.le_trans h1.z hu.size, fun b n G k => hu.row (by have := k.lt; omega) (h1.op b n G k)⟩
/-- The six cells of an answer. -/
def tdf (n : Int) (ao : Option Addr) (m c : Nat) (so : Option Addr) (sl sc : Nat) (k mask e : Int) : Nat → Value := fun j =>
  if j = 0 then .int .i64 n else if j = 1 then .slice ao m c else if j = 2 then .slice so sl sc else if j = 3 then .int .i64 k else if j = 4 then .int .u64 mask else .int .i64 e
theorem tdf_cells {w : World} {b t : Nat} {n : Int} {ao : Option Addr} {m c : Nat} {so : Option Addr} {sl sc : Nat} {k mask e : Int} (h : w.rowIs b t 6 (tdf n ao m c so sl sc k mask e)) : w.cell? ⟨b, 0, none⟩ = some (.int .i64 n) ∧ w.cell? ⟨b, 1, none⟩ = some (.slice ao m c) ∧ w.cell? ⟨b, 2, none⟩ = some (.slice so sl sc) ∧ w.cell? ⟨b, 3, none⟩ = some (.int .i64 k) ∧ w.cell? ⟨b, 4, none⟩ = some (.int .u64 mask) ∧ w.cell? ⟨b, 5, none⟩ = some (.int .i64 e) :=
  ⟨h.cell (by omega), h.cell (by omega), h.cell (by omega), h.cell (by omega), h.cell (by omega), h.cell (by omega)⟩
theorem Ro.far {w w' : World} {ao : Option Addr} {m N z : Nat} (h : Ro w ao m N) (hu : BP (· = z) w w') (hs : ∀ p, ao = some p → z < p.block) : Ro w' ao m N := h.bp hu fun p hp _ e => by have := hs p hp; omega
theorem Rs.bp {S : Nat → Prop} {w w' : World} {ao : Option Addr} {m : Nat} {f : Nat → Value} (h : Rs w ao m f) (hb : BP S w w') (hs : ∀ p, ao = some p → ¬ S p.block) : Rs w' ao m f := fun k hk => by
  obtain ⟨g, o, e, c⟩ := h k hk
  exact ⟨g, o, e, hb.cell (hs ⟨g, o, none⟩ e) c⟩
theorem Rs.far {w w' : World} {ao : Option Addr} {m z : Nat} {f : Nat → Value} (h : Rs w ao m f) (hu : BP (· = z) w w') (hs : ∀ p, ao = some p → z < p.block) : Rs w' ao m f := h.bp hu fun p hp e => by have := hs p hp; omega
/-- told's memory behind the call. -/
structure Tk (w X : World) (o : Oq) (S : Nat → Prop) (z h0 hb ga ca gb cb gs cs gr cr : Nat) (vw : Value) (gw lw : Nat) (gi ci : Nat → Nat) (ff : Nat → Nat → Value) (ll kl kr : Nat) (ao : Option Addr) (ka : Nat) (bo : Option Addr) (kb : Nat) (lo ro : Option Addr) (t : TS) (xo : Option Addr) (xc : Nat) (so : Option Addr) (sc : Nat) : Prop where
  hm : Hm X o S hb ga ca gb cb gs cs gr cr vw gw lw gi ci ff
  lc : Lc w X w.heap.size h0 o.kd o.n1 ao o.m1 ka o.n2 bo o.m2 kb lo ll kl ro o.J kr o.fr o.to_
  row : X.rowIs z 57 6 (tdf t.n xo t.m xc so t.l sc t.k t.mask t.e)
  r : Ro X xo t.m t.N
  rm : t.m ≤ 262144
  s : Rs X so t.l (fun k => .int .i8 (t.f k))
  sm : t.l ≤ 16777216
  rf : ∀ p, xo = some p → z < p.block
  sf : ∀ p, so = some p → z < p.block
theorem Tk.nz {w X : World} {o : Oq} {S : Nat → Prop} {z h0 hb ga ca gb cb gs cs gr cr : Nat} {vw : Value} {gw lw : Nat} {gi ci : Nat → Nat} {ff : Nat → Nat → Value} {ll kl kr : Nat} {ao : Option Addr} {ka : Nat} {bo : Option Addr} {kb : Nat} {lo ro : Option Addr} {t : TS} {xo : Option Addr} {xc : Nat} {so : Option Addr} {sc : Nat}
    (h : Tk w X o S z h0 hb ga ca gb cb gs cs gr cr vw gw lw gi ci ff ll kl kr ao ka bo kb lo ro t xo xc so sc) (hS : ∀ b, S b → b < z) : ¬ S X.heap.size := fun k => by
  have := h.row.lt
  have := hS _ k
  omega
theorem told_end {w X X' : World} {o : Oq} {S : Nat → Prop} {z h0 hb ga ca gb cb gs cs gr cr : Nat} {vw : Value} {gw lw : Nat} {gi ci : Nat → Nat} {ff : Nat → Nat → Value} {ll kl kr : Nat} {ao : Option Addr} {ka : Nat} {bo : Option Addr} {kb : Nat} {lo ro : Option Addr} {t : TS} {xo : Option Addr} {xc : Nat} {so : Option Addr} {sc : Nat} {v0 v1 v2 v3 v4 v5 : Value}
    (hS0 : ∀ b, S b → h0 ≤ b) (hzl : ∀ b, S b → b < z) (hS1 : ¬ S (w.heap.size + 1)) (hSo : ∀ b n G, w.rowIs b 55 n G → ¬ S b) (h : Tk w X o S z h0 hb ga ca gb cb gs cs gr cr vw gw lw gi ci ff ll kl kr ao ka bo kb lo ro t xo xc so sc) (hp : BP S X X') (hi : Hi X' S hb) (hz : w.heap.size + 2 ≤ z) (h00 : h0 ≤ w.heap.size) :
    TA h0 ((((((X'.setCell ⟨w.heap.size + 1, 0, none⟩ v0).setCell ⟨w.heap.size + 1, 1, none⟩ v1).setCell ⟨w.heap.size + 1, 2, none⟩ v2).setCell ⟨w.heap.size + 1, 3, none⟩ v3).setCell ⟨w.heap.size + 1, 4, none⟩ v4).setCell ⟨w.heap.size + 1, 5, none⟩ v5) (td t.n xo t.m xc so t.l sc t.k t.mask t.e) t ∧
    Hi ((((((X'.setCell ⟨w.heap.size + 1, 0, none⟩ v0).setCell ⟨w.heap.size + 1, 1, none⟩ v1).setCell ⟨w.heap.size + 1, 2, none⟩ v2).setCell ⟨w.heap.size + 1, 3, none⟩ v3).setCell ⟨w.heap.size + 1, 4, none⟩ v4).setCell ⟨w.heap.size + 1, 5, none⟩ v5) (h0 ≤ ·) hb ∧
    BP (h0 ≤ ·) w ((((((X'.setCell ⟨w.heap.size + 1, 0, none⟩ v0).setCell ⟨w.heap.size + 1, 1, none⟩ v1).setCell ⟨w.heap.size + 1, 2, none⟩ v2).setCell ⟨w.heap.size + 1, 3, none⟩ v3).setCell ⟨w.heap.size + 1, 4, none⟩ v4).setCell ⟨w.heap.size + 1, 5, none⟩ v5) ∧
    ∀ b n G, w.rowIs b 55 n G → ((((((X'.setCell ⟨w.heap.size + 1, 0, none⟩ v0).setCell ⟨w.heap.size + 1, 1, none⟩ v1).setCell ⟨w.heap.size + 1, 2, none⟩ v2).setCell ⟨w.heap.size + 1, 3, none⟩ v3).setCell ⟨w.heap.size + 1, 4, none⟩ v4).setCell ⟨w.heap.size + 1, 5, none⟩ v5).rowIs b 55 n G := by
  have hu : BP (· = w.heap.size + 1) X' ((((((X'.setCell ⟨w.heap.size + 1, 0, none⟩ v0).setCell ⟨w.heap.size + 1, 1, none⟩ v1).setCell ⟨w.heap.size + 1, 2, none⟩ v2).setCell ⟨w.heap.size + 1, 3, none⟩ v3).setCell ⟨w.heap.size + 1, 4, none⟩ v4).setCell ⟨w.heap.size + 1, 5, none⟩ v5) := by
    exact ((((((BP.refl (· = w.heap.size + 1) X').set (.inl rfl) v0).set (.inl rfl) v1).set (.inl rfl) v2).set (.inl rfl) v3).set (.inl rfl) v4).set (.inl rfl) v5
  have hn : ∀ p : Addr, z < p.block → ¬ S p.block := fun p hp hx => by have := hzl _ hx; omega
  refine ⟨⟨xo, xc, so, sc, rfl, (h.r.bp hp fun p hp _ => hn p (h.rf p hp)).bp hu fun p hp _ e => by have := h.rf p hp; omega, h.rm, (h.s.bp hp fun p hp => hn p (h.sf p hp)).bp hu fun p hp e => by have := h.sf p hp; omega, h.sm, fun p hp => by have := h.rf p hp; omega, fun p hp => by have := h.sf p hp; omega⟩, (hi.bp hu fun b hb' e => hS1 (by rw [← e]; exact hb')).mono hS0, (h.lc.p.trans hp fun b _ hb' => hS0 b hb').trans hu fun b _ e => by omega, fun b n G k => hu.row (by have := k.lt; omega) (hp.row (hSo b n G k) (h.lc.op b n G k))⟩
end Go.Proofs.Yteghelmbibpohaa
