import Derived.Test.YteghelmbibpohaaQA
import Derived.BigQuiet
/- The whole Hand: its blocks, what stands in them. -/
namespace Go.Proofs.Yteghelmbibpohaa
open Go.RowKit

/-- All blocks of the Hand, what stands in each; all of them lie in S. -/
structure Hk (w : World) (S : Nat → Prop) (hb ga ca gb cb gs cs gr cr : Nat) (vw : Value) (gw lw : Nat) (gi ci : Nat → Nat) (fa fb fs fr : Nat → Value) (ff : Nat → Nat → Value) : Prop where
  h : Hd w hb (.slice (some ⟨ga, 0, none⟩) ca ca) (.slice (some ⟨gb, 0, none⟩) cb cb) (.slice (some ⟨gs, 0, none⟩) cs cs) vw (.slice (some ⟨gr, 0, none⟩) cr cr)
  a : w.rowIs ga 35 ca fa
  b : w.rowIs gb 35 cb fb
  s : w.rowIs gs 24 cs fs
  r : w.rowIs gr 27 (cr * 2) fr
  d : Wd w vw gw lw gi ci ff
  mx : ca ≤ maxLen ∧ cb ≤ maxLen ∧ cs ≤ maxLen ∧ cr ≤ maxLen ∧ lw ≤ 1048576
  ap : ga ≠ gb ∧ (∀ j, j < lw → ga ≠ gi j) ∧ ∀ j, j < lw → gb ≠ gi j
  lo : S hb ∧ S ga ∧ S gb ∧ S gs ∧ S gr ∧ (vw = .slice none 0 0 ∨ S gw) ∧ ∀ j, j < lw → S (gi j)
section
variable {w w1 : World} {S : Nat → Prop} {hb ga ca gb cb gs cs gr cr gw lw : Nat} {vw : Value} {gi ci : Nat → Nat} {fa fb fs fr f : Nat → Value} {ff : Nat → Nat → Value}
theorem Wd.keep' {g T n : Nat} {F : Nat → Value} (h : Wd w vw gw lw gi ci ff) (hr : w.rowIs g T n F) (hT : T ≠ 25) (hb : But g w w1) (h2 : ∀ j, j < lw → gi j ≠ g) : Wd w1 vw gw lw gi ci ff :=
  ⟨by
    rcases h.val with h | ⟨cw, f, e, k1, k2, k3, k4⟩
    · exact .inl h
    · exact .inr ⟨cw, f, e, k1, k2, hb.row (row_ne k3 hr (Ne.symm hT)) k3, k4⟩, fun j hj => hb.row (h2 j hj) (h.row j hj), h.max, h.inj⟩
theorem Hk.onA (h : Hk w S hb ga ca gb cb gs cs gr cr vw gw lw gi ci fa fb fs fr ff) (hu : But ga w w1) (hr : w1.rowIs ga 35 ca f) : Hk w1 S hb ga ca gb cb gs cs gr cr vw gw lw gi ci f fb fs fr ff :=
  ⟨hu.row (row_ne h.h h.a (by decide)) h.h, hr, hu.row h.ap.1.symm h.b, hu.row (row_ne h.s h.a (by decide)) h.s, hu.row (row_ne h.r h.a (by decide)) h.r, h.d.keep' h.a (by decide) hu fun j hj => (h.ap.2.1 j hj).symm, h.mx, h.ap, h.lo⟩
theorem Hk.onB (h : Hk w S hb ga ca gb cb gs cs gr cr vw gw lw gi ci fa fb fs fr ff) (hu : But gb w w1) (hr : w1.rowIs gb 35 cb f) : Hk w1 S hb ga ca gb cb gs cs gr cr vw gw lw gi ci fa f fs fr ff :=
  ⟨hu.row (row_ne h.h h.b (by decide)) h.h, hu.row h.ap.1 h.a, hr, hu.row (row_ne h.s h.b (by decide)) h.s, hu.row (row_ne h.r h.b (by decide)) h.r, h.d.keep' h.b (by decide) hu fun j hj => (h.ap.2.2 j hj).symm, h.mx, h.ap, h.lo⟩
theorem Hk.onS (h : Hk w S hb ga ca gb cb gs cs gr cr vw gw lw gi ci fa fb fs fr ff) (hu : But gs w w1) (hr : w1.rowIs gs 24 cs f) : Hk w1 S hb ga ca gb cb gs cs gr cr vw gw lw gi ci fa fb f fr ff :=
  ⟨hu.row (row_ne h.h h.s (by decide)) h.h, hu.row (row_ne h.a h.s (by decide)) h.a, hu.row (row_ne h.b h.s (by decide)) h.b, hr, hu.row (row_ne h.r h.s (by decide)) h.r, h.d.keep' h.s (by decide) hu fun j hj => row_ne (h.d.row j hj) h.s (by decide), h.mx, h.ap, h.lo⟩
theorem Hk.onR (h : Hk w S hb ga ca gb cb gs cs gr cr vw gw lw gi ci fa fb fs fr ff) (hu : But gr w w1) (hr : w1.rowIs gr 27 (cr * 2) f) : Hk w1 S hb ga ca gb cb gs cs gr cr vw gw lw gi ci fa fb fs f ff :=
  ⟨hu.row (row_ne h.h h.r (by decide)) h.h, hu.row (row_ne h.a h.r (by decide)) h.a, hu.row (row_ne h.b h.r (by decide)) h.b, hu.row (row_ne h.s h.r (by decide)) h.s, hr, h.d.keep' h.r (by decide) hu fun j hj => row_ne (h.d.row j hj) h.r (by decide), h.mx, h.ap, h.lo⟩
theorem Hk.onW (h : Hk w S hb ga ca gb cb gs cs gr cr vw gw lw gi ci fa fb fs fr ff) {i : Nat} (hi : i < lw) (hu : But (gi i) w w1) (hr : w1.rowIs (gi i) 35 (ci i) f) : Hk w1 S hb ga ca gb cb gs cs gr cr vw gw lw gi ci fa fb fs fr (upd ff i f) :=
  ⟨hu.row (row_ne h.h (h.d.row i hi) (by decide)) h.h, hu.row (h.ap.2.1 i hi) h.a, hu.row (h.ap.2.2 i hi) h.b, hu.row (row_ne h.s (h.d.row i hi) (by decide)) h.s, hu.row (row_ne h.r (h.d.row i hi) (by decide)) h.r,
   ⟨by
    rcases h.d.val with h | ⟨cw, f, e, k1, k2, k3, k4⟩
    · exact .inl h
    · exact .inr ⟨cw, f, e, k1, k2, hu.row (row_ne k3 (h.d.row i hi) (by decide)) k3, k4⟩, fun j hj => by
      by_cases e : j = i
      · subst e; rw [upd_same]; exact hr
      · rw [upd_other _ _ _ e]; exact hu.row (fun he => e (h.d.inj j i hj hi he)) (h.d.row j hj), h.d.max, h.d.inj⟩, h.mx, h.ap, h.lo⟩
theorem Hk.bp {T : Nat → Prop} (h : Hk w S hb ga ca gb cb gs cs gr cr vw gw lw gi ci fa fb fs fr ff) (hu : BP T w w1) (hT : ∀ b, S b → ¬ T b) : Hk w1 S hb ga ca gb cb gs cs gr cr vw gw lw gi ci fa fb fs fr ff :=
  ⟨hu.row (hT _ h.lo.1) h.h, hu.row (hT _ h.lo.2.1) h.a, hu.row (hT _ h.lo.2.2.1) h.b, hu.row (hT _ h.lo.2.2.2.1) h.s, hu.row (hT _ h.lo.2.2.2.2.1) h.r,
   ⟨by
    rcases h.d.val with k | ⟨cw, f, e, k1, k2, k3, k4⟩
    · exact .inl k
    · refine .inr ⟨cw, f, e, k1, k2, hu.row ?_ k3, k4⟩
      rcases h.lo.2.2.2.2.2.1 with e2 | e2
      · rw [e] at e2; injection e2 with e2; cases e2
      · exact hT _ e2, fun j hj => hu.row (hT _ (h.lo.2.2.2.2.2.2 j hj)) (h.d.row j hj), h.d.max, h.d.inj⟩, h.mx, h.ap, h.lo⟩
theorem Hk.below (h : Hk w S hb ga ca gb cb gs cs gr cr vw gw lw gi ci fa fb fs fr ff) (hu : Below w.heap.size w w1) : Hk w1 S hb ga ca gb cb gs cs gr cr vw gw lw gi ci fa fb fs fr ff :=
  h.bp (BP.bel (S := fun _ => False) hu) fun _ _ h => h
theorem Hk.toR (h : Hk w S hb ga ca gb cb gs cs gr cr vw gw lw gi ci fa fb fs fr ff) (hf : ∀ k, k < cr * 2 → fr k = f k) : Hk w S hb ga ca gb cb gs cs gr cr vw gw lw gi ci fa fb fs f ff :=
  ⟨h.h, h.a, h.b, h.s, h.r.congr hf, h.d, h.mx, h.ap, h.lo⟩
theorem Hk.toS (h : Hk w S hb ga ca gb cb gs cs gr cr vw gw lw gi ci fa fb fs fr ff) (hf : ∀ k, k < cs → fs k = f k) : Hk w S hb ga ca gb cb gs cs gr cr vw gw lw gi ci fa fb f fr ff :=
  ⟨h.h, h.a, h.b, h.s.congr hf, h.r, h.d, h.mx, h.ap, h.lo⟩
theorem BP.on {T : Nat → Prop} {g : Nat} (h : BP T w w1) {w2 : World} (hu : But g w1 w2) (hg : T g) : BP T w w2 := h.trans (BP.but hu) fun _ _ e => by rw [e]; exact hg
theorem But.self (g o : Nat) (v : Value) : But g w (w.setCell ⟨g, o, none⟩ v) := (But.refl g w).set v
end
/-- The operation's own blocks are none of S. -/
structure Ob (S : Nat → Prop) (o : Oq) (ao bo lo ro : Option Addr) (ad : Nat → Option Addr) : Prop where
  a : ∀ p, ao = some p → 0 < o.m1 → ¬ S p.block
  b : ∀ p, bo = some p → 0 < o.m2 → ¬ S p.block
  l : ∀ p, lo = some p → 0 < o.l.length → ¬ S p.block
  r : ∀ p, ro = some p → 0 < o.J → ¬ S p.block
  d : ∀ j, j < o.J → ∀ p, ad j = some p → 0 < o.m j → ¬ S p.block
theorem R8.bp {S : Nat → Prop} {w w' : World} {ao : Option Addr} {l : List Int} (h : R8 w ao l) (hb : BP S w w') (hs : ∀ p, ao = some p → 0 < l.length → ¬ S p.block) : R8 w' ao l :=
  fun k hk => by
    obtain ⟨g, o, e, c⟩ := h k hk
    exact ⟨g, o, e, hb.cell (hs ⟨g, o, none⟩ e (by omega)) c⟩
theorem Ow.bp {S : Nat → Prop} {w w' : World} {o : Oq} {ao bo lo ro : Option Addr} {ca cb : Nat} {ad : Nat → Option Addr} {cp : Nat → Nat} (h : Ow w o ao ca bo cb lo ro ad cp) (hu : BP S w w') (hs : Ob S o ao bo lo ro ad) : Ow w' o ao ca bo cb lo ro ad cp :=
  ⟨h.a.bp hu hs.a, h.am, h.az, h.b.bp hu hs.b, h.bm, h.bz, h.l.bp hu hs.l, h.lm, h.r.bp hu hs.r hs.d, h.rm, h.rz, h.jm, h.f⟩
/-- The nine cells of an operation. -/
def opf (kd n1 : Int) (ao : Option Addr) (m1 ca : Nat) (n2 : Int) (bo : Option Addr) (m2 cb : Nat) (lo : Option Addr) (ll lc : Nat) (ro : Option Addr) (J rc : Nat) (fr to_ : Int) : Nat → Value := fun k =>
  if k = 0 then .int .i64 kd else if k = 1 then .int .i64 n1 else if k = 2 then .slice ao m1 ca else if k = 3 then .int .i64 n2 else if k = 4 then .slice bo m2 cb else if k = 5 then .slice lo ll lc else if k = 6 then .slice ro J rc else if k = 7 then .int .i64 fr else .int .i64 to_
theorem op_new (w : World) (kd n1 : Int) (ao : Option Addr) (m1 ca : Nat) (n2 : Int) (bo : Option Addr) (m2 cb : Nat) (lo : Option Addr) (ll lc : Nat) (ro : Option Addr) (J rc : Nat) (fr to_ : Int) (t : TypeId) :
    (w.alloc (.cells #[.int .i64 kd, .int .i64 n1, .slice ao m1 ca, .int .i64 n2, .slice bo m2 cb, .slice lo ll lc, .slice ro J rc, .int .i64 fr, .int .i64 to_] t)).rowIs w.heap.size t 9 (opf kd n1 ao m1 ca n2 bo m2 cb lo ll lc ro J rc fr to_) :=
  World.rowIs_alloc w _ t _ (fun i hi => by
    rcases i with _ | _ | _ | _ | _ | _ | _ | _ | _ | i
    all_goals first
      | rfl
      | (simp at hi; omega))
theorem op_cells {w : World} {b t : Nat} {kd n1 : Int} {ao : Option Addr} {m1 ca : Nat} {n2 : Int} {bo : Option Addr} {m2 cb : Nat} {lo : Option Addr} {ll lc : Nat} {ro : Option Addr} {J rc : Nat} {fr to_ : Int} (h : w.rowIs b t 9 (opf kd n1 ao m1 ca n2 bo m2 cb lo ll lc ro J rc fr to_)) :
    w.cell? ⟨b, 0, none⟩ = some (.int .i64 kd) ∧ w.cell? ⟨b, 1, none⟩ = some (.int .i64 n1) ∧ w.cell? ⟨b, 2, none⟩ = some (.slice ao m1 ca) ∧ w.cell? ⟨b, 3, none⟩ = some (.int .i64 n2) ∧ w.cell? ⟨b, 4, none⟩ = some (.slice bo m2 cb) ∧ w.cell? ⟨b, 5, none⟩ = some (.slice lo ll lc) ∧ w.cell? ⟨b, 6, none⟩ = some (.slice ro J rc) ∧ w.cell? ⟨b, 7, none⟩ = some (.int .i64 fr) ∧ w.cell? ⟨b, 8, none⟩ = some (.int .i64 to_) :=
  ⟨h.cell (by omega), h.cell (by omega), h.cell (by omega), h.cell (by omega), h.cell (by omega), h.cell (by omega), h.cell (by omega), h.cell (by omega), h.cell (by omega)⟩
/-- The Hand, filled with an operation's arguments. -/
structure Hm (w : World) (o : Oq) (S : Nat → Prop) (hb ga ca gb cb gs cs gr cr : Nat) (vw : Value) (gw lw : Nat) (gi ci : Nat → Nat) (ff : Nat → Nat → Value) : Prop where
  k : Hk w S hb ga ca gb cb gs cs gr cr vw gw lw gi ci (fwf o.A o.m1) (fwf o.B o.m2) (nmf o.l) (lsf o.n o.m o.J gi ci) ff
  am : o.m1 + 2 ≤ ca
  bm : o.m2 + 2 ≤ cb
  sm : o.l.length + 2 ≤ cs
  rm : o.J + 1 ≤ cr
  dl : o.J ≤ lw
  dn : ∀ j, j < o.J → ff j = fwf (o.N j) (o.m j) ∧ o.m j + 2 ≤ ci j
/-- The Hand, whatever stands in it: nothing yet, or blocks of S. -/
def Hi (w : World) (S : Nat → Prop) (hb : Nat) : Prop :=
  (Hd w hb (.slice none 0 0) (.slice none 0 0) (.slice none 0 0) (.slice none 0 0) (.slice none 0 0) ∧ S hb) ∨ ∃ ga ca gb cb gs cs gr cr vw gw lw gi ci fa fb fs fr ff, Hk w S hb ga ca gb cb gs cs gr cr vw gw lw gi ci fa fb fs fr ff
end Go.Proofs.Yteghelmbibpohaa
/- Hand.kept. -/
namespace Go.Proofs.Yteghelmbibpohaa
open Go.RowKit

/-- The first k small numbers are written over. -/
def sgk (f : Nat → Value) (k : Nat) : Nat → Value := fun j => if j < k then .int .i8 (-99) else f j
theorem sgk_step {w : World} {g c k : Nat} {f : Nat → Value} (h : w.rowIs g 24 c (sgk f k)) : (w.setCell ⟨g, k, none⟩ (.int .i8 (-99))).rowIs g 24 c (sgk f (k + 1)) := by
  refine (h.set k _).congr fun j _ => ?_
  unfold sgk
  by_cases e : j = k
  · subst e; simp
  · rw [if_neg e]
    by_cases h : j < k
    · rw [if_pos h, if_pos (by omega)]
    · rw [if_neg h, if_neg (by omega)]
/-- The first k rows are written over. -/
def rwk (f : Nat → Value) (k : Nat) : Nat → Value := fun p => if p / 2 < k then (if p % 2 = 0 then .int .i64 (-99) else .slice none 0 0) else f p
theorem rwk_step {w : World} {g c k : Nat} {f : Nat → Value} (h : w.rowIs g 27 c (rwk f k)) :
    ((w.setCell ⟨g, k * 2, none⟩ (.int .i64 (-99))).setCell ⟨g, k * 2 + 1, none⟩ (.slice none 0 0)).rowIs g 27 c (rwk f (k + 1)) :=
  ((h.set (k * 2) _).set (k * 2 + 1) _).congr fun p hp => by
    by_cases h1 : p = k * 2 + 1
    · rw [if_pos h1]; subst h1
      unfold rwk
      rw [if_pos (by omega), if_neg (by omega)]
    · rw [if_neg h1]
      by_cases h2 : p = k * 2
      · rw [if_pos h2]; subst h2
        unfold rwk
        rw [if_pos (by omega), if_pos (by omega)]
      · rw [if_neg h2]
        unfold rwk
        by_cases h3 : p / 2 < k
        · rw [if_pos h3, if_pos (show p / 2 < k + 1 by omega)]
        · rw [if_neg h3, if_neg (show ¬ p / 2 < k + 1 by omega)]
theorem bl_drewN' (w : World) (n : Nat) : Below w.heap.size w (w.drewN n) := by
  have h : But w.heap.size w (w.drewN n) := (But.refl _ w).drewN n
  exact ⟨h.os, h.tape, h.output, h.size, fun k hk => h.block k hk (by omega)⟩
theorem BP.step {S : Nat → Prop} {a b c : World} (h : BP S a b) (k : Below b.heap.size b c) : BP S a c := h.trans (BP.bel (S := fun _ => False) k) fun _ _ h => h.elim
set_option maxHeartbeats 3200000 in
set_option maxRecDepth 100000 in
theorem kept_hand (kd n1 : Int) (m1 A : Nat) (n2 : Int) (m2 B : Nat) (l : List Int) (ll : Nat) (hll : l.length = ll) (J : Nat) (n : Nat → Int) (m N : Nat → Nat) (fr to_ : Int) (S : Nat → Prop) (hb ga ca gb cb gs cs gr cr : Nat) (vw : Value) (gw lw : Nat) (gi ci : Nat → Nat) (ff : Nat → Nat → Value) (ao : Option Addr) (ka : Nat) (bo : Option Addr) (kb : Nat) (lo : Option Addr) (kl : Nat) (ro : Option Addr) (kr : Nat) (ad : Nat → Option Addr) (cp : Nat → Nat) (w : World)
    (hz : ¬ S w.heap.size) (hs : Hm w ⟨kd, n1, m1, A, n2, m2, B, l, J, n, m, N, fr, to_⟩ S hb ga ca gb cb gs cs gr cr vw gw lw gi ci ff) (ho : Ow w ⟨kd, n1, m1, A, n2, m2, B, l, J, n, m, N, fr, to_⟩ ao ka bo kb lo ro ad cp) (hob : Ob S ⟨kd, n1, m1, A, n2, m2, B, l, J, n, m, N, fr, to_⟩ ao bo lo ro ad) :
    Calls Try.prog 43 #[.pointer (some ⟨hb, 0, none⟩), ov kd n1 ao m1 ka n2 bo m2 kb lo ll kl ro J kr fr to_] w fun e w' => e = .returned (.bool true) ∧ Hi w' S hb ∧ BP S w w' := by
  have HO := hid1 ho
  have HB := hid1 hob
  have HS := hid1 hs
  have HZ := hid1 hz
  have HL := hid1 hll
  clear ho hob hs hz hll
  go_enter Try.func43, Try.ntmps43
  go_upto_region 1 with fail
  refine gen_world (fun W => Below w.heap.size w W ∧ W.rowIs w.heap.size 55 9 (opf kd n1 ao m1 ka n2 bo m2 kb lo ll kl ro J kr fr to_)) ⟨bl_alloc (Below.refl _ _) _, op_new _ _ _ _ _ _ _ _ _ _ _ _ _ _ _ _ _ _ _⟩ ?_
  rintro W ⟨B0, r0⟩
  have hk := HS.out.k.below B0
  have hP : BP S w W := BP.bel B0
  have x0 : W.cell? ⟨hb, 0, none⟩ = some (.slice (some ⟨ga, 0, none⟩) ca ca) := hk.h.cell (by omega)
  obtain ⟨_, _, b2, _, b4, b5, b6, _, _⟩ := op_cells r0
  have HK := hid1 hk
  have HR0 := hid1 r0
  clear hk r0 b4 b5 b6
  refine still_tail 7 (by kernel_rfl) ?_
  simp only [List.take_succ_cons, List.take_zero, List.drop_succ_cons, List.drop_zero]
  repeat still_step
  refine wpStill_nil ?_
  go_upto_region 2 with (go_at_call 59; refine gen_calls (fun X => Below W.heap.size W X) (Below.drew (Below.refl _ _)) ?_; intro X hX; refine (asFilled_any ga ca m1 A ka ao X HO.out.am HK.out.mx.1 (HK.out.below hX).a (HO.out.a.bp (hP.step hX) HB.out.a) (fun b o he h hbg => HB.out.a _ he h (by rw [hbg]; exact HK.out.lo.2.1))).mono ?_; rintro e w1 ⟨rfl, hrow1, hbut1⟩)
  have hk1 := (HK.out.below hX).onA hbut1 hrow1
  have hP1 := (hP.step hX).on hbut1 HK.out.lo.2.1
  have r1 := (BP.bel hX : BP S W X).on hbut1 HK.out.lo.2.1 |>.row HZ.out HR0.out
  clear HK HR0 hX hbut1 hrow1 hP x0 b2 B0
  obtain ⟨V, rfl⟩ : ∃ V, V = w1 := ⟨_, rfl⟩
  have x1 : V.cell? ⟨hb, 1, none⟩ = some (.slice (some ⟨gb, 0, none⟩) cb cb) := hk1.h.cell (by omega)
  obtain ⟨_, _, _, _, b4, _, _, _, _⟩ := op_cells r1
  have HK := hid1 hk1
  have HR := hid1 r1
  clear hk1 r1
  refine still_tail 7 (by kernel_rfl) ?_
  simp only [List.take_succ_cons, List.take_zero, List.drop_succ_cons, List.drop_zero]
  repeat still_step
  refine wpStill_nil ?_
  go_upto_region 3 with (go_at_call 59; refine gen_calls (fun X => Below V.heap.size V X) (Below.drew (Below.refl _ _)) ?_; intro X hX; refine (asFilled_any gb cb m2 B kb bo X HO.out.bm HK.out.mx.2.1 (HK.out.below hX).b (HO.out.b.bp (hP1.step hX) HB.out.b) (fun b o he h hbg => HB.out.b _ he h (by rw [hbg]; exact HK.out.lo.2.2.1))).mono ?_; rintro e w1 ⟨rfl, hrow1, hbut1⟩)
  have hk2 := (HK.out.below hX).onB hbut1 hrow1
  have hP2 := (hP1.step hX).on hbut1 HK.out.lo.2.2.1
  have r2 := (BP.bel hX : BP S V X).on hbut1 HK.out.lo.2.2.1 |>.row HZ.out HR.out
  clear HK HR hX hbut1 hrow1 hP1 x1 b4
  obtain ⟨U, rfl⟩ : ∃ U, U = w1 := ⟨_, rfl⟩
  have HK := hid1 (hk2.toS (f := sgk (nmf l) 0) fun k _ => by simp [sgk])
  have HR := hid1 r2
  have HP := hid1 hP2
  have hcs : cs ≤ 9223372036854775807 := by have := hk2.mx.2.2.1; unfold maxLen at this; omega
  have ics : (cs : Int) ≤ 9223372036854775807 := by omega
  have hcr : cr ≤ 9223372036854775807 := by have := hk2.mx.2.2.2.1; unfold maxLen at this; omega
  have icr : (cr : Int) ≤ 9223372036854775807 := by omega
  have il0 : (0 : Int) ≤ (ll : Int) := by omega
  have ilm : ll ≤ 1048576 := by have := HO.out.lm; have := HL.out; simp only at *; omega
  have ilm' : (ll : Int) ≤ 1048576 := by omega
  clear hk2 r2 hP2
  go_wp2_with fail
  go_loopw [5, 7] (fun s i wr => ∃ k : Nat, k ≤ cs ∧ i = .int .i64 k ∧ s = .bool true ∧ Hk wr S hb ga ca gb cb gs cs gr cr vw gw lw gi ci (fun _ => ee) (fun _ => ee) (sgk (nmf l) k) (lsf n m J gi ci) ff ∧ BP S w wr ∧ wr.rowIs w.heap.size 55 9 (opf kd n1 ao m1 ka n2 bo m2 kb lo ll kl ro J kr fr to_)) (fun _ i _ => cs - (intOf i).toNat)
  case atStart => exact ⟨0, Nat.zero_le _, rfl, rfl, HK.out, HP.out, HR.out⟩
  case round =>
    clear HK HP HR
    obtain ⟨k, hk, rfl, rfl, hkk, hP, hr⟩ := hrel
    have ik0 : (0 : Int) ≤ (k : Int) := by omega
    obtain ⟨_, _, _, _, _, b5, _, _, _⟩ := op_cells hr
    have x2 : wr.cell? ⟨hb, 2, none⟩ = some (.slice (some ⟨gs, 0, none⟩) cs cs) := hkk.h.cell (by omega)
    by_cases hlt : k < cs
    · have ik : (k : Int) < (cs : Int) := by omega
      have fw := hkk.s.frozen k
      have cw := hkk.s.cell hlt
      simp only [sgk, Nat.lt_irrefl, if_false, nmf, HL.out] at cw
      have HK := hid1 hkk
      have HP := hid1 hP
      have HR := hid1 hr
      clear hkk hP hr
      by_cases hkm : k < ll
      · have ikm : (k : Int) < (ll : Int) := by omega
        obtain ⟨b, o, hlo, c8⟩ := (HO.out.l.bp HP.out HB.out.l) k (by simp only; rw [HL.out]; exact hkm)
        subst hlo
        rw [if_pos hkm] at cw
        simp only at c8
        go_wp2_with fail
        have hk' := HK.out
        exact ⟨⟨k + 1, by omega, by go_num, rfl, hk'.onS (But.self _ _ _) (sgk_step hk'.s), HP.out.on (But.self _ _ _) hk'.lo.2.2.2.1, HR.out.setOther (a := ⟨gs, k, none⟩) (row_ne HR.out hk'.s (by decide)) _⟩, by simp [intOf]; omega⟩
      · have ikm : ¬ (k : Int) < (ll : Int) := by omega
        rw [if_neg hkm] at cw
        unfold mk8 at cw
        go_wp2_with fail
        have hk' := HK.out
        exact ⟨⟨k + 1, by omega, by go_num, rfl, hk'.onS (But.self _ _ _) (sgk_step hk'.s), HP.out.on (But.self _ _ _) hk'.lo.2.2.2.1, HR.out.setOther (a := ⟨gs, k, none⟩) (row_ne HR.out hk'.s (by decide)) _⟩, by simp [intOf]; omega⟩
    · have hkc : k = cs := by omega
      subst hkc
      have HK := hid1 hkk
      have HP := hid1 hP
      have HR := hid1 hr
      clear hkk hP hr
      obtain ⟨U, rfl⟩ : ∃ U, U = wr := ⟨_, rfl⟩
      have HF := hid1 (fun j (hj : j < J) => (HS.out.dn j hj).1)
      have hJl := HS.out.dl
      simp only at hJl
      have hJm := HO.out.jm
      simp only at hJm
      have iJ0 : (0 : Int) ≤ (J : Int) := by omega
      have iJm : (J : Int) ≤ 1048576 := by omega
      go_wp2_with fail
      go_loopw [5, 6, 9] (fun s z i wr => ∃ q : Nat, ∃ ff', q ≤ cr ∧ i = .int .i64 q ∧ s = .bool true ∧ z = .bool true ∧ Hk wr S hb ga ca gb cb gs k gr cr vw gw lw gi ci (fun _ => ee) (fun _ => ee) (sgk (nmf l) k) (rwk (lsf n m J gi ci) q) ff' ∧ (∀ j, q ≤ j → j < J → ff' j = fwf (N j) (m j)) ∧ BP S w wr ∧ wr.rowIs w.heap.size 55 9 (opf kd n1 ao m1 ka n2 bo m2 kb lo ll kl ro J kr fr to_)) (fun _ _ i _ => cr - (intOf i).toNat)
      case atStart => exact ⟨0, ff, Nat.zero_le _, rfl, rfl, rfl, HK.out.toR fun p _ => by simp [rwk], fun j _ hj => HF.out j hj, HP.out, HR.out⟩
      case round =>
        clear HK HP HR HF
        obtain ⟨q, ff', hq, rfl, rfl, rfl, hkk, hff, hP, hr⟩ := hrel
        have iq0 : (0 : Int) ≤ (q : Int) := by omega
        obtain ⟨_, _, _, _, _, _, b6, _, _⟩ := op_cells hr
        have x4 : wr.cell? ⟨hb, 4, none⟩ = some (.slice (some ⟨gr, 0, none⟩) cr cr) := hkk.h.cell (by omega)
        by_cases hlt : q < cr
        · have iq : (q : Int) < (cr : Int) := by omega
          have fw0 := hkk.r.frozen (q * 2)
          have fw1 := hkk.r.frozen (q * 2 + 1)
          have cw0 := hkk.r.cell (i := q * 2) (by omega)
          have cw1 := hkk.r.cell (i := q * 2 + 1) (by omega)
          have HK := hid1 hkk
          have HP := hid1 hP
          have HR := hid1 hr
          have HF := hid1 hff
          clear hkk hP hr hff
          by_cases hqJ : q < J
          · have iqJ : (q : Int) < (J : Int) := by omega
            have e0 : rwk (lsf n m J gi ci) q (q * 2) = .int .i64 (n q) := by
              unfold rwk lsf
              rw [if_neg (by omega), if_pos (by omega), if_pos (by omega), show q * 2 / 2 = q by omega]
            have e1 : rwk (lsf n m J gi ci) q (q * 2 + 1) = .slice (some ⟨gi q, 0, none⟩) (m q) (ci q) := by
              unfold rwk lsf
              rw [if_neg (by omega), if_pos (by omega), if_neg (by omega), show (q * 2 + 1) / 2 = q by omega]
            rw [e0] at cw0
            rw [e1] at cw1
            have hJo := HO.out.r.bp HP.out HB.out.r HB.out.d
            obtain ⟨gl, ol, rfl, d0, d1⟩ := hJo.at_ q hqJ
            simp only at d0 d1
            clear hJo
            go_upto_region 17 with fail
            go_quiet (fail)
            go_upto_region 18 with fail
            refine gen_world (fun X => Below wr.heap.size wr X) (bl_drewN' _ _) ?_
            intro Y hY
            have hqlw : q < lw := by omega
            have iqlw : (q : Int) < (lw : Int) := by omega
            have hk1 := HK.out.below hY
            obtain ⟨cw, fv, rfl, k1, k2, k3, k4⟩ : ∃ cw f, vw = .slice (some ⟨gw, 0, none⟩) lw cw ∧ lw ≤ cw ∧ cw ≤ maxLen ∧ Y.rowIs gw 25 cw f ∧ ∀ j, j < lw → f j = wsf gi ci j := by
              rcases hk1.d.val with ⟨_, e⟩ | h
              · omega
              · exact h
            have cwq : Y.cell? ⟨gw, q, none⟩ = some (.slice (some ⟨gi q, 0, none⟩) (ci q) (ci q)) := by
              have h := k3.cell (i := q) (by omega)
              rw [k4 q hqlw] at h
              exact h
            have x3 : Y.cell? ⟨hb, 3, none⟩ = some (.slice (some ⟨gw, 0, none⟩) lw cw) := hk1.h.cell (by omega)
            replace b6 := keepc hY b6
            replace d1 := keepc hY d1
            have hP1 := HP.out.step hY
            have HK1 := hid1 hk1
            have HR1 := hid1 (keepr hY HR.out)
            clear HK HR HP hk1 k3 k4 cw0 cw1 fw0 fw1 x4 d0
            refine still_tail 13 (by kernel_rfl) ?_
            simp only [List.take_succ_cons, List.take_zero, List.drop_succ_cons, List.drop_zero]
            repeat still_step
            refine wpStill_nil ?_
            go_upto_region 19 with (go_at_call 59; refine gen_calls (fun X => Below Y.heap.size Y X) (Below.drew (Below.refl _ _)) ?_; intro X hX; refine (asFilled_any (gi q) (ci q) (m q) (N q) (cp q) (ad q) X (HO.out.rm q hqJ) (HK1.out.d.max q hqlw) (by rw [← HF.out q (Nat.le_refl _) hqJ]; exact (HK1.out.below hX).d.row q hqlw) ((HO.out.r.rd q hqJ).bp (hP1.step hX) (HB.out.d q hqJ)) (fun b o he h hbg => HB.out.d q hqJ _ he h (by rw [hbg]; exact HK1.out.lo.2.2.2.2.2.2 q hqlw))).mono ?_; rintro e w1 ⟨rfl, hrow1, hbut1⟩)
            have hk2 := (HK1.out.below hX).onW hqlw hbut1 hrow1
            have hP2 := (hP1.step hX).on hbut1 (HK1.out.lo.2.2.2.2.2.2 q hqlw)
            have r2 := (BP.bel hX : BP S Y X).on hbut1 (HK1.out.lo.2.2.2.2.2.2 q hqlw) |>.row HZ.out HR1.out
            clear HK1 HR1 hX hbut1 hrow1 hP1 x3 b6 d1 cwq
            have x4 : w1.cell? ⟨hb, 4, none⟩ = some (.slice (some ⟨gr, 0, none⟩) cr cr) := hk2.h.cell (by omega)
            have fw0 := hk2.r.frozen (q * 2)
            have fw1 := hk2.r.frozen (q * 2 + 1)
            have cw0 := hk2.r.cell (i := q * 2) (by omega)
            have cw1 := hk2.r.cell (i := q * 2 + 1) (by omega)
            rw [e0] at cw0
            rw [e1] at cw1
            have HK := hid1 hk2
            have HR := hid1 r2
            clear hk2 r2
            go_wp2_with fail
            have hk' := HK.out
            have k1 := hk'.onR ((But.self gr (q * 2) (.int .i64 (-99))).set (o := q * 2 + 1) (.slice none 0 0)) (rwk_step hk'.r)
            refine ⟨⟨q + 1, _, by omega, by go_num, rfl, rfl, k1, fun j hj hJ => ?_, hP2.on ((But.self gr (q * 2) (.int .i64 (-99))).set (o := q * 2 + 1) (.slice none 0 0)) hk'.lo.2.2.2.2.1, (HR.out.setOther (a := ⟨gr, q * 2, none⟩) (row_ne HR.out hk'.r (by decide)) _).setOther (a := ⟨gr, q * 2 + 1, none⟩) (row_ne HR.out hk'.r (by decide)) _⟩, by simp [intOf]; omega⟩
            rw [upd_other _ _ _ (by omega)]
            exact HF.out j (by omega) hJ
          · have iqJ : (J : Int) ≤ (q : Int) := by omega
            have e0 : rwk (lsf n m J gi ci) q (q * 2) = .int .i64 (-77) := by
              unfold rwk lsf
              rw [if_neg (by omega), if_neg (by omega), if_pos (by omega)]
            have e1 : rwk (lsf n m J gi ci) q (q * 2 + 1) = .slice none 0 0 := by
              unfold rwk lsf
              rw [if_neg (by omega), if_neg (by omega), if_neg (by omega)]
            rw [e0] at cw0
            rw [e1] at cw1
            go_wp2_with fail
            have hk' := HK.out
            have k1 := hk'.onR ((But.self gr (q * 2) (.int .i64 (-99))).set (o := q * 2 + 1) (.slice none 0 0)) (rwk_step hk'.r)
            refine ⟨⟨q + 1, ff', by omega, by go_num, rfl, rfl, k1, fun j hj hJ => HF.out j (by omega) hJ, HP.out.on ((But.self gr (q * 2) (.int .i64 (-99))).set (o := q * 2 + 1) (.slice none 0 0)) hk'.lo.2.2.2.2.1, (HR.out.setOther (a := ⟨gr, q * 2, none⟩) (row_ne HR.out hk'.r (by decide)) _).setOther (a := ⟨gr, q * 2 + 1, none⟩) (row_ne HR.out hk'.r (by decide)) _⟩, by simp [intOf]; omega⟩
        · have hqc : q = cr := by omega
          subst hqc
          have HK := hid1 hkk
          have HP := hid1 hP
          clear hkk hP hr hff
          go_wp2_with fail
          go_ret
          exact ⟨rfl, .inr ⟨_, _, _, _, _, _, _, _, _, _, _, _, _, _, _, _, _, _, HK.out⟩, HP.out⟩
end Go.Proofs.Yteghelmbibpohaa
