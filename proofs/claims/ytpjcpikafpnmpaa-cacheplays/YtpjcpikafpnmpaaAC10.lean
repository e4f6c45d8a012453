/- The law's plays. -/
import Derived.Test.YtpjcpikafpnmpaaAC9
namespace Go.Proofs.Ytpjcpikafpnmpaa
open Go.RowKit

/-- A step under way on both caches; F: what the law itself has made. -/
structure Gm (w0 w : World) (U F : Nat → Prop) (p d : Nat) (rm : Int) (S T : Nat → Prop) (bm : Nat) (h m h2 m2 : Int) (L : List Ce) (v : Value) (R : List Re) (X : World) : Prop where
  c : Cw w0 X S p rm bm h m L
  r : Rv X T d rm h2 m2 v R
  rn : ∀ k, T k → w0.heap.size ≤ k ∧ k < X.heap.size
  ap : ∀ k, S k → ¬ T k
  hs : ∀ k, S k → U k ∨ w.heap.size ≤ k
  ht : ∀ k, T k → U k ∨ w.heap.size ≤ k
  bp : BP U w X
  fr : ∀ k, F k → ¬ S k ∧ ¬ T k ∧ k < X.heap.size
section
variable {w0 w : World} {U F : Nat → Prop} {p d : Nat} {rm : Int} {S T : Nat → Prop} {bm : Nat} {h m h2 m2 : Int} {L : List Ce} {v : Value} {R : List Re} {X : World}
theorem Gm.below (g : Gm w0 w U F p d rm S T bm h m h2 m2 L v R X) {Y : World} (hb : Below X.heap.size X Y) : Gm w0 w U F p d rm S T bm h m h2 m2 L v R Y :=
  ⟨g.c.below hb, g.r.below hb, fun k hk => ⟨(g.rn k hk).1, Nat.lt_of_lt_of_le (g.rn k hk).2 hb.size⟩, g.ap, g.hs, g.ht, g.bp.step hb, fun k hk => ⟨(g.fr k hk).1, (g.fr k hk).2.1, Nat.lt_of_lt_of_le (g.fr k hk).2.2 hb.size⟩⟩
theorem Gm.more (g : Gm w0 w U F p d rm S T bm h m h2 m2 L v R X) {Y : World} (hb : Below X.heap.size X Y) {F' : Nat → Prop} (hF : ∀ k, F' k → F k ∨ (X.heap.size ≤ k ∧ k < Y.heap.size)) : Gm w0 w U F' p d rm S T bm h m h2 m2 L v R Y := by
  have g' := g.below hb
  refine ⟨g'.c, g'.r, g'.rn, g'.ap, g'.hs, g'.ht, g'.bp, fun k hk => ?_⟩
  rcases hF k hk with h | h
  · exact g'.fr k h
  · exact ⟨fun hs => by have := (g.c.ns k hs).2; omega, fun ht => by have := (g.rn k ht).2; omega, h.2⟩
theorem Gm.cache (g : Gm w0 w U F p d rm S T bm h m h2 m2 L v R X) {S' : Nat → Prop} {h' m' : Int} {L' : List Ce} {Y : World} (c' : Cw w0 Y S' p rm bm h' m' L') (b : BP S X Y) (hS : ∀ k, S' k → S k ∨ X.heap.size ≤ k) : Gm w0 w U F p d rm S' T bm h' m' h2 m2 L' v R Y ∧ Fk F X Y := by
  have hz := g.bp.size
  refine ⟨⟨c', g.r.bp b fun k hk hs => g.ap k hs hk, fun k hk => ⟨(g.rn k hk).1, Nat.lt_of_lt_of_le (g.rn k hk).2 b.size⟩, fun k hk ht => ?_, fun k hk => ?_, g.ht, g.bp.trans b fun k hk hs => ?_, fun k hk => ⟨fun hs => ?_, (g.fr k hk).2.1, Nat.lt_of_lt_of_le (g.fr k hk).2.2 b.size⟩⟩, Fk.of b fun k hk => (g.fr k hk).1⟩
  · rcases hS k hk with h | h
    · exact g.ap k h ht
    · have := (g.rn k ht).2; omega
  · rcases hS k hk with h | h
    · exact g.hs k h
    · exact .inr (by omega)
  · rcases g.hs k hs with h | h
    · exact h
    · omega
  · rcases hS k hs with h | h
    · exact (g.fr k hk).1 h
    · have := (g.fr k hk).2.2; omega
theorem Gm.ref (g : Gm w0 w U F p d rm S T bm h m h2 m2 L v R X) {h' m' : Int} {v' : Value} {R' : List Re} {Y : World} (r' : Rv Y (grown T X Y) d rm h' m' v' R') (b : BP T X Y) : Gm w0 w U F p d rm S (grown T X Y) bm h m h' m' L v' R' Y ∧ Fk F X Y := by
  have hz := g.bp.size
  have hw0 := g.c.bel.size
  refine ⟨⟨g.c.bp b g.rn g.ap, r', fun k hk => ?_, fun k hk ht => ?_, g.hs, fun k hk => ?_, g.bp.trans b fun k hk hs => ?_, fun k hk => ⟨(g.fr k hk).1, fun ht => ?_, Nat.lt_of_lt_of_le (g.fr k hk).2.2 b.size⟩⟩, Fk.of b fun k hk => (g.fr k hk).2.1⟩
  · rcases hk with h | h
    · exact ⟨(g.rn k h).1, Nat.lt_of_lt_of_le (g.rn k h).2 b.size⟩
    · exact ⟨by omega, h.2⟩
  · rcases ht with h | h
    · exact g.ap k hk h
    · have := (g.c.ns k hk).2; omega
  · rcases hk with h | h
    · exact g.ht k h
    · exact .inr (by omega)
  · rcases g.ht k hs with h | h
    · exact h
    · omega
  · rcases ht with h | h
    · exact (g.fr k hk).2.1 h
    · have := (g.fr k hk).2.2; omega
/-- Its end. -/
theorem Gm.fin (g : Gm w0 w U F p d rm S T bm h m h m L v R X) (e : rcE R = ct L) {n : Int} (hn : h + m ≤ n) (hU : ∀ k, U k → w0.heap.size ≤ k ∧ k < w.heap.size) (hw : w0.heap.size ≤ w.heap.size) : Pz w0 X (grown U w X) p d rm n ∧ BP U w X := by
  have hz := g.bp.size
  refine ⟨⟨fun k hk => ?_, S, T, bm, h, m, L, v, R, ⟨g.c, g.r, e, g.rn, g.ap⟩, hn, fun k hk => ?_⟩, g.bp⟩
  · rcases hk with h | h
    · exact ⟨(hU k h).1, Nat.lt_of_lt_of_le (hU k h).2 hz⟩
    · exact ⟨by omega, h.2⟩
  · rcases hk with h | h
    · rcases g.hs k h with h1 | h1
      · exact .inl h1
      · exact .inr ⟨h1, (g.c.ns k h).2⟩
    · rcases g.ht k h with h1 | h1
      · exact .inl h1
      · exact .inr ⟨h1, (g.rn k h).2⟩
end
theorem gtL_len {E : List En} {B : Nat} (h : ∀ e ∈ E, e.2.1.length * 8 ≤ B) (s : ByteArray) : (gtL E s).length * 8 ≤ B := by
  unfold gtL
  cases he : atE E s with
  | none => simp
  | some e => exact h e (at_some he).1
theorem Fk.below' {F : Nat → Prop} {w w' w'' : World} (h : Fk F w w') (hb : Below w'.heap.size w' w'') : Fk F w w'' := h.trans (Fk.below hb)
set_option maxHeartbeats 6400000 in
set_option maxRecDepth 100000 in
theorem plays_any {w0 w : World} {U : Nat → Prop} {p d : Nat} {rm n : Int} (z : Pz w0 w U p d rm n) (hn : n < 4611686018427387903) (x : Oq) (hkb : Bs w0 x.ka x.k) (hkz : x.k.size ≤ 140737488351232) (hnm : Nm w0 x.la x.l) (hnz : x.l.length ≤ 17592186043904) (hnn : x.la = none → x.lc = 0) :
    Calls Try.prog 26 #[.pointer (some ⟨p, 0, none⟩), .pointer (some ⟨d, 0, none⟩), .agg #[.int .i64 x.kd, .int .i64 x.on, .slice x.ka x.k.size x.kc, .slice x.la x.l.length x.lc, .int .i64 x.ag]] w fun e w' => e = .returned (.bool true) ∧ Pz w0 w' (grown U w w') p d rm (n + 1) ∧ BP U w w' := by
  obtain ⟨hU, S, T, bm, h, m, L, v, R, q, hhm, hST⟩ := z
  have hc := q.c.ch.cnt
  have hrm := q.c.ch.rom
  have hw0 := q.c.bel.size
  have al : Below w.heap.size w (w.alloc (.cells #[.int .i64 x.kd, .int .i64 x.on, .slice x.ka x.k.size x.kc, .slice x.la x.l.length x.lc, .int .i64 x.ag] 33)) := bl_alloc (Below.refl _ _) _
  have g00 : Gm w0 w U (fun _ => False) p d rm S T bm h m h m L v R w := ⟨q.c, q.r, q.rn, q.ap, fun k hk => .inl (hST k (.inl hk)), fun k hk => .inl (hST k (.inr hk)), BP.refl _ _, fun k h => h.elim⟩
  have HG := hid1 (g00.more (F' := fun k => k = w.heap.size) al fun k hk => .inr ⟨by omega, by subst hk; simp⟩)
  have HQ := hid1 (And.intro q.eq (And.intro q.len (And.intro q.nd q.lz)))
  have BX := op_new w x
  have HBX := hid1 BX
  have HU := hid1 hU
  have HKB := hid1 hkb
  have HNM := hid1 hnm
  have f0 := BX.cell (i := 0) (by omega)
  have f2 := BX.cell (i := 2) (by omega)
  have f3 := BX.cell (i := 3) (by omega)
  have f4 := BX.cell (i := 4) (by omega)
  dsimp [opf] at f0 f2 f3 f4
  clear g00 q al BX hkb hnm hST hU
  go_enter Try.func26, Try.ntmps26
  go_upto_region 2 with fail
  generalize w.alloc (.cells #[.int .i64 x.kd, .int .i64 x.on, .slice x.ka x.k.size x.kc, .slice x.la x.l.length x.lc, .int .i64 x.ag] 33) = X0 at *
  obtain ⟨kd, hkd⟩ : ∃ kd, x.kd = kd := ⟨_, rfl⟩
  have HKD := hid1 hkd
  rw [hkd] at f0
  simp only [hkd]
  clear hkd
  by_cases k1 : kd = 1
  · subst k1
    have HRM := hid1 (roomy_any X0 x.ka x.kc x.k (HKB.out.below HG.out.c.bel) (by omega))
    go_upto_region 4 with (go_at_call 38; refine HRM.out.mono ?_; rintro e X1 ⟨g1, rfl, hg1, row1, bl1⟩)
    have g1' := HG.out.more (F' := fun k => k = w.heap.size ∨ k = g1) bl1 fun k hk => by
      rcases hk with hk | hk
      · exact .inl hk
      · exact .inr ⟨by omega, by subst hk; exact row1.lt⟩
    have bx1 := keepr bl1 HBX.out
    have HGE := hid1 (cw_get g1'.c (some ⟨g1, 0, none⟩) (x.k.size + 66) x.k (ry_bs row1 rfl (by omega)) (.inr fun a e hs => (g1'.fr g1 (.inr rfl)).1 (by injection e with e; subst e; exact hs)) (by omega) (by omega) (by omega))
    have H1 := hid1 (And.intro g1' (And.intro bx1 row1))
    have i2 := bx1.cell (i := 2) (by omega)
    dsimp [opf] at i2
    clear g1' bx1 row1 bl1 HRM HG HBX f0 f2 f3 f4 hg1
    go_upto_region 5 with (go_at_call 10; refine HGE.out.mono ?_; rintro e X2 ⟨v2, L2, rfl, ow2, hc2, c2, b2⟩; obtain ⟨bo2, bc2, rfl, -, nm2, -⟩ := ow2.nm)
    obtain ⟨g1', bx1, row1⟩ := H1.out
    obtain ⟨g2', fk2⟩ := g1'.cache c2 b2 fun k hk => .inl hk
    have al3 : Below X2.heap.size X2 (X2.alloc (.cells #[.slice bo2 (gtL (ct L) x.k).length bc2, .int .i64 (gtA (ct L) x.k)] 31)) := bl_alloc (Below.refl _ _) _
    have hT2 : ∀ k, T k → k < X1.heap.size := fun k hk => (g1'.rn k hk).2
    refine gen_world (fun X => Gm w0 w U (fun k => (k = w.heap.size ∨ k = g1) ∨ k = X2.heap.size) p d rm S T bm (if gtB (ct L) x.k = true then h + 1 else h) (if gtB (ct L) x.k = true then m else m + 1) h m L2 v R X ∧ X.rowIs w.heap.size 33 5 (opf x) ∧ X.rowIs g1 5 (x.k.size + 66) (ryf x.k) ∧ X.rowIs X2.heap.size 31 2 (rf (.slice bo2 (gtL (ct L) x.k).length bc2) (gtA (ct L) x.k)) ∧ Ow X X1.heap.size (.slice bo2 (gtL (ct L) x.k).length bc2) (gtL (ct L) x.k)) ?_ ?_
    · have hg := g2'.more (F' := fun k => (k = w.heap.size ∨ k = g1) ∨ k = X2.heap.size) al3 fun k hk => by
        rcases hk with hk | hk
        · exact .inl hk
        · exact .inr ⟨by omega, by subst hk; simp⟩
      simpa using And.intro hg (And.intro (keepr al3 (fk2.row bx1 (.inl rfl))) (And.intro (keepr al3 (fk2.row row1 (.inr rfl))) (And.intro (rf_new X2 (.slice bo2 (gtL (ct L) x.k).length bc2) (gtA (ct L) x.k)) (ow2.below al3))))
    clear H1 g1' bx1 row1 g2' fk2 al3 HGE ow2 c2 b2 nm2 i2
    rintro X3 ⟨g3, bx3, row3, rr3, ow3⟩
    generalize X2.heap.size = b8 at *
    have HGR := hid1 (rget_E X3 T d rm h m v R g3.r HQ.out.2.1 (fun k hk => (g3.rn k hk).2) HQ.out.2.2.1 x.ka x.kc x.k (HKB.out.below g3.c.bel) (by omega) (by omega) HQ.out.2.2.2)
    rw [HQ.out.1] at HGR
    have i2 := bx3.cell (i := 2) (by omega)
    have H3 := hid1 (And.intro g3 (And.intro bx3 (And.intro row3 (And.intro rr3 ow3))))
    dsimp [opf] at i2
    clear g3 bx3 row3 rr3 ow3
    go_upto_region 6 with (go_at_call 41; refine HGR.out.mono ?_; rintro e X4 ⟨bo4, bc4, rfl, nm4, ⟨v4, R4, hr4, r4⟩, b4⟩)
    obtain ⟨g3, bx3, row3, rr3, ow3⟩ := H3.out
    obtain ⟨g4, fk4⟩ := g3.ref r4 b4
    have ow4 := ow3.bp b4 fun g hg ht => by have := (ow3.lt g hg).1; have := hT2 g ht; omega
    have al5 : Below X4.heap.size X4 (X4.alloc (.cells #[.slice bo4 (gtL (ct L) x.k).length bc4, .int .i64 (gtA (ct L) x.k)] 31)) := bl_alloc (Below.refl _ _) _
    have hlz := gtL_len HQ.out.2.2.2 x.k
    rw [HQ.out.1] at hlz
    have HRS := results_any bo2 bo4 (gtL (ct L) x.k) (gtL (ct L) x.k) bc2 bc4 (gtA (ct L) x.k) (gtA (ct L) x.k) (X4.alloc (.cells #[.slice bo4 (gtL (ct L) x.k).length bc4, .int .i64 (gtA (ct L) x.k)] 31)) (by omega) (ow4.nms.below al5) (nm4.below al5)
    rw [decide_eq_true rfl, decide_eq_true rfl, Bool.true_and] at HRS
    have HRS' := hid1 HRS
    have g5 := g4.below al5
    have bx5 := keepr al5 (fk4.row bx3 (.inl (.inl rfl)))
    have row5 := keepr al5 (fk4.row row3 (.inl (.inr rfl)))
    have rr5 := keepr al5 (fk4.row rr3 (.inr rfl))
    have nr5 := rf_new X4 (.slice bo4 (gtL (ct L) x.k).length bc4) (gtA (ct L) x.k)
    have j2 := bx5.cell (i := 2) (by omega)
    have d0 := rr5.cell (i := 0) (by omega)
    have d1 := rr5.cell (i := 1) (by omega)
    have c0 := nr5.cell (i := 0) (by omega)
    have c1 := nr5.cell (i := 1) (by omega)
    dsimp [opf, rf] at j2 d0 d1 c0 c1
    have H5 := hid1 (And.intro g5 row5)
    have HKP := hid1 (fun (X6 : World) (b6 : Below (X4.alloc (.cells #[.slice bo4 (gtL (ct L) x.k).length bc4, .int .i64 (gtA (ct L) x.k)] 31)).heap.size (X4.alloc (.cells #[.slice bo4 (gtL (ct L) x.k).length bc4, .int .i64 (gtA (ct L) x.k)] 31)) X6) => kept_any X6 g1 x.k.size x.kc x.ka x.k rfl (HKB.out.below (g5.c.bel.trans (b6.mono g5.c.bel.size))) (keepr b6 row5) (by omega))
    have HEQ := hid1 (show rcE R4 = ct L2 by rw [hr4, hc2])
    clear HRS g3 bx3 row3 rr3 ow3 H3 g4 fk4 ow4 al5 hlz g5 bx5 row5 rr5 nr5 nm4 r4 b4 hr4 hc2 HGR i2 HQ hT2
    generalize hB : gtB (ct L) x.k = gb at *
    clear hB
    go_wp2_with (first
      | (go_at_call 17; refine HRS'.out.mono ?_; rintro e X6 ⟨rfl, b6⟩; have j3 := keepc b6 j2)
      | (go_at_call 39; refine (HKP.out _ b6).mono ?_; rintro e X7 ⟨rfl, q7⟩))
    go_ret
    have g7 := (H5.out.1.below b6).below (q7.below (Below.refl X6.heap.size X6))
    exact ⟨rfl, g7.fin HEQ.out (by cases gb <;> simp <;> omega) HU.out hw0⟩
  by_cases k2 : kd = 2
  · subst k2
    have HP := hid1 (put_law HG.out.c x.ka x.kc x.k HKB.out hkz x.la x.lc x.l x.ag HNM.out hnz)
    go_upto_region 9 with (go_at_call 19; refine HP.out.mono ?_; rintro e X1 ⟨rfl, S1, L1, hc1, c1, b1, hs1⟩)
    obtain ⟨g1, fk1⟩ := HG.out.cache c1 b1 hs1
    have bx1 := fk1.row HBX.out rfl
    have HPR := hid1 (rput_E X1 T d rm h m v R g1.r HQ.out.2.1 HQ.out.2.2.1 x.ka x.kc x.k (HKB.out.below g1.c.bel) x.la x.lc x.l x.ag hnn (HNM.out.below g1.c.bel) (by omega) ⟨hrm.1, hrm.2.1⟩)
    rw [HQ.out.1] at HPR
    have i2 := bx1.cell (i := 2) (by omega)
    have i3 := bx1.cell (i := 3) (by omega)
    have i4 := bx1.cell (i := 4) (by omega)
    have H1 := hid1 g1
    have HC1 := hid1 hc1
    dsimp [opf] at i2 i3 i4
    clear HG HBX f0 f2 f3 f4 g1 fk1 bx1 c1 b1 hs1 HP hc1
    generalize puV x.k = pv at *
    go_wp2_with (go_at_call 42; refine HPR.out.mono ?_; rintro e X2 ⟨rfl, ⟨v2, R2, hr2, r2⟩, b2⟩)
    go_ret
    obtain ⟨g2, -⟩ := H1.out.ref r2 b2
    exact ⟨rfl, g2.fin (by rw [hr2, HC1.out]) (by omega) HU.out hw0⟩
  by_cases k3 : kd = 3
  · subst k3
    have HRM := hid1 (roomy_any X0 x.ka x.kc x.k (HKB.out.below HG.out.c.bel) (by omega))
    go_upto_region 12 with (go_at_call 38; refine HRM.out.mono ?_; rintro e X1 ⟨g1, rfl, hg1, row1, bl1⟩)
    have g1' := HG.out.more (F' := fun k => k = w.heap.size ∨ k = g1) bl1 fun k hk => by
      rcases hk with hk | hk
      · exact .inl hk
      · exact .inr ⟨by omega, by subst hk; exact row1.lt⟩
    have bx1 := keepr bl1 HBX.out
    have HGE := hid1 (cw_forget g1'.c (some ⟨g1, 0, none⟩) (x.k.size + 66) x.k (ry_bs row1 rfl (by omega)))
    have H1 := hid1 (And.intro g1' (And.intro bx1 row1))
    clear g1' bx1 row1 bl1 HRM HG HBX f0 f2 f3 f4 hg1
    go_upto_region 13 with (go_at_call 13; refine HGE.out.mono ?_; rintro e X2 ⟨L2, rfl, hc2, c2, b2⟩)
    obtain ⟨g1', bx1, row1⟩ := H1.out
    obtain ⟨g2, fk2⟩ := g1'.cache c2 b2 fun k hk => .inl hk
    have bx2 := fk2.row bx1 (.inl rfl)
    have row2 := fk2.row row1 (.inr rfl)
    have HGR := hid1 (rforget_any X2 T d rm h m v R g2.r HQ.out.2.1 x.ka x.kc x.k (HKB.out.below g2.c.bel))
    rw [← rcE_len, ← rcE_len, rcE_fg, HQ.out.1] at HGR
    have i2 := bx2.cell (i := 2) (by omega)
    have H2 := hid1 (And.intro g2 (And.intro bx2 row2))
    have HC2 := hid1 hc2
    dsimp [opf] at i2
    clear g1' bx1 row1 g2 fk2 bx2 row2 H1 HGE c2 b2 hc2
    generalize (((ct L).length : Int) - ((fgE (ct L) x.k).length : Int)) = fn at *
    go_wp2_with (first
      | (go_at_call 43; refine HGR.out.mono ?_; rintro e X3 ⟨rfl, v3, r3, b3⟩; obtain ⟨g3, fk3⟩ := H2.out.1.ref r3 b3; have row3 := fk3.row H2.out.2.2 (.inr rfl); have bx3 := fk3.row H2.out.2.1 (.inl rfl); have j2 := bx3.cell (i := 2) (by omega); have hk3 := HKB.out.below g3.c.bel; have H3 := hid1 (And.intro g3 row3); dsimp [opf] at j2; clear g3 fk3 row3 bx3 r3 b3)
      | (go_at_call 39; refine (kept_any X3 g1 x.k.size x.kc x.ka x.k rfl hk3 H3.out.2 (by omega)).mono ?_; rintro e X7 ⟨rfl, q7⟩))
    go_ret
    exact ⟨rfl, (H3.out.1.below (q7.below (Below.refl X3.heap.size X3))).fin (by rw [rcE_fg, HQ.out.1, HC2.out]) (by omega) HU.out hw0⟩
  by_cases k4 : kd = 4
  · subst k4
    have HK := hid1 (cw_keys HG.out.c)
    have hcl : (ct L).length ≤ 4096 := by rw [← HQ.out.1, rcE_len]; exact HQ.out.2.1
    obtain ⟨q, hq⟩ : ∃ q, (ct L).length = q := ⟨_, rfl⟩
    have hq' := hid1 hq
    rw [hq] at hcl
    clear hq
    have hkl : ((ct L).map (·.1)).length = q := by rw [List.length_map, hq'.out]
    have HKL := hid1 hkl
    clear hkl f0 f2 f3 f4
    go_wp2_with (first
      | (go_at_call 12; refine HK.out.mono ?_; rintro e X1 ⟨u1, ss1, rfl, kl1, c1, b1⟩; obtain ⟨a1, cc1, rfl, kd1⟩ := kl1.form HKL.out; obtain ⟨g1, fk1⟩ := HG.out.cache c1 b1 (fun k hk => .inl hk); have HKR := hid1 (rkeys_any X1 T d rm h m v R g1.r HQ.out.2.1); rw [← rcE_keys, HQ.out.1] at HKR; have H1 := hid1 g1; have HD1 := hid1 kd1; clear g1 fk1 kl1 c1 b1 kd1)
      | (go_at_call 44; refine HKR.out.mono ?_; rintro e X2 ⟨u2, ss2, rfl, kl2, bl2⟩; obtain ⟨a2, cc2, rfl, kd2⟩ := kl2.form HKL.out; have HLK := hid1 (lkeys_any a1 a2 ((ct L).map (·.1)) ((ct L).map (·.1)) cc1 cc2 X2 (by rw [HKL.out]; omega) (HD1.out.below bl2) kd2); rw [HKL.out, decide_eq_true rfl] at HLK; have H2 := hid1 (H1.out.below bl2); clear kl2 kd2 bl2)
      | (go_at_call 20; refine HLK.out.mono ?_; rintro e X3 ⟨rfl, q3⟩))
    go_ret
    exact ⟨rfl, (H2.out.below (q3.below (Below.refl X2.heap.size X2))).fin HQ.out.1 (by omega) HU.out hw0⟩
  by_cases k5 : kd = 5
  · subst k5
    have HK := hid1 (cw_stats HG.out.c)
    clear f0 f2 f3 f4
    go_wp2_with (first
      | (go_at_call 15; refine HK.out.mono ?_; rintro e X1 ⟨rfl, c1, b1⟩; obtain ⟨g1, fk1⟩ := HG.out.cache c1 b1 (fun k hk => .inl hk); have HKR := hid1 (rstats_any X1 T d rm h m v R g1.r); have H1 := hid1 g1; clear g1 fk1 c1 b1)
      | (go_at_call 45; refine HKR.out.mono ?_; rintro e X2 ⟨rfl, q2⟩))
    go_ret
    exact ⟨rfl, (H1.out.below (q2.below (Below.refl X1.heap.size X1))).fin HQ.out.1 (by omega) HU.out hw0⟩
  by_cases k6 : kd = 6
  · subst k6
    have HK := hid1 (cw_clear HG.out.c)
    clear f0 f2 f3 f4
    go_wp2_with (first
      | (go_at_call 14; refine HK.out.mono ?_; rintro e X1 ⟨rfl, c1, b1⟩; obtain ⟨g1, fk1⟩ := HG.out.cache c1 b1 (fun k hk => .inl hk); have HKR := hid1 (rclear_any X1 T d rm h m v R g1.r); have H1 := hid1 g1; clear g1 fk1 c1 b1)
      | (go_at_call 46; refine HKR.out.mono ?_; rintro e X2 ⟨rfl, r2, b2⟩))
    go_ret
    obtain ⟨g2, -⟩ := H1.out.ref (r2.more fun k hk => .inl hk) b2
    exact ⟨rfl, g2.fin rfl (by omega) HU.out hw0⟩
  clear f2 f3 f4
  go_wp2_with fail
  go_ret
  exact ⟨rfl, HG.out.fin HQ.out.1 (by omega) HU.out hw0⟩
end Go.Proofs.Ytpjcpikafpnmpaa
