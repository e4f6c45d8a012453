/- DOWN: THE QUOTIENT ROUNDED DOWN. -/
import Derived.Test.YtcjglbejmlebhaaDoorW36
import Derived.Deep.DeepCutAuto
namespace Go.Proofs.YtcjglbejmlebhaaDoor
open Go.RowKit Go.Shelf
attribute [local go_sem ↓] Go.wp_at_zero Go.wp_at_succ

/-- Two cells of a block, and that they may be written. -/
def Sv (W : World) (g : Nat) (u v : Value) : Prop := W.cell? ⟨g, 0, none⟩ = some u ∧ W.cell? ⟨g, 1, none⟩ = some v ∧ W.frozen? ⟨g, 0, none⟩ = false ∧ W.frozen? ⟨g, 1, none⟩ = false
/-- A new block for a number. -/
abbrev Zb (W : World) (g : Nat) : Prop := Sv W g (.bool false) (.slice none 0 0)
theorem Sv.keep {W W' : World} {g : Nat} {u v : Value} (h : Sv W g u v) (hb : Below W.heap.size W W') : Sv W' g u v :=
  ⟨keepc hb h.1, keepc hb h.2.1, keepf hb (lt_of_cell h.1) h.2.2.1, keepf hb (lt_of_cell h.1) h.2.2.2⟩
theorem zb_new {W : World} {T : TypeId} {g : Nat} (hg : W.heap.size = g) : Zb (W.alloc (.cells #[.bool false, .slice none 0 0] T)) g := by
  subst hg
  refine ⟨?_, ?_, ?_, ?_⟩ <;> simp [go_sem]
theorem sv_new {W : World} {T : TypeId} {g : Nat} {u v : Value} (hg : W.heap.size = g) : Sv (W.alloc (.cells #[u, v] T)) g u v := by
  subst hg
  refine ⟨?_, ?_, ?_, ?_⟩ <;> simp [go_sem]
theorem Sv.alloc {W : World} {g : Nat} {u v : Value} (h : Sv W g u v) (b : Obj) : Sv (W.alloc b) g u v := h.keep (bl_alloc (Below.refl _ _) _)
theorem Sv.drew {W : World} {g : Nat} {u v : Value} (h : Sv W g u v) : Sv W.drew g u v := h.keep (Below.drew (Below.refl _ _))
theorem Sv.oth {W : World} {g r o : Nat} {u v p : Value} (h : Sv W g u v) (hne : g ≠ r) : Sv (W.setCell ⟨r, o, none⟩ p) g u v :=
  ⟨cell_o h.1 hne, cell_o h.2.1 hne, froz_o h.2.2.1, froz_o h.2.2.2⟩
theorem Sv.own' {W : World} {g : Nat} {u v p q : Value} (h : Sv W g u v) : Sv ((W.setCell ⟨g, 0, none⟩ p).setCell ⟨g, 1, none⟩ q) g p q :=
  ⟨(cell_s0 h.1 h.2.1).1, (cell_s0 h.1 h.2.1).2, froz_o (froz_o h.2.2.1), froz_o (froz_o h.2.2.2)⟩
theorem Sv.own {W : World} {g : Nat} {p q : Value} (h : Zb W g) : Sv ((W.setCell ⟨g, 0, none⟩ p).setCell ⟨g, 1, none⟩ q) g p q := Sv.own' h
theorem Bg.set3 {W : World} {g : Nat} {x v q : Value} {s s' : Bool} {n : Int} (h : Bg W x n) (hs : Sv W g (.bool s) v) : Bg ((W.setCell ⟨g, 0, none⟩ (.bool s')).setCell ⟨g, 1, none⟩ q) x n :=
  (h.set ⟨_, hs.1⟩).set ⟨s', by have := hs.1; simp [go_sem, this]⟩
theorem Bg.set2 {W : World} {g : Nat} {x q : Value} {s' : Bool} {n : Int} (h : Bg W x n) (hs : Zb W g) : Bg ((W.setCell ⟨g, 0, none⟩ (.bool s')).setCell ⟨g, 1, none⟩ q) x n := h.set3 hs
theorem bg_len {W : World} {s : Bool} {o : Option Addr} {l c : Nat} {n : Int} (h : Bg W (.agg #[.bool s, .slice o l c]) n) : l = 0 ↔ n = 0 := by
  obtain ⟨v, ds, ex, rd, dg, tr, vd⟩ := h
  obtain ⟨ao, cap, e, -⟩ := rd.parts
  obtain ⟨-, ev⟩ : Value.bool s = .bool (decide (n < 0)) ∧ Value.slice o l c = v := by simpa using ex
  rw [e] at ev
  obtain ⟨-, rfl, -⟩ : o = ao ∧ l = ds.length ∧ c = cap := by simpa using ev
  have h1 := val_zero dg tr
  constructor
  · intro h
    have := h1.2 (List.eq_nil_of_length_eq_zero h)
    omega
  · intro h
    have := h1.1 (by rw [vd, h]; rfl)
    rw [this]; rfl
theorem Bg.alloc {W : World} {x : Value} {n : Int} (h : Bg W x n) (o : Obj) : Bg (W.alloc o) x n := h.below (bl_alloc (Below.refl _ _) _)
/-- Down's memory behind its division. -/
def Dn (w X : World) (sm sn : Bool) (g5 g6 : Nat) (sq : Bool) (oq : Option Addr) (lq cq : Nat) (sr : Bool) (oR : Option Addr) (lr cr : Nat) (Q R : Int) : Prop :=
  Below w.heap.size w X ∧ X.cell? ⟨w.heap.size, 0, none⟩ = some (.bool sm) ∧ X.cell? ⟨w.heap.size + 1, 0, none⟩ = some (.bool sn) ∧ Zb X (w.heap.size + 2) ∧
  Sv X g5 (.bool sq) (.slice oq lq cq) ∧ Sv X g6 (.bool sr) (.slice oR lr cr) ∧
  Bg X (.agg #[.bool sq, .slice oq lq cq]) Q ∧ Bg X (.agg #[.bool sr, .slice oR lr cr]) R ∧ w.heap.size + 2 < g5 ∧ w.heap.size + 2 < g6 ∧ g5 ≠ g6
theorem kp1 {W w' : World} {g h : Nat} {u v : Value} (hb : Below W.heap.size W w') (a : W.cell? ⟨g, 1, none⟩ = some u) (b : W.cell? ⟨h, 1, none⟩ = some v) : w'.cell? ⟨g, 1, none⟩ = some u ∧ w'.cell? ⟨h, 1, none⟩ = some v := ⟨keepc hb a, keepc hb b⟩
set_option maxHeartbeats 25600000 in
set_option maxRecDepth 100000 in
theorem down_core (m n Q R Z : Int) (sm sn : Bool) (eQ : m / n = Q) (eR : m % n = R) (z1 : sm = sn → Z = Q) (z2 : ¬ sm = sn → R = 0 → Z = -Q) (z3 : ¬ sm = sn → ¬ R = 0 → Z = -Q - 1) (a b : List Int) (oa ob : Option Addr) (ca cb : Nat) (w : World) (ra : Rd w (.slice oa a.length ca) a) (rb : Rd w (.slice ob b.length cb) b) (da : Dg a) (db : Dg b) (va : val a = m) (vb : val b = n) (m0 : 0 ≤ m) (n0 : 0 < n) (hm : (m.natAbs : Int) < 65536 ^ 16) (hn : (n.natAbs : Int) < 65536 ^ 16) :
    Calls Tryd.prog 34 #[.agg #[.bool sm, .slice oa a.length ca], .agg #[.bool sn, .slice ob b.length cb]] w fun e w' => ∃ z, e = .returned z ∧ Bg w' z Z ∧ Below w.heap.size w w' := by
  have RA := hid1 ra
  have RB := hid1 rb
  have DA := hid1 da
  have DB := hid1 db
  have VA := hid1 (show val a = (m.natAbs : Int) by omega)
  have VB := hid1 (show val b = (n.natAbs : Int) by omega)
  have HM := hid1 hm
  have HN := hid1 hn
  have HZ := hid1 (And.intro z1 (And.intro z2 z3))
  have EQ := hid1 eQ
  have K1 : Hid (((1 : Int).natAbs : Int) < 65536 ^ 40) := hid1 (by decide)
  have ER := hid1 eR
  have HB : Hid (((-Q).natAbs : Int) < 65536 ^ 40) := hid1 (by
    have h1 : 0 ≤ m / n := Int.ediv_nonneg m0 (by omega)
    have h2 : m / n ≤ m := Int.ediv_le_self _ m0
    rw [eQ] at h1 h2
    exact Int.lt_of_lt_of_le (Int.lt_of_le_of_lt (show ((-Q).natAbs : Int) ≤ (m.natAbs : Int) by omega) hm) (by decide))
  clear ra rb da db va vb hm hn z1 z2 z3 eQ eR
  go_enter Tryd.func34, Tryd.ntmps34
  go_upto_region 1 with fail
  refine gen_world (fun W' => Below w.heap.size w W' ∧ W'.cell? ⟨w.heap.size, 0, none⟩ = some (.bool sm) ∧ W'.cell? ⟨w.heap.size, 1, none⟩ = some (.slice oa a.length ca) ∧ W'.cell? ⟨w.heap.size + 1, 0, none⟩ = some (.bool sn) ∧ W'.cell? ⟨w.heap.size + 1, 1, none⟩ = some (.slice ob b.length cb) ∧ Zb W' (w.heap.size + 2))
    ⟨by repeat (first | exact Below.refl _ _ | refine bl_alloc ?_ _ | refine Below.drew ?_ | refine bl_drewN ?_ _ | refine bl_set ?_ (by omega) _ | refine bl_step ?_ (by assumption)), by simp [go_sem], by simp [go_sem], by simp [go_sem], by simp [go_sem], zb_new (by simp)⟩ ?_
  rintro W ⟨B0, a0, a1, b0, b1, z0⟩
  have ZR := hid1 z0
  have zr := lt_of_cell z0.1
  clear z0
  have RA2 := hid1 (RA.out.below B0)
  have RB2 := hid1 (RB.out.below B0)
  clear RA RB
  go_cut [5, 6] (fun s5 s6 wx => ∃ (g5 g6 : Nat) (sq : Bool) (oq : Option Addr) (lq cq : Nat) (sr : Bool) (oR : Option Addr) (lr cr : Nat), s5 = .pointer (some ⟨g5, 0, none⟩) ∧ s6 = .pointer (some ⟨g6, 0, none⟩) ∧ Dn w wx sm sn g5 g6 sq oq lq cq sr oR lr cr Q R)
  case rest =>
    obtain ⟨g5, g6, sq, oq, lq, cq, sr, oR, lr, cr, rfl, rfl, dn⟩ := hcut
    clear RA2 RB2 a0 a1 b0 b1 ZR zr DA DB VA VB HM HN B0
    obtain ⟨BX, d0, d1, z2, s5, s6, hQ, hR, lt5, lt6, ne56⟩ := dn
    have HL := hid1 (bg_len hR)
    have HQ := hid1 hQ
    clear hQ hR
    have hBX := hid1 BX
    have S5 := hid1 s5
    have S6 := hid1 s6
    have S2 := hid1 z2
    clear s5 s6 z2 BX m0 n0
    have zs := lt_of_cell S5.out.1
    have zt := lt_of_cell S6.out.1
    cases sm <;> cases sn
    · have EZ := hid1 (HZ.out.1 rfl)
      obtain ⟨p0, p1, _, _⟩ := S5.out
      obtain ⟨e0, e1, f0, f1⟩ := S2.out
      go_wp2_with fail
      simp [bodyPost, results, Tryd.results34, go_sem, e0, e1]
      rw [EZ.out]
      exact big_ret HQ.out hBX.out (by omega) ⟨_, e0⟩ _ _
    · have HZ2 := hid1 HZ.out.2
      obtain ⟨p0, p1, q0, q1⟩ := S5.out
      go_wp2_with fail
      refine (rneg_any Q _ _ (HQ.out.below (by repeat (first | exact Below.refl _ _ | refine bl_alloc ?_ _ | refine Below.drew ?_ | refine bl_drewN ?_ _ | refine bl_set ?_ (by omega) _ | refine bl_step ?_ (by assumption))))).mono ?_
      rintro e X1 ⟨y1, rfl, hy1, hb1⟩
      obtain ⟨s1, o1, l1, c1, rfl⟩ := hy1.form
      have b1 : Below wc.heap.size wc X1 := by repeat (first | exact Below.refl _ _ | refine bl_alloc ?_ _ | refine Below.drew ?_ | refine bl_drewN ?_ _ | refine bl_set ?_ (by omega) _ | refine bl_step ?_ (by assumption))
      have T5 := S5.out.keep b1
      have K : Hid (Below w.heap.size w ((X1.setCell ⟨g5, 0, none⟩ (.bool s1)).setCell ⟨g5, 1, none⟩ (.slice o1 l1 c1)) ∧ Sv ((X1.setCell ⟨g5, 0, none⟩ (.bool s1)).setCell ⟨g5, 1, none⟩ (.slice o1 l1 c1)) g5 (.bool s1) (.slice o1 l1 c1) ∧ Sv ((X1.setCell ⟨g5, 0, none⟩ (.bool s1)).setCell ⟨g5, 1, none⟩ (.slice o1 l1 c1)) g6 (.bool sr) (.slice oR lr cr) ∧ Zb ((X1.setCell ⟨g5, 0, none⟩ (.bool s1)).setCell ⟨g5, 1, none⟩ (.slice o1 l1 c1)) (w.heap.size + 2) ∧ Bg ((X1.setCell ⟨g5, 0, none⟩ (.bool s1)).setCell ⟨g5, 1, none⟩ (.slice o1 l1 c1)) (.agg #[.bool s1, .slice o1 l1 c1]) (-Q)) :=
        hid1 ⟨bl_set (bl_set (bl_step hBX.out b1) (by omega) _) (by omega) _, Sv.own' T5, Sv.oth (Sv.oth (S6.out.keep b1) (by omega)) (by omega), Sv.oth (Sv.oth (S2.out.keep b1) (by omega)) (by omega), hy1.set3 T5⟩
      clear p0 p1 q0 q1 hy1 hb1
      obtain ⟨p0, p1, q0, q1⟩ := T5
      go_upto_region 4 with fail
      refine gen_world (fun W' => Below w.heap.size w W' ∧ Sv W' g5 (.bool s1) (.slice o1 l1 c1) ∧ Sv W' g6 (.bool sr) (.slice oR lr cr) ∧ Zb W' (w.heap.size + 2) ∧ Bg W' (.agg #[.bool s1, .slice o1 l1 c1]) (-Q)) K.out ?_
      rintro V ⟨BV, v5, v6, v2, hv⟩
      have HV := hid1 hv
      have V5 := hid1 v5
      have V6 := hid1 v6
      have V2 := hid1 v2
      clear hv v5 v6 v2 p0 p1 q0 q1 K S5 S6 S2 HQ hBX
      by_cases hR0 : R = 0
      · have EZ := hid1 (HZ2.out.1 (by decide) hR0)
        obtain rfl : lr = 0 := HL.out.2 hR0
        obtain ⟨_, r1, _, _⟩ := V6.out
        obtain ⟨p0, p1, _, _⟩ := V5.out
        obtain ⟨e0, e1, f0, f1⟩ := V2.out
        go_wp2_with fail
        simp [bodyPost, results, Tryd.results34, go_sem, e0, e1]
        rw [EZ.out]
        exact big_ret HV.out BV (by omega) ⟨_, e0⟩ _ _
      · have EZ := hid1 (HZ2.out.2 (by decide) hR0)
        have hl : ¬ lr = 0 := fun h => hR0 (HL.out.1 h)
        have hl' : (0 : Int) < (lr : Int) := by omega
        have hl0 : 0 < lr := by omega
        clear hl hR0 HL HZ2 HZ
        obtain ⟨_, r1, _, _⟩ := V6.out
        obtain ⟨p0, p1, q0, q1⟩ := V5.out
        go_wp2_with fail
        go_region_with (first
          | (go_at_call 35; refine (rint_any 1 ⟨by omega, by omega⟩ _).mono ?_; rintro e X2 ⟨i2, rfl, hi2, hb2⟩; obtain ⟨s2, o2, l2, c2, rfl⟩ := hi2.form; have HI := hid1 hi2; clear hi2; have B2 : Hid (Below V.heap.size V X2) := hid1 (by repeat (first | exact Below.refl _ _ | refine bl_alloc ?_ _ | refine Below.drew ?_ | refine bl_drewN ?_ _ | refine bl_set ?_ (by omega) _ | refine bl_step ?_ (by assumption))); have p0 := (V5.out.keep B2.out).1; have p1 := (V5.out.keep B2.out).2.1)
          | (go_at_call 49; refine (rsub_any (-Q) 1 _ _ _ (HV.out.below B2.out) HI.out HB.out K1.out).mono ?_; rintro e X3 ⟨i3, rfl, hi3, hb3⟩; obtain ⟨s3, o3, l3, c3, rfl⟩ := hi3.form; have HJ := hid1 hi3; clear hi3; have B3 : Hid (Below V.heap.size V X3) := hid1 (bl_step B2.out hb3); have p0 := (V5.out.keep B3.out).1; have p1 := (V5.out.keep B3.out).2.1; have q0 := (V5.out.keep B3.out).2.2.1; have q1 := (V5.out.keep B3.out).2.2.2))
        all_goals (
          refine gen_any (fun W' => Below w.heap.size w W' ∧ Sv W' g5 (.bool s3) (.slice o3 l3 c3) ∧ Zb W' (w.heap.size + 2) ∧ Bg W' (.agg #[.bool s3, .slice o3 l3 c3]) (-Q - 1)) ⟨bl_set (bl_set (bl_step BV B3.out) (by omega) _) (by omega) _, Sv.own' (V5.out.keep B3.out), Sv.oth (Sv.oth (V2.out.keep B3.out) (by omega)) (by omega), HJ.out.set3 (V5.out.keep B3.out)⟩ ?_
          rintro Y ⟨BY, y5, y2, hy⟩
          have HYY := hid1 hy
          clear hy p0 p1 q0 q1 V5 V6 V2 HV HI HJ
          obtain ⟨p0, p1, _, _⟩ := y5
          obtain ⟨e0, e1, f0, f1⟩ := y2
          simp only [Exit.then]
          go_wp2_with fail
          simp [bodyPost, results, Tryd.results34, go_sem, e0, e1]
          rw [EZ.out]
          exact big_ret HYY.out BY (by omega) ⟨_, e0⟩ _ _)
    · have HZ2 := hid1 HZ.out.2
      obtain ⟨p0, p1, q0, q1⟩ := S5.out
      go_wp2_with fail
      refine (rneg_any Q _ _ (HQ.out.below (by repeat (first | exact Below.refl _ _ | refine bl_alloc ?_ _ | refine Below.drew ?_ | refine bl_drewN ?_ _ | refine bl_set ?_ (by omega) _ | refine bl_step ?_ (by assumption))))).mono ?_
      rintro e X1 ⟨y1, rfl, hy1, hb1⟩
      obtain ⟨s1, o1, l1, c1, rfl⟩ := hy1.form
      have b1 : Below wc.heap.size wc X1 := by repeat (first | exact Below.refl _ _ | refine bl_alloc ?_ _ | refine Below.drew ?_ | refine bl_drewN ?_ _ | refine bl_set ?_ (by omega) _ | refine bl_step ?_ (by assumption))
      have T5 := S5.out.keep b1
      have K : Hid (Below w.heap.size w ((X1.setCell ⟨g5, 0, none⟩ (.bool s1)).setCell ⟨g5, 1, none⟩ (.slice o1 l1 c1)) ∧ Sv ((X1.setCell ⟨g5, 0, none⟩ (.bool s1)).setCell ⟨g5, 1, none⟩ (.slice o1 l1 c1)) g5 (.bool s1) (.slice o1 l1 c1) ∧ Sv ((X1.setCell ⟨g5, 0, none⟩ (.bool s1)).setCell ⟨g5, 1, none⟩ (.slice o1 l1 c1)) g6 (.bool sr) (.slice oR lr cr) ∧ Zb ((X1.setCell ⟨g5, 0, none⟩ (.bool s1)).setCell ⟨g5, 1, none⟩ (.slice o1 l1 c1)) (w.heap.size + 2) ∧ Bg ((X1.setCell ⟨g5, 0, none⟩ (.bool s1)).setCell ⟨g5, 1, none⟩ (.slice o1 l1 c1)) (.agg #[.bool s1, .slice o1 l1 c1]) (-Q)) :=
        hid1 ⟨bl_set (bl_set (bl_step hBX.out b1) (by omega) _) (by omega) _, Sv.own' T5, Sv.oth (Sv.oth (S6.out.keep b1) (by omega)) (by omega), Sv.oth (Sv.oth (S2.out.keep b1) (by omega)) (by omega), hy1.set3 T5⟩
      clear p0 p1 q0 q1 hy1 hb1
      obtain ⟨p0, p1, q0, q1⟩ := T5
      go_upto_region 4 with fail
      refine gen_world (fun W' => Below w.heap.size w W' ∧ Sv W' g5 (.bool s1) (.slice o1 l1 c1) ∧ Sv W' g6 (.bool sr) (.slice oR lr cr) ∧ Zb W' (w.heap.size + 2) ∧ Bg W' (.agg #[.bool s1, .slice o1 l1 c1]) (-Q)) K.out ?_
      rintro V ⟨BV, v5, v6, v2, hv⟩
      have HV := hid1 hv
      have V5 := hid1 v5
      have V6 := hid1 v6
      have V2 := hid1 v2
      clear hv v5 v6 v2 p0 p1 q0 q1 K S5 S6 S2 HQ hBX
      by_cases hR0 : R = 0
      · have EZ := hid1 (HZ2.out.1 (by decide) hR0)
        obtain rfl : lr = 0 := HL.out.2 hR0
        obtain ⟨_, r1, _, _⟩ := V6.out
        obtain ⟨p0, p1, _, _⟩ := V5.out
        obtain ⟨e0, e1, f0, f1⟩ := V2.out
        go_wp2_with fail
        simp [bodyPost, results, Tryd.results34, go_sem, e0, e1]
        rw [EZ.out]
        exact big_ret HV.out BV (by omega) ⟨_, e0⟩ _ _
      · have EZ := hid1 (HZ2.out.2 (by decide) hR0)
        have hl : ¬ lr = 0 := fun h => hR0 (HL.out.1 h)
        have hl' : (0 : Int) < (lr : Int) := by omega
        have hl0 : 0 < lr := by omega
        clear hl hR0 HL HZ2 HZ
        obtain ⟨_, r1, _, _⟩ := V6.out
        obtain ⟨p0, p1, q0, q1⟩ := V5.out
        go_wp2_with fail
        go_region_with (first
          | (go_at_call 35; refine (rint_any 1 ⟨by omega, by omega⟩ _).mono ?_; rintro e X2 ⟨i2, rfl, hi2, hb2⟩; obtain ⟨s2, o2, l2, c2, rfl⟩ := hi2.form; have HI := hid1 hi2; clear hi2; have B2 : Hid (Below V.heap.size V X2) := hid1 (by repeat (first | exact Below.refl _ _ | refine bl_alloc ?_ _ | refine Below.drew ?_ | refine bl_drewN ?_ _ | refine bl_set ?_ (by omega) _ | refine bl_step ?_ (by assumption))); have p0 := (V5.out.keep B2.out).1; have p1 := (V5.out.keep B2.out).2.1)
          | (go_at_call 49; refine (rsub_any (-Q) 1 _ _ _ (HV.out.below B2.out) HI.out HB.out K1.out).mono ?_; rintro e X3 ⟨i3, rfl, hi3, hb3⟩; obtain ⟨s3, o3, l3, c3, rfl⟩ := hi3.form; have HJ := hid1 hi3; clear hi3; have B3 : Hid (Below V.heap.size V X3) := hid1 (bl_step B2.out hb3); have p0 := (V5.out.keep B3.out).1; have p1 := (V5.out.keep B3.out).2.1; have q0 := (V5.out.keep B3.out).2.2.1; have q1 := (V5.out.keep B3.out).2.2.2))
        all_goals (
          refine gen_any (fun W' => Below w.heap.size w W' ∧ Sv W' g5 (.bool s3) (.slice o3 l3 c3) ∧ Zb W' (w.heap.size + 2) ∧ Bg W' (.agg #[.bool s3, .slice o3 l3 c3]) (-Q - 1)) ⟨bl_set (bl_set (bl_step BV B3.out) (by omega) _) (by omega) _, Sv.own' (V5.out.keep B3.out), Sv.oth (Sv.oth (V2.out.keep B3.out) (by omega)) (by omega), HJ.out.set3 (V5.out.keep B3.out)⟩ ?_
          rintro Y ⟨BY, y5, y2, hy⟩
          have HYY := hid1 hy
          clear hy p0 p1 q0 q1 V5 V6 V2 HV HI HJ
          obtain ⟨p0, p1, _, _⟩ := y5
          obtain ⟨e0, e1, f0, f1⟩ := y2
          simp only [Exit.then]
          go_wp2_with fail
          simp [bodyPost, results, Tryd.results34, go_sem, e0, e1]
          rw [EZ.out]
          exact big_ret HYY.out BY (by omega) ⟨_, e0⟩ _ _)
    · have EZ := hid1 (HZ.out.1 rfl)
      obtain ⟨p0, p1, _, _⟩ := S5.out
      obtain ⟨e0, e1, f0, f1⟩ := S2.out
      go_wp2_with fail
      simp [bodyPost, results, Tryd.results34, go_sem, e0, e1]
      rw [EZ.out]
      exact big_ret HQ.out hBX.out (by omega) ⟨_, e0⟩ _ _
  go_region_held3 (fun X => X.cell? ⟨w.heap.size, 1, none⟩ = some (.slice oa a.length ca) ∧ X.cell? ⟨w.heap.size + 1, 1, none⟩ = some (.slice ob b.length cb)) (((try dsimp only); refine kp1 (W := W) ?_ a1 b1; repeat (first | exact Below.refl _ _ | refine bl_alloc ?_ _ | refine Below.drew ?_ | refine bl_drewN ?_ _ | refine bl_set ?_ (by omega) _ | refine bl_step ?_ (by assumption))))
    (first
      | (go_at_call_of 51 oa; refine (trim_num m false (.slice oa a.length ca) a _ (RA2.out.below (by repeat (first | exact Below.refl _ _ | refine bl_alloc ?_ _ | refine Below.drew ?_ | refine bl_drewN ?_ _ | refine bl_set ?_ (by omega) _ | refine bl_step ?_ (by assumption)))) DA.out VA.out (fun _ => rfl) (fun h => by omega)).mono ?_; rintro e x1 ⟨y1, s1, o1, l1, c1, rfl, rfl, hy1, hb1⟩; have HY1 := hid1 hy1; clear hy1; have z1 : W.heap.size ≤ x1.heap.size := Nat.le_trans (by first | exact Nat.le_refl _ | (simp; done) | (simp; omega)) hb1.size; (first | (have Z1a : Zb x1 W.heap.size := Sv.keep (zb_new (W := W.drew) rfl) (bl_step (bl_alloc (Below.refl _ _) _) hb1); have Z1b : Zb x1 (W.heap.size + 1) := Sv.keep (zb_new (W := W.drew.alloc _) (by simp [go_sem])) hb1) | (have Z1a : Zb x1 W.heap.size := Sv.keep (zb_new (W := W.drew) rfl) hb1) | skip); (first | (have y11a := lt_of_cell Z1a.1; have v11a := Nat.ne_of_lt y11a; have i11a := (Nat.ne_of_lt y11a).symm) | skip); (first | (have y11b := lt_of_cell Z1b.1; have v11b := Nat.ne_of_lt y11b; have i11b := (Nat.ne_of_lt y11b).symm) | skip))
      | (go_at_call_of 51 ob; refine (trim_num n false (.slice ob b.length cb) b _ (RB2.out.below (by repeat (first | exact Below.refl _ _ | refine bl_alloc ?_ _ | refine Below.drew ?_ | refine bl_drewN ?_ _ | refine bl_set ?_ (by omega) _ | refine bl_step ?_ (by assumption)))) DB.out VB.out (fun _ => rfl) (fun h => by omega)).mono ?_; rintro e x2 ⟨y2, s2, o2, l2, c2, rfl, rfl, hy2, hb2⟩; have HY2 := hid1 hy2; clear hy2; have z2 : x1.heap.size ≤ x2.heap.size := Nat.le_trans (by first | exact Nat.le_refl _ | (simp; done) | (simp; omega)) hb2.size; (first | (have Z2a : Zb x2 x1.heap.size := Sv.keep (zb_new (W := x1) rfl) (bl_step (bl_alloc (Below.refl _ _) _) hb2); have Z2b : Zb x2 (x1.heap.size + 1) := Sv.keep (zb_new (W := x1.alloc _) (by simp [go_sem])) hb2) | (have Z2a : Zb x2 x1.heap.size := Sv.keep (zb_new (W := x1) rfl) hb2) | skip); (first | (have Z1a := Sv.keep (W' := x2) Z1a (by repeat (first | exact Below.refl _ _ | refine bl_alloc ?_ _ | refine Below.drew ?_ | refine bl_drewN ?_ _ | refine bl_set ?_ (by omega) _ | refine bl_step ?_ (by assumption)))) | skip); (first | (have Z1b := Sv.keep (W' := x2) Z1b (by repeat (first | exact Below.refl _ _ | refine bl_alloc ?_ _ | refine Below.drew ?_ | refine bl_drewN ?_ _ | refine bl_set ?_ (by omega) _ | refine bl_step ?_ (by assumption)))) | skip); (first | (have y21a := lt_of_cell Z1a.1; have v21a := Nat.ne_of_lt y21a; have i21a := (Nat.ne_of_lt y21a).symm) | skip); (first | (have y21b := lt_of_cell Z1b.1; have v21b := Nat.ne_of_lt y21b; have i21b := (Nat.ne_of_lt y21b).symm) | skip); (first | (have y22a := lt_of_cell Z2a.1; have v22a := Nat.ne_of_lt y22a; have i22a := (Nat.ne_of_lt y22a).symm) | skip); (first | (have y22b := lt_of_cell Z2b.1; have v22b := Nat.ne_of_lt y22b; have i22b := (Nat.ne_of_lt y22b).symm) | skip))
      | (go_at_call 62; refine (rparts_any m n _ _ _ (HY1.out.below (by repeat (first | exact Below.refl _ _ | refine bl_alloc ?_ _ | refine Below.drew ?_ | refine bl_drewN ?_ _ | refine bl_set ?_ (by omega) _ | refine bl_step ?_ (by assumption)))) (HY2.out.below (by repeat (first | exact Below.refl _ _ | refine bl_alloc ?_ _ | refine Below.drew ?_ | refine bl_drewN ?_ _ | refine bl_set ?_ (by omega) _ | refine bl_step ?_ (by assumption)))) m0 n0 HM.out HN.out).mono ?_; rintro e x3 ⟨q3, r3, rfl, hq3, hr3, hb3⟩; rw [EQ.out] at hq3; rw [ER.out] at hr3; obtain ⟨sq, oq, lq, cq, rfl⟩ := hq3.form; obtain ⟨sr, oR, lr, cr, rfl⟩ := hr3.form; have HQ3 := hid1 hq3; have HR3 := hid1 hr3; clear hq3 hr3; have z3 : x2.heap.size ≤ x3.heap.size := Nat.le_trans (by first | exact Nat.le_refl _ | (simp; done) | (simp; omega)) hb3.size; (first | (have Z3a : Zb x3 x2.heap.size := Sv.keep (zb_new (W := x2) rfl) (bl_step (bl_alloc (Below.refl _ _) _) hb3); have Z3b : Zb x3 (x2.heap.size + 1) := Sv.keep (zb_new (W := x2.alloc _) (by simp [go_sem])) hb3) | (have Z3a : Zb x3 x2.heap.size := Sv.keep (zb_new (W := x2) rfl) hb3) | skip); (first | (have Z1a := Sv.keep (W' := x3) Z1a (by repeat (first | exact Below.refl _ _ | refine bl_alloc ?_ _ | refine Below.drew ?_ | refine bl_drewN ?_ _ | refine bl_set ?_ (by omega) _ | refine bl_step ?_ (by assumption)))) | skip); (first | (have Z1b := Sv.keep (W' := x3) Z1b (by repeat (first | exact Below.refl _ _ | refine bl_alloc ?_ _ | refine Below.drew ?_ | refine bl_drewN ?_ _ | refine bl_set ?_ (by omega) _ | refine bl_step ?_ (by assumption)))) | skip); (first | (have Z2a := Sv.keep (W' := x3) Z2a (by repeat (first | exact Below.refl _ _ | refine bl_alloc ?_ _ | refine Below.drew ?_ | refine bl_drewN ?_ _ | refine bl_set ?_ (by omega) _ | refine bl_step ?_ (by assumption)))) | skip); (first | (have Z2b := Sv.keep (W' := x3) Z2b (by repeat (first | exact Below.refl _ _ | refine bl_alloc ?_ _ | refine Below.drew ?_ | refine bl_drewN ?_ _ | refine bl_set ?_ (by omega) _ | refine bl_step ?_ (by assumption)))) | skip); (first | (have y31a := lt_of_cell Z1a.1; have v31a := Nat.ne_of_lt y31a; have i31a := (Nat.ne_of_lt y31a).symm) | skip); (first | (have y31b := lt_of_cell Z1b.1; have v31b := Nat.ne_of_lt y31b; have i31b := (Nat.ne_of_lt y31b).symm) | skip); (first | (have y32a := lt_of_cell Z2a.1; have v32a := Nat.ne_of_lt y32a; have i32a := (Nat.ne_of_lt y32a).symm) | skip); (first | (have y32b := lt_of_cell Z2b.1; have v32b := Nat.ne_of_lt y32b; have i32b := (Nat.ne_of_lt y32b).symm) | skip); (first | (have y33a := lt_of_cell Z3a.1; have v33a := Nat.ne_of_lt y33a; have i33a := (Nat.ne_of_lt y33a).symm) | skip); (first | (have y33b := lt_of_cell Z3b.1; have v33b := Nat.ne_of_lt y33b; have i33b := (Nat.ne_of_lt y33b).symm) | skip); (first | (have t0a := Z1a.1; have t0b := Z1a.2.1; have t0c := Z1a.2.2.1; have t0d := Z1a.2.2.2; have t0e := lt_of_cell t0a; have t0f := Nat.ne_of_lt t0e) | skip); (first | (have t1a := Z1b.1; have t1b := Z1b.2.1; have t1c := Z1b.2.2.1; have t1d := Z1b.2.2.2; have t1e := lt_of_cell t1a; have t1f := Nat.ne_of_lt t1e) | skip); (first | (have t2a := Z2a.1; have t2b := Z2a.2.1; have t2c := Z2a.2.2.1; have t2d := Z2a.2.2.2; have t2e := lt_of_cell t2a; have t2f := Nat.ne_of_lt t2e) | skip); (first | (have t3a := Z2b.1; have t3b := Z2b.2.1; have t3c := Z2b.2.2.1; have t3d := Z2b.2.2.2; have t3e := lt_of_cell t3a; have t3f := Nat.ne_of_lt t3e) | skip); (first | (have t4a := Z3a.1; have t4b := Z3a.2.1; have t4c := Z3a.2.2.1; have t4d := Z3a.2.2.2; have t4e := lt_of_cell t4a; have t4f := Nat.ne_of_lt t4e) | skip); (first | (have t5a := Z3b.1; have t5b := Z3b.2.1; have t5c := Z3b.2.2.1; have t5d := Z3b.2.2.2; have t5e := lt_of_cell t5a; have t5f := Nat.ne_of_lt t5e) | skip)))
  all_goals go_wp2_with fail
  all_goals go_meet
  all_goals (
    refine ⟨_, _, sq, oq, lq, cq, sr, oR, lr, cr, rfl, rfl, ?_⟩
    refine ⟨?_, keepc (W := W) ?_ a0, keepc (W := W) ?_ b0, ?_, ?_, ?_, ?_, ?_, ?_, ?_, ?_⟩
    · repeat (first | (with_reducible exact Below.refl _ _) | (with_reducible refine bl_alloc ?_ _) | (with_reducible refine Below.drew ?_) | (with_reducible refine bl_drewN ?_ _) | (with_reducible refine bl_set ?_ (by omega) _) | (with_reducible refine bl_step ?_ (by assumption)))
    · repeat (first | (with_reducible exact Below.refl _ _) | (with_reducible refine bl_alloc ?_ _) | (with_reducible refine Below.drew ?_) | (with_reducible refine bl_drewN ?_ _) | (with_reducible refine bl_set ?_ (by omega) _) | (with_reducible refine bl_step ?_ (by assumption)))
    · repeat (first | (with_reducible exact Below.refl _ _) | (with_reducible refine bl_alloc ?_ _) | (with_reducible refine Below.drew ?_) | (with_reducible refine bl_drewN ?_ _) | (with_reducible refine bl_set ?_ (by omega) _) | (with_reducible refine bl_step ?_ (by assumption)))
    · exact ZR.out.keep (by repeat (first | (with_reducible exact Below.refl _ _) | (with_reducible refine bl_alloc ?_ _) | (with_reducible refine Below.drew ?_) | (with_reducible refine bl_drewN ?_ _) | (with_reducible refine bl_set ?_ (by omega) _) | (with_reducible refine bl_step ?_ (by assumption))))
    · repeat (first | (with_reducible assumption) | (with_reducible refine Sv.own ?_) | (with_reducible refine Sv.oth ?_ (by omega)) | (with_reducible exact sv_new (by simp)) | (with_reducible refine Sv.alloc ?_ _) | (with_reducible refine Sv.drew ?_))
    · repeat (first | (with_reducible assumption) | (with_reducible refine Sv.own ?_) | (with_reducible refine Sv.oth ?_ (by omega)) | (with_reducible exact sv_new (by simp)) | (with_reducible refine Sv.alloc ?_ _) | (with_reducible refine Sv.drew ?_))
    · first | (with_reducible exact Bg.alloc (Bg.alloc HQ3.out _) _) | ((with_reducible refine Bg.alloc (Bg.set2 HQ3.out ?_) _); (repeat (first | (with_reducible assumption) | (with_reducible refine Sv.own ?_) | (with_reducible refine Sv.oth ?_ (by omega)) | (with_reducible exact sv_new (by simp)) | (with_reducible refine Sv.alloc ?_ _) | (with_reducible refine Sv.drew ?_))); done) | ((with_reducible refine Bg.set2 (Bg.set2 HQ3.out ?_) ?_); all_goals (repeat (first | (with_reducible assumption) | (with_reducible refine Sv.own ?_) | (with_reducible refine Sv.oth ?_ (by omega)) | (with_reducible exact sv_new (by simp)) | (with_reducible refine Sv.alloc ?_ _) | (with_reducible refine Sv.drew ?_))); done)
    · first | (with_reducible exact Bg.alloc (Bg.alloc HR3.out _) _) | ((with_reducible refine Bg.alloc (Bg.set2 HR3.out ?_) _); (repeat (first | (with_reducible assumption) | (with_reducible refine Sv.own ?_) | (with_reducible refine Sv.oth ?_ (by omega)) | (with_reducible exact sv_new (by simp)) | (with_reducible refine Sv.alloc ?_ _) | (with_reducible refine Sv.drew ?_))); done) | ((with_reducible refine Bg.set2 (Bg.set2 HR3.out ?_) ?_); all_goals (repeat (first | (with_reducible assumption) | (with_reducible refine Sv.own ?_) | (with_reducible refine Sv.oth ?_ (by omega)) | (with_reducible exact sv_new (by simp)) | (with_reducible refine Sv.alloc ?_ _) | (with_reducible refine Sv.drew ?_))); done)
    · omega
    · omega
    · omega)
theorem down_any (m n : Int) (sm sn : Bool) (a b : List Int) (oa ob : Option Addr) (ca cb : Nat) (w : World) (ra : Rd w (.slice oa a.length ca) a) (rb : Rd w (.slice ob b.length cb) b) (da : Dg a) (db : Dg b) (va : val a = m) (vb : val b = n) (m0 : 0 ≤ m) (n0 : 0 < n) (hm : (m.natAbs : Int) < 65536 ^ 16) (hn : (n.natAbs : Int) < 65536 ^ 16) :
    Calls Tryd.prog 34 #[.agg #[.bool sm, .slice oa a.length ca], .agg #[.bool sn, .slice ob b.length cb]] w fun e w' => ∃ z, e = .returned z ∧ Bg w' z (if sm = sn then m / n else if m % n = 0 then -(m / n) else -(m / n) - 1) ∧ Below w.heap.size w w' :=
  down_core m n _ _ _ sm sn rfl rfl (fun h => if_pos h) (fun h h0 => by rw [if_neg h, if_pos h0]) (fun h h0 => by rw [if_neg h, if_neg h0]) a b oa ob ca cb w ra rb da db va vb m0 n0 hm hn
end Go.Proofs.YtcjglbejmlebhaaDoor
