import Derived.Test.YtffhbfdbahdhoabQDFoldScript
import Derived.Test.YtffhbfdbahdhoabQAFoldScript
import Derived.BigRegion
/- ONE STEP OF A SCRIPT. -/
namespace Go.Proofs.Ytffhbfdbahdhoab
open Go.RowKit Go.Shelf Wd
attribute [local go_sem ↓] Go.wp_at_zero Go.wp_at_succ

abbrev opv (k gn gd bn bd mn md sn sd m t lo hi x : Int) : Value := .agg #[.int .i64 k, .int .i64 gn, .int .i64 gd, .int .i64 bn, .int .i64 bd, .int .i64 mn, .int .i64 md, .int .i64 sn, .int .i64 sd, .int .i64 m, .int .i64 t, .int .i64 lo, .int .i64 hi, .int .i64 x]
/-- A step's cells from a place on. -/
def O14 (w : World) (b o : Nat) (k gn gd bn bd mn md sn sd m t lo hi x : Int) : Prop := w.cell? ⟨b, o, none⟩ = some (.int .i64 k) ∧ w.cell? ⟨b, o + 1, none⟩ = some (.int .i64 gn) ∧ w.cell? ⟨b, o + 2, none⟩ = some (.int .i64 gd) ∧ w.cell? ⟨b, o + 3, none⟩ = some (.int .i64 bn) ∧ w.cell? ⟨b, o + 4, none⟩ = some (.int .i64 bd) ∧ w.cell? ⟨b, o + 5, none⟩ = some (.int .i64 mn) ∧ w.cell? ⟨b, o + 6, none⟩ = some (.int .i64 md) ∧ w.cell? ⟨b, o + 7, none⟩ = some (.int .i64 sn) ∧ w.cell? ⟨b, o + 8, none⟩ = some (.int .i64 sd) ∧ w.cell? ⟨b, o + 9, none⟩ = some (.int .i64 m) ∧ w.cell? ⟨b, o + 10, none⟩ = some (.int .i64 t) ∧ w.cell? ⟨b, o + 11, none⟩ = some (.int .i64 lo) ∧ w.cell? ⟨b, o + 12, none⟩ = some (.int .i64 hi) ∧ w.cell? ⟨b, o + 13, none⟩ = some (.int .i64 x)
theorem O14.keep {w w' : World} {b o : Nat} {k gn gd bn bd mn md sn sd m t lo hi x : Int} (h : O14 w b o k gn gd bn bd mn md sn sd m t lo hi x) (hb : Below w.heap.size w w') : O14 w' b o k gn gd bn bd mn md sn sd m t lo hi x := by
  obtain ⟨h0, h1, h2, h3, h4, h5, h6, h7, h8, h9, h10, h11, h12, h13⟩ := h
  exact ⟨keepc hb h0, keepc hb h1, keepc hb h2, keepc hb h3, keepc hb h4, keepc hb h5, keepc hb h6, keepc hb h7, keepc hb h8, keepc hb h9, keepc hb h10, keepc hb h11, keepc hb h12, keepc hb h13⟩
theorem keepa {W : World} {b o : Nat} {v : Value} (h : W.cell? ⟨b, o, none⟩ = some v) (ob : Obj) : (W.alloc ob).cell? ⟨b, o, none⟩ = some v := by
  rw [World.cell?_alloc_lt _ _ _ (lt_of_cell h)]; exact h
theorem O14.alloc {w : World} {b o : Nat} {k gn gd bn bd mn md sn sd m t lo hi x : Int} (h : O14 w b o k gn gd bn bd mn md sn sd m t lo hi x) (ob : Obj) : O14 (w.alloc ob) b o k gn gd bn bd mn md sn sd m t lo hi x := by
  obtain ⟨h0, h1, h2, h3, h4, h5, h6, h7, h8, h9, h10, h11, h12, h13⟩ := h
  exact ⟨keepa h0 _, keepa h1 _, keepa h2 _, keepa h3 _, keepa h4 _, keepa h5 _, keepa h6 _, keepa h7 _, keepa h8 _, keepa h9 _, keepa h10 _, keepa h11 _, keepa h12 _, keepa h13 _⟩
theorem C2.alloc {w : World} {b : Nat} {m t : Int} (h : C2 w b m t) (ob : Obj) : C2 (w.alloc ob) b m t := ⟨keepa h.1 _, keepa h.2 _⟩
theorem Wz.alloc {w : World} {b : Nat} (h : Wz w b) (ob : Obj) : Wz (w.alloc ob) b := by
  have z := lt_of_cell h.1
  exact ⟨keepa h.1 _, keepa h.2.1 _, by rw [World.frozen?_alloc_past _ _ _ z]; exact h.2.2.1, by rw [World.frozen?_alloc_past _ _ _ z]; exact h.2.2.2⟩
theorem nm_alloc {w : World} {b : Nat} {gn gd bn bd mn md sn sd : Int} (h : Nm w b gn gd bn bd mn md sn sd) (ob : Obj) : Nm (w.alloc ob) b gn gd bn bd mn md sn sd := by
  obtain ⟨a, c, d, e, f, g, i, j⟩ := h
  exact ⟨keepa a _, keepa c _, keepa d _, keepa e _, keepa f _, keepa g _, keepa i _, keepa j _⟩
/-- The step's box, the last answer's, the answer's own. -/
structure Bx (w X : World) (k gn gd bn bd mn md sn sd m t lo hi x u v : Int) : Prop where
  op : O14 X w.heap.size 0 k gn gd bn bd mn md sn sd m t lo hi x
  last : C2 X (w.heap.size + 1) u v
  ret : Wz X (w.heap.size + 2)
  bel : Below w.heap.size w X
theorem Bx.keep {w X Y : World} {k gn gd bn bd mn md sn sd m t lo hi x u v : Int} (h : Bx w X k gn gd bn bd mn md sn sd m t lo hi x u v) (hb : Below X.heap.size X Y) : Bx w Y k gn gd bn bd mn md sn sd m t lo hi x u v := ⟨h.op.keep hb, h.last.keep hb, h.ret.keep hb, bl_step h.bel hb⟩
theorem Bx.alloc {w X : World} {k gn gd bn bd mn md sn sd m t lo hi x u v : Int} (h : Bx w X k gn gd bn bd mn md sn sd m t lo hi x u v) (ob : Obj) : Bx w (X.alloc ob) k gn gd bn bd mn md sn sd m t lo hi x u v := ⟨h.op.alloc _, h.last.alloc _, h.ret.alloc _, bl_alloc h.bel _⟩
theorem bx_new (w : World) (T1 T2 T3 : TypeId) (k gn gd bn bd mn md sn sd m t lo hi x u v : Int) : Bx w (((w.alloc (.cells #[.int .i64 k, .int .i64 gn, .int .i64 gd, .int .i64 bn, .int .i64 bd, .int .i64 mn, .int .i64 md, .int .i64 sn, .int .i64 sd, .int .i64 m, .int .i64 t, .int .i64 lo, .int .i64 hi, .int .i64 x] T1)).alloc (.cells #[.int .i64 u, .int .i64 v] T2)).alloc (.cells #[.int .i64 0, .int .i64 0] T3)) k gn gd bn bd mn md sn sd m t lo hi x u v where
  op := by unfold O14; exact ⟨by simp [go_sem], by simp [go_sem], by simp [go_sem], by simp [go_sem], by simp [go_sem], by simp [go_sem], by simp [go_sem], by simp [go_sem], by simp [go_sem], by simp [go_sem], by simp [go_sem], by simp [go_sem], by simp [go_sem], by simp [go_sem]⟩
  last := ⟨by simp [go_sem], by simp [go_sem]⟩
  ret := ⟨by simp [go_sem], by simp [go_sem], by simp [go_sem], by simp [go_sem]⟩
  bel := by repeat (first | (with_reducible exact Below.refl _ _) | (with_reducible refine bl_alloc ?_ _) | (with_reducible refine Below.drew ?_) | (with_reducible refine bl_drewN ?_ _) | (with_reducible refine bl_set ?_ (by omega) _) | (with_reducible refine bl_step ?_ (by assumption)))
set_option maxHeartbeats 1600000 in
set_option maxRecDepth 100000 in
theorem plays_1 (gn gd bn bd mn md sn sd m t lo hi x u v A B E : Int) (HF : Hid (∀ w : World, Calls Try.prog 6 #[nm gn gd bn bd mn md sn sd] w fun y w' => y = .returned (.tuple #[th A B, .int .i64 E]) ∧ Below w.heap.size w w')) (HG : Hid (∀ w : World, Calls Try.prog 7 #[nm gn gd bn bd mn md sn sd] w fun y w' => y = .returned (.tuple #[th A B, .int .i64 E]) ∧ Below w.heap.size w w')) (w : World) :
    Calls Try.prog 8 #[opv 1 gn gd bn bd mn md sn sd m t lo hi x, th u v] w fun y w' => y = .returned (.tuple #[th A B, .bool true]) ∧ Below w.heap.size w w' := by
  go_enter Try.func8, Try.ntmps8
  go_wp2_with fail
  refine gen_calls (fun X => Hid (Bx w X 1 gn gd bn bd mn md sn sd m t lo hi x u v)) (hid1 (bx_new w _ _ _ 1 gn gd bn bd mn md sn sd m t lo hi x u v)) ?_
  rintro X1 HB
  refine (HF.out _).mono ?_
  rintro y w2 ⟨rfl, hb⟩
  replace HB := hid1 (HB.out.keep hb)
  clear hb
  obtain ⟨h0, h1, h2, h3, h4, h5, h6, h7, h8, h9, h10, h11, h12, h13⟩ := HB.out.op
  obtain ⟨l0, l1⟩ := HB.out.last
  simp only [Nat.zero_add] at h1 h2 h3 h4 h5 h6 h7 h8 h9 h10 h11 h12 h13
  have zo := lt_of_cell h0
  have zl := lt_of_cell l0
  go_wp2_with fail
  clear h0 h1 h2 h3 h4 h5 h6 h7 h8 h9 h10 h11 h12 h13 l0 l1 zo zl
  refine gen_calls (fun X => Hid (Bx w X 1 gn gd bn bd mn md sn sd m t lo hi x u v) ∧ Hid (C2 X w2.heap.size A B)) ⟨hid1 (HB.out.alloc _), hid1 (c2_new rfl)⟩ ?_
  clear HB
  rintro X3 ⟨HB, HA⟩
  refine (HG.out _).mono ?_
  rintro y w4 ⟨rfl, hb⟩
  replace HB := hid1 (HB.out.keep hb)
  replace HA := hid1 (HA.out.keep hb)
  clear hb
  generalize w2.heap.size = M1 at *
  obtain ⟨h0, h1, h2, h3, h4, h5, h6, h7, h8, h9, h10, h11, h12, h13⟩ := HB.out.op
  obtain ⟨l0, l1⟩ := HB.out.last
  simp only [Nat.zero_add] at h1 h2 h3 h4 h5 h6 h7 h8 h9 h10 h11 h12 h13
  have zo := lt_of_cell h0
  have zl := lt_of_cell l0
  go_upto_region 5 with fail
  clear h0 h1 h2 h3 h4 h5 h6 h7 h8 h9 h10 h11 h12 h13 l0 l1 zo zl
  refine gen_worldH (fun X => Hid (Bx w X 1 gn gd bn bd mn md sn sd m t lo hi x u v) ∧ Hid (C2 X M1 A B) ∧ Hid (C2 X w4.heap.size A B)) ⟨hid1 (HB.out.alloc _), hid1 (HA.out.alloc _), hid1 (c2_new rfl)⟩ ?_
  clear HB HA
  rintro X5 ⟨HB, HA, HD⟩
  generalize w4.heap.size = M2 at *
  obtain ⟨a0, a1⟩ := HA.out
  obtain ⟨d0, d1⟩ := HD.out
  obtain ⟨r0, r1, r2, r3⟩ := HB.out.ret
  have HE := hid1 HB.out.bel
  have zr := lt_of_cell r0
  clear HA HD HB HF HG
  go_region
  go_wp2
  simp [bodyPost, results, Try.results8, go_sem, *]
  have BE := HE.out
  repeat (first | (with_reducible exact Below.refl _ _) | (with_reducible refine bl_alloc ?_ _) | (with_reducible refine Below.drew ?_) | (with_reducible refine bl_drewN ?_ _) | (with_reducible refine bl_set ?_ (by omega) _) | (with_reducible refine bl_step ?_ (by assumption)))
set_option maxHeartbeats 1600000 in
set_option maxRecDepth 100000 in
theorem plays_3 (gn gd bn bd mn md sn sd m t lo hi x u v A B E : Int) (HF : Hid (∀ w : World, Calls Try.prog 12 #[th m t, th lo hi] w fun y w' => y = .returned (.tuple #[th A B, .int .i64 E]) ∧ Below w.heap.size w w')) (HG : Hid (∀ w : World, Calls Try.prog 21 #[th m t, th lo hi] w fun y w' => y = .returned (.tuple #[th A B, .int .i64 E]) ∧ Below w.heap.size w w')) (w : World) :
    Calls Try.prog 8 #[opv 3 gn gd bn bd mn md sn sd m t lo hi x, th u v] w fun y w' => y = .returned (.tuple #[th A B, .bool true]) ∧ Below w.heap.size w w' := by
  go_enter Try.func8, Try.ntmps8
  go_wp2_with fail
  refine gen_calls (fun X => Hid (Bx w X 3 gn gd bn bd mn md sn sd m t lo hi x u v)) (hid1 (bx_new w _ _ _ 3 gn gd bn bd mn md sn sd m t lo hi x u v)) ?_
  rintro X1 HB
  refine (HF.out _).mono ?_
  rintro y w2 ⟨rfl, hb⟩
  replace HB := hid1 (HB.out.keep hb)
  clear hb
  obtain ⟨h0, h1, h2, h3, h4, h5, h6, h7, h8, h9, h10, h11, h12, h13⟩ := HB.out.op
  obtain ⟨l0, l1⟩ := HB.out.last
  simp only [Nat.zero_add] at h1 h2 h3 h4 h5 h6 h7 h8 h9 h10 h11 h12 h13
  have zo := lt_of_cell h0
  have zl := lt_of_cell l0
  go_wp2_with fail
  clear h0 h1 h2 h3 h4 h5 h6 h7 h8 h9 h10 h11 h12 h13 l0 l1 zo zl
  refine gen_calls (fun X => Hid (Bx w X 3 gn gd bn bd mn md sn sd m t lo hi x u v) ∧ Hid (C2 X w2.heap.size A B)) ⟨hid1 (HB.out.alloc _), hid1 (c2_new rfl)⟩ ?_
  clear HB
  rintro X3 ⟨HB, HA⟩
  refine (HG.out _).mono ?_
  rintro y w4 ⟨rfl, hb⟩
  replace HB := hid1 (HB.out.keep hb)
  replace HA := hid1 (HA.out.keep hb)
  clear hb
  generalize w2.heap.size = M1 at *
  obtain ⟨h0, h1, h2, h3, h4, h5, h6, h7, h8, h9, h10, h11, h12, h13⟩ := HB.out.op
  obtain ⟨l0, l1⟩ := HB.out.last
  simp only [Nat.zero_add] at h1 h2 h3 h4 h5 h6 h7 h8 h9 h10 h11 h12 h13
  have zo := lt_of_cell h0
  have zl := lt_of_cell l0
  go_upto_region 15 with fail
  clear h0 h1 h2 h3 h4 h5 h6 h7 h8 h9 h10 h11 h12 h13 l0 l1 zo zl
  refine gen_worldH (fun X => Hid (Bx w X 3 gn gd bn bd mn md sn sd m t lo hi x u v) ∧ Hid (C2 X M1 A B) ∧ Hid (C2 X w4.heap.size A B)) ⟨hid1 (HB.out.alloc _), hid1 (HA.out.alloc _), hid1 (c2_new rfl)⟩ ?_
  clear HB HA
  rintro X5 ⟨HB, HA, HD⟩
  generalize w4.heap.size = M2 at *
  obtain ⟨a0, a1⟩ := HA.out
  obtain ⟨d0, d1⟩ := HD.out
  obtain ⟨r0, r1, r2, r3⟩ := HB.out.ret
  have HE := hid1 HB.out.bel
  have zr := lt_of_cell r0
  clear HA HD HB HF HG
  go_region
  go_wp2
  simp [bodyPost, results, Try.results8, go_sem, *]
  have BE := HE.out
  repeat (first | (with_reducible exact Below.refl _ _) | (with_reducible refine bl_alloc ?_ _) | (with_reducible refine Below.drew ?_) | (with_reducible refine bl_drewN ?_ _) | (with_reducible refine bl_set ?_ (by omega) _) | (with_reducible refine bl_step ?_ (by assumption)))
set_option maxHeartbeats 1600000 in
set_option maxRecDepth 100000 in
theorem plays_2 (gn gd bn bd mn md sn sd m t lo hi x u v E : Int) (p : Bool) (HP : Hid (∀ w : World, Calls Try.prog 11 #[th m t, .int .i64 x] w fun y w' => y = .returned (.bool p) ∧ Below w.heap.size w w')) (HQ : Hid (∀ w : World, Calls Try.prog 19 #[th m t, .int .i64 x] w fun y w' => y = .returned (.bool p) ∧ Below w.heap.size w w')) (HC : Hid (∀ w : World, Calls Try.prog 10 #[th m t] w fun y w' => y = .returned (.int .i64 E) ∧ Below w.heap.size w w')) (HD : Hid (∀ w : World, Calls Try.prog 20 #[th m t] w fun y w' => y = .returned (.int .i64 E) ∧ Below w.heap.size w w')) (w : World) :
    Calls Try.prog 8 #[opv 2 gn gd bn bd mn md sn sd m t lo hi x, th u v] w fun y w' => y = .returned (.tuple #[th u v, .bool true]) ∧ Below w.heap.size w w' := by
  go_enter Try.func8, Try.ntmps8
  go_wp2_with fail
  refine gen_calls (fun X => Hid (Bx w X 2 gn gd bn bd mn md sn sd m t lo hi x u v)) (hid1 (bx_new w _ _ _ 2 gn gd bn bd mn md sn sd m t lo hi x u v)) ?_
  rintro X1 HB
  refine (HP.out _).mono ?_
  rintro y w2 ⟨rfl, hb⟩
  replace HB := hid1 (HB.out.keep hb)
  clear hb
  obtain ⟨h0, h1, h2, h3, h4, h5, h6, h7, h8, h9, h10, h11, h12, h13⟩ := HB.out.op
  obtain ⟨l0, l1⟩ := HB.out.last
  simp only [Nat.zero_add] at h1 h2 h3 h4 h5 h6 h7 h8 h9 h10 h11 h12 h13
  have zo := lt_of_cell h0
  have zl := lt_of_cell l0
  go_wp2_with fail
  clear h0 h1 h2 h3 h4 h5 h6 h7 h8 h9 h10 h11 h12 h13 l0 l1 zo zl
  refine (HQ.out _).mono ?_
  rintro y w3 ⟨rfl, hb⟩
  replace HB := hid1 (HB.out.keep hb)
  clear hb
  obtain ⟨h0, h1, h2, h3, h4, h5, h6, h7, h8, h9, h10, h11, h12, h13⟩ := HB.out.op
  obtain ⟨l0, l1⟩ := HB.out.last
  simp only [Nat.zero_add] at h1 h2 h3 h4 h5 h6 h7 h8 h9 h10 h11 h12 h13
  have zo := lt_of_cell h0
  have zl := lt_of_cell l0
  go_wp2_with fail
  clear h0 h1 h2 h3 h4 h5 h6 h7 h8 h9 h10 h11 h12 h13 l0 l1 zo zl
  refine (HC.out _).mono ?_
  rintro y w4 ⟨rfl, hb⟩
  replace HB := hid1 (HB.out.keep hb)
  clear hb
  obtain ⟨h0, h1, h2, h3, h4, h5, h6, h7, h8, h9, h10, h11, h12, h13⟩ := HB.out.op
  obtain ⟨l0, l1⟩ := HB.out.last
  simp only [Nat.zero_add] at h1 h2 h3 h4 h5 h6 h7 h8 h9 h10 h11 h12 h13
  have zo := lt_of_cell h0
  have zl := lt_of_cell l0
  go_wp2_with fail
  clear h0 h1 h2 h3 h4 h5 h6 h7 h8 h9 h10 h11 h12 h13 l0 l1 zo zl
  refine (HD.out _).mono ?_
  rintro y w5 ⟨rfl, hb⟩
  replace HB := hid1 (HB.out.keep hb)
  clear hb
  obtain ⟨h0, h1, h2, h3, h4, h5, h6, h7, h8, h9, h10, h11, h12, h13⟩ := HB.out.op
  obtain ⟨l0, l1⟩ := HB.out.last
  simp only [Nat.zero_add] at h1 h2 h3 h4 h5 h6 h7 h8 h9 h10 h11 h12 h13
  have zo := lt_of_cell h0
  have zl := lt_of_cell l0
  obtain ⟨r0, r1, r2, r3⟩ := HB.out.ret
  have HE := hid1 HB.out.bel
  have zr := lt_of_cell r0
  clear HB HP HQ HC HD
  cases p
  · go_wp2
    simp [bodyPost, results, Try.results8, go_sem, *]
    have BE := HE.out
    repeat (first | (with_reducible exact Below.refl _ _) | (with_reducible refine bl_alloc ?_ _) | (with_reducible refine Below.drew ?_) | (with_reducible refine bl_drewN ?_ _) | (with_reducible refine bl_set ?_ (by omega) _) | (with_reducible refine bl_step ?_ (by assumption)))
  · go_wp2
    simp [bodyPost, results, Try.results8, go_sem, *]
    have BE := HE.out
    repeat (first | (with_reducible exact Below.refl _ _) | (with_reducible refine bl_alloc ?_ _) | (with_reducible refine Below.drew ?_) | (with_reducible refine bl_drewN ?_ _) | (with_reducible refine bl_set ?_ (by omega) _) | (with_reducible refine bl_step ?_ (by assumption)))
set_option maxHeartbeats 1600000 in
set_option maxRecDepth 100000 in
theorem plays_4 (gn gd bn bd mn md sn sd m t lo hi x u v A0 A1 A2 A3 A4 A5 A6 A7 E : Int) (HF : Hid (∀ w : World, Calls Try.prog 13 #[th m t] w fun y w' => y = .returned (.tuple #[nm A0 A1 A2 A3 A4 A5 A6 A7, .int .i64 E]) ∧ Below w.heap.size w w')) (HG : Hid (∀ w : World, Calls Try.prog 22 #[th m t] w fun y w' => y = .returned (.tuple #[nm A0 A1 A2 A3 A4 A5 A6 A7, .int .i64 E]) ∧ Below w.heap.size w w')) (w : World) :
    Calls Try.prog 8 #[opv 4 gn gd bn bd mn md sn sd m t lo hi x, th u v] w fun y w' => y = .returned (.tuple #[th u v, .bool true]) ∧ Below w.heap.size w w' := by
  go_enter Try.func8, Try.ntmps8
  go_wp2_with fail
  refine gen_calls (fun X => Hid (Bx w X 4 gn gd bn bd mn md sn sd m t lo hi x u v)) (hid1 (bx_new w _ _ _ 4 gn gd bn bd mn md sn sd m t lo hi x u v)) ?_
  rintro X1 HB
  refine (HF.out _).mono ?_
  rintro y w2 ⟨rfl, hb⟩
  replace HB := hid1 (HB.out.keep hb)
  clear hb
  obtain ⟨h0, h1, h2, h3, h4, h5, h6, h7, h8, h9, h10, h11, h12, h13⟩ := HB.out.op
  obtain ⟨l0, l1⟩ := HB.out.last
  simp only [Nat.zero_add] at h1 h2 h3 h4 h5 h6 h7 h8 h9 h10 h11 h12 h13
  have zo := lt_of_cell h0
  have zl := lt_of_cell l0
  go_wp2_with fail
  clear h0 h1 h2 h3 h4 h5 h6 h7 h8 h9 h10 h11 h12 h13 l0 l1 zo zl
  refine gen_calls (fun X => Hid (Bx w X 4 gn gd bn bd mn md sn sd m t lo hi x u v) ∧ Hid (Nm X w2.heap.size A0 A1 A2 A3 A4 A5 A6 A7)) ⟨hid1 (HB.out.alloc _), hid1 ⟨by simp [go_sem], by simp [go_sem], by simp [go_sem], by simp [go_sem], by simp [go_sem], by simp [go_sem], by simp [go_sem], by simp [go_sem]⟩⟩ ?_
  clear HB
  rintro X3 ⟨HB, HA⟩
  refine (HG.out _).mono ?_
  rintro y w4 ⟨rfl, hb⟩
  replace HB := hid1 (HB.out.keep hb)
  replace HA := hid1 (HA.out.keep hb)
  clear hb
  generalize w2.heap.size = M1 at *
  obtain ⟨h0, h1, h2, h3, h4, h5, h6, h7, h8, h9, h10, h11, h12, h13⟩ := HB.out.op
  obtain ⟨l0, l1⟩ := HB.out.last
  simp only [Nat.zero_add] at h1 h2 h3 h4 h5 h6 h7 h8 h9 h10 h11 h12 h13
  have zo := lt_of_cell h0
  have zl := lt_of_cell l0
  go_upto_region 19 with fail
  clear h0 h1 h2 h3 h4 h5 h6 h7 h8 h9 h10 h11 h12 h13 l0 l1 zo zl
  refine gen_worldH (fun X => Hid (Bx w X 4 gn gd bn bd mn md sn sd m t lo hi x u v) ∧ Hid (Nm X M1 A0 A1 A2 A3 A4 A5 A6 A7) ∧ Hid (Nm X w4.heap.size A0 A1 A2 A3 A4 A5 A6 A7)) ⟨hid1 (HB.out.alloc _), hid1 (nm_alloc HA.out _), hid1 ⟨by simp [go_sem], by simp [go_sem], by simp [go_sem], by simp [go_sem], by simp [go_sem], by simp [go_sem], by simp [go_sem], by simp [go_sem]⟩⟩ ?_
  clear HB HA
  rintro X5 ⟨HB, HA, HD⟩
  generalize w4.heap.size = M2 at *
  obtain ⟨a0, a1, a2, a3, a4, a5, a6, a7⟩ := HA.out
  obtain ⟨d0, d1, d2, d3, d4, d5, d6, d7⟩ := HD.out
  obtain ⟨l0, l1⟩ := HB.out.last
  obtain ⟨r0, r1, r2, r3⟩ := HB.out.ret
  have HE := hid1 HB.out.bel
  have zr := lt_of_cell r0
  clear HA HD HB HF HG
  go_region
  go_wp2
  simp [bodyPost, results, Try.results8, go_sem, *]
  have BE := HE.out
  repeat (first | (with_reducible exact Below.refl _ _) | (with_reducible refine bl_alloc ?_ _) | (with_reducible refine Below.drew ?_) | (with_reducible refine bl_drewN ?_ _) | (with_reducible refine bl_set ?_ (by omega) _) | (with_reducible refine bl_step ?_ (by assumption)))
set_option maxHeartbeats 1600000 in
set_option maxRecDepth 100000 in
theorem plays_0 (k gn gd bn bd mn md sn sd m t lo hi x u v : Int) (k1 : (k == 1) = false) (k2 : (k == 2) = false) (k3 : (k == 3) = false) (k4 : (k == 4) = false) (k5 : (k == 5) = false) (w : World) :
    Calls Try.prog 8 #[opv k gn gd bn bd mn md sn sd m t lo hi x, th u v] w fun y w' => y = .returned (.tuple #[th u v, .bool true]) ∧ Below w.heap.size w w' := by
  go_enter Try.func8, Try.ntmps8
  go_upto_region 28 with fail
  refine gen_worldH (fun X => Hid (Bx w X k gn gd bn bd mn md sn sd m t lo hi x u v)) (hid1 (bx_new w _ _ _ k gn gd bn bd mn md sn sd m t lo hi x u v)) ?_
  rintro X1 HB
  obtain ⟨l0, l1⟩ := HB.out.last
  obtain ⟨r0, r1, r2, r3⟩ := HB.out.ret
  have HE := hid1 HB.out.bel
  have zr := lt_of_cell r0
  clear HB
  go_wp2
  simp [bodyPost, results, Try.results8, go_sem, *]
  have BE := HE.out
  repeat (first | (with_reducible exact Below.refl _ _) | (with_reducible refine bl_alloc ?_ _) | (with_reducible refine Below.drew ?_) | (with_reducible refine bl_drewN ?_ _) | (with_reducible refine bl_set ?_ (by omega) _) | (with_reducible refine bl_step ?_ (by assumption)))
set_option maxHeartbeats 1600000 in
set_option maxRecDepth 100000 in
theorem plays_5 (gn gd bn bd mn md sn sd m t lo hi x u v A0 A1 A2 A3 A4 A5 A6 A7 A B E F : Int) (p : Bool) (HN1 : Hid (∀ w : World, Calls Try.prog 13 #[th u v] w fun y w' => y = .returned (.tuple #[nm A0 A1 A2 A3 A4 A5 A6 A7, .int .i64 E]) ∧ Below w.heap.size w w')) (HN2 : Hid (∀ w : World, Calls Try.prog 22 #[th u v] w fun y w' => y = .returned (.tuple #[nm A0 A1 A2 A3 A4 A5 A6 A7, .int .i64 E]) ∧ Below w.heap.size w w')) (HT1 : Hid (∀ w : World, Calls Try.prog 12 #[th u v, th lo hi] w fun y w' => y = .returned (.tuple #[th A B, .int .i64 F]) ∧ Below w.heap.size w w')) (HT2 : Hid (∀ w : World, Calls Try.prog 21 #[th u v, th lo hi] w fun y w' => y = .returned (.tuple #[th A B, .int .i64 F]) ∧ Below w.heap.size w w')) (HP1 : Hid (∀ w : World, Calls Try.prog 11 #[th u v, .int .i64 x] w fun y w' => y = .returned (.bool p) ∧ Below w.heap.size w w')) (HP2 : Hid (∀ w : World, Calls Try.prog 19 #[th u v, .int .i64 x] w fun y w' => y = .returned (.bool p) ∧ Below w.heap.size w w')) (w : World) :
    Calls Try.prog 8 #[opv 5 gn gd bn bd mn md sn sd m t lo hi x, th u v] w fun y w' => y = .returned (.tuple #[th A B, .bool true]) ∧ Below w.heap.size w w' := by
  go_enter Try.func8, Try.ntmps8
  go_wp2_with fail
  refine gen_calls (fun X => Hid (Bx w X 5 gn gd bn bd mn md sn sd m t lo hi x u v)) (hid1 (bx_new w _ _ _ 5 gn gd bn bd mn md sn sd m t lo hi x u v)) ?_
  rintro X1 HB
  refine (HN1.out _).mono ?_
  rintro y w2 ⟨rfl, hb⟩
  replace HB := hid1 (HB.out.keep hb)
  clear hb
  obtain ⟨h0, h1, h2, h3, h4, h5, h6, h7, h8, h9, h10, h11, h12, h13⟩ := HB.out.op
  obtain ⟨l0, l1⟩ := HB.out.last
  simp only [Nat.zero_add] at h1 h2 h3 h4 h5 h6 h7 h8 h9 h10 h11 h12 h13
  have zo := lt_of_cell h0
  have zl := lt_of_cell l0
  go_wp2_with fail
  clear h0 h1 h2 h3 h4 h5 h6 h7 h8 h9 h10 h11 h12 h13 l0 l1 zo zl
  refine gen_calls (fun X => Hid (Bx w X 5 gn gd bn bd mn md sn sd m t lo hi x u v) ∧ Hid (Nm X w2.heap.size A0 A1 A2 A3 A4 A5 A6 A7)) ⟨hid1 (HB.out.alloc _), hid1 ⟨by simp [go_sem], by simp [go_sem], by simp [go_sem], by simp [go_sem], by simp [go_sem], by simp [go_sem], by simp [go_sem], by simp [go_sem]⟩⟩ ?_
  clear HB
  rintro X3 ⟨HB, HA⟩
  refine (HN2.out _).mono ?_
  rintro y w4 ⟨rfl, hb⟩
  replace HB := hid1 (HB.out.keep hb)
  replace HA := hid1 (HA.out.keep hb)
  clear hb
  generalize w2.heap.size = M1 at *
  obtain ⟨h0, h1, h2, h3, h4, h5, h6, h7, h8, h9, h10, h11, h12, h13⟩ := HB.out.op
  obtain ⟨l0, l1⟩ := HB.out.last
  simp only [Nat.zero_add] at h1 h2 h3 h4 h5 h6 h7 h8 h9 h10 h11 h12 h13
  have zo := lt_of_cell h0
  have zl := lt_of_cell l0
  go_wp2_with fail
  clear h0 h1 h2 h3 h4 h5 h6 h7 h8 h9 h10 h11 h12 h13 l0 l1 zo zl
  refine gen_calls (fun X => Hid (Bx w X 5 gn gd bn bd mn md sn sd m t lo hi x u v) ∧ Hid (Nm X M1 A0 A1 A2 A3 A4 A5 A6 A7) ∧ Hid (Nm X w4.heap.size A0 A1 A2 A3 A4 A5 A6 A7)) ⟨hid1 (HB.out.alloc _), hid1 (nm_alloc HA.out _), hid1 ⟨by simp [go_sem], by simp [go_sem], by simp [go_sem], by simp [go_sem], by simp [go_sem], by simp [go_sem], by simp [go_sem], by simp [go_sem]⟩⟩ ?_
  clear HB HA
  rintro X5 ⟨HB, HA, HD⟩
  refine (HT1.out _).mono ?_
  rintro y w6 ⟨rfl, hb⟩
  replace HB := hid1 (HB.out.keep hb)
  replace HA := hid1 (HA.out.keep hb)
  replace HD := hid1 (HD.out.keep hb)
  clear hb
  generalize w4.heap.size = M2 at *
  obtain ⟨h0, h1, h2, h3, h4, h5, h6, h7, h8, h9, h10, h11, h12, h13⟩ := HB.out.op
  obtain ⟨l0, l1⟩ := HB.out.last
  simp only [Nat.zero_add] at h1 h2 h3 h4 h5 h6 h7 h8 h9 h10 h11 h12 h13
  have zo := lt_of_cell h0
  have zl := lt_of_cell l0
  go_wp2_with fail
  clear h0 h1 h2 h3 h4 h5 h6 h7 h8 h9 h10 h11 h12 h13 l0 l1 zo zl
  refine gen_calls (fun X => Hid (Bx w X 5 gn gd bn bd mn md sn sd m t lo hi x u v) ∧ Hid (Nm X M1 A0 A1 A2 A3 A4 A5 A6 A7) ∧ Hid (Nm X M2 A0 A1 A2 A3 A4 A5 A6 A7) ∧ Hid (C2 X w6.heap.size A B)) ⟨hid1 (HB.out.alloc _), hid1 (nm_alloc HA.out _), hid1 (nm_alloc HD.out _), hid1 (c2_new rfl)⟩ ?_
  clear HB HA HD
  rintro X7 ⟨HB, HA, HD, HG⟩
  refine (HT2.out _).mono ?_
  rintro y w8 ⟨rfl, hb⟩
  replace HB := hid1 (HB.out.keep hb)
  replace HA := hid1 (HA.out.keep hb)
  replace HD := hid1 (HD.out.keep hb)
  replace HG := hid1 (HG.out.keep hb)
  clear hb
  generalize w6.heap.size = M3 at *
  obtain ⟨h0, h1, h2, h3, h4, h5, h6, h7, h8, h9, h10, h11, h12, h13⟩ := HB.out.op
  obtain ⟨l0, l1⟩ := HB.out.last
  simp only [Nat.zero_add] at h1 h2 h3 h4 h5 h6 h7 h8 h9 h10 h11 h12 h13
  have zo := lt_of_cell h0
  have zl := lt_of_cell l0
  go_wp2_with fail
  clear h0 h1 h2 h3 h4 h5 h6 h7 h8 h9 h10 h11 h12 h13 l0 l1 zo zl
  refine gen_calls (fun X => Hid (Bx w X 5 gn gd bn bd mn md sn sd m t lo hi x u v) ∧ Hid (Nm X M1 A0 A1 A2 A3 A4 A5 A6 A7) ∧ Hid (Nm X M2 A0 A1 A2 A3 A4 A5 A6 A7) ∧ Hid (C2 X M3 A B) ∧ Hid (C2 X w8.heap.size A B)) ⟨hid1 (HB.out.alloc _), hid1 (nm_alloc HA.out _), hid1 (nm_alloc HD.out _), hid1 (HG.out.alloc _), hid1 (c2_new rfl)⟩ ?_
  clear HB HA HD HG
  rintro X9 ⟨HB, HA, HD, HG, HI⟩
  refine (HP1.out _).mono ?_
  rintro y w10 ⟨rfl, hb⟩
  replace HB := hid1 (HB.out.keep hb)
  replace HA := hid1 (HA.out.keep hb)
  replace HD := hid1 (HD.out.keep hb)
  replace HG := hid1 (HG.out.keep hb)
  replace HI := hid1 (HI.out.keep hb)
  clear hb
  generalize w8.heap.size = M4 at *
  obtain ⟨h0, h1, h2, h3, h4, h5, h6, h7, h8, h9, h10, h11, h12, h13⟩ := HB.out.op
  obtain ⟨l0, l1⟩ := HB.out.last
  simp only [Nat.zero_add] at h1 h2 h3 h4 h5 h6 h7 h8 h9 h10 h11 h12 h13
  have zo := lt_of_cell h0
  have zl := lt_of_cell l0
  go_wp2_with fail
  clear h0 h1 h2 h3 h4 h5 h6 h7 h8 h9 h10 h11 h12 h13 l0 l1 zo zl
  refine (HP2.out _).mono ?_
  rintro y w11 ⟨rfl, hb⟩
  replace HB := hid1 (HB.out.keep hb)
  replace HA := hid1 (HA.out.keep hb)
  replace HD := hid1 (HD.out.keep hb)
  replace HG := hid1 (HG.out.keep hb)
  replace HI := hid1 (HI.out.keep hb)
  clear hb
  obtain ⟨a0, a1, a2, a3, a4, a5, a6, a7⟩ := HA.out
  obtain ⟨d0, d1, d2, d3, d4, d5, d6, d7⟩ := HD.out
  obtain ⟨g0, g1⟩ := HG.out
  obtain ⟨i0, i1⟩ := HI.out
  obtain ⟨r0, r1, r2, r3⟩ := HB.out.ret
  have HE := hid1 HB.out.bel
  have zr := lt_of_cell r0
  clear HA HD HG HI HB HN1 HN2 HT1 HT2 HP1 HP2
  go_upto_region 27 with fail
  cases p
  · go_region
    go_wp2
    simp [bodyPost, results, Try.results8, go_sem, *]
    have BE := HE.out
    repeat (first | (with_reducible exact Below.refl _ _) | (with_reducible refine bl_alloc ?_ _) | (with_reducible refine Below.drew ?_) | (with_reducible refine bl_drewN ?_ _) | (with_reducible refine bl_set ?_ (by omega) _) | (with_reducible refine bl_step ?_ (by assumption)))
  · go_region
    go_wp2
    simp [bodyPost, results, Try.results8, go_sem, *]
    have BE := HE.out
    repeat (first | (with_reducible exact Below.refl _ _) | (with_reducible refine bl_alloc ?_ _) | (with_reducible refine Below.drew ?_) | (with_reducible refine bl_drewN ?_ _) | (with_reducible refine bl_set ?_ (by omega) _) | (with_reducible refine bl_step ?_ (by assumption)))
theorem plays_any (k gn gd bn bd mn md sn sd m t lo hi x u v : Int) (w : World) :
    Calls Try.prog 8 #[opv k gn gd bn bd mn md sn sd m t lo hi x, th u v] w fun y w' => (∃ A B : Int, y = .returned (.tuple #[th A B, .bool true])) ∧ Below w.heap.size w w' := by
  by_cases k1 : k = 1
  · subst k1
    exact (plays_1 gn gd bn bd mn md sn sd m t lo hi x u v _ _ _ (hid1 (fold_any gn gd bn bd mn md sn sd)) (hid1 (rfold_any gn gd bn bd mn md sn sd)) w).mono fun y w' h => ⟨⟨_, _, h.1⟩, h.2⟩
  by_cases k2 : k = 2
  · subst k2
    exact (plays_2 gn gd bn bd mn md sn sd m t lo hi x u v _ _ (hid1 (plus_any m t x)) (hid1 (rpl_any m t x)) (hid1 (fck_any m t)) (hid1 (rck_any m t)) w).mono fun y w' h => ⟨⟨_, _, h.1⟩, h.2⟩
  by_cases k3 : k = 3
  · subst k3
    exact (plays_3 gn gd bn bd mn md sn sd m t lo hi x u v _ _ _ (hid1 (trim_any m t lo hi)) (hid1 (rtrim_any m t lo hi)) w).mono fun y w' h => ⟨⟨_, _, h.1⟩, h.2⟩
  by_cases k4 : k = 4
  · subst k4
    exact (plays_4 gn gd bn bd mn md sn sd m t lo hi x u v _ _ _ _ _ _ _ _ _ (hid1 (fnorm_any m t)) (hid1 (rnorm_any m t)) w).mono fun y w' h => ⟨⟨_, _, h.1⟩, h.2⟩
  by_cases k5 : k = 5
  · subst k5
    exact (plays_5 gn gd bn bd mn md sn sd m t lo hi x u v _ _ _ _ _ _ _ _ _ _ _ _ _ (hid1 (fnorm_any u v)) (hid1 (rnorm_any u v)) (hid1 (trim_any u v lo hi)) (hid1 (rtrim_any u v lo hi)) (hid1 (plus_any u v x)) (hid1 (rpl_any u v x)) w).mono fun y w' h => ⟨⟨_, _, h.1⟩, h.2⟩
  exact (plays_0 k gn gd bn bd mn md sn sd m t lo hi x u v (by simpa using k1) (by simpa using k2) (by simpa using k3) (by simpa using k4) (by simpa using k5) w).mono fun y w' h => ⟨⟨_, _, h.1⟩, h.2⟩
end Go.Proofs.Ytffhbfdbahdhoab
