/- SHAPES: SLIDE OF THE PROGRAM, WALKED. -/
import Derived.Test.YtohkiknhjcibgaaSW3
import Derived.Deep.RegionHeld3
namespace Go.Proofs.Ytohkiknhjcibgaa.Sg
open Go.RowKit

theorem gen_world {P : Program} {c : Code} {Q : Exit → Act → World → Prop} {a : Act} {W : World} (p : World → Prop) (hp : p W) (h : ∀ W', p W' → c.wp P Q a W') : c.wp P Q a W := h W hp
/-- The answer's three cells, own and as they were laid. -/
def Rz (W : World) (g : Nat) : Prop := Sh W g 0 0 0 0 ∧ W.frozen? ⟨g, 0, none⟩ = false ∧ W.frozen? ⟨g, 1, none⟩ = false ∧ W.frozen? ⟨g, 2, none⟩ = false
theorem Rz.keep {W w' : World} {g : Nat} (k : Rz W g) (hb : Below W.heap.size W w') : Rz w' g := by
  have lt : g < W.heap.size := World.block_lt_of_cell? W ⟨g, 0, none⟩ k.1.1
  exact ⟨k.1.keep hb, (hb.frozen (p := ⟨g, 0, none⟩) lt).trans k.2.1, (hb.frozen (p := ⟨g, 1, none⟩) lt).trans k.2.2.1, (hb.frozen (p := ⟨g, 2, none⟩) lt).trans k.2.2.2⟩
theorem rz_new {W : World} {t : TypeId} {g : Nat} (hg : W.heap.size = g) : Rz (W.alloc (.cells #[.int .i64 0, .int .i64 0, .int .i64 0] t)) g := by
  subst hg
  exact ⟨sh_new _ _ _ _ _, by simp [go_sem], by simp [go_sem], by simp [go_sem]⟩
theorem sh_new' {W : World} {h v c : Int} {t : TypeId} {g : Nat} (hg : W.heap.size = g) : Sh (W.alloc (.cells #[.int .i64 h, .int .i64 v, .int .i64 c] t)) g 0 h v c := by subst hg; exact sh_new _ _ _ _ _
theorem wn_new' {W : World} {r s sy sx t l b q : Int} {T : TypeId} {g : Nat} (hg : W.heap.size = g) : Wn (W.alloc (.cells #[.int .i64 r, .int .i64 s, .int .i64 sy, .int .i64 sx, .int .i64 t, .int .i64 l, .int .i64 b, .int .i64 q] T)) g 0 r s sy sx t l b q := by subst hg; exact wn_new _ _ _ _ _ _ _ _ _ _
abbrev sle (h v c e : Int) : Value := .tuple #[shp h v c, .int .i64 e]
set_option maxRecDepth 100000 in
theorem slide_bad1 (h v c r s sy sx t l b q k : Int) (hk : chk h v c ≠ 0) (w : World) :
    Calls Try.prog 32 #[shp h v c, win r s sy sx t l b q, .int .i64 k] w fun e w' => e = .returned (sle 0 0 0 (chk h v c)) ∧ Below w.heap.size w w' := by
  have HC := check_any h v c
  generalize chk h v c = E at *
  go_enter Try.func32, Try.ntmps32
  go_wp2_with fail
  refine gen_calls (fun W => Below w.heap.size w W ∧ Wn W (w.heap.size + 1) 0 r s sy sx t l b q ∧ Rz W (w.heap.size + 1 + 1)) ⟨by repeat (first | exact Below.refl _ _ | refine bl_alloc ?_ _ | refine Below.drew ?_ | refine bl_drewN ?_ _ | refine bl_set ?_ (by first | omega | (simp; done) | (simp; omega)) _ | refine bl_step ?_ (by assumption)), (wn_new' (by simp)).keep (bl_alloc (Below.refl _ _) _), rz_new (by simp)⟩ ?_
  rintro W ⟨B0, W0, R0⟩
  refine (HC W).mono ?_
  rintro e w1 ⟨rfl, hb1⟩
  replace R0 := R0.keep hb1
  replace W0 := W0.keep hb1
  replace B0 := bl_step B0 hb1
  clear hb1
  obtain ⟨x0, x1, x2, x3, x4, x5, x6, x7⟩ := W0
  obtain ⟨⟨r0, r1, r2⟩, f0, f1, f2⟩ := R0
  clear x0 x1 x2 x3 x4 x5 x6 x7
  go_wp2_with fail
  simp [bodyPost, results, Try.results32, go_sem, *]
  repeat (first | exact Below.refl _ _ | refine bl_alloc ?_ _ | refine Below.drew ?_ | refine bl_drewN ?_ _ | refine bl_set ?_ (by first | omega | (simp; done) | (simp; omega)) _ | refine bl_step ?_ (by assumption))
set_option maxRecDepth 100000 in
theorem slide_bad2 (h v c r s sy sx t l b q k : Int) (hk : chk h v c = 0) (k1 : k < 1) (w : World) :
    Calls Try.prog 32 #[shp h v c, win r s sy sx t l b q, .int .i64 k] w fun e w' => e = .returned (sle 0 0 0 30) ∧ Below w.heap.size w w' := by
  have HC := check_any h v c
  rw [hk] at HC
  go_enter Try.func32, Try.ntmps32
  go_wp2_with fail
  refine gen_calls (fun W => Below w.heap.size w W ∧ Wn W (w.heap.size + 1) 0 r s sy sx t l b q ∧ Rz W (w.heap.size + 1 + 1)) ⟨by repeat (first | exact Below.refl _ _ | refine bl_alloc ?_ _ | refine Below.drew ?_ | refine bl_drewN ?_ _ | refine bl_set ?_ (by first | omega | (simp; done) | (simp; omega)) _ | refine bl_step ?_ (by assumption)), (wn_new' (by simp)).keep (bl_alloc (Below.refl _ _) _), rz_new (by simp)⟩ ?_
  rintro W ⟨B0, W0, R0⟩
  refine (HC W).mono ?_
  rintro e w1 ⟨rfl, hb1⟩
  replace R0 := R0.keep hb1
  replace W0 := W0.keep hb1
  replace B0 := bl_step B0 hb1
  clear hb1
  obtain ⟨x0, x1, x2, x3, x4, x5, x6, x7⟩ := W0
  obtain ⟨⟨r0, r1, r2⟩, f0, f1, f2⟩ := R0
  clear x0 x1 x2 x3 x4 x5 x6 x7
  go_wp2_with fail
  simp [bodyPost, results, Try.results32, go_sem, *]
  repeat (first | exact Below.refl _ _ | refine bl_alloc ?_ _ | refine Below.drew ?_ | refine bl_drewN ?_ _ | refine bl_set ?_ (by first | omega | (simp; done) | (simp; omega)) _ | refine bl_step ?_ (by assumption))
set_option maxRecDepth 100000 in
theorem slide_bad3 (h v c r s sy sx t l b q k : Int) (hk : chk h v c = 0) (k1 : ¬ k < 1) (k2 : k > 4096) (w : World) :
    Calls Try.prog 32 #[shp h v c, win r s sy sx t l b q, .int .i64 k] w fun e w' => e = .returned (sle 0 0 0 30) ∧ Below w.heap.size w w' := by
  have HC := check_any h v c
  rw [hk] at HC
  go_enter Try.func32, Try.ntmps32
  go_wp2_with fail
  refine gen_calls (fun W => Below w.heap.size w W ∧ Wn W (w.heap.size + 1) 0 r s sy sx t l b q ∧ Rz W (w.heap.size + 1 + 1)) ⟨by repeat (first | exact Below.refl _ _ | refine bl_alloc ?_ _ | refine Below.drew ?_ | refine bl_drewN ?_ _ | refine bl_set ?_ (by first | omega | (simp; done) | (simp; omega)) _ | refine bl_step ?_ (by assumption)), (wn_new' (by simp)).keep (bl_alloc (Below.refl _ _) _), rz_new (by simp)⟩ ?_
  rintro W ⟨B0, W0, R0⟩
  refine (HC W).mono ?_
  rintro e w1 ⟨rfl, hb1⟩
  replace R0 := R0.keep hb1
  replace W0 := W0.keep hb1
  replace B0 := bl_step B0 hb1
  clear hb1
  obtain ⟨x0, x1, x2, x3, x4, x5, x6, x7⟩ := W0
  obtain ⟨⟨r0, r1, r2⟩, f0, f1, f2⟩ := R0
  clear x0 x1 x2 x3 x4 x5 x6 x7
  go_wp2_with fail
  simp [bodyPost, results, Try.results32, go_sem, *]
  repeat (first | exact Below.refl _ _ | refine bl_alloc ?_ _ | refine Below.drew ?_ | refine bl_drewN ?_ _ | refine bl_set ?_ (by first | omega | (simp; done) | (simp; omega)) _ | refine bl_step ?_ (by assumption))
set_option maxRecDepth 100000 in
theorem slide_bad4 (h v c r s sy sx t l b q k : Int) (hk : chk h v c = 0) (k1 : ¬ k < 1) (k2 : ¬ k > 4096) (hw : ¬ WOk r s sy sx t l b q) (w : World) :
    Calls Try.prog 32 #[shp h v c, win r s sy sx t l b q, .int .i64 k] w fun e w' => e = .returned (sle 0 0 0 56) ∧ Below w.heap.size w w' := by
  have HC := check_any h v c
  rw [hk] at HC
  have HW := window_any r s sy sx t l b q
  unfold wiE at HW
  rw [if_neg hw] at HW
  go_enter Try.func32, Try.ntmps32
  go_wp2_with fail
  refine gen_calls (fun W => Below w.heap.size w W ∧ Wn W (w.heap.size + 1) 0 r s sy sx t l b q ∧ Rz W (w.heap.size + 1 + 1)) ⟨by repeat (first | exact Below.refl _ _ | refine bl_alloc ?_ _ | refine Below.drew ?_ | refine bl_drewN ?_ _ | refine bl_set ?_ (by first | omega | (simp; done) | (simp; omega)) _ | refine bl_step ?_ (by assumption)), (wn_new' (by simp)).keep (bl_alloc (Below.refl _ _) _), rz_new (by simp)⟩ ?_
  rintro W ⟨B0, W0, R0⟩
  refine (HC W).mono ?_
  rintro e w1 ⟨rfl, hb1⟩
  replace R0 := R0.keep hb1
  replace W0 := W0.keep hb1
  replace B0 := bl_step B0 hb1
  clear hb1
  obtain ⟨x0, x1, x2, x3, x4, x5, x6, x7⟩ := W0
  obtain ⟨⟨r0, r1, r2⟩, f0, f1, f2⟩ := R0
  go_wp2_with fail
  refine (HW w1).mono ?_
  rintro e w2 ⟨rfl, hb2⟩
  have R0 : Rz w1 (w.heap.size + 1 + 1) := ⟨⟨r0, r1, r2⟩, f0, f1, f2⟩
  replace R0 := R0.keep hb2
  replace B0 := bl_step B0 hb2
  clear hb2 x0 x1 x2 x3 x4 x5 x6 x7 r0 r1 r2 f0 f1 f2
  obtain ⟨⟨r0, r1, r2⟩, f0, f1, f2⟩ := R0
  go_wp2_with fail
  simp [bodyPost, results, Try.results32, go_sem, *]
  repeat (first | exact Below.refl _ _ | refine bl_alloc ?_ _ | refine Below.drew ?_ | refine bl_drewN ?_ _ | refine bl_set ?_ (by first | omega | (simp; done) | (simp; omega)) _ | refine bl_step ?_ (by assumption))
theorem sw_keep {A X : World} {a k : Nat} {h v c r s sy sx t l b q : Int} (hs : Sh A a 0 h v c) (hw : Wn A k 0 r s sy sx t l b q) (hb : Below A.heap.size A X) :
    X.cell? ⟨a, 0, none⟩ = some (.int .i64 h) ∧ X.cell? ⟨a, 1, none⟩ = some (.int .i64 v) ∧ X.cell? ⟨a, 2, none⟩ = some (.int .i64 c) ∧ X.cell? ⟨k, 0, none⟩ = some (.int .i64 r) ∧ X.cell? ⟨k, 1, none⟩ = some (.int .i64 s) ∧ X.cell? ⟨k, 2, none⟩ = some (.int .i64 sy) ∧ X.cell? ⟨k, 3, none⟩ = some (.int .i64 sx) ∧ X.cell? ⟨k, 4, none⟩ = some (.int .i64 t) ∧ X.cell? ⟨k, 5, none⟩ = some (.int .i64 l) ∧ X.cell? ⟨k, 6, none⟩ = some (.int .i64 b) ∧ X.cell? ⟨k, 7, none⟩ = some (.int .i64 q) := by
  obtain ⟨y0, y1, y2⟩ := hs
  obtain ⟨x0, x1, x2, x3, x4, x5, x6, x7⟩ := hw
  exact ⟨keepc hb y0, keepc hb y1, keepc hb y2, keepc hb x0, keepc hb x1, keepc hb x2, keepc hb x3, keepc hb x4, keepc hb x5, keepc hb x6, keepc hb x7⟩
theorem gen_then {K : Act → World → Prop} {Q : Exit → Act → World → Prop} {a : Act} {W : World} (p : World → Prop) (hp : p W) (h : ∀ W', p W' → Exit.then K Q .normal a W') : Exit.then K Q .normal a W := h W hp
theorem Sh.intro {W : World} {g o : Nat} {h v c : Int} (a : W.cell? ⟨g, o, none⟩ = some (.int .i64 h)) (b : W.cell? ⟨g, o + 1, none⟩ = some (.int .i64 v)) (d : W.cell? ⟨g, o + 2, none⟩ = some (.int .i64 c)) : Sh W g o h v c := ⟨a, b, d⟩
theorem sh_set {X : World} {g : Nat} {x y z a b c : Int} (h : Sh X g 0 x y z) : Sh (((X.setCell ⟨g, 0, none⟩ (.int .i64 a)).setCell ⟨g, 1, none⟩ (.int .i64 b)).setCell ⟨g, 2, none⟩ (.int .i64 c)) g 0 a b c := by
  obtain ⟨h0, h1, h2⟩ := h
  refine ⟨?_, ?_, ?_⟩ <;> simp [go_sem, *]
set_option maxHeartbeats 1600000 in
set_option maxRecDepth 100000 in
theorem slide_good (h v c r s sy sx t l b q k OH OW : Int) (hk : chk h v c = 0) (k1 : ¬ k < 1) (k2 : ¬ k > 4096) (hw : WOk r s sy sx t l b q) (eh : stN h t b r sy = OH) (ew : stN v l q s sx = OW) (ans : Value) (A1 : mn2 OH OW = 0 → ans = sle 0 0 0 32) (A2 : ¬ mn2 OH OW = 0 → chk OH OW k ≠ 0 → ans = sle 0 0 0 (chk OH OW k)) (A3 : ¬ mn2 OH OW = 0 → chk OH OW k = 0 → ans = sle OH OW k 0) (w : World) :
    Calls Try.prog 32 #[shp h v c, win r s sy sx t l b q, .int .i64 k] w fun e w' => e = .returned ans ∧ Below w.heap.size w w' := by
  have HC := check_any h v c
  rw [hk] at HC
  have HW := window_any r s sy sx t l b q
  unfold wiE at HW
  rw [if_pos hw] at HW
  have hs := (chk_zero hk).1
  have H1 := stops_any h t b r sy hs.1 hw.1
  have H2 := stops_any v l q s sx hs.2.1 hw.2
  have HO := check_any OH OW k
  rw [eh] at H1
  rw [ew] at H2
  clear hs hw eh ew hk
  have AA := hid1 (And.intro A1 (And.intro A2 A3))
  clear A1 A2 A3
  go_enter Try.func32, Try.ntmps32
  go_wp2_with fail
  refine gen_calls (fun W => Below w.heap.size w W ∧ Sh W w.heap.size 0 h v c ∧ Wn W (w.heap.size + 1) 0 r s sy sx t l b q ∧ Rz W (w.heap.size + 1 + 1)) ⟨by repeat (first | exact Below.refl _ _ | refine bl_alloc ?_ _ | refine Below.drew ?_ | refine bl_drewN ?_ _ | refine bl_set ?_ (by first | omega | (simp; done) | (simp; omega)) _ | refine bl_step ?_ (by assumption)), (sh_new' rfl).keep (bl_alloc (bl_alloc (Below.refl _ _) _) _), (wn_new' (by simp)).keep (bl_alloc (Below.refl _ _) _), rz_new (by simp)⟩ ?_
  rintro W ⟨B0, S0, W0, R0⟩
  refine (HC W).mono ?_
  rintro e w1 ⟨rfl, hb1⟩
  replace S0 := S0.keep hb1
  replace R0 := R0.keep hb1
  replace W0 := W0.keep hb1
  replace B0 := bl_step B0 hb1
  clear hb1 HC W
  have Z := W0
  obtain ⟨x0, x1, x2, x3, x4, x5, x6, x7⟩ := Z
  go_wp2_with fail
  refine (HW w1).mono ?_
  rintro e W2 ⟨rfl, hb2⟩
  clear x0 x1 x2 x3 x4 x5 x6 x7
  replace S0 := S0.keep hb2
  replace R0 := R0.keep hb2
  replace W0 := W0.keep hb2
  replace B0 := bl_step B0 hb2
  clear hb2 HW
  have SS := hid1 S0
  have WW := hid1 W0
  have RR := hid1 R0
  obtain ⟨x0, x1, x2, x3, x4, x5, x6, x7⟩ := W0
  obtain ⟨y0, y1, y2⟩ := S0
  have zr := (World.block_lt_of_cell? W2 ⟨w.heap.size + 1 + 1, 0, none⟩ R0.1.1)
  go_wp2_with fail
  go_region_held3 (fun X => X.cell? ⟨w.heap.size, 0, none⟩ = some (.int .i64 h) ∧ X.cell? ⟨w.heap.size, 1, none⟩ = some (.int .i64 v) ∧ X.cell? ⟨w.heap.size, 2, none⟩ = some (.int .i64 c) ∧ X.cell? ⟨w.heap.size + 1, 0, none⟩ = some (.int .i64 r) ∧ X.cell? ⟨w.heap.size + 1, 1, none⟩ = some (.int .i64 s) ∧ X.cell? ⟨w.heap.size + 1, 2, none⟩ = some (.int .i64 sy) ∧ X.cell? ⟨w.heap.size + 1, 3, none⟩ = some (.int .i64 sx) ∧ X.cell? ⟨w.heap.size + 1, 4, none⟩ = some (.int .i64 t) ∧ X.cell? ⟨w.heap.size + 1, 5, none⟩ = some (.int .i64 l) ∧ X.cell? ⟨w.heap.size + 1, 6, none⟩ = some (.int .i64 b) ∧ X.cell? ⟨w.heap.size + 1, 7, none⟩ = some (.int .i64 q)) (((try dsimp only); refine sw_keep SS.out WW.out ?_; repeat (first | exact Below.refl _ _ | refine bl_alloc ?_ _ | refine Below.drew ?_ | refine bl_drewN ?_ _ | refine bl_set ?_ (by first | omega | (simp; done) | (simp; omega)) _ | refine bl_step ?_ (by assumption))))
    (first
      | (go_at_call 47; refine (rows_any h v c r s sy sx t l b q _).mono ?_; rintro e w3 ⟨rfl, hb3⟩; have z3 : W2.heap.size ≤ w3.heap.size := Nat.le_trans (by first | exact Nat.le_refl _ | simp) hb3.size; (first | (have N3 : Rz w3 W2.heap.size := Rz.keep (rz_new (W := W2.drew) rfl) hb3) | (have N3 := N2.keep hb3) | skip))
      | (go_at_call 49; refine (cols_any h v c r s sy sx t l b q _).mono ?_; rintro e w5 ⟨rfl, hb5⟩; have z5 : w4.heap.size ≤ w5.heap.size := Nat.le_trans (by first | exact Nat.le_refl _ | simp) hb5.size; (first | (have N5 : Rz w5 w4.heap.size := Rz.keep (rz_new rfl) hb5) | (have N5 := N4.keep hb5) | skip))
      | (go_at_call 51; (with_reducible refine (H1 _).mono ?_); rintro e w4 ⟨rfl, hb4⟩; have z4 : w3.heap.size ≤ w4.heap.size := Nat.le_trans (by first | exact Nat.le_refl _ | simp) hb4.size; (first | (have N4 : Rz w4 w3.heap.size := Rz.keep (rz_new rfl) hb4) | (have N4 := N3.keep hb4) | skip))
      | (go_at_call 51; (with_reducible refine (H2 _).mono ?_); rintro e w6 ⟨rfl, hb6⟩; have z6 : w5.heap.size ≤ w6.heap.size := Nat.le_trans (by first | exact Nat.le_refl _ | simp) hb6.size; (first | (have N6 : Rz w6 w5.heap.size := Rz.keep (rz_new rfl) hb6; obtain ⟨⟨n0, n1, n2⟩, g0, g1, g2⟩ := N6) | (have N6 := N5.keep hb6; obtain ⟨⟨n0, n1, n2⟩, g0, g1, g2⟩ := N6) | skip)))
  · refine gen_then (fun X => Below w.heap.size w X ∧ Sh X w6.heap.size 0 OH OW k ∧ Rz X (w.heap.size + 1 + 1)) ⟨by repeat (first | exact Below.refl _ _ | refine bl_alloc ?_ _ | refine Below.drew ?_ | refine bl_drewN ?_ _ | refine bl_set ?_ (by first | omega | (simp; done) | (simp; omega)) _ | refine bl_step ?_ (by assumption)), sh_new' rfl, RR.out.keep (by repeat (first | exact Below.refl _ _ | refine bl_alloc ?_ _ | refine Below.drew ?_ | refine bl_drewN ?_ _ | refine bl_set ?_ (by first | omega | (simp; done) | (simp; omega)) _ | refine bl_step ?_ (by assumption)))⟩ ?_
    rintro X ⟨BX, ⟨q0, q1, q2⟩, ⟨⟨r0, r1, r2⟩, f0, f1, f2⟩⟩
    generalize w6.heap.size = G at *
    clear x0 x1 x2 x3 x4 x5 x6 x7 y0 y1 y2 SS WW RR R0 B0 H1 H2
    clear hb3 hb4 hb5 hb6
    obtain ⟨A1, A2, A3⟩ := AA.out
    by_cases hm : mn2 OH OW = 0
    · obtain rfl := A1 hm
      clear A1 A2 A3 AA HO
      unfold mn2 at hm
      have U := sh_set (a := 0) (b := 0) (c := 0) (Sh.intro r0 r1 r2)
      obtain ⟨u0, u1, u2⟩ := U
      simp only [Nat.zero_add] at u1 u2
      go_wp2_with fail
      simp [bodyPost, results, Try.results32, go_sem, u0, u1, u2]
      repeat (first | exact Below.refl _ _ | refine bl_alloc ?_ _ | refine Below.drew ?_ | refine bl_drewN ?_ _ | refine bl_set ?_ (by first | omega | (simp; done) | (simp; omega)) _ | refine bl_step ?_ (by assumption))
    · obtain ⟨m, hM⟩ : ∃ m, mn2 OH OW = m := ⟨_, rfl⟩
      rw [hM] at hm
      have AB := hid1 (And.intro (A2 (by rw [hM]; exact hm)) (A3 (by rw [hM]; exact hm)))
      clear A1 A2 A3 AA
      unfold mn2 at hM
      go_wp2_with fail
      refine (HO X).mono ?_
      rintro e w7 ⟨rfl, hb7⟩
      obtain ⟨q0, q1, q2⟩ := (Sh.intro q0 q1 q2).keep hb7
      have RX : Rz X (w.heap.size + 1 + 1) := ⟨Sh.intro r0 r1 r2, f0, f1, f2⟩
      replace RX := RX.keep hb7
      clear r0 r1 r2 f0 f1 f2
      obtain ⟨⟨r0, r1, r2⟩, f0, f1, f2⟩ := RX
      obtain ⟨A2, A3⟩ := AB.out
      clear AB
      by_cases hc : chk OH OW k = 0
      · obtain rfl := A3 hc
        rw [hc]
        clear A2 A3
        obtain ⟨u0, u1, u2⟩ := sh_set (a := OH) (b := OW) (c := k) (Sh.intro r0 r1 r2)
        simp only [Nat.zero_add] at u1 u2
        go_wp2_with fail
        simp [bodyPost, results, Try.results32, go_sem, u0, u1, u2]
        repeat (first | exact Below.refl _ _ | refine bl_alloc ?_ _ | refine Below.drew ?_ | refine bl_drewN ?_ _ | refine bl_set ?_ (by first | omega | (simp; done) | (simp; omega)) _ | refine bl_step ?_ (by assumption))
      · obtain rfl := A2 hc
        clear A2 A3
        obtain ⟨E, hE⟩ : ∃ E, chk OH OW k = E := ⟨_, rfl⟩
        rw [hE] at hc ⊢
        obtain ⟨u0, u1, u2⟩ := sh_set (a := 0) (b := 0) (c := 0) (Sh.intro r0 r1 r2)
        simp only [Nat.zero_add] at u1 u2
        go_wp2_with fail
        simp [bodyPost, results, Try.results32, go_sem, u0, u1, u2, hE]
        repeat (first | exact Below.refl _ _ | refine bl_alloc ?_ _ | refine Below.drew ?_ | refine bl_drewN ?_ _ | refine bl_set ?_ (by first | omega | (simp; done) | (simp; omega)) _ | refine bl_step ?_ (by assumption))
  · refine gen_then (fun X => Below w.heap.size w X ∧ Sh X w5.heap.size 0 OH OW k ∧ Rz X (w.heap.size + 1 + 1)) ⟨by repeat (first | exact Below.refl _ _ | refine bl_alloc ?_ _ | refine Below.drew ?_ | refine bl_drewN ?_ _ | refine bl_set ?_ (by first | omega | (simp; done) | (simp; omega)) _ | refine bl_step ?_ (by assumption)), sh_set ⟨n0, n1, n2⟩, RR.out.keep (by repeat (first | exact Below.refl _ _ | refine bl_alloc ?_ _ | refine Below.drew ?_ | refine bl_drewN ?_ _ | refine bl_set ?_ (by first | omega | (simp; done) | (simp; omega)) _ | refine bl_step ?_ (by assumption)))⟩ ?_
    rintro X ⟨BX, ⟨q0, q1, q2⟩, ⟨⟨r0, r1, r2⟩, f0, f1, f2⟩⟩
    generalize w5.heap.size = G at *
    clear x0 x1 x2 x3 x4 x5 x6 x7 y0 y1 y2 SS WW RR R0 B0 H1 H2
    clear hb3 hb4 hb5 hb6
    obtain ⟨A1, A2, A3⟩ := AA.out
    by_cases hm : mn2 OH OW = 0
    · obtain rfl := A1 hm
      clear A1 A2 A3 AA HO
      unfold mn2 at hm
      have U := sh_set (a := 0) (b := 0) (c := 0) (Sh.intro r0 r1 r2)
      obtain ⟨u0, u1, u2⟩ := U
      simp only [Nat.zero_add] at u1 u2
      go_wp2_with fail
      simp [bodyPost, results, Try.results32, go_sem, u0, u1, u2]
      repeat (first | exact Below.refl _ _ | refine bl_alloc ?_ _ | refine Below.drew ?_ | refine bl_drewN ?_ _ | refine bl_set ?_ (by first | omega | (simp; done) | (simp; omega)) _ | refine bl_step ?_ (by assumption))
    · obtain ⟨m, hM⟩ : ∃ m, mn2 OH OW = m := ⟨_, rfl⟩
      rw [hM] at hm
      have AB := hid1 (And.intro (A2 (by rw [hM]; exact hm)) (A3 (by rw [hM]; exact hm)))
      clear A1 A2 A3 AA
      unfold mn2 at hM
      go_wp2_with fail
      refine (HO X).mono ?_
      rintro e w7 ⟨rfl, hb7⟩
      obtain ⟨q0, q1, q2⟩ := (Sh.intro q0 q1 q2).keep hb7
      have RX : Rz X (w.heap.size + 1 + 1) := ⟨Sh.intro r0 r1 r2, f0, f1, f2⟩
      replace RX := RX.keep hb7
      clear r0 r1 r2 f0 f1 f2
      obtain ⟨⟨r0, r1, r2⟩, f0, f1, f2⟩ := RX
      obtain ⟨A2, A3⟩ := AB.out
      clear AB
      by_cases hc : chk OH OW k = 0
      · obtain rfl := A3 hc
        rw [hc]
        clear A2 A3
        obtain ⟨u0, u1, u2⟩ := sh_set (a := OH) (b := OW) (c := k) (Sh.intro r0 r1 r2)
        simp only [Nat.zero_add] at u1 u2
        go_wp2_with fail
        simp [bodyPost, results, Try.results32, go_sem, u0, u1, u2]
        repeat (first | exact Below.refl _ _ | refine bl_alloc ?_ _ | refine Below.drew ?_ | refine bl_drewN ?_ _ | refine bl_set ?_ (by first | omega | (simp; done) | (simp; omega)) _ | refine bl_step ?_ (by assumption))
      · obtain rfl := A2 hc
        clear A2 A3
        obtain ⟨E, hE⟩ : ∃ E, chk OH OW k = E := ⟨_, rfl⟩
        rw [hE] at hc ⊢
        obtain ⟨u0, u1, u2⟩ := sh_set (a := 0) (b := 0) (c := 0) (Sh.intro r0 r1 r2)
        simp only [Nat.zero_add] at u1 u2
        go_wp2_with fail
        simp [bodyPost, results, Try.results32, go_sem, u0, u1, u2, hE]
        repeat (first | exact Below.refl _ _ | refine bl_alloc ?_ _ | refine Below.drew ?_ | refine bl_drewN ?_ _ | refine bl_set ?_ (by first | omega | (simp; done) | (simp; omega)) _ | refine bl_step ?_ (by assumption))
  · refine gen_then (fun X => Below w.heap.size w X ∧ Sh X w4.heap.size 0 OH OW k ∧ Rz X (w.heap.size + 1 + 1)) ⟨by repeat (first | exact Below.refl _ _ | refine bl_alloc ?_ _ | refine Below.drew ?_ | refine bl_drewN ?_ _ | refine bl_set ?_ (by first | omega | (simp; done) | (simp; omega)) _ | refine bl_step ?_ (by assumption)), sh_set ⟨n0, n1, n2⟩, RR.out.keep (by repeat (first | exact Below.refl _ _ | refine bl_alloc ?_ _ | refine Below.drew ?_ | refine bl_drewN ?_ _ | refine bl_set ?_ (by first | omega | (simp; done) | (simp; omega)) _ | refine bl_step ?_ (by assumption)))⟩ ?_
    rintro X ⟨BX, ⟨q0, q1, q2⟩, ⟨⟨r0, r1, r2⟩, f0, f1, f2⟩⟩
    generalize w4.heap.size = G at *
    clear x0 x1 x2 x3 x4 x5 x6 x7 y0 y1 y2 SS WW RR R0 B0 H1 H2
    clear hb3 hb4 hb5 hb6
    obtain ⟨A1, A2, A3⟩ := AA.out
    by_cases hm : mn2 OH OW = 0
    · obtain rfl := A1 hm
      clear A1 A2 A3 AA HO
      unfold mn2 at hm
      have U := sh_set (a := 0) (b := 0) (c := 0) (Sh.intro r0 r1 r2)
      obtain ⟨u0, u1, u2⟩ := U
      simp only [Nat.zero_add] at u1 u2
      go_wp2_with fail
      simp [bodyPost, results, Try.results32, go_sem, u0, u1, u2]
      repeat (first | exact Below.refl _ _ | refine bl_alloc ?_ _ | refine Below.drew ?_ | refine bl_drewN ?_ _ | refine bl_set ?_ (by first | omega | (simp; done) | (simp; omega)) _ | refine bl_step ?_ (by assumption))
    · obtain ⟨m, hM⟩ : ∃ m, mn2 OH OW = m := ⟨_, rfl⟩
      rw [hM] at hm
      have AB := hid1 (And.intro (A2 (by rw [hM]; exact hm)) (A3 (by rw [hM]; exact hm)))
      clear A1 A2 A3 AA
      unfold mn2 at hM
      go_wp2_with fail
      refine (HO X).mono ?_
      rintro e w7 ⟨rfl, hb7⟩
      obtain ⟨q0, q1, q2⟩ := (Sh.intro q0 q1 q2).keep hb7
      have RX : Rz X (w.heap.size + 1 + 1) := ⟨Sh.intro r0 r1 r2, f0, f1, f2⟩
      replace RX := RX.keep hb7
      clear r0 r1 r2 f0 f1 f2
      obtain ⟨⟨r0, r1, r2⟩, f0, f1, f2⟩ := RX
      obtain ⟨A2, A3⟩ := AB.out
      clear AB
      by_cases hc : chk OH OW k = 0
      · obtain rfl := A3 hc
        rw [hc]
        clear A2 A3
        obtain ⟨u0, u1, u2⟩ := sh_set (a := OH) (b := OW) (c := k) (Sh.intro r0 r1 r2)
        simp only [Nat.zero_add] at u1 u2
        go_wp2_with fail
        simp [bodyPost, results, Try.results32, go_sem, u0, u1, u2]
        repeat (first | exact Below.refl _ _ | refine bl_alloc ?_ _ | refine Below.drew ?_ | refine bl_drewN ?_ _ | refine bl_set ?_ (by first | omega | (simp; done) | (simp; omega)) _ | refine bl_step ?_ (by assumption))
      · obtain rfl := A2 hc
        clear A2 A3
        obtain ⟨E, hE⟩ : ∃ E, chk OH OW k = E := ⟨_, rfl⟩
        rw [hE] at hc ⊢
        obtain ⟨u0, u1, u2⟩ := sh_set (a := 0) (b := 0) (c := 0) (Sh.intro r0 r1 r2)
        simp only [Nat.zero_add] at u1 u2
        go_wp2_with fail
        simp [bodyPost, results, Try.results32, go_sem, u0, u1, u2, hE]
        repeat (first | exact Below.refl _ _ | refine bl_alloc ?_ _ | refine Below.drew ?_ | refine bl_drewN ?_ _ | refine bl_set ?_ (by first | omega | (simp; done) | (simp; omega)) _ | refine bl_step ?_ (by assumption))
  · refine gen_then (fun X => Below w.heap.size w X ∧ Sh X w3.heap.size 0 OH OW k ∧ Rz X (w.heap.size + 1 + 1)) ⟨by repeat (first | exact Below.refl _ _ | refine bl_alloc ?_ _ | refine Below.drew ?_ | refine bl_drewN ?_ _ | refine bl_set ?_ (by first | omega | (simp; done) | (simp; omega)) _ | refine bl_step ?_ (by assumption)), sh_set ⟨n0, n1, n2⟩, RR.out.keep (by repeat (first | exact Below.refl _ _ | refine bl_alloc ?_ _ | refine Below.drew ?_ | refine bl_drewN ?_ _ | refine bl_set ?_ (by first | omega | (simp; done) | (simp; omega)) _ | refine bl_step ?_ (by assumption)))⟩ ?_
    rintro X ⟨BX, ⟨q0, q1, q2⟩, ⟨⟨r0, r1, r2⟩, f0, f1, f2⟩⟩
    generalize w3.heap.size = G at *
    clear x0 x1 x2 x3 x4 x5 x6 x7 y0 y1 y2 SS WW RR R0 B0 H1 H2
    clear hb3 hb4 hb5 hb6
    obtain ⟨A1, A2, A3⟩ := AA.out
    by_cases hm : mn2 OH OW = 0
    · obtain rfl := A1 hm
      clear A1 A2 A3 AA HO
      unfold mn2 at hm
      have U := sh_set (a := 0) (b := 0) (c := 0) (Sh.intro r0 r1 r2)
      obtain ⟨u0, u1, u2⟩ := U
      simp only [Nat.zero_add] at u1 u2
      go_wp2_with fail
      simp [bodyPost, results, Try.results32, go_sem, u0, u1, u2]
      repeat (first | exact Below.refl _ _ | refine bl_alloc ?_ _ | refine Below.drew ?_ | refine bl_drewN ?_ _ | refine bl_set ?_ (by first | omega | (simp; done) | (simp; omega)) _ | refine bl_step ?_ (by assumption))
    · obtain ⟨m, hM⟩ : ∃ m, mn2 OH OW = m := ⟨_, rfl⟩
      rw [hM] at hm
      have AB := hid1 (And.intro (A2 (by rw [hM]; exact hm)) (A3 (by rw [hM]; exact hm)))
      clear A1 A2 A3 AA
      unfold mn2 at hM
      go_wp2_with fail
      refine (HO X).mono ?_
      rintro e w7 ⟨rfl, hb7⟩
      obtain ⟨q0, q1, q2⟩ := (Sh.intro q0 q1 q2).keep hb7
      have RX : Rz X (w.heap.size + 1 + 1) := ⟨Sh.intro r0 r1 r2, f0, f1, f2⟩
      replace RX := RX.keep hb7
      clear r0 r1 r2 f0 f1 f2
      obtain ⟨⟨r0, r1, r2⟩, f0, f1, f2⟩ := RX
      obtain ⟨A2, A3⟩ := AB.out
      clear AB
      by_cases hc : chk OH OW k = 0
      · obtain rfl := A3 hc
        rw [hc]
        clear A2 A3
        obtain ⟨u0, u1, u2⟩ := sh_set (a := OH) (b := OW) (c := k) (Sh.intro r0 r1 r2)
        simp only [Nat.zero_add] at u1 u2
        go_wp2_with fail
        simp [bodyPost, results, Try.results32, go_sem, u0, u1, u2]
        repeat (first | exact Below.refl _ _ | refine bl_alloc ?_ _ | refine Below.drew ?_ | refine bl_drewN ?_ _ | refine bl_set ?_ (by first | omega | (simp; done) | (simp; omega)) _ | refine bl_step ?_ (by assumption))
      · obtain rfl := A2 hc
        clear A2 A3
        obtain ⟨E, hE⟩ : ∃ E, chk OH OW k = E := ⟨_, rfl⟩
        rw [hE] at hc ⊢
        obtain ⟨u0, u1, u2⟩ := sh_set (a := 0) (b := 0) (c := 0) (Sh.intro r0 r1 r2)
        simp only [Nat.zero_add] at u1 u2
        go_wp2_with fail
        simp [bodyPost, results, Try.results32, go_sem, u0, u1, u2, hE]
        repeat (first | exact Below.refl _ _ | refine bl_alloc ?_ _ | refine Below.drew ?_ | refine bl_drewN ?_ _ | refine bl_set ?_ (by first | omega | (simp; done) | (simp; omega)) _ | refine bl_step ?_ (by assumption))
  · refine gen_then (fun X => Below w.heap.size w X ∧ Sh X W2.heap.size 0 OH OW k ∧ Rz X (w.heap.size + 1 + 1)) ⟨by repeat (first | exact Below.refl _ _ | refine bl_alloc ?_ _ | refine Below.drew ?_ | refine bl_drewN ?_ _ | refine bl_set ?_ (by first | omega | (simp; done) | (simp; omega)) _ | refine bl_step ?_ (by assumption)), sh_set ⟨n0, n1, n2⟩, RR.out.keep (by repeat (first | exact Below.refl _ _ | refine bl_alloc ?_ _ | refine Below.drew ?_ | refine bl_drewN ?_ _ | refine bl_set ?_ (by first | omega | (simp; done) | (simp; omega)) _ | refine bl_step ?_ (by assumption)))⟩ ?_
    rintro X ⟨BX, ⟨q0, q1, q2⟩, ⟨⟨r0, r1, r2⟩, f0, f1, f2⟩⟩
    generalize W2.heap.size = G at *
    clear x0 x1 x2 x3 x4 x5 x6 x7 y0 y1 y2 SS WW RR R0 B0 H1 H2
    clear hb3 hb4 hb5 hb6
    obtain ⟨A1, A2, A3⟩ := AA.out
    by_cases hm : mn2 OH OW = 0
    · obtain rfl := A1 hm
      clear A1 A2 A3 AA HO
      unfold mn2 at hm
      have U := sh_set (a := 0) (b := 0) (c := 0) (Sh.intro r0 r1 r2)
      obtain ⟨u0, u1, u2⟩ := U
      simp only [Nat.zero_add] at u1 u2
      go_wp2_with fail
      simp [bodyPost, results, Try.results32, go_sem, u0, u1, u2]
      repeat (first | exact Below.refl _ _ | refine bl_alloc ?_ _ | refine Below.drew ?_ | refine bl_drewN ?_ _ | refine bl_set ?_ (by first | omega | (simp; done) | (simp; omega)) _ | refine bl_step ?_ (by assumption))
    · obtain ⟨m, hM⟩ : ∃ m, mn2 OH OW = m := ⟨_, rfl⟩
      rw [hM] at hm
      have AB := hid1 (And.intro (A2 (by rw [hM]; exact hm)) (A3 (by rw [hM]; exact hm)))
      clear A1 A2 A3 AA
      unfold mn2 at hM
      go_wp2_with fail
      refine (HO X).mono ?_
      rintro e w7 ⟨rfl, hb7⟩
      obtain ⟨q0, q1, q2⟩ := (Sh.intro q0 q1 q2).keep hb7
      have RX : Rz X (w.heap.size + 1 + 1) := ⟨Sh.intro r0 r1 r2, f0, f1, f2⟩
      replace RX := RX.keep hb7
      clear r0 r1 r2 f0 f1 f2
      obtain ⟨⟨r0, r1, r2⟩, f0, f1, f2⟩ := RX
      obtain ⟨A2, A3⟩ := AB.out
      clear AB
      by_cases hc : chk OH OW k = 0
      · obtain rfl := A3 hc
        rw [hc]
        clear A2 A3
        obtain ⟨u0, u1, u2⟩ := sh_set (a := OH) (b := OW) (c := k) (Sh.intro r0 r1 r2)
        simp only [Nat.zero_add] at u1 u2
        go_wp2_with fail
        simp [bodyPost, results, Try.results32, go_sem, u0, u1, u2]
        repeat (first | exact Below.refl _ _ | refine bl_alloc ?_ _ | refine Below.drew ?_ | refine bl_drewN ?_ _ | refine bl_set ?_ (by first | omega | (simp; done) | (simp; omega)) _ | refine bl_step ?_ (by assumption))
      · obtain rfl := A2 hc
        clear A2 A3
        obtain ⟨E, hE⟩ : ∃ E, chk OH OW k = E := ⟨_, rfl⟩
        rw [hE] at hc ⊢
        obtain ⟨u0, u1, u2⟩ := sh_set (a := 0) (b := 0) (c := 0) (Sh.intro r0 r1 r2)
        simp only [Nat.zero_add] at u1 u2
        go_wp2_with fail
        simp [bodyPost, results, Try.results32, go_sem, u0, u1, u2, hE]
        repeat (first | exact Below.refl _ _ | refine bl_alloc ?_ _ | refine Below.drew ?_ | refine bl_drewN ?_ _ | refine bl_set ?_ (by first | omega | (simp; done) | (simp; omega)) _ | refine bl_step ?_ (by assumption))
/-- What Slide answers. -/
def slE (h v c r s sy sx t l b q k : Int) : Int :=
  if chk h v c ≠ 0 then chk h v c else if k < 1 ∨ k > 4096 then 30 else if ¬ WOk r s sy sx t l b q then 56 else
    if mn2 (stN h t b r sy) (stN v l q s sx) = 0 then 32 else chk (stN h t b r sy) (stN v l q s sx) k
def slV (h v c r s sy sx t l b q k : Int) : Value :=
  if slE h v c r s sy sx t l b q k = 0 then sle (stN h t b r sy) (stN v l q s sx) k 0 else sle 0 0 0 (slE h v c r s sy sx t l b q k)
theorem slide_any (h v c r s sy sx t l b q k : Int) (w : World) :
    Calls Try.prog 32 #[shp h v c, win r s sy sx t l b q, .int .i64 k] w fun e w' => e = .returned (slV h v c r s sy sx t l b q k) ∧ Below w.heap.size w w' := by
  have key : ∀ E, slE h v c r s sy sx t l b q k = E → E ≠ 0 → slV h v c r s sy sx t l b q k = sle 0 0 0 E := by
    intro E h1 h2
    unfold slV
    rw [h1, if_neg h2]
  by_cases hk : chk h v c = 0
  · have e1 : slE h v c r s sy sx t l b q k = if k < 1 ∨ k > 4096 then 30 else if ¬ WOk r s sy sx t l b q then 56 else
      if mn2 (stN h t b r sy) (stN v l q s sx) = 0 then 32 else chk (stN h t b r sy) (stN v l q s sx) k := by
      unfold slE; rw [if_neg (fun h => h hk)]
    by_cases k1 : k < 1
    · rw [key 30 (by rw [e1, if_pos (.inl k1)]) (by decide)]; exact slide_bad2 h v c r s sy sx t l b q k hk k1 w
    · by_cases k2 : k > 4096
      · rw [key 30 (by rw [e1, if_pos (.inr k2)]) (by decide)]; exact slide_bad3 h v c r s sy sx t l b q k hk k1 k2 w
      · rw [if_neg (by omega)] at e1
        by_cases hw : WOk r s sy sx t l b q
        · rw [if_neg (fun x => x hw)] at e1
          refine slide_good h v c r s sy sx t l b q k _ _ hk k1 k2 hw rfl rfl _ (fun hm => ?_) (fun hm hc => ?_) (fun hm hc => ?_) w
          · rw [if_pos hm] at e1; exact key 32 e1 (by decide)
          · rw [if_neg hm] at e1; exact key _ e1 hc
          · rw [if_neg hm, hc] at e1; unfold slV; rw [if_pos e1]
        · rw [key 56 (by rw [e1, if_pos hw]) (by decide)]; exact slide_bad4 h v c r s sy sx t l b q k hk k1 k2 hw w
  · have e1 : slE h v c r s sy sx t l b q k = chk h v c := by unfold slE; rw [if_pos hk]
    rw [key _ e1 hk]; exact slide_bad1 h v c r s sy sx t l b q k hk w
end Go.Proofs.Ytohkiknhjcibgaa.Sg
