/- PRODUCT OF FOUR NUMBERS. -/
import Derived.Test.YtffhbfdbahdhoaaFW3
namespace Go.Proofs.Ytffhbfdbahdhoaa.Wd
open Go.RowKit Go.Shelf
attribute [local go_sem ↓] Go.wp_at_zero Go.wp_at_succ

/-- The four factors in memory. -/
def F4 (w : World) (g : Nat) (a b c d : Int) : Prop :=
  w.cell? ⟨g, 0, none⟩ = some (.int .i64 a) ∧ w.cell? ⟨g, 1, none⟩ = some (.int .i64 b) ∧ w.cell? ⟨g, 2, none⟩ = some (.int .i64 c) ∧ w.cell? ⟨g, 3, none⟩ = some (.int .i64 d)
theorem F4.keep {w w' : World} {g : Nat} {a b c d : Int} (h : F4 w g a b c d) (hb : Below w.heap.size w w') : F4 w' g a b c d := by
  obtain ⟨p, q, r, s⟩ := h
  exact ⟨keepc hb p, keepc hb q, keepc hb r, keepc hb s⟩
/-- The two cells of a number, and that they may be written. -/
def Wc (w : World) (b : Nat) (n : Int) : Prop := w.cell? ⟨b, 0, none⟩ = some (.int .i64 (hiOf n)) ∧ w.cell? ⟨b, 1, none⟩ = some (.int .u64 (loOf n)) ∧ w.frozen? ⟨b, 0, none⟩ = false ∧ w.frozen? ⟨b, 1, none⟩ = false
theorem Wc.keep {w w' : World} {b : Nat} {n : Int} (h : Wc w b n) (hb : Below w.heap.size w w') : Wc w' b n := by
  have z := lt_of_cell h.1
  exact ⟨keepc hb h.1, keepc hb h.2.1, keepf hb z h.2.2.1, keepf hb z h.2.2.2⟩
theorem hi_zero : hiOf 0 = 0 := by unfold hiOf; omega
theorem lo_zero : loOf 0 = 0 := by unfold loOf; omega
theorem fitV_rng {n : Int} (h : Rng n) : fitV n = n := by unfold fitV; exact if_pos h
set_option maxHeartbeats 800000 in
set_option maxRecDepth 100000 in
theorem product_core (a b c d ab abc n e1 e2 e3 e4 : Int) (HA : Hid (∀ w : World, Calls Try.prog 44 #[wv 1, .int .i64 a] w fun e w' => e = .returned (.tuple #[wv a, .int .i64 e1]) ∧ Below w.heap.size w w')) (HB : Hid (∀ w : World, Calls Try.prog 44 #[wv a, .int .i64 b] w fun e w' => e = .returned (.tuple #[wv ab, .int .i64 e2]) ∧ Below w.heap.size w w')) (HC : Hid (∀ w : World, Calls Try.prog 44 #[wv ab, .int .i64 c] w fun e w' => e = .returned (.tuple #[wv abc, .int .i64 e3]) ∧ Below w.heap.size w w')) (HD : Hid (∀ w : World, Calls Try.prog 44 #[wv abc, .int .i64 d] w fun e w' => e = .returned (.tuple #[wv n, .int .i64 e4]) ∧ Below w.heap.size w w')) (w : World) (g : Nat) (hF : F4 w g a b c d) :
    Calls Try.prog 37 #[.slice (some ⟨g, 0, none⟩) 4 4] w fun e w' => e = .returned (wv n) ∧ Below w.heap.size w w' := by
  have hz : g < w.heap.size := lt_of_cell hF.1
  have HF := hid1 hF
  clear hF
  have i1 : I64 1 := by unfold I64; omega
  have HO := hid1 (of_any 1 i1)
  clear i1
  go_enter Try.func37, Try.ntmps37
  go_wp2_with fail
  refine (HO.out _).mono ?_
  rintro e w1 ⟨rfl, hb1⟩
  have q0 := keepc hb1 (b := w.heap.size) (o := 0) (v := .int .i64 0) (by simp [go_sem])
  have q1 := keepc hb1 (b := w.heap.size) (o := 1) (v := .int .u64 0) (by simp [go_sem])
  have f0 := keepf hb1 (b := w.heap.size) (o := 0) (by simp) (by simp [go_sem])
  have f1 := keepf hb1 (b := w.heap.size) (o := 1) (by simp) (by simp [go_sem])
  have B1 : Below w.heap.size w w1 := by repeat (first | exact Below.refl _ _ | refine bl_alloc ?_ _ | refine Below.drew ?_ | refine bl_drewN ?_ _ | refine bl_set ?_ (by omega) _ | refine bl_step ?_ (by assumption))
  clear hb1
  have HR : Hid (Wc w1 w.heap.size 0) := hid1 ⟨by rw [hi_zero]; exact q0, by rw [lo_zero]; exact q1, f0, f1⟩
  have z1 := lt_of_cell q0
  clear q0 q1 f0 f1
  go_wp2_with fail
  go_loopw [9] (fun i wr => ∃ k : Nat, k ≤ 4 ∧ i = .int .i64 k ∧ Hid (Wc wr w1.heap.size (match k with | 0 => 1 | 1 => a | 2 => ab | 3 => abc | _ => n)) ∧ Hid (Wc wr w.heap.size 0) ∧ Below w.heap.size w wr) (fun i _ => 4 - (intOf i).toNat)
  case atStart =>
    refine ⟨0, by omega, rfl, ?_, ?_, ?_⟩
    · exact hid1 ⟨by simp [go_sem], by simp [go_sem], by simp [go_sem], by simp [go_sem]⟩
    · have := HR.out
      obtain ⟨x, y, u, v⟩ := this
      exact hid1 ⟨by simp [go_sem, *], by simp [go_sem, *], by simp [go_sem, *], by simp [go_sem, *]⟩
    · repeat (first | exact Below.refl _ _ | refine bl_alloc ?_ _ | refine Below.drew ?_ | refine bl_drewN ?_ _ | refine bl_set ?_ (by omega) _ | refine bl_step ?_ (by assumption))
  case round =>
    obtain ⟨k, hk, rfl, HW, HQ, hB⟩ := hrel
    have HG := hid1 (HF.out.keep hB)
    by_cases hlt : k < 4
    · have hk4 : k = 0 ∨ k = 1 ∨ k = 2 ∨ k = 3 := by omega
      clear hk hlt
      rcases hk4 with rfl | rfl | rfl | rfl
      · obtain ⟨x0, x1, x2, x3⟩ := HW.out
        obtain ⟨a0, a1, a2, a3⟩ := HG.out
        have zx := lt_of_cell x0
        (try dsimp only at x0 x1)
        go_wp2_with fail
        refine (HA.out _).mono ?_
        rintro e w2 ⟨rfl, hb2⟩
        replace x2 := keepf hb2 zx x2; replace x3 := keepf hb2 zx x3
        replace x0 := keepc hb2 x0; replace x1 := keepc hb2 x1
        replace HQ := hid1 (HQ.out.keep hb2)
        replace zx := lt_of_cell x0
        have hB2 : Below w.heap.size w w2 := by repeat (first | exact Below.refl _ _ | refine bl_alloc ?_ _ | refine Below.drew ?_ | refine bl_drewN ?_ _ | refine bl_set ?_ (by omega) _ | refine bl_step ?_ (by assumption))
        clear hb2 hB a0 a1 a2 a3
        go_wp2
        refine ⟨⟨1, by omega, rfl, ?_, ?_, ?_⟩, by simp [intOf]⟩
        · exact hid1 ⟨by simp [go_sem, *], by simp [go_sem, *], by simp [go_sem, *], by simp [go_sem, *]⟩
        · obtain ⟨y0, y1, y2, y3⟩ := HQ.out
          exact hid1 ⟨by simp [go_sem, *], by simp [go_sem, *], by simp [go_sem, *], by simp [go_sem, *]⟩
        · repeat (first | exact Below.refl _ _ | refine bl_alloc ?_ _ | refine Below.drew ?_ | refine bl_drewN ?_ _ | refine bl_set ?_ (by omega) _ | refine bl_step ?_ (by assumption))
      · obtain ⟨x0, x1, x2, x3⟩ := HW.out
        obtain ⟨a0, a1, a2, a3⟩ := HG.out
        have zx := lt_of_cell x0
        (try dsimp only at x0 x1)
        go_wp2_with fail
        refine (HB.out _).mono ?_
        rintro e w2 ⟨rfl, hb2⟩
        replace x2 := keepf hb2 zx x2; replace x3 := keepf hb2 zx x3
        replace x0 := keepc hb2 x0; replace x1 := keepc hb2 x1
        replace HQ := hid1 (HQ.out.keep hb2)
        replace zx := lt_of_cell x0
        have hB2 : Below w.heap.size w w2 := by repeat (first | exact Below.refl _ _ | refine bl_alloc ?_ _ | refine Below.drew ?_ | refine bl_drewN ?_ _ | refine bl_set ?_ (by omega) _ | refine bl_step ?_ (by assumption))
        clear hb2 hB a0 a1 a2 a3
        go_wp2
        refine ⟨⟨2, by omega, rfl, ?_, ?_, ?_⟩, by simp [intOf]⟩
        · exact hid1 ⟨by simp [go_sem, *], by simp [go_sem, *], by simp [go_sem, *], by simp [go_sem, *]⟩
        · obtain ⟨y0, y1, y2, y3⟩ := HQ.out
          exact hid1 ⟨by simp [go_sem, *], by simp [go_sem, *], by simp [go_sem, *], by simp [go_sem, *]⟩
        · repeat (first | exact Below.refl _ _ | refine bl_alloc ?_ _ | refine Below.drew ?_ | refine bl_drewN ?_ _ | refine bl_set ?_ (by omega) _ | refine bl_step ?_ (by assumption))
      · obtain ⟨x0, x1, x2, x3⟩ := HW.out
        obtain ⟨a0, a1, a2, a3⟩ := HG.out
        have zx := lt_of_cell x0
        (try dsimp only at x0 x1)
        go_wp2_with fail
        refine (HC.out _).mono ?_
        rintro e w2 ⟨rfl, hb2⟩
        replace x2 := keepf hb2 zx x2; replace x3 := keepf hb2 zx x3
        replace x0 := keepc hb2 x0; replace x1 := keepc hb2 x1
        replace HQ := hid1 (HQ.out.keep hb2)
        replace zx := lt_of_cell x0
        have hB2 : Below w.heap.size w w2 := by repeat (first | exact Below.refl _ _ | refine bl_alloc ?_ _ | refine Below.drew ?_ | refine bl_drewN ?_ _ | refine bl_set ?_ (by omega) _ | refine bl_step ?_ (by assumption))
        clear hb2 hB a0 a1 a2 a3
        go_wp2
        refine ⟨⟨3, by omega, rfl, ?_, ?_, ?_⟩, by simp [intOf]⟩
        · exact hid1 ⟨by simp [go_sem, *], by simp [go_sem, *], by simp [go_sem, *], by simp [go_sem, *]⟩
        · obtain ⟨y0, y1, y2, y3⟩ := HQ.out
          exact hid1 ⟨by simp [go_sem, *], by simp [go_sem, *], by simp [go_sem, *], by simp [go_sem, *]⟩
        · repeat (first | exact Below.refl _ _ | refine bl_alloc ?_ _ | refine Below.drew ?_ | refine bl_drewN ?_ _ | refine bl_set ?_ (by omega) _ | refine bl_step ?_ (by assumption))
      · obtain ⟨x0, x1, x2, x3⟩ := HW.out
        obtain ⟨a0, a1, a2, a3⟩ := HG.out
        have zx := lt_of_cell x0
        (try dsimp only at x0 x1)
        go_wp2_with fail
        refine (HD.out _).mono ?_
        rintro e w2 ⟨rfl, hb2⟩
        replace x2 := keepf hb2 zx x2; replace x3 := keepf hb2 zx x3
        replace x0 := keepc hb2 x0; replace x1 := keepc hb2 x1
        replace HQ := hid1 (HQ.out.keep hb2)
        replace zx := lt_of_cell x0
        have hB2 : Below w.heap.size w w2 := by repeat (first | exact Below.refl _ _ | refine bl_alloc ?_ _ | refine Below.drew ?_ | refine bl_drewN ?_ _ | refine bl_set ?_ (by omega) _ | refine bl_step ?_ (by assumption))
        clear hb2 hB a0 a1 a2 a3
        go_wp2
        refine ⟨⟨4, by omega, rfl, ?_, ?_, ?_⟩, by simp [intOf]⟩
        · exact hid1 ⟨by simp [go_sem, *], by simp [go_sem, *], by simp [go_sem, *], by simp [go_sem, *]⟩
        · obtain ⟨y0, y1, y2, y3⟩ := HQ.out
          exact hid1 ⟨by simp [go_sem, *], by simp [go_sem, *], by simp [go_sem, *], by simp [go_sem, *]⟩
        · repeat (first | exact Below.refl _ _ | refine bl_alloc ?_ _ | refine Below.drew ?_ | refine bl_drewN ?_ _ | refine bl_set ?_ (by omega) _ | refine bl_step ?_ (by assumption))
    · have : k = 4 := by omega
      subst this
      obtain ⟨x0, x1, x2, x3⟩ := HW.out
      obtain ⟨y0, y1, y2, y3⟩ := HQ.out
      have zx := lt_of_cell x0
      have zy := lt_of_cell y0
      (try dsimp only at x0 x1)
      go_wp2
      simp [bodyPost, results, Try.results37, go_sem, *]
      repeat (first | exact Below.refl _ _ | refine bl_alloc ?_ _ | refine Below.drew ?_ | refine bl_drewN ?_ _ | refine bl_set ?_ (by omega) _ | refine bl_step ?_ (by assumption))
theorem product_any (a b c d : Int) (ha : I64 a) (hb : I64 b) (hc : I64 c) (hd : I64 d) (r2 : Rng (a * b)) (r3 : Rng (a * b * c)) (r4 : Rng (a * b * c * d)) (w : World) (g : Nat) (hF : F4 w g a b c d) :
    Calls Try.prog 37 #[.slice (some ⟨g, 0, none⟩) 4 4] w fun e w' => e = .returned (wv (a * b * c * d)) ∧ Below w.heap.size w w' := by
  have r0 : Rng 1 := by unfold Rng; omega
  have r1 : Rng a := by unfold I64 at ha; unfold Rng; omega
  have s0 : fitV (1 * a) = a := by rw [Int.one_mul]; exact fitV_rng r1
  have HA := scale_any 1 a r0 ha
  have HB := scale_any a b r1 hb
  have HC := scale_any (a * b) c r2 hc
  have HD := scale_any (a * b * c) d r3 hd
  rw [s0] at HA
  rw [fitV_rng r2] at HB
  rw [fitV_rng r3] at HC
  rw [fitV_rng r4] at HD
  exact product_core a b c d _ _ _ _ _ _ _ (hid1 HA) (hid1 HB) (hid1 HC) (hid1 HD) w g hF
end Go.Proofs.Ytffhbfdbahdhoaa.Wd
