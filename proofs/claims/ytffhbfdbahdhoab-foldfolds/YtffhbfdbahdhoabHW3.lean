/- PACKAGE fold: settled, Trim, whole, Norm. -/
import Derived.Test.YtffhbfdbahdhoabHW2
namespace Go.Proofs.Ytffhbfdbahdhoab
open Go.RowKit Go.Shelf Wd
attribute [local go_sem ↓] Go.wp_at_zero Go.wp_at_succ

/-- The answer's two cells, which may be written. -/
def Wz (w : World) (b : Nat) : Prop := w.cell? ⟨b, 0, none⟩ = some (.int .i64 0) ∧ w.cell? ⟨b, 1, none⟩ = some (.int .i64 0) ∧ w.frozen? ⟨b, 0, none⟩ = false ∧ w.frozen? ⟨b, 1, none⟩ = false
theorem Wz.keep {w w' : World} {b : Nat} (h : Wz w b) (hb : Below w.heap.size w w') : Wz w' b := by
  have z := lt_of_cell h.1
  exact ⟨keepc hb h.1, keepc hb h.2.1, keepf hb z h.2.2.1, keepf hb z h.2.2.2⟩
def seM (p q : Bool) (m : Int) : Int := if p = q then (if p = true then 3 else 4) else m
def seT (p q : Bool) (t : Int) : Int := if p = q then 0 else t
set_option maxRecDepth 100000 in
theorem settled_core (m t lo hi M T : Int) (p q : Bool) (HP : Hid (∀ w : World, Calls Try.prog 11 #[th m t, .int .i64 lo] w fun e w' => e = .returned (.bool p) ∧ Below w.heap.size w w'))
    (HQ : Hid (∀ w : World, Calls Try.prog 11 #[th m t, .int .i64 hi] w fun e w' => e = .returned (.bool q) ∧ Below w.heap.size w w')) (hM : Hid (seM p q m = M ∧ seT p q t = T)) (w : World) :
    Calls Try.prog 15 #[th m t, th lo hi] w fun e w' => e = .returned (th M T) ∧ Below w.heap.size w w' := by
  go_enter Try.func15, Try.ntmps15
  go_upto_region 1 with fail
  refine gen_worldH (fun X => Hid (C2 X w.heap.size m t ∧ C2 X (w.heap.size + 1) lo hi ∧ Wz X (w.heap.size + 2) ∧ Below w.heap.size w X)) (hid1 (And.intro ⟨by simp [go_sem], by simp [go_sem]⟩ (And.intro ⟨by simp [go_sem], by simp [go_sem]⟩ (And.intro ⟨by simp [go_sem], by simp [go_sem], by simp [go_sem], by simp [go_sem]⟩ (by repeat (first | (with_reducible exact Below.refl _ _) | (with_reducible refine bl_alloc ?_ _) | (with_reducible refine Below.drew ?_) | (with_reducible refine bl_drewN ?_ _) | (with_reducible refine bl_set ?_ (by omega) _) | (with_reducible refine bl_step ?_ (by assumption)))))))) ?_
  intro X HX
  have c0 := HX.out.1.1
  have c1 := HX.out.1.2
  have d0 := HX.out.2.1.1
  have d1 := HX.out.2.1.2
  have HZ := hid1 HX.out.2.2.1
  have HB := hid1 HX.out.2.2.2
  clear HX
  go_cut [5, 6] (fun s5 s6 wx => s5 = .bool p ∧ s6 = .bool q ∧ Hid (Below X.heap.size X wx))
  case first =>
    go_region_held3 (fun W => W.cell? ⟨w.heap.size, 0, none⟩ = some (.int .i64 m) ∧ W.cell? ⟨w.heap.size, 1, none⟩ = some (.int .i64 t) ∧ W.cell? ⟨w.heap.size + 1, 0, none⟩ = some (.int .i64 lo) ∧ W.cell? ⟨w.heap.size + 1, 1, none⟩ = some (.int .i64 hi)) (((try dsimp only); exact ⟨keepc (W := X) (by repeat (first | (with_reducible exact Below.refl _ _) | (with_reducible refine bl_alloc ?_ _) | (with_reducible refine Below.drew ?_) | (with_reducible refine bl_drewN ?_ _) | (with_reducible refine bl_set ?_ (by omega) _) | (with_reducible refine bl_step ?_ (by assumption)))) c0, keepc (W := X) (by repeat (first | (with_reducible exact Below.refl _ _) | (with_reducible refine bl_alloc ?_ _) | (with_reducible refine Below.drew ?_) | (with_reducible refine bl_drewN ?_ _) | (with_reducible refine bl_set ?_ (by omega) _) | (with_reducible refine bl_step ?_ (by assumption)))) c1, keepc (W := X) (by repeat (first | (with_reducible exact Below.refl _ _) | (with_reducible refine bl_alloc ?_ _) | (with_reducible refine Below.drew ?_) | (with_reducible refine bl_drewN ?_ _) | (with_reducible refine bl_set ?_ (by omega) _) | (with_reducible refine bl_step ?_ (by assumption)))) d0, keepc (W := X) (by repeat (first | (with_reducible exact Below.refl _ _) | (with_reducible refine bl_alloc ?_ _) | (with_reducible refine Below.drew ?_) | (with_reducible refine bl_drewN ?_ _) | (with_reducible refine bl_set ?_ (by omega) _) | (with_reducible refine bl_step ?_ (by assumption)))) d1⟩))
      (first
        | (go_at_call 11; (with_reducible refine (HP.out _).mono ?_); rintro e w1 ⟨rfl, hb1⟩)
        | (go_at_call 11; (with_reducible refine (HQ.out _).mono ?_); rintro e w2 ⟨rfl, hb2⟩))
    all_goals go_wp2_with fail
    all_goals go_meet
    all_goals exact ⟨rfl, rfl, hid1 (by repeat (first | (with_reducible exact Below.refl _ _) | (with_reducible refine bl_alloc ?_ _) | (with_reducible refine Below.drew ?_) | (with_reducible refine bl_drewN ?_ _) | (with_reducible refine bl_set ?_ (by omega) _) | (with_reducible refine bl_step ?_ (by assumption))))⟩
  case rest =>
    obtain ⟨rfl, rfl, HC⟩ := hcut
    have BC := bl_step HB.out HC.out
    replace c0 := keepc HC.out c0
    replace c1 := keepc HC.out c1
    obtain ⟨y0, y1, y2, y3⟩ := HZ.out.keep HC.out
    have z := lt_of_cell y0
    clear HC HB HZ d0 d1 HP HQ
    cases p <;> cases q
    · obtain ⟨e1, e2⟩ := hM.out
      have e3 : M = 4 := e1.symm
      have e4 : T = 0 := e2.symm
      subst e3 e4
      clear hM e1 e2
      go_wp2
      simp [bodyPost, results, Try.results15, go_sem, *]
      repeat (first | (with_reducible exact Below.refl _ _) | (with_reducible refine bl_alloc ?_ _) | (with_reducible refine Below.drew ?_) | (with_reducible refine bl_drewN ?_ _) | (with_reducible refine bl_set ?_ (by omega) _) | (with_reducible refine bl_step ?_ (by assumption)))
    · obtain ⟨e1, e2⟩ := hM.out
      have e3 : M = m := e1.symm
      have e4 : T = t := e2.symm
      subst e3 e4
      clear hM e1 e2
      go_wp2
      simp [bodyPost, results, Try.results15, go_sem, *]
      repeat (first | (with_reducible exact Below.refl _ _) | (with_reducible refine bl_alloc ?_ _) | (with_reducible refine Below.drew ?_) | (with_reducible refine bl_drewN ?_ _) | (with_reducible refine bl_set ?_ (by omega) _) | (with_reducible refine bl_step ?_ (by assumption)))
    · obtain ⟨e1, e2⟩ := hM.out
      have e3 : M = m := e1.symm
      have e4 : T = t := e2.symm
      subst e3 e4
      clear hM e1 e2
      go_wp2
      simp [bodyPost, results, Try.results15, go_sem, *]
      repeat (first | (with_reducible exact Below.refl _ _) | (with_reducible refine bl_alloc ?_ _) | (with_reducible refine Below.drew ?_) | (with_reducible refine bl_drewN ?_ _) | (with_reducible refine bl_set ?_ (by omega) _) | (with_reducible refine bl_step ?_ (by assumption)))
    · obtain ⟨e1, e2⟩ := hM.out
      have e3 : M = 3 := e1.symm
      have e4 : T = 0 := e2.symm
      subst e3 e4
      clear hM e1 e2
      go_wp2
      simp [bodyPost, results, Try.results15, go_sem, *]
      repeat (first | (with_reducible exact Below.refl _ _) | (with_reducible refine bl_alloc ?_ _) | (with_reducible refine Below.drew ?_) | (with_reducible refine bl_drewN ?_ _) | (with_reducible refine bl_set ?_ (by omega) _) | (with_reducible refine bl_step ?_ (by assumption)))
theorem settled_any (m t lo hi : Int) (w : World) :
    Calls Try.prog 15 #[th m t, th lo hi] w fun e w' => e = .returned (th (stM m t lo hi) (stT m t lo hi)) ∧ Below w.heap.size w w' :=
  settled_core m t lo hi _ _ _ _ (hid1 (plus_any m t lo)) (hid1 (plus_any m t hi)) (hid1 (And.intro rfl rfl)) w
end Go.Proofs.Ytffhbfdbahdhoab
