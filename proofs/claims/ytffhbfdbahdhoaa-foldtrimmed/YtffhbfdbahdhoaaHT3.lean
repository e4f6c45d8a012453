/- sum, says; FoldSays, WALKED. -/
import Derived.Test.YtffhbfdbahdhoaaHT1
namespace Go.Proofs.Ytffhbfdbahdhoaa
open Go.RowKit Go.Shelf Wd
attribute [local go_sem ↓] Go.wp_at_zero Go.wp_at_succ

def suN (x : Int) : Int := if x < -2147483647 then x.tmod 2147483648 else if 2147483647 < x then x.tmod 2147483648 else x
theorem tmod_rngH (n : Int) {k : Int} (hk : 0 < k) : -k < n.tmod k ∧ n.tmod k < k := by
  have h1 := Int.tmod_lt_of_pos n hk
  have h2 := Int.tmod_lt_of_pos (-n) hk
  rw [Int.neg_tmod] at h2
  omega
theorem su_sm (x : Int) : Sm (suN x) := by
  have h := tmod_rngH x (k := 2147483648) (by decide)
  unfold suN Sm
  split <;> (try split) <;> omega
theorem su_same {x : Int} (h : Sm x) : suN x = x := by
  unfold Sm at h
  unfold suN
  rw [if_neg (by omega), if_neg (by omega)]
set_option maxRecDepth 100000 in
theorem sum_any (x : Int) (w : World) :
    Calls Try.prog 15 #[.int .i64 x] w fun e w' => e = .returned (.int .i64 (suN x)) ∧ w' = w := by
  have h := tmod_rngH x (k := 2147483648) (by decide)
  unfold suN
  obtain ⟨a, ea⟩ : ∃ a, x.tmod 2147483648 = a := ⟨_, rfl⟩
  rw [ea] at h ⊢
  obtain ⟨h1, h2⟩ := h
  by_cases k1 : x < -2147483647
  · rw [if_pos k1]
    go_enter Try.func15, Try.ntmps15
    go_wp2
    go_ret
    exact ⟨rfl, rfl⟩
  · rw [if_neg k1]
    have k1' : decide (x < -2147483647) = false := decide_eq_false k1
    clear k1
    by_cases k2 : 2147483647 < x
    · rw [if_pos k2]
      go_enter Try.func15, Try.ntmps15
      go_wp2
      go_ret
      exact ⟨rfl, rfl⟩
    · rw [if_neg k2]
      have k2' : decide (2147483647 < x) = false := decide_eq_false k2
      clear k2
      go_enter Try.func15, Try.ntmps15
      go_wp2
      go_ret
      exact ⟨rfl, rfl⟩
set_option maxRecDepth 100000 in
theorem says_core (gn gd bn bd mn md sn sd m t x : Int) (p : Bool) (H1 : Hid (∀ w : World, Calls Try.prog 28 #[nm gn gd bn bd mn md sn sd, .int .i64 x] w fun e w' => e = .returned (.tuple #[.bool p, .int .i64 0]) ∧ Below w.heap.size w w'))
    (H2 : Hid (∀ w : World, Calls Try.prog 14 #[th m t, .int .i64 x] w fun e w' => e = .returned (.bool p) ∧ Below w.heap.size w w')) (w : World) :
    Calls Try.prog 21 #[nm gn gd bn bd mn md sn sd, th m t, .int .i64 x] w fun e w' => e = .returned (.bool true) ∧ Below w.heap.size w w' := by
  go_enter Try.func21, Try.ntmps21
  go_wp2_with fail
  refine (H1.out _).mono ?_
  rintro e w1 ⟨rfl, hb1⟩
  have c0 := keepc hb1 (b := w.heap.size + 1) (o := 0) (v := .int .i64 m) (by simp [go_sem])
  have c1 := keepc hb1 (b := w.heap.size + 1) (o := 1) (v := .int .i64 t) (by simp [go_sem])
  go_wp2_with fail
  refine (H2.out _).mono ?_
  rintro e w2 ⟨rfl, hb2⟩
  cases p
  · go_wp2
    go_ret
    exact ⟨rfl, by repeat (first | (with_reducible exact Below.refl _ _) | (with_reducible refine bl_alloc ?_ _) | (with_reducible refine Below.drew ?_) | (with_reducible refine bl_drewN ?_ _) | (with_reducible refine bl_set ?_ (by omega) _) | (with_reducible refine bl_step ?_ (by assumption)))⟩
  · go_wp2
    go_ret
    exact ⟨rfl, by repeat (first | (with_reducible exact Below.refl _ _) | (with_reducible refine bl_alloc ?_ _) | (with_reducible refine Below.drew ?_) | (with_reducible refine bl_drewN ?_ _) | (with_reducible refine bl_set ?_ (by omega) _) | (with_reducible refine bl_step ?_ (by assumption)))⟩
theorem says_any {gn gd bn bd mn md sn sd m t x : Int} (h : noE gn gd bn bd mn md sn sd = 0) (hP : FoP gn gd bn bd mn md sn sd m t) (hx : Sm x) (w : World) :
    Calls Try.prog 21 #[nm gn gd bn bd mn md sn sd, th m t, .int .i64 x] w fun e w' => e = .returned (.bool true) ∧ Below w.heap.size w w' := by
  have H1 := hid1 (fplus_any gn gd bn bd mn md sn sd x)
  have H2 := hid1 (plus_any m t x)
  rw [hP.2 x hx] at H2
  have e1 : plV gn gd bn bd mn md sn sd x = decide (0 ≤ nv gn gd bn bd mn md sn sd x) := by unfold plV; rw [decide_eq_true h, decide_eq_true hx]; rfl
  have e2 : plE gn gd bn bd mn md sn sd x = 0 := by unfold plE; rw [if_pos h, if_pos hx]
  rw [e1, e2] at H1
  exact says_core gn gd bn bd mn md sn sd m t x _ H1 H2 w
/-- Numbers in a block. -/
def Ns (w : World) (b n : Nat) : Prop := ∀ k, k < n → ∃ v : Int, w.cell? ⟨b, k, none⟩ = some (.int .i64 v)
theorem Ns.keep {w w' : World} {b n : Nat} (h : Ns w b n) (hb : Below w.heap.size w w') : Ns w' b n := fun k hk => by
  obtain ⟨v, e⟩ := h k hk
  exact ⟨v, keepc hb e⟩
theorem ns7 {w : World} {b : Nat} {a0 a1 a2 a3 a4 a5 a6 : Int} (h0 : w.cell? ⟨b, 0, none⟩ = some (.int .i64 a0)) (h1 : w.cell? ⟨b, 1, none⟩ = some (.int .i64 a1)) (h2 : w.cell? ⟨b, 2, none⟩ = some (.int .i64 a2)) (h3 : w.cell? ⟨b, 3, none⟩ = some (.int .i64 a3)) (h4 : w.cell? ⟨b, 4, none⟩ = some (.int .i64 a4)) (h5 : w.cell? ⟨b, 5, none⟩ = some (.int .i64 a5)) (h6 : w.cell? ⟨b, 6, none⟩ = some (.int .i64 a6)) : Ns w b 7 := fun k hk => by
  match k, hk with
  | 0, _ => exact ⟨_, h0⟩
  | 1, _ => exact ⟨_, h1⟩
  | 2, _ => exact ⟨_, h2⟩
  | 3, _ => exact ⟨_, h3⟩
  | 4, _ => exact ⟨_, h4⟩
  | 5, _ => exact ⟨_, h5⟩
  | 6, _ => exact ⟨_, h6⟩
set_option maxRecDepth 100000 in
theorem foldSays_no (gn gd bn bd mn md sn sd : Int) (ao : Option Addr) (m0 cm : Nat) (e : Int) (he : (e != 0) = true) (HN : Hid (∀ w : World, Calls Try.prog 12 #[nm gn gd bn bd mn md sn sd] w fun x w' => x = .returned (.int .i64 e) ∧ Below w.heap.size w w'))
    (HF : Hid (∀ w : World, Calls Try.prog 13 #[nm gn gd bn bd mn md sn sd] w fun x w' => x = .returned (.tuple #[th 0 0, .int .i64 e]) ∧ Below w.heap.size w w')) (w : World) :
    Calls Try.prog 8 #[nm gn gd bn bd mn md sn sd, .slice ao m0 cm] w fun x w' => x = .returned (.bool true) ∧ Below w.heap.size w w' := by
  go_enter Try.func8, Try.ntmps8
  go_wp2_with fail
  refine (obegun_any _).mono ?_
  rintro x w1 ⟨rfl, hb1⟩
  obtain ⟨c0, c1, c2, c3, c4, c5, c6, c7⟩ : Nm w1 w.heap.size gn gd bn bd mn md sn sd := Nm.keep ⟨by simp [go_sem], by simp [go_sem], by simp [go_sem], by simp [go_sem], by simp [go_sem], by simp [go_sem], by simp [go_sem], by simp [go_sem]⟩ hb1
  have B1 : Below w.heap.size w w1 := by repeat (first | (with_reducible exact Below.refl _ _) | (with_reducible refine bl_alloc ?_ _) | (with_reducible refine Below.drew ?_) | (with_reducible refine bl_drewN ?_ _) | (with_reducible refine bl_set ?_ (by omega) _) | (with_reducible refine bl_step ?_ (by assumption)))
  clear hb1
  go_wp2_with fail
  refine (HN.out _).mono ?_
  rintro x w2 ⟨rfl, hb2⟩
  obtain ⟨c0, c1, c2, c3, c4, c5, c6, c7⟩ : Nm w2 w.heap.size gn gd bn bd mn md sn sd := Nm.keep ⟨c0, c1, c2, c3, c4, c5, c6, c7⟩ hb2
  have B2 := bl_step B1 hb2
  clear hb2 B1
  go_wp2_with fail
  refine (HF.out _).mono ?_
  rintro x w3 ⟨rfl, hb3⟩
  have B3 := bl_step B2 hb3
  clear hb3 B2
  go_wp2
  go_ret
  exact ⟨rfl, by repeat (first | (with_reducible exact Below.refl _ _) | (with_reducible refine bl_alloc ?_ _) | (with_reducible refine Below.drew ?_) | (with_reducible refine bl_drewN ?_ _) | (with_reducible refine bl_set ?_ (by omega) _) | (with_reducible refine bl_step ?_ (by assumption)))⟩
set_option maxHeartbeats 1600000 in
set_option maxRecDepth 100000 in
theorem foldSays_ok (gn gd bn bd mn md sn sd m t : Int) (ao : Option Addr) (m0 cm : Nat) (hm0 : m0 ≤ 9223372036854775807) (t1 : -2147483647 ≤ t) (t2 : t ≤ 2147483647) (HN : Hid (∀ w : World, Calls Try.prog 12 #[nm gn gd bn bd mn md sn sd] w fun x w' => x = .returned (.int .i64 0) ∧ Below w.heap.size w w'))
    (HF : Hid (∀ w : World, Calls Try.prog 13 #[nm gn gd bn bd mn md sn sd] w fun x w' => x = .returned (.tuple #[th m t, .int .i64 0]) ∧ Below w.heap.size w w'))
    (HC : Hid (∀ w : World, Calls Try.prog 11 #[th m t] w fun x w' => x = .returned (.int .i64 0) ∧ Below w.heap.size w w'))
    (HY : Hid (∀ x, Sm x → ∀ w : World, Calls Try.prog 21 #[nm gn gd bn bd mn md sn sd, th m t, .int .i64 x] w fun e w' => e = .returned (.bool true) ∧ Below w.heap.size w w')) (w : World) (L : Ln1 w ao m0) :
    Calls Try.prog 8 #[nm gn gd bn bd mn md sn sd, .slice ao m0 cm] w fun x w' => x = .returned (.bool true) ∧ Below w.heap.size w w' := by
  have HL := hid1 L
  clear L
  go_enter Try.func8, Try.ntmps8
  go_wp2_with fail
  refine (obegun_any _).mono ?_
  rintro x w1 ⟨rfl, hb1⟩
  obtain ⟨c0, c1, c2, c3, c4, c5, c6, c7⟩ : Nm w1 w.heap.size gn gd bn bd mn md sn sd := Nm.keep ⟨by simp [go_sem], by simp [go_sem], by simp [go_sem], by simp [go_sem], by simp [go_sem], by simp [go_sem], by simp [go_sem], by simp [go_sem]⟩ hb1
  have B1 : Below w.heap.size w w1 := by repeat (first | (with_reducible exact Below.refl _ _) | (with_reducible refine bl_alloc ?_ _) | (with_reducible refine Below.drew ?_) | (with_reducible refine bl_drewN ?_ _) | (with_reducible refine bl_set ?_ (by omega) _) | (with_reducible refine bl_step ?_ (by assumption)))
  clear hb1
  go_wp2_with fail
  refine (HN.out _).mono ?_
  rintro x w2 ⟨rfl, hb2⟩
  obtain ⟨c0, c1, c2, c3, c4, c5, c6, c7⟩ : Nm w2 w.heap.size gn gd bn bd mn md sn sd := Nm.keep ⟨c0, c1, c2, c3, c4, c5, c6, c7⟩ hb2
  have B2 := bl_step B1 hb2
  clear hb2 B1
  go_wp2_with fail
  refine (HF.out _).mono ?_
  rintro x w3 ⟨rfl, hb3⟩
  obtain ⟨c0, c1, c2, c3, c4, c5, c6, c7⟩ : Nm w3 w.heap.size gn gd bn bd mn md sn sd := Nm.keep ⟨c0, c1, c2, c3, c4, c5, c6, c7⟩ hb3
  have B3 := bl_step B2 hb3
  have z3 := lt_of_cell c0
  clear hb3 B2
  go_wp2_with fail
  refine gen_calls (fun X => Hid (Nm X w.heap.size gn gd bn bd mn md sn sd) ∧ Hid (C2 X w3.heap.size m t) ∧ Below w.heap.size w X) ⟨hid1 ⟨by simp [go_sem, *], by simp [go_sem, *], by simp [go_sem, *], by simp [go_sem, *], by simp [go_sem, *], by simp [go_sem, *], by simp [go_sem, *], by simp [go_sem, *]⟩, hid1 ⟨by simp [go_sem], by simp [go_sem]⟩, by repeat (first | (with_reducible exact Below.refl _ _) | (with_reducible refine bl_alloc ?_ _) | (with_reducible refine Below.drew ?_) | (with_reducible refine bl_drewN ?_ _) | (with_reducible refine bl_set ?_ (by omega) _) | (with_reducible refine bl_step ?_ (by assumption)))⟩ ?_
  clear c0 c1 c2 c3 c4 c5 c6 c7 B3 z3
  rintro X ⟨HM, HD, BX⟩
  refine (HC.out _).mono ?_
  rintro x w4 ⟨rfl, hb4⟩
  replace HM := hid1 (HM.out.keep hb4)
  replace HD := hid1 (HD.out.keep hb4)
  have B4 := bl_step BX hb4
  clear hb4 BX
  generalize w3.heap.size = G at *
  obtain ⟨d0, d1⟩ := HD.out
  have zd := lt_of_cell d0
  go_wp2_with fail
  go_loopw [10] (fun i wr => ∃ k : Nat, k ≤ 7 ∧ i = .int .i64 k ∧ Hid (Nm wr w.heap.size gn gd bn bd mn md sn sd) ∧ Hid (C2 wr G m t) ∧ Hid (Ns wr w4.heap.size 7) ∧ Below w.heap.size w wr) (fun i _ => 7 - (intOf i).toNat)
  case atStart =>
    obtain ⟨c0, c1, c2, c3, c4, c5, c6, c7⟩ := HM.out
    have zc := lt_of_cell c0
    exact ⟨0, by omega, rfl, hid1 ⟨by simp [go_sem, *], by simp [go_sem, *], by simp [go_sem, *], by simp [go_sem, *], by simp [go_sem, *], by simp [go_sem, *], by simp [go_sem, *], by simp [go_sem, *]⟩, hid1 ⟨by simp [go_sem, *], by simp [go_sem, *]⟩, hid1 (ns7 (a0 := -2147483647) (a1 := 2147483647) (a2 := 0) (a3 := t) (a4 := t - 1) (a5 := t + 1) (a6 := -t) (by simp [go_sem]) (by simp [go_sem]) (by simp [go_sem]) (by simp [go_sem]) (by simp [go_sem]) (by simp [go_sem]) (by simp [go_sem])), by repeat (first | (with_reducible exact Below.refl _ _) | (with_reducible refine bl_alloc ?_ _) | (with_reducible refine Below.drew ?_) | (with_reducible refine bl_drewN ?_ _) | (with_reducible refine bl_set ?_ (by omega) _) | (with_reducible refine bl_step ?_ (by assumption)))⟩
  case round =>
    clear HM HD d0 d1 zd B4
    obtain ⟨k, hk, rfl, HM, HD, HS, hnx⟩ := hrel
    generalize w4.heap.size = N at *
    have kk0 : (0 : Int) ≤ (k : Int) := by omega
    by_cases hlk : k < 7
    · have kk : (k : Int) < 7 := by omega
      obtain ⟨v, b0⟩ := HS.out k hlk
      obtain ⟨c0, c1, c2, c3, c4, c5, c6, c7⟩ := HM.out
      obtain ⟨d0, d1⟩ := HD.out
      have HU := hid1 (sum_any v)
      have HZ := hid1 (HY.out (suN v) (su_sm v))
      generalize suN v = u at *
      have HB := hid1 hnx
      clear hnx
      go_upto_region 14 with fail
      go_cut [62] (fun s wx => s = .bool false ∧ Hid (Below wr.heap.size wr wx))
      case first =>
        go_region_held3 (fun X => X.cell? ⟨w.heap.size, 0, none⟩ = some (.int .i64 gn) ∧ X.cell? ⟨w.heap.size, 1, none⟩ = some (.int .i64 gd) ∧ X.cell? ⟨w.heap.size, 2, none⟩ = some (.int .i64 bn) ∧ X.cell? ⟨w.heap.size, 3, none⟩ = some (.int .i64 bd) ∧ X.cell? ⟨w.heap.size, 4, none⟩ = some (.int .i64 mn) ∧ X.cell? ⟨w.heap.size, 5, none⟩ = some (.int .i64 md) ∧ X.cell? ⟨w.heap.size, 6, none⟩ = some (.int .i64 sn) ∧ X.cell? ⟨w.heap.size, 7, none⟩ = some (.int .i64 sd) ∧ X.cell? ⟨G, 0, none⟩ = some (.int .i64 m) ∧ X.cell? ⟨G, 1, none⟩ = some (.int .i64 t) ∧ X.cell? ⟨N, k, none⟩ = some (.int .i64 v)) (((try dsimp only); refine (fun hh => ⟨keepc (W := wr) hh c0, keepc (W := wr) hh c1, keepc (W := wr) hh c2, keepc (W := wr) hh c3, keepc (W := wr) hh c4, keepc (W := wr) hh c5, keepc (W := wr) hh c6, keepc (W := wr) hh c7, keepc (W := wr) hh d0, keepc (W := wr) hh d1, keepc (W := wr) hh b0⟩) ?_; repeat (first | (with_reducible exact Below.refl _ _) | (with_reducible refine bl_alloc ?_ _) | (with_reducible refine Below.drew ?_) | (with_reducible refine bl_drewN ?_ _) | (with_reducible refine bl_set ?_ (by first | omega | (simp; done) | (simp; omega)) _) | (with_reducible refine bl_step ?_ (by assumption)))))
          (first
            | (go_at_call 15; (with_reducible refine (HU.out _).mono ?_); rintro e x1 ⟨rfl, rfl⟩)
            | (go_at_call 21; (with_reducible refine (HZ.out _).mono ?_); rintro e x2 ⟨rfl, hx2⟩))
        all_goals go_wp2_with fail
        all_goals go_meet
        all_goals exact ⟨rfl, hid1 (by repeat (first | (with_reducible exact Below.refl _ _) | (with_reducible refine bl_alloc ?_ _) | (with_reducible refine Below.drew ?_) | (with_reducible refine bl_drewN ?_ _) | (with_reducible refine bl_set ?_ (by first | omega | (simp; done) | (simp; omega)) _) | (with_reducible refine bl_step ?_ (by assumption))))⟩
      case rest =>
        obtain ⟨rfl, HX⟩ := hcut
        replace HM := hid1 (HM.out.keep HX.out)
        replace HD := hid1 (HD.out.keep HX.out)
        replace HS := hid1 (HS.out.keep HX.out)
        have BY := bl_step HB.out HX.out
        clear HX HB b0 c0 c1 c2 c3 c4 c5 c6 c7 d0 d1
        go_wp2_with fail
        exact ⟨⟨k + 1, by omega, by go_num, HM, HD, HS, BY⟩, by simp [intOf]; omega⟩
    · have hk7 : k = 7 := by omega
      subst hk7
      go_wp2_with fail
      go_loopw [11] (fun i wr => ∃ k : Nat, k ≤ m0 ∧ i = .int .i64 k ∧ Hid (Nm wr w.heap.size gn gd bn bd mn md sn sd) ∧ Hid (C2 wr G m t) ∧ Below w.heap.size w wr) (fun i _ => m0 - (intOf i).toNat)
      case atStart => exact ⟨0, by omega, rfl, HM, HD, hnx⟩
      case round =>
        clear HM HD HS hnx
        obtain ⟨j, hj, rfl, HM, HD, hnx⟩ := hrel
        have jj0 : (0 : Int) ≤ (j : Int) := by omega
        by_cases hlj : j < m0
        · have jj : (j : Int) < (m0 : Int) := by omega
          obtain ⟨g', o', v, rfl, b0⟩ := (HL.out.keep hnx) j hlj
          obtain ⟨c0, c1, c2, c3, c4, c5, c6, c7⟩ := HM.out
          obtain ⟨d0, d1⟩ := HD.out
          have HU := hid1 (sum_any v)
          have HZ := hid1 (HY.out (suN v) (su_sm v))
          generalize suN v = u at *
          have HB := hid1 hnx
          clear hnx
          go_upto_region 19 with fail
          go_cut [77] (fun s wx => s = .bool false ∧ Hid (Below wr.heap.size wr wx))
          case first =>
            go_region_held3 (fun X => X.cell? ⟨w.heap.size, 0, none⟩ = some (.int .i64 gn) ∧ X.cell? ⟨w.heap.size, 1, none⟩ = some (.int .i64 gd) ∧ X.cell? ⟨w.heap.size, 2, none⟩ = some (.int .i64 bn) ∧ X.cell? ⟨w.heap.size, 3, none⟩ = some (.int .i64 bd) ∧ X.cell? ⟨w.heap.size, 4, none⟩ = some (.int .i64 mn) ∧ X.cell? ⟨w.heap.size, 5, none⟩ = some (.int .i64 md) ∧ X.cell? ⟨w.heap.size, 6, none⟩ = some (.int .i64 sn) ∧ X.cell? ⟨w.heap.size, 7, none⟩ = some (.int .i64 sd) ∧ X.cell? ⟨G, 0, none⟩ = some (.int .i64 m) ∧ X.cell? ⟨G, 1, none⟩ = some (.int .i64 t) ∧ X.cell? ⟨g', o' + j, none⟩ = some (.int .i64 v)) (((try dsimp only); refine (fun hh => ⟨keepc (W := wr) hh c0, keepc (W := wr) hh c1, keepc (W := wr) hh c2, keepc (W := wr) hh c3, keepc (W := wr) hh c4, keepc (W := wr) hh c5, keepc (W := wr) hh c6, keepc (W := wr) hh c7, keepc (W := wr) hh d0, keepc (W := wr) hh d1, keepc (W := wr) hh b0⟩) ?_; repeat (first | (with_reducible exact Below.refl _ _) | (with_reducible refine bl_alloc ?_ _) | (with_reducible refine Below.drew ?_) | (with_reducible refine bl_drewN ?_ _) | (with_reducible refine bl_set ?_ (by first | omega | (simp; done) | (simp; omega)) _) | (with_reducible refine bl_step ?_ (by assumption)))))
              (first
                | (go_at_call 15; (with_reducible refine (HU.out _).mono ?_); rintro e x1 ⟨rfl, rfl⟩)
                | (go_at_call 21; (with_reducible refine (HZ.out _).mono ?_); rintro e x2 ⟨rfl, hx2⟩))
            all_goals go_wp2_with fail
            all_goals go_meet
            all_goals exact ⟨rfl, hid1 (by repeat (first | (with_reducible exact Below.refl _ _) | (with_reducible refine bl_alloc ?_ _) | (with_reducible refine Below.drew ?_) | (with_reducible refine bl_drewN ?_ _) | (with_reducible refine bl_set ?_ (by first | omega | (simp; done) | (simp; omega)) _) | (with_reducible refine bl_step ?_ (by assumption))))⟩
          case rest =>
            obtain ⟨rfl, HX⟩ := hcut
            replace HM := hid1 (HM.out.keep HX.out)
            replace HD := hid1 (HD.out.keep HX.out)
            have BY := bl_step HB.out HX.out
            clear HX HB b0 c0 c1 c2 c3 c4 c5 c6 c7 d0 d1
            go_wp2_with fail
            exact ⟨⟨j + 1, by omega, by go_num, HM, HD, BY⟩, by simp [intOf]; omega⟩
        · go_wp2_with fail
          go_ret
          exact ⟨rfl, hnx⟩
theorem ok_bd {m t : Int} (h : okT m t) : -2147483647 ≤ t ∧ t ≤ 2147483647 := by unfold okT at h; omega
theorem foldSays_any (gn gd bn bd mn md sn sd : Int) (ao : Option Addr) (m0 cm : Nat) (hm0 : m0 ≤ 9223372036854775807) (w : World) (L : Ln1 w ao m0) :
    Calls Try.prog 8 #[nm gn gd bn bd mn md sn sd, .slice ao m0 cm] w fun x w' => x = .returned (.bool true) ∧ Below w.heap.size w w' := by
  have HN := hid1 (norm_any gn gd bn bd mn md sn sd)
  have HF := hid1 (fold_any gn gd bn bd mn md sn sd)
  unfold foA at HF
  by_cases h : noE gn gd bn bd mn md sn sd = 0
  · rw [if_pos h, if_pos h, h] at HF
    have hP := fo_all h
    have HC := hid1 (fck_any (foM gn gd bn bd mn md sn sd) (foT gn gd bn bd mn md sn sd))
    rw [ckT_ok hP.1] at HC
    rw [h] at HN
    exact foldSays_ok gn gd bn bd mn md sn sd _ _ ao m0 cm hm0 (ok_bd hP.1).1 (ok_bd hP.1).2 HN HF HC (hid1 fun x hx w => says_any h hP hx w) w L
  · rw [if_neg h, if_neg h] at HF
    exact foldSays_no gn gd bn bd mn md sn sd ao m0 cm _ (bne_iff_ne.2 h) HN HF w
end Go.Proofs.Ytffhbfdbahdhoaa
