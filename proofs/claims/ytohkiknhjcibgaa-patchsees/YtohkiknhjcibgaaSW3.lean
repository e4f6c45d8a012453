/- SHAPES: ONE SIDE, WINDOW OF THE PROGRAM, WALKED. -/
import Derived.Test.YtohkiknhjcibgaaSW2
namespace Go.Proofs.Ytohkiknhjcibgaa.Sg
open Go.RowKit

abbrev win (r s sy sx t l b q : Int) : Value := .agg #[.int .i64 r, .int .i64 s, .int .i64 sy, .int .i64 sx, .int .i64 t, .int .i64 l, .int .i64 b, .int .i64 q]
abbrev sid (n bf af wi st : Int) : Value := .agg #[.int .i64 n, .int .i64 bf, .int .i64 af, .int .i64 wi, .int .i64 st]
/-- A window's eight cells. -/
def Wn (W : World) (g o : Nat) (r s sy sx t l b q : Int) : Prop :=
  W.cell? ⟨g, o, none⟩ = some (.int .i64 r) ∧ W.cell? ⟨g, o + 1, none⟩ = some (.int .i64 s) ∧ W.cell? ⟨g, o + 2, none⟩ = some (.int .i64 sy) ∧ W.cell? ⟨g, o + 3, none⟩ = some (.int .i64 sx) ∧
  W.cell? ⟨g, o + 4, none⟩ = some (.int .i64 t) ∧ W.cell? ⟨g, o + 5, none⟩ = some (.int .i64 l) ∧ W.cell? ⟨g, o + 6, none⟩ = some (.int .i64 b) ∧ W.cell? ⟨g, o + 7, none⟩ = some (.int .i64 q)
theorem Wn.keep {W w' : World} {g o : Nat} {r s sy sx t l b q : Int} (k : Wn W g o r s sy sx t l b q) (hb : Below W.heap.size W w') : Wn w' g o r s sy sx t l b q :=
  ⟨keepc hb k.1, keepc hb k.2.1, keepc hb k.2.2.1, keepc hb k.2.2.2.1, keepc hb k.2.2.2.2.1, keepc hb k.2.2.2.2.2.1, keepc hb k.2.2.2.2.2.2.1, keepc hb k.2.2.2.2.2.2.2⟩
theorem wn_new (W : World) (r s sy sx t l b q : Int) (T : TypeId) : Wn (W.alloc (.cells #[.int .i64 r, .int .i64 s, .int .i64 sy, .int .i64 sx, .int .i64 t, .int .i64 l, .int .i64 b, .int .i64 q] T)) W.heap.size 0 r s sy sx t l b q := by
  refine ⟨?_, ?_, ?_, ?_, ?_, ?_, ?_, ?_⟩ <;> simp [go_sem]
def SideOk (bf af wi st : Int) : Prop := (1 ≤ wi ∧ wi ≤ 15) ∧ (1 ≤ st ∧ st ≤ 15) ∧ (0 ≤ bf ∧ bf ≤ 14) ∧ (0 ≤ af ∧ af ≤ 14)
instance (a b c d : Int) : Decidable (SideOk a b c d) := by unfold SideOk; infer_instance
def mn2 (x y : Int) : Int := if y < x then y else x
def mx2 (x y : Int) : Int := if x < y then y else x
theorem mn2_is (x y : Int) : mn2 x y ≤ x ∧ mn2 x y ≤ y ∧ (mn2 x y = x ∨ mn2 x y = y) := by unfold mn2; split <;> omega
theorem mx2_is (x y : Int) : x ≤ mx2 x y ∧ y ≤ mx2 x y ∧ (mx2 x y = x ∨ mx2 x y = y) := by unfold mx2; split <;> omega
set_option maxRecDepth 100000 in
theorem rows_any (h v c r s sy sx t l b q : Int) (w : World) :
    Calls Try.prog 47 #[shp h v c, win r s sy sx t l b q] w fun e w' => e = .returned (sid h t b r sy) ∧ Below w.heap.size w w' := by
  go_enter Try.func47, Try.ntmps47
  go_wp2
  simp [bodyPost, results, Try.results47, go_sem]
  repeat (first | exact Below.refl _ _ | refine bl_alloc ?_ _ | refine Below.drew ?_ | refine bl_drewN ?_ _ | refine bl_set ?_ (by first | omega | (simp; done) | (simp; omega)) _ | refine bl_step ?_ (by assumption))
set_option maxRecDepth 100000 in
theorem cols_any (h v c r s sy sx t l b q : Int) (w : World) :
    Calls Try.prog 49 #[shp h v c, win r s sy sx t l b q] w fun e w' => e = .returned (sid v l q s sx) ∧ Below w.heap.size w w' := by
  go_enter Try.func49, Try.ntmps49
  go_wp2
  simp [bodyPost, results, Try.results49, go_sem]
  repeat (first | exact Below.refl _ _ | refine bl_alloc ?_ _ | refine Below.drew ?_ | refine bl_drewN ?_ _ | refine bl_set ?_ (by first | omega | (simp; done) | (simp; omega)) _ | refine bl_step ?_ (by assumption))
set_option maxRecDepth 100000 in
theorem may_yes (n bf af wi st m1 m2 m3 m4 : Int) (k1 : mn2 wi st = m1) (k2 : mx2 wi st = m2) (k3 : mn2 bf af = m3) (k4 : mx2 bf af = m4) (t0 : m1 ≥ 1) (t1 : m2 ≤ 15) (t2 : m3 ≥ 0) (t3 : m4 ≤ 14) (w : World) :
    Calls Try.prog 48 #[sid n bf af wi st] w fun e w' => e = .returned (.bool true) ∧ Below w.heap.size w w' := by
  unfold mn2 at k1
  unfold mx2 at k2
  unfold mn2 at k3
  unfold mx2 at k4
  go_enter Try.func48, Try.ntmps48
  go_wp2
  go_ret
  exact ⟨rfl, bl_alloc (Below.refl _ _) _⟩
set_option maxRecDepth 100000 in
theorem may_no0 (n bf af wi st m1 : Int) (k1 : mn2 wi st = m1) (t0 : ¬ m1 ≥ 1) (w : World) :
    Calls Try.prog 48 #[sid n bf af wi st] w fun e w' => e = .returned (.bool false) ∧ Below w.heap.size w w' := by
  unfold mn2 at k1
  go_enter Try.func48, Try.ntmps48
  go_wp2
  go_ret
  exact ⟨rfl, bl_alloc (Below.refl _ _) _⟩
set_option maxRecDepth 100000 in
theorem may_no1 (n bf af wi st m1 m2 : Int) (k1 : mn2 wi st = m1) (k2 : mx2 wi st = m2) (t0 : m1 ≥ 1) (t1 : ¬ m2 ≤ 15) (w : World) :
    Calls Try.prog 48 #[sid n bf af wi st] w fun e w' => e = .returned (.bool false) ∧ Below w.heap.size w w' := by
  unfold mn2 at k1
  unfold mx2 at k2
  go_enter Try.func48, Try.ntmps48
  go_wp2
  go_ret
  exact ⟨rfl, bl_alloc (Below.refl _ _) _⟩
set_option maxRecDepth 100000 in
theorem may_no2 (n bf af wi st m1 m2 m3 : Int) (k1 : mn2 wi st = m1) (k2 : mx2 wi st = m2) (k3 : mn2 bf af = m3) (t0 : m1 ≥ 1) (t1 : m2 ≤ 15) (t2 : ¬ m3 ≥ 0) (w : World) :
    Calls Try.prog 48 #[sid n bf af wi st] w fun e w' => e = .returned (.bool false) ∧ Below w.heap.size w w' := by
  unfold mn2 at k1
  unfold mx2 at k2
  unfold mn2 at k3
  go_enter Try.func48, Try.ntmps48
  go_wp2
  go_ret
  exact ⟨rfl, bl_alloc (Below.refl _ _) _⟩
set_option maxRecDepth 100000 in
theorem may_no3 (n bf af wi st m1 m2 m3 m4 : Int) (k1 : mn2 wi st = m1) (k2 : mx2 wi st = m2) (k3 : mn2 bf af = m3) (k4 : mx2 bf af = m4) (t0 : m1 ≥ 1) (t1 : m2 ≤ 15) (t2 : m3 ≥ 0) (t3 : ¬ m4 ≤ 14) (w : World) :
    Calls Try.prog 48 #[sid n bf af wi st] w fun e w' => e = .returned (.bool false) ∧ Below w.heap.size w w' := by
  unfold mn2 at k1
  unfold mx2 at k2
  unfold mn2 at k3
  unfold mx2 at k4
  go_enter Try.func48, Try.ntmps48
  go_wp2
  go_ret
  exact ⟨rfl, bl_alloc (Below.refl _ _) _⟩
theorem may_any (n bf af wi st : Int) (w : World) :
    Calls Try.prog 48 #[sid n bf af wi st] w fun e w' => e = .returned (.bool (decide (SideOk bf af wi st))) ∧ Below w.heap.size w w' := by
  have a1 := mn2_is wi st
  have a2 := mx2_is wi st
  have a3 := mn2_is bf af
  have a4 := mx2_is bf af
  by_cases hs : SideOk bf af wi st
  · rw [decide_eq_true hs]
    unfold SideOk at hs
    exact may_yes n bf af wi st _ _ _ _ rfl rfl rfl rfl (by omega) (by omega) (by omega) (by omega) w
  · rw [decide_eq_false hs]
    unfold SideOk at hs
    by_cases t0 : mn2 wi st ≥ 1
    · by_cases t1 : mx2 wi st ≤ 15
      · by_cases t2 : mn2 bf af ≥ 0
        · exact may_no3 n bf af wi st _ _ _ _ rfl rfl rfl rfl t0 t1 t2 (by omega) w
        · exact may_no2 n bf af wi st _ _ _ rfl rfl rfl t0 t1 t2 w
      · exact may_no1 n bf af wi st _ _ rfl rfl t0 t1 w
    · exact may_no0 n bf af wi st _ rfl t0 w
def stN (n bf af wi st : Int) : Int := if bf + n + af < wi then 0 else (bf + n + af - wi) / st + 1
theorem st_div (room st : Int) (h : 1 ≤ st) : (if room < 0 then 0 else room / st + 1) = mx2 0 (room + st) / st := by
  unfold mx2
  by_cases hr : room < 0
  · rw [if_pos hr]
    by_cases h2 : (0 : Int) < room + st
    · rw [if_pos h2, Int.ediv_eq_zero_of_lt (by omega) (by omega)]
    · rw [if_neg h2]; simp
  · rw [if_neg hr, if_pos (by omega)]
    rw [Int.add_ediv_of_dvd_right (Int.dvd_refl st), Int.ediv_self (by omega)]
theorem stN_is (n bf af wi st : Int) (h : 1 ≤ st) : stN n bf af wi st = mx2 0 (bf + n + af - wi + st) / st := by
  rw [← st_div _ _ h]
  unfold stN
  by_cases k : bf + n + af < wi
  · rw [if_pos k, if_pos (by omega)]
  · rw [if_neg k, if_neg (by omega)]
theorem stN_b (n bf af wi st : Int) (hn : 1 ≤ n ∧ n ≤ 4096) (hs : SideOk bf af wi st) : 0 ≤ stN n bf af wi st ∧ stN n bf af wi st ≤ 4124 := by
  obtain ⟨h1, h2, h3, h4⟩ := hs
  unfold stN
  split
  · omega
  · have a1 : 0 ≤ (bf + n + af - wi) / st := Int.ediv_nonneg (by omega) (by omega)
    have a2 : (bf + n + af - wi) / st ≤ bf + n + af - wi := Int.ediv_le_self _ (by omega)
    omega
set_option maxRecDepth 100000 in
theorem stops_any (n bf af wi st : Int) (hn : 1 ≤ n ∧ n ≤ 4096) (hs : SideOk bf af wi st) (w : World) :
    Calls Try.prog 51 #[sid n bf af wi st] w fun e w' => e = .returned (.int .i64 (stN n bf af wi st)) ∧ Below w.heap.size w w' := by
  have bd := stN_b n bf af wi st hn hs
  obtain ⟨h1, h2, h3, h4⟩ := hs
  rw [stN_is _ _ _ _ _ h2.1] at bd ⊢
  have a1 := mx2_is 0 (bf + n + af - wi + st)
  obtain ⟨m, hm⟩ : ∃ m, mx2 0 (bf + n + af - wi + st) = m := ⟨_, rfl⟩
  rw [hm] at a1 bd ⊢
  unfold mx2 at hm
  have e1 := wr_id (x := bf + n) (by omega) (by omega)
  have e2 := wr_id (x := bf + n + af) (by omega) (by omega)
  have e3 := wr_id (x := bf + n + af - wi) (by omega) (by omega)
  have e4 := wr_id (x := bf + n + af - wi + st) (by omega) (by omega)
  have s0 : ¬ st = 0 := by omega
  have q1 : Int.tdiv m st = m / st := Int.tdiv_eq_ediv_of_nonneg (by omega)
  generalize m / st = p at *
  have e5 := wr_id (x := p) (by omega) (by omega)
  go_enter Try.func51, Try.ntmps51
  go_wp2
  go_ret
  exact ⟨rfl, bl_alloc (Below.refl _ _) _⟩
def WOk (r s sy sx t l b q : Int) : Prop := SideOk t b r sy ∧ SideOk l q s sx
instance (r s sy sx t l b q : Int) : Decidable (WOk r s sy sx t l b q) := by unfold WOk; infer_instance
def wiE (r s sy sx t l b q : Int) : Int := if WOk r s sy sx t l b q then 0 else 56
set_option maxRecDepth 100000 in
theorem window_bad (r s sy sx t l b q : Int) (hs : ¬ SideOk t b r sy) (w : World) :
    Calls Try.prog 31 #[win r s sy sx t l b q] w fun e w' => e = .returned (.int .i64 56) ∧ Below w.heap.size w w' := by
  have HM := fun n => may_any n t b r sy
  rw [decide_eq_false hs] at HM
  go_enter Try.func31, Try.ntmps31
  go_wp2_with fail
  refine gen_calls (fun W => Below w.heap.size w W) (by repeat (first | exact Below.refl _ _ | refine bl_alloc ?_ _ | refine Below.drew ?_ | refine bl_drewN ?_ _ | refine bl_set ?_ (by first | omega | (simp; done) | (simp; omega)) _ | refine bl_step ?_ (by assumption))) ?_
  rintro W B0
  refine (rows_any 0 0 0 r s sy sx t l b q W).mono ?_
  rintro e w1 ⟨rfl, hb1⟩
  go_wp2_with fail
  refine (HM _ w1).mono ?_
  rintro e w2 ⟨rfl, hb2⟩
  go_wp2_with fail
  go_ret
  exact ⟨rfl, bl_step (bl_step B0 hb1) hb2⟩
set_option maxRecDepth 100000 in
theorem window_two (r s sy sx t l b q : Int) (hs : SideOk t b r sy) (w : World) :
    Calls Try.prog 31 #[win r s sy sx t l b q] w fun e w' => e = .returned (.int .i64 (if SideOk l q s sx then 0 else 56)) ∧ Below w.heap.size w w' := by
  have HM := fun n => may_any n t b r sy
  rw [decide_eq_true hs] at HM
  have HN := fun n => may_any n l q s sx
  obtain ⟨x, hx⟩ : ∃ x, decide (SideOk l q s sx) = x := ⟨_, rfl⟩
  have fin : (if SideOk l q s sx then (0 : Int) else 56) = if x = true then 0 else 56 := by rw [← hx]; simp
  rw [fin]
  rw [hx] at HN
  clear fin hx
  go_enter Try.func31, Try.ntmps31
  go_wp2_with fail
  refine gen_calls (fun W => Below w.heap.size w W ∧ Wn W w.heap.size 0 r s sy sx t l b q ∧ Sh W (w.heap.size + 1) 0 0 0 0) ⟨by repeat (first | exact Below.refl _ _ | refine bl_alloc ?_ _ | refine Below.drew ?_ | refine bl_drewN ?_ _ | refine bl_set ?_ (by first | omega | (simp; done) | (simp; omega)) _ | refine bl_step ?_ (by assumption)), by unfold Wn; refine ⟨?_, ?_, ?_, ?_, ?_, ?_, ?_, ?_⟩ <;> simp [go_sem], by unfold Sh; refine ⟨?_, ?_, ?_⟩ <;> simp [go_sem]⟩ ?_
  rintro W ⟨B0, W0, S0⟩
  refine (rows_any 0 0 0 r s sy sx t l b q W).mono ?_
  rintro e w1 ⟨rfl, hb1⟩
  replace W0 := W0.keep hb1
  replace S0 := S0.keep hb1
  replace B0 := bl_step B0 hb1
  clear hb1
  go_wp2_with fail
  refine (HM _ w1).mono ?_
  rintro e w2 ⟨rfl, hb2⟩
  replace W0 := W0.keep hb2
  replace S0 := S0.keep hb2
  replace B0 := bl_step B0 hb2
  clear hb2
  obtain ⟨x0, x1, x2, x3, x4, x5, x6, x7⟩ := W0
  obtain ⟨y0, y1, y2⟩ := S0
  go_wp2_with fail
  refine (cols_any 0 0 0 r s sy sx t l b q w2).mono ?_
  rintro e w3 ⟨rfl, hb3⟩
  replace B0 := bl_step B0 hb3
  clear x0 x1 x2 x3 x4 x5 x6 x7 y0 y1 y2 hb3
  go_wp2_with fail
  refine (HN _ w3).mono ?_
  rintro e w4 ⟨rfl, hb4⟩
  cases x
  · go_wp2_with fail
    go_ret
    exact ⟨rfl, bl_step B0 hb4⟩
  · go_wp2_with fail
    go_ret
    exact ⟨rfl, bl_step B0 hb4⟩
theorem window_any (r s sy sx t l b q : Int) (w : World) :
    Calls Try.prog 31 #[win r s sy sx t l b q] w fun e w' => e = .returned (.int .i64 (wiE r s sy sx t l b q)) ∧ Below w.heap.size w w' := by
  unfold wiE
  by_cases hs : SideOk t b r sy
  · have e : (if WOk r s sy sx t l b q then (0 : Int) else 56) = if SideOk l q s sx then 0 else 56 := by
      by_cases h2 : SideOk l q s sx
      · rw [if_pos h2, if_pos ⟨hs, h2⟩]
      · rw [if_neg h2, if_neg (fun k => h2 k.2)]
    rw [e]; exact window_two r s sy sx t l b q hs w
  · rw [if_neg (fun k => hs k.1)]; exact window_bad r s sy sx t l b q hs w
end Go.Proofs.Ytohkiknhjcibgaa.Sg
