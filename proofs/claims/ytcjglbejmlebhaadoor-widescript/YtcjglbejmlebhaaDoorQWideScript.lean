import Derived.Test.YtcjglbejmlebhaaDoorQA
import Derived.BigRegion
import Derived.Test.YtcjglbejmlebhaaDoorWP1
import Derived.Test.YtcjglbejmlebhaaDoorCards
import Derived.Test.YtcjglbejmlebhaaDoorTie
import Derived.SevenTiedAt
/- ONE STEP OF A SCRIPT: parts, times, texts. -/
namespace Go.Proofs.YtcjglbejmlebhaaDoor
open Go.RowKit Go.Shelf
attribute [local go_sem ↓] Go.wp_at_zero Go.wp_at_succ

abbrev opv (K a b n : Int) (t : ByteArray) : Value := .agg #[.int .i64 K, .int .i64 (hiOf a), .int .u64 (loOf a), .int .i64 (hiOf b), .int .u64 (loOf b), .int .i64 n, .string t]
/-- A step's seven cells. -/
def Ob (W : World) (g o : Nat) (K a b n : Int) (t : ByteArray) : Prop := W.cell? ⟨g, o, none⟩ = some (.int .i64 K) ∧ W.cell? ⟨g, o + 1, none⟩ = some (.int .i64 (hiOf a)) ∧ W.cell? ⟨g, o + 2, none⟩ = some (.int .u64 (loOf a)) ∧ W.cell? ⟨g, o + 3, none⟩ = some (.int .i64 (hiOf b)) ∧ W.cell? ⟨g, o + 4, none⟩ = some (.int .u64 (loOf b)) ∧ W.cell? ⟨g, o + 5, none⟩ = some (.int .i64 n) ∧ W.cell? ⟨g, o + 6, none⟩ = some (.string t)
theorem Ob.keep {W X : World} {g o : Nat} {K a b n : Int} {t : ByteArray} (h : Ob W g o K a b n t) (hb : Below W.heap.size W X) : Ob X g o K a b n t := by
  obtain ⟨h0, h1, h2, h3, h4, h5, h6⟩ := h
  exact ⟨keepc hb h0, keepc hb h1, keepc hb h2, keepc hb h3, keepc hb h4, keepc hb h5, keepc hb h6⟩
theorem ob_new {W : World} {T : TypeId} {g : Nat} {K a b n : Int} {t : ByteArray} (hg : W.heap.size = g) : Ob (W.alloc (.cells #[.int .i64 K, .int .i64 (hiOf a), .int .u64 (loOf a), .int .i64 (hiOf b), .int .u64 (loOf b), .int .i64 n, .string t] T)) g 0 K a b n t := by
  subst hg
  refine ⟨?_, ?_, ?_, ?_, ?_, ?_, ?_⟩ <;> simp [go_sem]
set_option maxHeartbeats 6400000 in
set_option maxRecDepth 100000 in
theorem sparts_any (K a b n : Int) (t : ByteArray) (ra : Rng a) (_rb : Rng b) (rn : I64 n) (_ht : t.size ≤ 281474976710656) (w : World) (L : Laid w) :
    Calls Tryd.prog 58 #[opv K a b n t] w fun e w' => e = .returned (.bool true) ∧ Below w.heap.size w w' := by
  obtain ⟨fv, fe, p1, p2⟩ := both_floor a n ra rn
  obtain ⟨cv, ce, p3, p4⟩ := both_ceil a n ra rn
  have H1 := hid1 p1
  have H2 := hid1 p2
  have H3 := hid1 p3
  have H4 := hid1 p4
  clear p1 p2 p3 p4
  have HL := hid1 L
  clear L
  go_enter Tryd.func58, Tryd.ntmps58
  go_wp2_with fail
  refine gen_calls (fun W' => Below w.heap.size w W' ∧ Hid (Ob W' w.heap.size 0 K a b n t)) ⟨by repeat (first | (with_reducible exact Below.refl _ _) | (with_reducible refine bl_alloc ?_ _) | (with_reducible refine Below.drew ?_) | (with_reducible refine bl_drewN ?_ _) | (with_reducible refine bl_set ?_ (by omega) _) | (with_reducible refine bl_step ?_ (by assumption))), hid1 (ob_new rfl)⟩ ?_
  rintro W0 ⟨B0, HO⟩
  refine (H1.out _).mono ?_
  rintro e w1 ⟨rfl, hb⟩
  replace HO := hid1 (HO.out.keep hb)
  have B1 : Below w.heap.size w w1 := bl_step B0 hb
  clear hb B0
  obtain ⟨h0, h1, h2, h3, h4, h5, h6⟩ := HO.out
  simp only [Nat.zero_add] at h1 h2 h3 h4 h5 h6
  have zo := lt_of_cell h0
  go_wp2_with fail
  refine gen_calls (fun W' => Below w.heap.size w W' ∧ Below w1.heap.size w1 W' ∧ Hid (Sv W' w1.heap.size (.int .i64 (hiOf fv)) (.int .u64 (loOf fv)))) ⟨by repeat (first | (with_reducible exact Below.refl _ _) | (with_reducible refine bl_alloc ?_ _) | (with_reducible refine Below.drew ?_) | (with_reducible refine bl_drewN ?_ _) | (with_reducible refine bl_set ?_ (by omega) _) | (with_reducible refine bl_step ?_ (by assumption))), by repeat (first | (with_reducible exact Below.refl _ _) | (with_reducible refine bl_alloc ?_ _) | (with_reducible refine Below.drew ?_) | (with_reducible refine bl_drewN ?_ _) | (with_reducible refine bl_set ?_ (by omega) _) | (with_reducible refine bl_step ?_ (by assumption))), hid1 (sv_new rfl)⟩ ?_
  rintro W1 ⟨C1, bb, S1⟩
  replace HO := hid1 (HO.out.keep bb)
  clear bb B1 zo h0 h1 h2 h3 h4 h5 h6
  refine (H2.out _).mono ?_
  rintro e w2 ⟨rfl, hb⟩
  replace HO := hid1 (HO.out.keep hb)
  replace S1 := hid1 (S1.out.keep hb)
  have B2 : Below w.heap.size w w2 := bl_step C1 hb
  clear hb C1
  obtain ⟨h0, h1, h2, h3, h4, h5, h6⟩ := HO.out
  simp only [Nat.zero_add] at h1 h2 h3 h4 h5 h6
  have zo := lt_of_cell h0
  go_wp2_with fail
  refine gen_calls (fun W' => Below w.heap.size w W' ∧ Below w2.heap.size w2 W' ∧ Hid (Sv W' w2.heap.size (.int .i64 (hiOf fv)) (.int .u64 (loOf fv)))) ⟨by repeat (first | (with_reducible exact Below.refl _ _) | (with_reducible refine bl_alloc ?_ _) | (with_reducible refine Below.drew ?_) | (with_reducible refine bl_drewN ?_ _) | (with_reducible refine bl_set ?_ (by omega) _) | (with_reducible refine bl_step ?_ (by assumption))), by repeat (first | (with_reducible exact Below.refl _ _) | (with_reducible refine bl_alloc ?_ _) | (with_reducible refine Below.drew ?_) | (with_reducible refine bl_drewN ?_ _) | (with_reducible refine bl_set ?_ (by omega) _) | (with_reducible refine bl_step ?_ (by assumption))), hid1 (sv_new rfl)⟩ ?_
  rintro W2 ⟨C2, bb, S2⟩
  replace HO := hid1 (HO.out.keep bb)
  replace S1 := hid1 (S1.out.keep bb)
  clear bb B2 zo h0 h1 h2 h3 h4 h5 h6
  refine (H3.out _).mono ?_
  rintro e w3 ⟨rfl, hb⟩
  replace HO := hid1 (HO.out.keep hb)
  replace S1 := hid1 (S1.out.keep hb)
  replace S2 := hid1 (S2.out.keep hb)
  have B3 : Below w.heap.size w w3 := bl_step C2 hb
  clear hb C2
  obtain ⟨h0, h1, h2, h3, h4, h5, h6⟩ := HO.out
  simp only [Nat.zero_add] at h1 h2 h3 h4 h5 h6
  have zo := lt_of_cell h0
  go_wp2_with fail
  refine gen_calls (fun W' => Below w.heap.size w W' ∧ Below w3.heap.size w3 W' ∧ Hid (Sv W' w3.heap.size (.int .i64 (hiOf cv)) (.int .u64 (loOf cv)))) ⟨by repeat (first | (with_reducible exact Below.refl _ _) | (with_reducible refine bl_alloc ?_ _) | (with_reducible refine Below.drew ?_) | (with_reducible refine bl_drewN ?_ _) | (with_reducible refine bl_set ?_ (by omega) _) | (with_reducible refine bl_step ?_ (by assumption))), by repeat (first | (with_reducible exact Below.refl _ _) | (with_reducible refine bl_alloc ?_ _) | (with_reducible refine Below.drew ?_) | (with_reducible refine bl_drewN ?_ _) | (with_reducible refine bl_set ?_ (by omega) _) | (with_reducible refine bl_step ?_ (by assumption))), hid1 (sv_new rfl)⟩ ?_
  rintro W3 ⟨C3, bb, S3⟩
  replace HO := hid1 (HO.out.keep bb)
  replace S1 := hid1 (S1.out.keep bb)
  replace S2 := hid1 (S2.out.keep bb)
  clear bb B3 zo h0 h1 h2 h3 h4 h5 h6
  refine (H4.out _).mono ?_
  rintro e w4 ⟨rfl, hb⟩
  replace S1 := hid1 (S1.out.keep hb)
  replace S2 := hid1 (S2.out.keep hb)
  replace S3 := hid1 (S3.out.keep hb)
  have B4 : Below w.heap.size w w4 := bl_step C3 hb
  clear hb C3
  obtain ⟨x0a, x0b, _, _⟩ := S1.out
  have zz0 := lt_of_cell x0a
  obtain ⟨x1a, x1b, _, _⟩ := S2.out
  have zz1 := lt_of_cell x1a
  obtain ⟨x2a, x2b, _, _⟩ := S3.out
  have zz2 := lt_of_cell x2a
  clear HO S1 S2 S3
  go_wp2_with fail
  go_ret
  exact ⟨rfl, by repeat (first | (with_reducible exact Below.refl _ _) | (with_reducible refine bl_alloc ?_ _) | (with_reducible refine Below.drew ?_) | (with_reducible refine bl_drewN ?_ _) | (with_reducible refine bl_set ?_ (by omega) _) | (with_reducible refine bl_step ?_ (by assumption)))⟩
set_option maxHeartbeats 6400000 in
set_option maxRecDepth 100000 in
theorem stimes_any (K a b n : Int) (t : ByteArray) (ra : Rng a) (_rb : Rng b) (rn : I64 n) (_ht : t.size ≤ 281474976710656) (w : World) (L : Laid w) :
    Calls Tryd.prog 57 #[opv K a b n t] w fun e w' => e = .returned (.bool true) ∧ Below w.heap.size w w' := by
  obtain ⟨x, ex⟩ : ∃ x, wrap64 (loOf a) = x := ⟨_, rfl⟩
  have rx : I64 x := by rw [← ex]; exact wrap_i64 _
  have H1 := hid1 (fun w => of_any n rn w)
  have H2 := hid1 (fun w => rof_any n rn w)
  have H3 := hid1 (fun w => scale_any a n ra rn w)
  have H4 := hid1 (fun w => rscale_any a n ra rn w)
  have H5 := hid1 (fun w => mul_any n x rn rx w)
  have H6 := hid1 (fun w => rproduct_any n x rn rx w)
  clear rx
  have HL := hid1 L
  clear L
  go_enter Tryd.func57, Tryd.ntmps57
  go_wp2_with fail
  refine gen_calls (fun W' => Below w.heap.size w W' ∧ Hid (Ob W' w.heap.size 0 K a b n t)) ⟨by repeat (first | (with_reducible exact Below.refl _ _) | (with_reducible refine bl_alloc ?_ _) | (with_reducible refine Below.drew ?_) | (with_reducible refine bl_drewN ?_ _) | (with_reducible refine bl_set ?_ (by omega) _) | (with_reducible refine bl_step ?_ (by assumption))), hid1 (ob_new rfl)⟩ ?_
  rintro W0 ⟨B0, HO⟩
  refine (H1.out _).mono ?_
  rintro e w1 ⟨rfl, hb⟩
  replace HO := hid1 (HO.out.keep hb)
  have B1 : Below w.heap.size w w1 := bl_step B0 hb
  clear hb B0
  obtain ⟨h0, h1, h2, h3, h4, h5, h6⟩ := HO.out
  simp only [Nat.zero_add] at h1 h2 h3 h4 h5 h6
  have zo := lt_of_cell h0
  go_wp2_with fail
  refine gen_calls (fun W' => Below w.heap.size w W' ∧ Below w1.heap.size w1 W' ∧ Hid (Sv W' w1.heap.size (.int .i64 (hiOf n)) (.int .u64 (loOf n)))) ⟨by repeat (first | (with_reducible exact Below.refl _ _) | (with_reducible refine bl_alloc ?_ _) | (with_reducible refine Below.drew ?_) | (with_reducible refine bl_drewN ?_ _) | (with_reducible refine bl_set ?_ (by omega) _) | (with_reducible refine bl_step ?_ (by assumption))), by repeat (first | (with_reducible exact Below.refl _ _) | (with_reducible refine bl_alloc ?_ _) | (with_reducible refine Below.drew ?_) | (with_reducible refine bl_drewN ?_ _) | (with_reducible refine bl_set ?_ (by omega) _) | (with_reducible refine bl_step ?_ (by assumption))), hid1 (sv_new rfl)⟩ ?_
  rintro W1 ⟨C1, bb, S1⟩
  replace HO := hid1 (HO.out.keep bb)
  clear bb B1 zo h0 h1 h2 h3 h4 h5 h6
  refine (H2.out _).mono ?_
  rintro e w2 ⟨rfl, hb⟩
  replace HO := hid1 (HO.out.keep hb)
  replace S1 := hid1 (S1.out.keep hb)
  have B2 : Below w.heap.size w w2 := bl_step C1 hb
  clear hb C1
  obtain ⟨h0, h1, h2, h3, h4, h5, h6⟩ := HO.out
  simp only [Nat.zero_add] at h1 h2 h3 h4 h5 h6
  have zo := lt_of_cell h0
  go_wp2_with fail
  refine gen_calls (fun W' => Below w.heap.size w W' ∧ Below w2.heap.size w2 W' ∧ Hid (Sv W' w2.heap.size (.int .i64 (hiOf n)) (.int .u64 (loOf n)))) ⟨by repeat (first | (with_reducible exact Below.refl _ _) | (with_reducible refine bl_alloc ?_ _) | (with_reducible refine Below.drew ?_) | (with_reducible refine bl_drewN ?_ _) | (with_reducible refine bl_set ?_ (by omega) _) | (with_reducible refine bl_step ?_ (by assumption))), by repeat (first | (with_reducible exact Below.refl _ _) | (with_reducible refine bl_alloc ?_ _) | (with_reducible refine Below.drew ?_) | (with_reducible refine bl_drewN ?_ _) | (with_reducible refine bl_set ?_ (by omega) _) | (with_reducible refine bl_step ?_ (by assumption))), hid1 (sv_new rfl)⟩ ?_
  rintro W2 ⟨C2, bb, S2⟩
  replace HO := hid1 (HO.out.keep bb)
  replace S1 := hid1 (S1.out.keep bb)
  clear bb B2 zo h0 h1 h2 h3 h4 h5 h6
  refine (H3.out _).mono ?_
  rintro e w3 ⟨rfl, hb⟩
  replace HO := hid1 (HO.out.keep hb)
  replace S1 := hid1 (S1.out.keep hb)
  replace S2 := hid1 (S2.out.keep hb)
  have B3 : Below w.heap.size w w3 := bl_step C2 hb
  clear hb C2
  obtain ⟨h0, h1, h2, h3, h4, h5, h6⟩ := HO.out
  simp only [Nat.zero_add] at h1 h2 h3 h4 h5 h6
  have zo := lt_of_cell h0
  go_wp2_with fail
  refine gen_calls (fun W' => Below w.heap.size w W' ∧ Below w3.heap.size w3 W' ∧ Hid (Sv W' w3.heap.size (.int .i64 (hiOf (fitV (a * n)))) (.int .u64 (loOf (fitV (a * n)))))) ⟨by repeat (first | (with_reducible exact Below.refl _ _) | (with_reducible refine bl_alloc ?_ _) | (with_reducible refine Below.drew ?_) | (with_reducible refine bl_drewN ?_ _) | (with_reducible refine bl_set ?_ (by omega) _) | (with_reducible refine bl_step ?_ (by assumption))), by repeat (first | (with_reducible exact Below.refl _ _) | (with_reducible refine bl_alloc ?_ _) | (with_reducible refine Below.drew ?_) | (with_reducible refine bl_drewN ?_ _) | (with_reducible refine bl_set ?_ (by omega) _) | (with_reducible refine bl_step ?_ (by assumption))), hid1 (sv_new rfl)⟩ ?_
  rintro W3 ⟨C3, bb, S3⟩
  replace HO := hid1 (HO.out.keep bb)
  replace S1 := hid1 (S1.out.keep bb)
  replace S2 := hid1 (S2.out.keep bb)
  clear bb B3 zo h0 h1 h2 h3 h4 h5 h6
  refine (H4.out _).mono ?_
  rintro e w4 ⟨rfl, hb⟩
  replace HO := hid1 (HO.out.keep hb)
  replace S1 := hid1 (S1.out.keep hb)
  replace S2 := hid1 (S2.out.keep hb)
  replace S3 := hid1 (S3.out.keep hb)
  have B4 : Below w.heap.size w w4 := bl_step C3 hb
  clear hb C3
  obtain ⟨h0, h1, h2, h3, h4, h5, h6⟩ := HO.out
  simp only [Nat.zero_add] at h1 h2 h3 h4 h5 h6
  have zo := lt_of_cell h0
  go_wp2_with fail
  refine gen_calls (fun W' => Below w.heap.size w W' ∧ Below w4.heap.size w4 W' ∧ Hid (Sv W' w4.heap.size (.int .i64 (hiOf (fitV (a * n)))) (.int .u64 (loOf (fitV (a * n)))))) ⟨by repeat (first | (with_reducible exact Below.refl _ _) | (with_reducible refine bl_alloc ?_ _) | (with_reducible refine Below.drew ?_) | (with_reducible refine bl_drewN ?_ _) | (with_reducible refine bl_set ?_ (by omega) _) | (with_reducible refine bl_step ?_ (by assumption))), by repeat (first | (with_reducible exact Below.refl _ _) | (with_reducible refine bl_alloc ?_ _) | (with_reducible refine Below.drew ?_) | (with_reducible refine bl_drewN ?_ _) | (with_reducible refine bl_set ?_ (by omega) _) | (with_reducible refine bl_step ?_ (by assumption))), hid1 (sv_new rfl)⟩ ?_
  rintro W4 ⟨C4, bb, S4⟩
  replace HO := hid1 (HO.out.keep bb)
  replace S1 := hid1 (S1.out.keep bb)
  replace S2 := hid1 (S2.out.keep bb)
  replace S3 := hid1 (S3.out.keep bb)
  clear bb B4 zo h0 h1 h2 h3 h4 h5 h6
  refine (H5.out _).mono ?_
  rintro e w5 ⟨rfl, hb⟩
  replace HO := hid1 (HO.out.keep hb)
  replace S1 := hid1 (S1.out.keep hb)
  replace S2 := hid1 (S2.out.keep hb)
  replace S3 := hid1 (S3.out.keep hb)
  replace S4 := hid1 (S4.out.keep hb)
  have B5 : Below w.heap.size w w5 := bl_step C4 hb
  clear hb C4
  obtain ⟨h0, h1, h2, h3, h4, h5, h6⟩ := HO.out
  simp only [Nat.zero_add] at h1 h2 h3 h4 h5 h6
  have zo := lt_of_cell h0
  go_wp2_with fail
  refine gen_calls (fun W' => Below w.heap.size w W' ∧ Below w5.heap.size w5 W' ∧ Hid (Sv W' w5.heap.size (.int .i64 (hiOf (n * x))) (.int .u64 (loOf (n * x))))) ⟨by repeat (first | (with_reducible exact Below.refl _ _) | (with_reducible refine bl_alloc ?_ _) | (with_reducible refine Below.drew ?_) | (with_reducible refine bl_drewN ?_ _) | (with_reducible refine bl_set ?_ (by omega) _) | (with_reducible refine bl_step ?_ (by assumption))), by repeat (first | (with_reducible exact Below.refl _ _) | (with_reducible refine bl_alloc ?_ _) | (with_reducible refine Below.drew ?_) | (with_reducible refine bl_drewN ?_ _) | (with_reducible refine bl_set ?_ (by omega) _) | (with_reducible refine bl_step ?_ (by assumption))), hid1 (sv_new rfl)⟩ ?_
  rintro W5 ⟨C5, bb, S5⟩
  replace HO := hid1 (HO.out.keep bb)
  replace S1 := hid1 (S1.out.keep bb)
  replace S2 := hid1 (S2.out.keep bb)
  replace S3 := hid1 (S3.out.keep bb)
  replace S4 := hid1 (S4.out.keep bb)
  clear bb B5 zo h0 h1 h2 h3 h4 h5 h6
  refine (H6.out _).mono ?_
  rintro e w6 ⟨rfl, hb⟩
  replace S1 := hid1 (S1.out.keep hb)
  replace S2 := hid1 (S2.out.keep hb)
  replace S3 := hid1 (S3.out.keep hb)
  replace S4 := hid1 (S4.out.keep hb)
  replace S5 := hid1 (S5.out.keep hb)
  have B6 : Below w.heap.size w w6 := bl_step C5 hb
  clear hb C5
  obtain ⟨x0a, x0b, _, _⟩ := S1.out
  have zz0 := lt_of_cell x0a
  obtain ⟨x1a, x1b, _, _⟩ := S2.out
  have zz1 := lt_of_cell x1a
  obtain ⟨x2a, x2b, _, _⟩ := S3.out
  have zz2 := lt_of_cell x2a
  obtain ⟨x3a, x3b, _, _⟩ := S4.out
  have zz3 := lt_of_cell x3a
  obtain ⟨x4a, x4b, _, _⟩ := S5.out
  have zz4 := lt_of_cell x4a
  clear HO S1 S2 S3 S4 S5
  go_wp2_with fail
  go_ret
  exact ⟨rfl, by repeat (first | (with_reducible exact Below.refl _ _) | (with_reducible refine bl_alloc ?_ _) | (with_reducible refine Below.drew ?_) | (with_reducible refine bl_drewN ?_ _) | (with_reducible refine bl_set ?_ (by omega) _) | (with_reducible refine bl_step ?_ (by assumption)))⟩
set_option maxHeartbeats 6400000 in
set_option maxRecDepth 100000 in
theorem stexts_any (K a b n : Int) (t : ByteArray) (ra : Rng a) (_rb : Rng b) (_rn : I64 n) (ht : t.size ≤ 281474976710656) (w : World) (L : Laid w) :
    Calls Tryd.prog 59 #[opv K a b n t] w fun e w' => e = .returned (.bool true) ∧ Below w.heap.size w w' := by
  obtain ⟨s, p1, p2⟩ := both_show a ra
  obtain ⟨v, er, p3, p4⟩ := both_read t ht
  have H1 := hid1 p1
  have H2 := hid1 p2
  have H3 := hid1 p3
  have H4 := hid1 p4
  clear p1 p2 p3 p4
  have HL := hid1 L
  clear L
  go_enter Tryd.func59, Tryd.ntmps59
  go_wp2_with fail
  refine gen_calls (fun W' => Below w.heap.size w W' ∧ Hid (Ob W' w.heap.size 0 K a b n t)) ⟨by repeat (first | (with_reducible exact Below.refl _ _) | (with_reducible refine bl_alloc ?_ _) | (with_reducible refine Below.drew ?_) | (with_reducible refine bl_drewN ?_ _) | (with_reducible refine bl_set ?_ (by omega) _) | (with_reducible refine bl_step ?_ (by assumption))), hid1 (ob_new rfl)⟩ ?_
  rintro W0 ⟨B0, HO⟩
  refine (H1.out _ (HL.out.on B0)).mono ?_
  rintro e w1 ⟨rfl, hb⟩
  replace HO := hid1 (HO.out.keep hb)
  have B1 : Below w.heap.size w w1 := bl_step B0 hb
  clear hb B0
  obtain ⟨h0, h1, h2, h3, h4, h5, h6⟩ := HO.out
  simp only [Nat.zero_add] at h1 h2 h3 h4 h5 h6
  have zo := lt_of_cell h0
  go_wp2_with fail
  clear zo h0 h1 h2 h3 h4 h5 h6
  refine (H2.out _).mono ?_
  rintro e w2 ⟨rfl, hb⟩
  replace HO := hid1 (HO.out.keep hb)
  have B2 : Below w.heap.size w w2 := bl_step B1 hb
  clear hb B1
  obtain ⟨h0, h1, h2, h3, h4, h5, h6⟩ := HO.out
  simp only [Nat.zero_add] at h1 h2 h3 h4 h5 h6
  have zo := lt_of_cell h0
  go_wp2_with fail
  clear zo h0 h1 h2 h3 h4 h5 h6
  refine (H3.out _ (HL.out.on B2)).mono ?_
  rintro e w3 ⟨rfl, hb⟩
  replace HO := hid1 (HO.out.keep hb)
  have B3 : Below w.heap.size w w3 := bl_step B2 hb
  clear hb B2
  obtain ⟨h0, h1, h2, h3, h4, h5, h6⟩ := HO.out
  simp only [Nat.zero_add] at h1 h2 h3 h4 h5 h6
  have zo := lt_of_cell h0
  go_wp2_with fail
  refine gen_calls (fun W' => Below w.heap.size w W' ∧ Below w3.heap.size w3 W' ∧ Hid (Sv W' w3.heap.size (.int .i64 (hiOf v)) (.int .u64 (loOf v)))) ⟨by repeat (first | (with_reducible exact Below.refl _ _) | (with_reducible refine bl_alloc ?_ _) | (with_reducible refine Below.drew ?_) | (with_reducible refine bl_drewN ?_ _) | (with_reducible refine bl_set ?_ (by omega) _) | (with_reducible refine bl_step ?_ (by assumption))), by repeat (first | (with_reducible exact Below.refl _ _) | (with_reducible refine bl_alloc ?_ _) | (with_reducible refine Below.drew ?_) | (with_reducible refine bl_drewN ?_ _) | (with_reducible refine bl_set ?_ (by omega) _) | (with_reducible refine bl_step ?_ (by assumption))), hid1 (sv_new rfl)⟩ ?_
  rintro W3 ⟨C3, bb, S3⟩
  replace HO := hid1 (HO.out.keep bb)
  clear bb B3 zo h0 h1 h2 h3 h4 h5 h6
  refine (H4.out _).mono ?_
  rintro e w4 ⟨rfl, hb⟩
  replace S3 := hid1 (S3.out.keep hb)
  have B4 : Below w.heap.size w w4 := bl_step C3 hb
  clear hb C3
  obtain ⟨x0a, x0b, _, _⟩ := S3.out
  have zz0 := lt_of_cell x0a
  clear HO S3
  go_wp2_with fail
  go_ret
  exact ⟨rfl, by repeat (first | (with_reducible exact Below.refl _ _) | (with_reducible refine bl_alloc ?_ _) | (with_reducible refine Below.drew ?_) | (with_reducible refine bl_drewN ?_ _) | (with_reducible refine bl_set ?_ (by omega) _) | (with_reducible refine bl_step ?_ (by assumption)))⟩
end Go.Proofs.YtcjglbejmlebhaaDoor
/- ONE STEP OF A SCRIPT: sums. -/
namespace Go.Proofs.YtcjglbejmlebhaaDoor
open Go.RowKit Go.Shelf
attribute [local go_sem ↓] Go.wp_at_zero Go.wp_at_succ

theorem kob {W X : World} {g : Nat} {K a b n : Int} {t : ByteArray} (h : Ob W g 0 K a b n t) (hb : Below W.heap.size W X) :
    X.cell? ⟨g, 1, none⟩ = some (.int .i64 (hiOf a)) ∧ X.cell? ⟨g, 2, none⟩ = some (.int .u64 (loOf a)) ∧ X.cell? ⟨g, 3, none⟩ = some (.int .i64 (hiOf b)) ∧ X.cell? ⟨g, 4, none⟩ = some (.int .u64 (loOf b)) := by
  obtain ⟨h0, h1, h2, h3, h4, h5, h6⟩ := h.keep hb
  simp only [Nat.zero_add] at h1 h2 h3 h4
  exact ⟨h1, h2, h3, h4⟩
theorem padd_any (a b : Int) (ha : Rng a) (hb : Rng b) (w : World) : Calls Tryd.prog 20 #[wv a, wv b] w fun e' w' => e' = .returned (.tuple #[wv (fitV (a + b)), .int .i64 (errV (a + b))]) ∧ Below w.heap.size w w' := by
  by_cases h : Rng (a + b)
  · rw [(fit_in h).1, (fit_in h).2]; exact wadd_ok a b h w
  · rw [(fit_out h).1, (fit_out h).2]; exact wadd_no a b ha hb h w
theorem fit_rng (n : Int) : Rng (fitV n) := by
  by_cases h : Rng n
  · rw [(fit_in h).1]; exact h
  · rw [(fit_out h).1]; unfold Rng; omega
set_option maxHeartbeats 6400000 in
set_option maxRecDepth 100000 in
/-- sums answers a number and that all is right. -/
theorem ssums_any (K a b n : Int) (t : ByteArray) (ra : Rng a) (rb : Rng b) : ∃ v : Int, Rng v ∧ ∀ w : World,
    Calls Tryd.prog 56 #[opv K a b n t] w fun e w' => e = .returned (.tuple #[wv v, .bool true]) ∧ Below w.heap.size w w' := by
  obtain ⟨sv, esv⟩ : ∃ v, fitV (a + b) = v := ⟨_, rfl⟩
  obtain ⟨se, ese⟩ : ∃ v, errV (a + b) = v := ⟨_, rfl⟩
  have H1 := hid1 (fun w => padd_any a b ra rb w)
  have H2 := hid1 (fun w => rsum_any a b ra rb w)
  rw [esv, ese] at H1 H2
  have H3 := hid1 (fun w => neg_any a ra w)
  have H4 := hid1 (fun w => ropposite_any a ra w)
  have H5 := hid1 (fun w => fit64_any a ra w)
  have H6 := hid1 (fun w => rfit64_any a ra w)
  have H7 := hid1 (fun w => cmp_any a b w)
  have HCM := hid1 (fun (x y : Value) (w : World) (hx : Bg w x a) (hy : Bg w y b) => rcmp_cmp a b ra rb x y w hx hy)
  have HWA := hid1 (fun w => rwide_any a ra w)
  have HWB := hid1 (fun w => rwide_any b rb w)
  refine ⟨sv, ?_, ?_⟩
  · rw [← esv]; exact fit_rng _
  clear ra rb esv ese
  intro w
  go_enter Tryd.func56, Tryd.ntmps56
  go_wp2_with fail
  refine gen_calls (fun W' => Below w.heap.size w W' ∧ Hid (Ob W' w.heap.size 0 K a b n t) ∧ Hid (Zw W' (w.heap.size + 1))) ⟨by repeat (first | (with_reducible exact Below.refl _ _) | (with_reducible refine bl_alloc ?_ _) | (with_reducible refine Below.drew ?_) | (with_reducible refine bl_drewN ?_ _) | (with_reducible refine bl_set ?_ (by omega) _) | (with_reducible refine bl_step ?_ (by assumption))), hid1 ((ob_new rfl).keep (bl_alloc (Below.refl _ _) _)), hid1 (zw_new (by simp))⟩ ?_
  rintro W0 ⟨B0, HO, HR⟩
  refine (H1.out _).mono ?_
  rintro e w1 ⟨rfl, hb⟩
  replace HO := hid1 (HO.out.keep hb)
  replace HR := hid1 (HR.out.keep hb)
  have B1 : Below w.heap.size w w1 := bl_step B0 hb
  clear hb B0
  obtain ⟨h0, h1, h2, h3, h4, h5, h6⟩ := HO.out
  simp only [Nat.zero_add] at h1 h2 h3 h4 h5 h6
  have zo := lt_of_cell h0
  go_wp2_with fail
  refine gen_calls (fun W' => Below w.heap.size w W' ∧ Below w1.heap.size w1 W' ∧ Hid (Sv W' w1.heap.size (.int .i64 (hiOf sv)) (.int .u64 (loOf sv)))) ⟨by repeat (first | (with_reducible exact Below.refl _ _) | (with_reducible refine bl_alloc ?_ _) | (with_reducible refine Below.drew ?_) | (with_reducible refine bl_drewN ?_ _) | (with_reducible refine bl_set ?_ (by omega) _) | (with_reducible refine bl_step ?_ (by assumption))), by repeat (first | (with_reducible exact Below.refl _ _) | (with_reducible refine bl_alloc ?_ _) | (with_reducible refine Below.drew ?_) | (with_reducible refine bl_drewN ?_ _) | (with_reducible refine bl_set ?_ (by omega) _) | (with_reducible refine bl_step ?_ (by assumption))), hid1 (sv_new rfl)⟩ ?_
  rintro W1 ⟨C1, bb, S1⟩
  replace HO := hid1 (HO.out.keep bb)
  replace HR := hid1 (HR.out.keep bb)
  clear bb B1 zo h0 h1 h2 h3 h4 h5 h6
  refine (H2.out _).mono ?_
  rintro e w2 ⟨rfl, hb⟩
  replace HO := hid1 (HO.out.keep hb)
  replace HR := hid1 (HR.out.keep hb)
  replace S1 := hid1 (S1.out.keep hb)
  have B2 : Below w.heap.size w w2 := bl_step C1 hb
  clear hb C1
  obtain ⟨h0, h1, h2, h3, h4, h5, h6⟩ := HO.out
  simp only [Nat.zero_add] at h1 h2 h3 h4 h5 h6
  have zo := lt_of_cell h0
  go_wp2_with fail
  refine gen_calls (fun W' => Below w.heap.size w W' ∧ Below w2.heap.size w2 W' ∧ Hid (Sv W' w2.heap.size (.int .i64 (hiOf sv)) (.int .u64 (loOf sv)))) ⟨by repeat (first | (with_reducible exact Below.refl _ _) | (with_reducible refine bl_alloc ?_ _) | (with_reducible refine Below.drew ?_) | (with_reducible refine bl_drewN ?_ _) | (with_reducible refine bl_set ?_ (by omega) _) | (with_reducible refine bl_step ?_ (by assumption))), by repeat (first | (with_reducible exact Below.refl _ _) | (with_reducible refine bl_alloc ?_ _) | (with_reducible refine Below.drew ?_) | (with_reducible refine bl_drewN ?_ _) | (with_reducible refine bl_set ?_ (by omega) _) | (with_reducible refine bl_step ?_ (by assumption))), hid1 (sv_new rfl)⟩ ?_
  rintro W2 ⟨C2, bb, S2⟩
  replace HO := hid1 (HO.out.keep bb)
  replace HR := hid1 (HR.out.keep bb)
  replace S1 := hid1 (S1.out.keep bb)
  clear bb B2 zo h0 h1 h2 h3 h4 h5 h6
  refine (H3.out _).mono ?_
  rintro e w3 ⟨rfl, hb⟩
  replace HO := hid1 (HO.out.keep hb)
  replace HR := hid1 (HR.out.keep hb)
  replace S1 := hid1 (S1.out.keep hb)
  replace S2 := hid1 (S2.out.keep hb)
  have B3 : Below w.heap.size w w3 := bl_step C2 hb
  clear hb C2
  obtain ⟨h0, h1, h2, h3, h4, h5, h6⟩ := HO.out
  simp only [Nat.zero_add] at h1 h2 h3 h4 h5 h6
  have zo := lt_of_cell h0
  go_wp2_with fail
  refine gen_calls (fun W' => Below w.heap.size w W' ∧ Below w3.heap.size w3 W' ∧ Hid (Sv W' w3.heap.size (.int .i64 (hiOf (fitV (-a)))) (.int .u64 (loOf (fitV (-a)))))) ⟨by repeat (first | (with_reducible exact Below.refl _ _) | (with_reducible refine bl_alloc ?_ _) | (with_reducible refine Below.drew ?_) | (with_reducible refine bl_drewN ?_ _) | (with_reducible refine bl_set ?_ (by omega) _) | (with_reducible refine bl_step ?_ (by assumption))), by repeat (first | (with_reducible exact Below.refl _ _) | (with_reducible refine bl_alloc ?_ _) | (with_reducible refine Below.drew ?_) | (with_reducible refine bl_drewN ?_ _) | (with_reducible refine bl_set ?_ (by omega) _) | (with_reducible refine bl_step ?_ (by assumption))), hid1 (sv_new rfl)⟩ ?_
  rintro W3 ⟨C3, bb, S3⟩
  replace HO := hid1 (HO.out.keep bb)
  replace HR := hid1 (HR.out.keep bb)
  replace S1 := hid1 (S1.out.keep bb)
  replace S2 := hid1 (S2.out.keep bb)
  clear bb B3 zo h0 h1 h2 h3 h4 h5 h6
  refine (H4.out _).mono ?_
  rintro e w4 ⟨rfl, hb⟩
  replace HO := hid1 (HO.out.keep hb)
  replace HR := hid1 (HR.out.keep hb)
  replace S1 := hid1 (S1.out.keep hb)
  replace S2 := hid1 (S2.out.keep hb)
  replace S3 := hid1 (S3.out.keep hb)
  have B4 : Below w.heap.size w w4 := bl_step C3 hb
  clear hb C3
  obtain ⟨h0, h1, h2, h3, h4, h5, h6⟩ := HO.out
  simp only [Nat.zero_add] at h1 h2 h3 h4 h5 h6
  have zo := lt_of_cell h0
  go_wp2_with fail
  refine gen_calls (fun W' => Below w.heap.size w W' ∧ Below w4.heap.size w4 W' ∧ Hid (Sv W' w4.heap.size (.int .i64 (hiOf (fitV (-a)))) (.int .u64 (loOf (fitV (-a)))))) ⟨by repeat (first | (with_reducible exact Below.refl _ _) | (with_reducible refine bl_alloc ?_ _) | (with_reducible refine Below.drew ?_) | (with_reducible refine bl_drewN ?_ _) | (with_reducible refine bl_set ?_ (by omega) _) | (with_reducible refine bl_step ?_ (by assumption))), by repeat (first | (with_reducible exact Below.refl _ _) | (with_reducible refine bl_alloc ?_ _) | (with_reducible refine Below.drew ?_) | (with_reducible refine bl_drewN ?_ _) | (with_reducible refine bl_set ?_ (by omega) _) | (with_reducible refine bl_step ?_ (by assumption))), hid1 (sv_new rfl)⟩ ?_
  rintro W4 ⟨C4, bb, S4⟩
  replace HO := hid1 (HO.out.keep bb)
  replace HR := hid1 (HR.out.keep bb)
  replace S1 := hid1 (S1.out.keep bb)
  replace S2 := hid1 (S2.out.keep bb)
  replace S3 := hid1 (S3.out.keep bb)
  clear bb B4 zo h0 h1 h2 h3 h4 h5 h6
  refine (H5.out _).mono ?_
  rintro e w5 ⟨rfl, hb⟩
  replace HO := hid1 (HO.out.keep hb)
  replace HR := hid1 (HR.out.keep hb)
  replace S1 := hid1 (S1.out.keep hb)
  replace S2 := hid1 (S2.out.keep hb)
  replace S3 := hid1 (S3.out.keep hb)
  replace S4 := hid1 (S4.out.keep hb)
  have B5 : Below w.heap.size w w5 := bl_step C4 hb
  clear hb C4
  obtain ⟨h0, h1, h2, h3, h4, h5, h6⟩ := HO.out
  simp only [Nat.zero_add] at h1 h2 h3 h4 h5 h6
  have zo := lt_of_cell h0
  go_wp2_with fail
  clear zo h0 h1 h2 h3 h4 h5 h6
  refine (H6.out _).mono ?_
  rintro e w6 ⟨rfl, hb⟩
  replace HO := hid1 (HO.out.keep hb)
  replace HR := hid1 (HR.out.keep hb)
  replace S1 := hid1 (S1.out.keep hb)
  replace S2 := hid1 (S2.out.keep hb)
  replace S3 := hid1 (S3.out.keep hb)
  replace S4 := hid1 (S4.out.keep hb)
  have B6 : Below w.heap.size w w6 := bl_step B5 hb
  clear hb B5
  obtain ⟨h0, h1, h2, h3, h4, h5, h6⟩ := HO.out
  simp only [Nat.zero_add] at h1 h2 h3 h4 h5 h6
  have zo := lt_of_cell h0
  go_wp2_with fail
  clear zo h0 h1 h2 h3 h4 h5 h6
  refine (H7.out _).mono ?_
  rintro e w7 ⟨rfl, hb⟩
  replace HO := hid1 (HO.out.keep hb)
  replace HR := hid1 (HR.out.keep hb)
  replace S1 := hid1 (S1.out.keep hb)
  replace S2 := hid1 (S2.out.keep hb)
  replace S3 := hid1 (S3.out.keep hb)
  replace S4 := hid1 (S4.out.keep hb)
  have B7 : Below w.heap.size w w7 := bl_step B6 hb
  clear hb B6
  obtain ⟨h0, h1, h2, h3, h4, h5, h6⟩ := HO.out
  simp only [Nat.zero_add] at h1 h2 h3 h4 h5 h6
  have zo := lt_of_cell h0
  go_wp2_with fail
  clear zo h0 h1 h2 h3 h4 h5 h6
  go_cut [17] (fun v wx => v = .int .i64 (cmpN a b) ∧ Below w7.heap.size w7 wx)
  case rest =>
    obtain ⟨rfl, hb⟩ := hcut
    rename World => V
    have B8 := bl_step B7 hb
    obtain ⟨r0, r1, r2, r3⟩ := HR.out.keep hb
    obtain ⟨x0a, x0b, _, _⟩ := S1.out.keep hb
    obtain ⟨x1a, x1b, _, _⟩ := S2.out.keep hb
    obtain ⟨x2a, x2b, _, _⟩ := S3.out.keep hb
    obtain ⟨x3a, x3b, _, _⟩ := S4.out.keep hb
    have zz0 := lt_of_cell x0a
    clear HO HR S1 S2 S3 S4 HCM HWA HWB H1 H2 H3 H4 H5 H6 H7 hb B7
    go_upto_region 9 with fail
    go_region
    all_goals (
      go_wp2_with fail
      simp [bodyPost, results, Tryd.results56, go_sem, r0, r1]
      repeat (first | exact Below.refl _ _ | refine bl_alloc ?_ _ | refine Below.drew ?_ | refine bl_drewN ?_ _ | refine bl_set ?_ (by omega) _ | refine bl_step ?_ (by assumption)))
  obtain ⟨h0, h1, h2, h3, h4, h5, h6⟩ := HO.out
  simp only [Nat.zero_add] at h1 h2 h3 h4 h5 h6
  go_region_held3 (fun X => X.cell? ⟨w.heap.size, 1, none⟩ = some (.int .i64 (hiOf a)) ∧ X.cell? ⟨w.heap.size, 2, none⟩ = some (.int .u64 (loOf a)) ∧ X.cell? ⟨w.heap.size, 3, none⟩ = some (.int .i64 (hiOf b)) ∧ X.cell? ⟨w.heap.size, 4, none⟩ = some (.int .u64 (loOf b))) (((try dsimp only); (with_reducible refine kob (W := w7) HO.out ?_); repeat (first | exact Below.refl _ _ | refine bl_alloc ?_ _ | refine Below.drew ?_ | refine bl_drewN ?_ _ | refine bl_set ?_ (by omega) _ | refine bl_step ?_ (by assumption))))
    (first
      | (go_at_call 23; refine (HCM.out _ _ _ (HY1.out.below (by repeat (first | exact Below.refl _ _ | refine bl_alloc ?_ _ | refine Below.drew ?_ | refine bl_drewN ?_ _ | refine bl_set ?_ (by omega) _ | refine bl_step ?_ (by assumption)))) (HY2.out.below (by repeat (first | exact Below.refl _ _ | refine bl_alloc ?_ _ | refine Below.drew ?_ | refine bl_drewN ?_ _ | refine bl_set ?_ (by omega) _ | refine bl_step ?_ (by assumption))))).mono ?_; rintro e y3 ⟨rfl, hy3⟩)
      | (go_at_call_of 24 a; refine (HWA.out _).mono ?_; rintro e y1 ⟨z1, rfl, hz1, hy1⟩; obtain ⟨s1, o1, l1, c1, rfl⟩ := hz1.form; have HY1 := hid1 hz1; clear hz1)
      | (go_at_call_of 24 b; refine (HWB.out _).mono ?_; rintro e y2 ⟨z2, rfl, hz2, hy2⟩; obtain ⟨s2, o2, l2, c2, rfl⟩ := hz2.form; have HY2 := hid1 hz2; clear hz2))
  all_goals go_wp2_with fail
  all_goals go_meet
  all_goals exact ⟨rfl, by repeat (first | exact Below.refl _ _ | refine bl_alloc ?_ _ | refine Below.drew ?_ | refine bl_drewN ?_ _ | refine bl_set ?_ (by omega) _ | refine bl_step ?_ (by assumption))⟩
end Go.Proofs.YtcjglbejmlebhaaDoor
/- A STEP, WHATEVER ITS KIND. -/
namespace Go.Proofs.YtcjglbejmlebhaaDoor
open Go.RowKit Go.Shelf
attribute [local go_sem ↓] Go.wp_at_zero Go.wp_at_succ

set_option maxHeartbeats 6400000 in
set_option maxRecDepth 100000 in
theorem plays1 (a b n l : Int) (t : ByteArray) (ra : Rng a) (rb : Rng b) : ∃ v : Int, Rng v ∧ ∀ w : World, Laid w →
    Calls Tryd.prog 31 #[opv 1 a b n t, wv l] w fun e w' => e = .returned (.tuple #[wv v, .bool true]) ∧ Below w.heap.size w w' := by
  obtain ⟨v, rv, p⟩ := ssums_any 1 a b n t ra rb
  have H := hid1 p
  refine ⟨v, rv, ?_⟩
  clear p ra rb rv
  intro w L
  clear L
  go_enter Tryd.func31, Tryd.ntmps31
  go_wp2_with fail
  refine gen_calls (fun W' => Below w.heap.size w W' ∧ Hid (Ob W' w.heap.size 0 1 a b n t) ∧ Hid (Sv W' (w.heap.size + 1) (.int .i64 (hiOf l)) (.int .u64 (loOf l))) ∧ Hid (Zw W' (w.heap.size + 1 + 1))) ⟨by repeat (first | (with_reducible exact Below.refl _ _) | (with_reducible refine bl_alloc ?_ _) | (with_reducible refine Below.drew ?_) | (with_reducible refine bl_drewN ?_ _) | (with_reducible refine bl_set ?_ (by omega) _) | (with_reducible refine bl_step ?_ (by assumption))), hid1 (by unfold Ob; refine ⟨?_, ?_, ?_, ?_, ?_, ?_, ?_⟩ <;> simp [go_sem]), hid1 (by unfold Sv; refine ⟨?_, ?_, ?_, ?_⟩ <;> simp [go_sem]), hid1 (by unfold Zw Sv; refine ⟨?_, ?_, ?_, ?_⟩ <;> simp [go_sem])⟩ ?_
  rintro W ⟨B0, HO, HF, HR⟩
  refine (H.out _).mono ?_
  rintro e w1 ⟨rfl, hb⟩
  replace HR := hid1 (HR.out.keep hb)
  have B1 := bl_step B0 hb
  clear hb B0 HO HF
  obtain ⟨r0, r1, r2, r3⟩ := HR.out
  go_wp2_with fail
  simp [bodyPost, results, Tryd.results31, go_sem, r0, r1]
  repeat (first | exact Below.refl _ _ | refine bl_alloc ?_ _ | refine Below.drew ?_ | refine bl_drewN ?_ _ | refine bl_set ?_ (by omega) _ | refine bl_step ?_ (by assumption))
set_option maxHeartbeats 6400000 in
set_option maxRecDepth 100000 in
theorem plays2 (a b n l : Int) (t : ByteArray) (ra : Rng a) (rb : Rng b) (rn : I64 n) (rl : Rng l) (ht : t.size ≤ 281474976710656) : ∃ v : Int, Rng v ∧ ∀ w : World, Laid w →
    Calls Tryd.prog 31 #[opv 2 a b n t, wv l] w fun e w' => e = .returned (.tuple #[wv v, .bool true]) ∧ Below w.heap.size w w' := by
  have H := hid1 (fun w (L : Laid w) => stimes_any 2 a b n t ra rb rn ht w L)
  refine ⟨l, rl, ?_⟩
  clear ra rb rn rl ht
  intro w L
  have HL := hid1 L
  clear L
  go_enter Tryd.func31, Tryd.ntmps31
  go_upto_region 5 with fail
  refine gen_world (fun W' => Below w.heap.size w W' ∧ Hid (Ob W' w.heap.size 0 2 a b n t) ∧ Hid (Sv W' (w.heap.size + 1) (.int .i64 (hiOf l)) (.int .u64 (loOf l))) ∧ Hid (Zw W' (w.heap.size + 1 + 1))) ⟨by repeat (first | (with_reducible exact Below.refl _ _) | (with_reducible refine bl_alloc ?_ _) | (with_reducible refine Below.drew ?_) | (with_reducible refine bl_drewN ?_ _) | (with_reducible refine bl_set ?_ (by omega) _) | (with_reducible refine bl_step ?_ (by assumption))), hid1 (by unfold Ob; refine ⟨?_, ?_, ?_, ?_, ?_, ?_, ?_⟩ <;> simp [go_sem]), hid1 (by unfold Sv; refine ⟨?_, ?_, ?_, ?_⟩ <;> simp [go_sem]), hid1 (by unfold Zw Sv; refine ⟨?_, ?_, ?_, ?_⟩ <;> simp [go_sem])⟩ ?_
  rintro W ⟨B0, HO, HF, HR⟩
  obtain ⟨h0, h1, h2, h3, h4, h5, h6⟩ := HO.out
  simp only [Nat.zero_add] at h1 h2 h3 h4 h5 h6
  obtain ⟨l0, l1, _, _⟩ := HF.out
  obtain ⟨r0, r1, r2, r3⟩ := HR.out
  have zr := lt_of_cell r0
  go_region_held3 (fun X => X.cell? ⟨w.heap.size, 0, none⟩ = some (.int .i64 2) ∧ X.cell? ⟨w.heap.size, 1, none⟩ = some (.int .i64 (hiOf a)) ∧ X.cell? ⟨w.heap.size, 2, none⟩ = some (.int .u64 (loOf a)) ∧ X.cell? ⟨w.heap.size, 3, none⟩ = some (.int .i64 (hiOf b)) ∧ X.cell? ⟨w.heap.size, 4, none⟩ = some (.int .u64 (loOf b)) ∧ X.cell? ⟨w.heap.size, 5, none⟩ = some (.int .i64 n) ∧ X.cell? ⟨w.heap.size, 6, none⟩ = some (.string t) ∧ X.cell? ⟨w.heap.size + 1, 0, none⟩ = some (.int .i64 (hiOf l)) ∧ X.cell? ⟨w.heap.size + 1, 1, none⟩ = some (.int .u64 (loOf l))) (((try dsimp only); simp [go_sem, *]; done))
    (first
      | (go_at_call 57; (with_reducible refine (H.out _ (HL.out.on (by repeat (first | (with_reducible exact Below.refl _ _) | (with_reducible refine bl_alloc ?_ _) | (with_reducible refine Below.drew ?_) | (with_reducible refine bl_drewN ?_ _) | (with_reducible refine bl_set ?_ (by omega) _) | (with_reducible refine bl_step ?_ (by assumption)))))).mono ?_); rintro e w1 ⟨rfl, hb⟩; have bW : Below W.heap.size W w1 := (by repeat (first | (with_reducible exact Below.refl _ _) | (with_reducible refine bl_alloc ?_ _) | (with_reducible refine Below.drew ?_) | (with_reducible refine bl_drewN ?_ _) | (with_reducible refine bl_set ?_ (by omega) _) | (with_reducible refine bl_step ?_ (by assumption)))); have B1 : Below w.heap.size w w1 := bl_step B0 bW; obtain ⟨h0, h1, h2, h3, h4, h5, h6⟩ := HO.out.keep bW; simp only [Nat.zero_add] at h1 h2 h3 h4 h5 h6; obtain ⟨l0, l1, _, _⟩ := HF.out.keep bW; obtain ⟨r0, r1, r2, r3⟩ := HR.out.keep bW; have zr := lt_of_cell r0; clear hb bW))
  all_goals go_wp2
  all_goals simp [bodyPost, results, Tryd.results31, go_sem, *]
  all_goals (repeat (first | (with_reducible exact Below.refl _ _) | (with_reducible refine bl_alloc ?_ _) | (with_reducible refine Below.drew ?_) | (with_reducible refine bl_drewN ?_ _) | (with_reducible refine bl_set ?_ (by omega) _) | (with_reducible refine bl_step ?_ (by assumption))))
set_option maxHeartbeats 6400000 in
set_option maxRecDepth 100000 in
theorem plays3 (a b n l : Int) (t : ByteArray) (ra : Rng a) (rb : Rng b) (rn : I64 n) (rl : Rng l) (ht : t.size ≤ 281474976710656) : ∃ v : Int, Rng v ∧ ∀ w : World, Laid w →
    Calls Tryd.prog 31 #[opv 3 a b n t, wv l] w fun e w' => e = .returned (.tuple #[wv v, .bool true]) ∧ Below w.heap.size w w' := by
  have H := hid1 (fun w (L : Laid w) => sparts_any 3 a b n t ra rb rn ht w L)
  refine ⟨l, rl, ?_⟩
  clear ra rb rn rl ht
  intro w L
  have HL := hid1 L
  clear L
  go_enter Tryd.func31, Tryd.ntmps31
  go_upto_region 7 with fail
  refine gen_world (fun W' => Below w.heap.size w W' ∧ Hid (Ob W' w.heap.size 0 3 a b n t) ∧ Hid (Sv W' (w.heap.size + 1) (.int .i64 (hiOf l)) (.int .u64 (loOf l))) ∧ Hid (Zw W' (w.heap.size + 1 + 1))) ⟨by repeat (first | (with_reducible exact Below.refl _ _) | (with_reducible refine bl_alloc ?_ _) | (with_reducible refine Below.drew ?_) | (with_reducible refine bl_drewN ?_ _) | (with_reducible refine bl_set ?_ (by omega) _) | (with_reducible refine bl_step ?_ (by assumption))), hid1 (by unfold Ob; refine ⟨?_, ?_, ?_, ?_, ?_, ?_, ?_⟩ <;> simp [go_sem]), hid1 (by unfold Sv; refine ⟨?_, ?_, ?_, ?_⟩ <;> simp [go_sem]), hid1 (by unfold Zw Sv; refine ⟨?_, ?_, ?_, ?_⟩ <;> simp [go_sem])⟩ ?_
  rintro W ⟨B0, HO, HF, HR⟩
  obtain ⟨h0, h1, h2, h3, h4, h5, h6⟩ := HO.out
  simp only [Nat.zero_add] at h1 h2 h3 h4 h5 h6
  obtain ⟨l0, l1, _, _⟩ := HF.out
  obtain ⟨r0, r1, r2, r3⟩ := HR.out
  have zr := lt_of_cell r0
  go_region_held3 (fun X => X.cell? ⟨w.heap.size, 0, none⟩ = some (.int .i64 3) ∧ X.cell? ⟨w.heap.size, 1, none⟩ = some (.int .i64 (hiOf a)) ∧ X.cell? ⟨w.heap.size, 2, none⟩ = some (.int .u64 (loOf a)) ∧ X.cell? ⟨w.heap.size, 3, none⟩ = some (.int .i64 (hiOf b)) ∧ X.cell? ⟨w.heap.size, 4, none⟩ = some (.int .u64 (loOf b)) ∧ X.cell? ⟨w.heap.size, 5, none⟩ = some (.int .i64 n) ∧ X.cell? ⟨w.heap.size, 6, none⟩ = some (.string t) ∧ X.cell? ⟨w.heap.size + 1, 0, none⟩ = some (.int .i64 (hiOf l)) ∧ X.cell? ⟨w.heap.size + 1, 1, none⟩ = some (.int .u64 (loOf l))) (((try dsimp only); simp [go_sem, *]; done))
    (first
      | (go_at_call 58; (with_reducible refine (H.out _ (HL.out.on (by repeat (first | (with_reducible exact Below.refl _ _) | (with_reducible refine bl_alloc ?_ _) | (with_reducible refine Below.drew ?_) | (with_reducible refine bl_drewN ?_ _) | (with_reducible refine bl_set ?_ (by omega) _) | (with_reducible refine bl_step ?_ (by assumption)))))).mono ?_); rintro e w1 ⟨rfl, hb⟩; have bW : Below W.heap.size W w1 := (by repeat (first | (with_reducible exact Below.refl _ _) | (with_reducible refine bl_alloc ?_ _) | (with_reducible refine Below.drew ?_) | (with_reducible refine bl_drewN ?_ _) | (with_reducible refine bl_set ?_ (by omega) _) | (with_reducible refine bl_step ?_ (by assumption)))); have B1 : Below w.heap.size w w1 := bl_step B0 bW; obtain ⟨h0, h1, h2, h3, h4, h5, h6⟩ := HO.out.keep bW; simp only [Nat.zero_add] at h1 h2 h3 h4 h5 h6; obtain ⟨l0, l1, _, _⟩ := HF.out.keep bW; obtain ⟨r0, r1, r2, r3⟩ := HR.out.keep bW; have zr := lt_of_cell r0; clear hb bW))
  all_goals go_wp2
  all_goals simp [bodyPost, results, Tryd.results31, go_sem, *]
  all_goals (repeat (first | (with_reducible exact Below.refl _ _) | (with_reducible refine bl_alloc ?_ _) | (with_reducible refine Below.drew ?_) | (with_reducible refine bl_drewN ?_ _) | (with_reducible refine bl_set ?_ (by omega) _) | (with_reducible refine bl_step ?_ (by assumption))))
set_option maxHeartbeats 6400000 in
set_option maxRecDepth 100000 in
theorem plays4 (a b n l : Int) (t : ByteArray) (ra : Rng a) (rb : Rng b) (rn : I64 n) (rl : Rng l) (ht : t.size ≤ 281474976710656) : ∃ v : Int, Rng v ∧ ∀ w : World, Laid w →
    Calls Tryd.prog 31 #[opv 4 a b n t, wv l] w fun e w' => e = .returned (.tuple #[wv v, .bool true]) ∧ Below w.heap.size w w' := by
  have H := hid1 (fun w (L : Laid w) => stexts_any 4 a b n t ra rb rn ht w L)
  refine ⟨l, rl, ?_⟩
  clear ra rb rn rl ht
  intro w L
  have HL := hid1 L
  clear L
  go_enter Tryd.func31, Tryd.ntmps31
  go_upto_region 9 with fail
  refine gen_world (fun W' => Below w.heap.size w W' ∧ Hid (Ob W' w.heap.size 0 4 a b n t) ∧ Hid (Sv W' (w.heap.size + 1) (.int .i64 (hiOf l)) (.int .u64 (loOf l))) ∧ Hid (Zw W' (w.heap.size + 1 + 1))) ⟨by repeat (first | (with_reducible exact Below.refl _ _) | (with_reducible refine bl_alloc ?_ _) | (with_reducible refine Below.drew ?_) | (with_reducible refine bl_drewN ?_ _) | (with_reducible refine bl_set ?_ (by omega) _) | (with_reducible refine bl_step ?_ (by assumption))), hid1 (by unfold Ob; refine ⟨?_, ?_, ?_, ?_, ?_, ?_, ?_⟩ <;> simp [go_sem]), hid1 (by unfold Sv; refine ⟨?_, ?_, ?_, ?_⟩ <;> simp [go_sem]), hid1 (by unfold Zw Sv; refine ⟨?_, ?_, ?_, ?_⟩ <;> simp [go_sem])⟩ ?_
  rintro W ⟨B0, HO, HF, HR⟩
  obtain ⟨h0, h1, h2, h3, h4, h5, h6⟩ := HO.out
  simp only [Nat.zero_add] at h1 h2 h3 h4 h5 h6
  obtain ⟨l0, l1, _, _⟩ := HF.out
  obtain ⟨r0, r1, r2, r3⟩ := HR.out
  have zr := lt_of_cell r0
  go_region_held3 (fun X => X.cell? ⟨w.heap.size, 0, none⟩ = some (.int .i64 4) ∧ X.cell? ⟨w.heap.size, 1, none⟩ = some (.int .i64 (hiOf a)) ∧ X.cell? ⟨w.heap.size, 2, none⟩ = some (.int .u64 (loOf a)) ∧ X.cell? ⟨w.heap.size, 3, none⟩ = some (.int .i64 (hiOf b)) ∧ X.cell? ⟨w.heap.size, 4, none⟩ = some (.int .u64 (loOf b)) ∧ X.cell? ⟨w.heap.size, 5, none⟩ = some (.int .i64 n) ∧ X.cell? ⟨w.heap.size, 6, none⟩ = some (.string t) ∧ X.cell? ⟨w.heap.size + 1, 0, none⟩ = some (.int .i64 (hiOf l)) ∧ X.cell? ⟨w.heap.size + 1, 1, none⟩ = some (.int .u64 (loOf l))) (((try dsimp only); simp [go_sem, *]; done))
    (first
      | (go_at_call 59; (with_reducible refine (H.out _ (HL.out.on (by repeat (first | (with_reducible exact Below.refl _ _) | (with_reducible refine bl_alloc ?_ _) | (with_reducible refine Below.drew ?_) | (with_reducible refine bl_drewN ?_ _) | (with_reducible refine bl_set ?_ (by omega) _) | (with_reducible refine bl_step ?_ (by assumption)))))).mono ?_); rintro e w1 ⟨rfl, hb⟩; have bW : Below W.heap.size W w1 := (by repeat (first | (with_reducible exact Below.refl _ _) | (with_reducible refine bl_alloc ?_ _) | (with_reducible refine Below.drew ?_) | (with_reducible refine bl_drewN ?_ _) | (with_reducible refine bl_set ?_ (by omega) _) | (with_reducible refine bl_step ?_ (by assumption)))); have B1 : Below w.heap.size w w1 := bl_step B0 bW; obtain ⟨h0, h1, h2, h3, h4, h5, h6⟩ := HO.out.keep bW; simp only [Nat.zero_add] at h1 h2 h3 h4 h5 h6; obtain ⟨l0, l1, _, _⟩ := HF.out.keep bW; obtain ⟨r0, r1, r2, r3⟩ := HR.out.keep bW; have zr := lt_of_cell r0; clear hb bW))
  all_goals go_wp2
  all_goals simp [bodyPost, results, Tryd.results31, go_sem, *]
  all_goals (repeat (first | (with_reducible exact Below.refl _ _) | (with_reducible refine bl_alloc ?_ _) | (with_reducible refine Below.drew ?_) | (with_reducible refine bl_drewN ?_ _) | (with_reducible refine bl_set ?_ (by omega) _) | (with_reducible refine bl_step ?_ (by assumption))))
set_option maxHeartbeats 6400000 in
set_option maxRecDepth 100000 in
theorem plays5 (a b n l : Int) (t : ByteArray) (rb : Rng b) (rn : I64 n) (rl : Rng l) (ht : t.size ≤ 281474976710656) : ∃ v : Int, Rng v ∧ ∀ w : World, Laid w →
    Calls Tryd.prog 31 #[opv 5 a b n t, wv l] w fun e w' => e = .returned (.tuple #[wv v, .bool true]) ∧ Below w.heap.size w w' := by
  obtain ⟨v, rv, p⟩ := ssums_any 5 l b n t rl rb
  have H1 := hid1 p
  have H2 := hid1 (fun w (L : Laid w) => stimes_any 5 l b n t rl rb rn ht w L)
  have H3 := hid1 (fun w (L : Laid w) => sparts_any 5 l b n t rl rb rn ht w L)
  have H4 := hid1 (fun w (L : Laid w) => stexts_any 5 l b n t rl rb rn ht w L)
  refine ⟨v, rv, ?_⟩
  clear p rb rv rn rl ht
  intro w L
  have HL := hid1 L
  clear L
  go_enter Tryd.func31, Tryd.ntmps31
  go_wp2_with fail
  refine gen_calls (fun W' => Below w.heap.size w W' ∧ Hid (Ob W' w.heap.size 0 5 l b n t) ∧ Hid (Sv W' (w.heap.size + 1) (.int .i64 (hiOf l)) (.int .u64 (loOf l))) ∧ Hid (Zw W' (w.heap.size + 1 + 1))) ⟨by repeat (first | (with_reducible exact Below.refl _ _) | (with_reducible refine bl_alloc ?_ _) | (with_reducible refine Below.drew ?_) | (with_reducible refine bl_drewN ?_ _) | (with_reducible refine bl_set ?_ (by omega) _) | (with_reducible refine bl_step ?_ (by assumption))), hid1 (by unfold Ob; refine ⟨?_, ?_, ?_, ?_, ?_, ?_, ?_⟩ <;> simp [go_sem]), hid1 (by unfold Sv; refine ⟨?_, ?_, ?_, ?_⟩ <;> simp [go_sem]), hid1 (by unfold Zw Sv; refine ⟨?_, ?_, ?_, ?_⟩ <;> simp [go_sem])⟩ ?_
  rintro W ⟨B0, HO, HF, HR⟩
  refine (H1.out _).mono ?_
  rintro e w1 ⟨rfl, hb⟩
  replace HO := hid1 (HO.out.keep hb)
  replace HR := hid1 (HR.out.keep hb)
  have B1 : Below w.heap.size w w1 := bl_step B0 hb
  clear hb B0 HF
  obtain ⟨h0, h1, h2, h3, h4, h5, h6⟩ := HO.out
  simp only [Nat.zero_add] at h1 h2 h3 h4 h5 h6
  have zo := lt_of_cell h0
  go_wp2_with fail
  refine gen_calls (fun W' => Below w.heap.size w W' ∧ Below w1.heap.size w1 W' ∧ Hid (Sv W' w1.heap.size (.int .i64 (hiOf v)) (.int .u64 (loOf v)))) ⟨by repeat (first | (with_reducible exact Below.refl _ _) | (with_reducible refine bl_alloc ?_ _) | (with_reducible refine Below.drew ?_) | (with_reducible refine bl_drewN ?_ _) | (with_reducible refine bl_set ?_ (by omega) _) | (with_reducible refine bl_step ?_ (by assumption))), by repeat (first | (with_reducible exact Below.refl _ _) | (with_reducible refine bl_alloc ?_ _) | (with_reducible refine Below.drew ?_) | (with_reducible refine bl_drewN ?_ _) | (with_reducible refine bl_set ?_ (by omega) _) | (with_reducible refine bl_step ?_ (by assumption))), hid1 (sv_new rfl)⟩ ?_
  rintro W1 ⟨C1, bb, S1⟩
  replace HO := hid1 (HO.out.keep bb)
  replace HR := hid1 (HR.out.keep bb)
  clear bb B1 zo h0 h1 h2 h3 h4 h5 h6
  refine (H2.out _ (HL.out.on C1)).mono ?_
  rintro e w2 ⟨rfl, hb⟩
  replace HO := hid1 (HO.out.keep hb)
  replace HR := hid1 (HR.out.keep hb)
  replace S1 := hid1 (S1.out.keep hb)
  have B2 : Below w.heap.size w w2 := bl_step C1 hb
  clear hb C1
  obtain ⟨h0, h1, h2, h3, h4, h5, h6⟩ := HO.out
  simp only [Nat.zero_add] at h1 h2 h3 h4 h5 h6
  have zo := lt_of_cell h0
  go_wp2_with fail
  clear zo h0 h1 h2 h3 h4 h5 h6
  refine (H3.out _ (HL.out.on B2)).mono ?_
  rintro e w3 ⟨rfl, hb⟩
  replace HO := hid1 (HO.out.keep hb)
  replace HR := hid1 (HR.out.keep hb)
  replace S1 := hid1 (S1.out.keep hb)
  have B3 : Below w.heap.size w w3 := bl_step B2 hb
  clear hb B2
  obtain ⟨h0, h1, h2, h3, h4, h5, h6⟩ := HO.out
  simp only [Nat.zero_add] at h1 h2 h3 h4 h5 h6
  have zo := lt_of_cell h0
  go_wp2_with fail
  clear zo h0 h1 h2 h3 h4 h5 h6
  refine (H4.out _ (HL.out.on B3)).mono ?_
  rintro e w4 ⟨rfl, hb⟩
  replace HR := hid1 (HR.out.keep hb)
  replace S1 := hid1 (S1.out.keep hb)
  have B4 : Below w.heap.size w w4 := bl_step B3 hb
  clear hb B3 HO
  obtain ⟨r0, r1, r2, r3⟩ := HR.out
  obtain ⟨x0, x1, _, _⟩ := S1.out
  go_wp2_with fail
  simp [bodyPost, results, Tryd.results31, go_sem, r0, r1]
  repeat (first | exact Below.refl _ _ | refine bl_alloc ?_ _ | refine Below.drew ?_ | refine bl_drewN ?_ _ | refine bl_set ?_ (by omega) _ | refine bl_step ?_ (by assumption))
set_option maxHeartbeats 6400000 in
set_option maxRecDepth 100000 in
theorem plays0 (K a b n l : Int) (t : ByteArray) (k1 : ¬ K = 1) (k2 : ¬ K = 2) (k3 : ¬ K = 3) (k4 : ¬ K = 4) (k5 : ¬ K = 5) (w : World) :
    Calls Tryd.prog 31 #[opv K a b n t, wv l] w fun e w' => e = .returned (.tuple #[wv l, .bool true]) ∧ Below w.heap.size w w' := by
  have j1 : (K == 1) = false := beq_false_of_ne k1
  have j2 : (K == 2) = false := beq_false_of_ne k2
  have j3 : (K == 3) = false := beq_false_of_ne k3
  have j4 : (K == 4) = false := beq_false_of_ne k4
  have j5 : (K == 5) = false := beq_false_of_ne k5
  go_enter Tryd.func31, Tryd.ntmps31
  go_wp2_with fail
  simp [bodyPost, results, Tryd.results31, go_sem]
  repeat (first | exact Below.refl _ _ | refine bl_alloc ?_ _ | refine Below.drew ?_ | refine bl_drewN ?_ _ | refine bl_set ?_ (by omega) _ | refine bl_step ?_ (by assumption))
theorem plays_any (K a b n l : Int) (t : ByteArray) (ra : Rng a) (rb : Rng b) (rn : I64 n) (rl : Rng l) (ht : t.size ≤ 281474976710656) : ∃ v : Int, Rng v ∧ ∀ w : World, Laid w →
    Calls Tryd.prog 31 #[opv K a b n t, wv l] w fun e w' => e = .returned (.tuple #[wv v, .bool true]) ∧ Below w.heap.size w w' := by
  by_cases k1 : K = 1
  · subst k1; exact plays1 a b n l t ra rb
  · by_cases k2 : K = 2
    · subst k2; exact plays2 a b n l t ra rb rn rl ht
    · by_cases k3 : K = 3
      · subst k3; exact plays3 a b n l t ra rb rn rl ht
      · by_cases k4 : K = 4
        · subst k4; exact plays4 a b n l t ra rb rn rl ht
        · by_cases k5 : K = 5
          · subst k5; exact plays5 a b n l t rb rn rl ht
          · exact ⟨l, rl, fun w _ => plays0 K a b n l t k1 k2 k3 k4 k5 w⟩
end Go.Proofs.YtcjglbejmlebhaaDoor
/- WIDESCRIPT, WALKED. -/
namespace Go.Proofs.YtcjglbejmlebhaaDoor
open Go.RowKit Go.Shelf
attribute [local go_sem ↓] Go.wp_at_zero Go.wp_at_succ

def Lop (W : World) (ao : Option Addr) (m : Nat) : Prop := ∀ j, j < m → ∃ (g o : Nat) (K a b n : Int) (t : ByteArray), ao = some ⟨g, o, none⟩ ∧ Rng a ∧ Rng b ∧ I64 n ∧ t.size ≤ 281474976710656 ∧ Ob W g (o + j * 7) K a b n t
theorem Lop.keep {W w' : World} {ao : Option Addr} {m : Nat} (h : Lop W ao m) (hb : Below W.heap.size W w') : Lop w' ao m := fun j hj => by
  obtain ⟨g, o, K, a, b, n, t, e, ra, rb, rn, z, x⟩ := h j hj
  exact ⟨g, o, K, a, b, n, t, e, ra, rb, rn, z, x.keep hb⟩
set_option maxHeartbeats 6400000 in
set_option maxRecDepth 100000 in
theorem wscript_walk (ao : Option Addr) (m cm : Nat) (hm : m ≤ 9223372036854775807) (w : World) (L : Laid w) (L1 : Lop w ao m) :
    Calls Tryd.prog 6 #[.slice ao m cm] w fun e w' => e = .returned (.bool true) ∧ Below w.heap.size w w' := by
  have H1 := hid1 L1
  have HL := hid1 L
  clear L1 L
  go_enter Tryd.func6, Tryd.ntmps6
  go_wp2_with fail
  refine (begun_any _ HL.out).mono ?_
  rintro e w1 ⟨rfl, hb1⟩
  have z1 := hb1.size
  go_wp2_with fail
  go_loopw [3, 5] (fun b i wr => ∃ (j : Nat) (l : Int), j ≤ m ∧ Rng l ∧ b = .bool true ∧ i = .int .i64 j ∧ Hid (Sv wr w1.heap.size (.int .i64 (hiOf l)) (.int .u64 (loOf l))) ∧ Below w.heap.size w wr) (fun _ i _ => m - (intOf i).toNat)
  case atStart => exact ⟨0, 0, Nat.zero_le _, by unfold Rng; omega, rfl, rfl, hid1 (zw_new rfl), by repeat (first | (with_reducible exact Below.refl _ _) | (with_reducible refine bl_alloc ?_ _) | (with_reducible refine Below.drew ?_) | (with_reducible refine bl_drewN ?_ _) | (with_reducible refine bl_set ?_ (by omega) _) | (with_reducible refine bl_step ?_ (by assumption)))⟩
  case round =>
    obtain ⟨j, l, hj, rl, rfl, rfl, HF, hnx⟩ := hrel
    rename World => V
    have ii0 : (0 : Int) ≤ (j : Int) := by omega
    by_cases hli : j < m
    · have ii : (j : Int) < (m : Int) := by omega
      obtain ⟨g, o, K, a, b, n, t, rfl, ra, rb, rn, ht, hO⟩ := (H1.out.keep hnx) j hli
      obtain ⟨v, rv, p⟩ := plays_any K a b n l t ra rb rn rl ht
      have HP := hid1 p
      have HO := hid1 hO
      have RV := hid1 rv
      clear hO ht ra rb rn p rv rl
      obtain ⟨h0, h1, h2, h3, h4, h5, h6⟩ := HO.out
      obtain ⟨f0, f1, f2, f3⟩ := HF.out
      have zf := lt_of_cell f0
      go_wp2_with fail
      go_region_with (first
        | (go_at_call 31; refine (HP.out _ (HL.out.on (by repeat (first | (with_reducible exact Below.refl _ _) | (with_reducible refine bl_alloc ?_ _) | (with_reducible refine Below.drew ?_) | (with_reducible refine bl_drewN ?_ _) | (with_reducible refine bl_set ?_ (by omega) _) | (with_reducible refine bl_step ?_ (by assumption)))))).mono ?_; rintro e x1 ⟨rfl, hb⟩; have bV : Below V.heap.size V x1 := (by repeat (first | (with_reducible exact Below.refl _ _) | (with_reducible refine bl_alloc ?_ _) | (with_reducible refine Below.drew ?_) | (with_reducible refine bl_drewN ?_ _) | (with_reducible refine bl_set ?_ (by omega) _) | (with_reducible refine bl_step ?_ (by assumption)))); obtain ⟨f0, f1, f2, f3⟩ := HF.out.keep bV; have zf := lt_of_cell f0; have hnx2 : Below w.heap.size w x1 := bl_step hnx bV))
      all_goals
        go_wp2_with fail
        refine ⟨⟨j + 1, v, by omega, RV.out, rfl, by go_num, ?_, ?_⟩, by simp [intOf]; omega⟩
        · exact hid1 (Sv.own' (HF.out.keep bV))
        · repeat (first | (with_reducible exact Below.refl _ _) | (with_reducible refine bl_alloc ?_ _) | (with_reducible refine Below.drew ?_) | (with_reducible refine bl_drewN ?_ _) | (with_reducible refine bl_set ?_ (by omega) _) | (with_reducible refine bl_step ?_ (by assumption)))
    · have : j = m := by omega
      subst this
      go_wp2
      go_ret
      exact ⟨rfl, hnx⟩
end Go.Proofs.YtcjglbejmlebhaaDoor
/- PARAMETERS THAT ARE SCRIPTS. -/
namespace Go.Proofs.YtcjglbejmlebhaaDoor
open Go.ChangeShapes Go.WideShapes Go.ChangeAt Go.RowKit
set_option maxRecDepth 100000

theorem cells_op : Tryd.prog.cellsOf 52 = 7 := by kernel_rfl
theorem cells_int : Tryd.prog.cellsOf 3 = 1 := by kernel_rfl
theorem und_ops : Tryd.prog.underlying 48 = some (.slice 52) := by kernel_rfl
theorem len7 {l : List Value} (h : l.length = 7) : ∃ c0 c1 c2 c3 c4 c5 c6, l = [c0, c1, c2, c3, c4, c5, c6] := by
  match l, h with
  | [c0, c1, c2, c3, c4, c5, c6], _ => exact ⟨c0, c1, c2, c3, c4, c5, c6, rfl⟩
theorem fldW {H : Type} {enc : TypeId × Value → H} {w : World} {base : Nat} {sp : Nat → Bool} {held : Bool} {t : TypeId} {fs : Array Field} {fuel : Nat} {cs : List Value} {x : DataW H × List MemPlace}
    (ht : Tryd.prog.underlying t = some (.struct fs)) (h : DataW.trod enc Tryd.prog w base sp held fuel t cs = some x) (i : Nat) (f : Field) (hi : fs[i]? = some f) (hu : f.type = 27) :
    ∃ a : Int, Rng a ∧ (cs.drop f.offset).take 2 = [.int .i64 (hiOf a), .int .u64 (loOf a)] := by
  obtain ⟨n, y, g⟩ := fld ht h i f hi
  rw [hu, cells_wide] at g
  exact wide_cells g
theorem fldS {H : Type} {enc : TypeId × Value → H} {w : World} {base : Nat} {sp : Nat → Bool} {held : Bool} {t : TypeId} {fs : Array Field} {fuel : Nat} {cs : List Value} {x : DataW H × List MemPlace}
    (ht : Tryd.prog.underlying t = some (.struct fs)) (h : DataW.trod enc Tryd.prog w base sp held fuel t cs = some x) (i : Nat) (f : Field) (hi : fs[i]? = some f) (hu : f.type = 9)
    (hz : ∀ n ∈ x.1.weights Tryd.prog t, n ≤ reachBytes) :
    ∃ s : ByteArray, (cs.drop f.offset).take 1 = [.string s] ∧ s.size ≤ 281474976710656 := by
  obtain ⟨xs, m, _, ex, hlen, hxl, hf⟩ := DataW.trod_struct ht h
  have g := hf i f hi
  rw [hu, cells_string] at g
  have hlt : i < xs.length := by
    rw [hxl]
    exact (Array.getElem?_eq_some_iff.1 hi).1
  rw [List.getElem?_eq_getElem hlt] at g
  obtain ⟨s, e14, exs, _⟩ := DataW.trod_string Tryd.underlying9 g
  refine ⟨s, e14, ?_⟩
  have w1 := hz s.data.toList.length (by
    rw [ex]
    simp only [DataW.weights, ht]
    refine DataW.weights_mem_each (j := i) (t := 9) (d := .lit (.string s.data.toList)) ?_ ?_ _ (by simp [DataW.weights])
    · simp [hi, hu]
    · rw [List.getElem?_map, List.getElem?_eq_getElem hlt, exs]
      rfl)
  have e2 : s.size = s.data.toList.length := rfl
  rw [e2]
  exact Nat.le_trans w1 (by decide)
theorem op_cells {H : Type} {enc : TypeId × Value → H} {w : World} {base : Nat} {sp : Nat → Bool} {held : Bool} {fuel : Nat} {cs : List Value} {y : DataW H × List MemPlace}
    (h : DataW.trod enc Tryd.prog w base sp held fuel 52 cs = some y) (hz : ∀ n ∈ y.1.weights Tryd.prog 52, n ≤ reachBytes) :
    ∃ (K a b n : Int) (t : ByteArray), Rng a ∧ Rng b ∧ I64 n ∧ t.size ≤ 281474976710656 ∧ cs = [.int .i64 K, .int .i64 (hiOf a), .int .u64 (loOf a), .int .i64 (hiOf b), .int .u64 (loOf b), .int .i64 n, .string t] := by
  obtain ⟨z0, e0, _⟩ := fldK Tryd.underlying52 h 0 _ rfl Tryd.underlying3 cells_int
  obtain ⟨a, ra, e1⟩ := fldW Tryd.underlying52 h 1 _ rfl rfl
  obtain ⟨b, rb, e3⟩ := fldW Tryd.underlying52 h 2 _ rfl rfl
  obtain ⟨z5, e5, w5⟩ := fldK Tryd.underlying52 h 3 _ rfl Tryd.underlying2 cells_i64
  obtain ⟨s, e6, hs⟩ := fldS Tryd.underlying52 h 4 _ rfl rfl hz
  have hl : cs.length = 7 := by
    obtain ⟨_, _, _, _, hlen, _, _⟩ := DataW.trod_struct Tryd.underlying52 h
    exact hlen.trans cells_op
  obtain ⟨c0, c1, c2, c3, c4, c5, c6, rfl⟩ := len7 hl
  simp at e0 e1 e3 e5 e6
  obtain ⟨rfl, rfl⟩ := e1
  obtain ⟨rfl, rfl⟩ := e3
  subst e0 e5 e6
  exact ⟨_, a, b, _, s, ra, rb, i64_of_wf w5, hs, rfl⟩
theorem open_ops {H : Type} {enc : TypeId × Value → H} {W : World} {base : Nat} {v : Value} {d : DataW H} {p : List MemPlace}
    (hv : Value.okWide Tryd.prog W .any base 48 v) (h : DataW.Trod enc Tryd.prog W 0 (fun _ => true) true 48 v d p) (hz : ∀ n ∈ d.weights Tryd.prog 48, n ≤ reachBytes) :
    ∃ (ao : Option Addr) (m cap : Nat), v = .slice ao m cap ∧ m ≤ 9223372036854775807 ∧ Lop W ao m := by
  obtain ⟨a0, len, cap, rfl⟩ := okWide_slice und_ops hv
  obtain ⟨fuel, hf⟩ := h
  rcases Deep.open_slice und_ops hf with ⟨hc, hx⟩ | ⟨a, len', cap', mm, n, D, Pl, hc, _, hl, hm, hmm, hx, hcell⟩
  · simp [Value.cells] at hc
    obtain ⟨rfl, rfl, rfl⟩ := hc
    exact ⟨none, 0, 0, rfl, by omega, fun k hk => absurd hk (by omega)⟩
  · simp [Value.cells] at hc
    obtain ⟨rfl, rfl, rfl⟩ := hc
    simp only [if_true] at hmm
    have hd : d = .slice ((List.range len).map D) ((List.range (mm - len)).map fun j => D (len + j)) := congrArg Prod.fst hx
    refine ⟨some a, len, cap, rfl, by have := max_is; omega, fun k hk => ?_⟩
    obtain ⟨b, o, sp⟩ := a
    obtain rfl : sp = none := by
      obtain ⟨cs0, h0, _⟩ := hcell 0 (by omega)
      rw [cells_op] at h0
      obtain ⟨_, hlen, hc0⟩ := World.cells?_some h0
      have e0 := hc0 0 (by decide)
      rw [Deep.add_add, List.getElem?_eq_getElem (by omega)] at e0
      have := World.cell?_spot e0
      simpa [Addr.add] using this
    obtain ⟨cs, h1, h2⟩ := hcell k (by omega)
    rw [cells_op] at h1
    obtain ⟨_, hlen, hc1⟩ := World.cells?_some h1
    have hzk : ∀ n ∈ (D k).weights Tryd.prog 52, n ≤ reachBytes := fun n hn => hz n (by
      rw [hd]
      simp only [DataW.weights, und_ops]
      refine List.mem_cons_of_mem _ (List.mem_append.mpr (Or.inl ?_))
      exact weightsAll_mem (List.mem_map.mpr ⟨k, List.mem_range.mpr hk, rfl⟩) n hn)
    obtain ⟨y0, a, b', n', s, ra, rb, rn, hs, rfl⟩ := op_cells h2 hzk
    have cc : ∀ j, j < 7 → W.cell? ⟨b, o + k * 7 + j, none⟩ = ([.int .i64 y0, .int .i64 (hiOf a), .int .u64 (loOf a), .int .i64 (hiOf b'), .int .u64 (loOf b'), .int .i64 n', .string s] : List Value)[j]? := fun j hj => by
      have := hc1 j hj
      rw [Deep.add_add, add_at, ← Nat.add_assoc] at this
      exact this
    exact ⟨b, o, y0, a, b', n', s, rfl, ra, rb, rn, hs, cc 0 (by decide), cc 1 (by decide), cc 2 (by decide), cc 3 (by decide), cc 4 (by decide), cc 5 (by decide), cc 6 (by decide)⟩
end Go.Proofs.YtcjglbejmlebhaaDoor
namespace Go.Proofs.YtcjglbejmlebhaaDoor
open Go.ChangeShapes Go.WideShapes Go.ChangeAt Go.RowKit
open Go.ChangeMaps (open_string shut_string)

set_option maxRecDepth 100000 in
theorem wideScript_lifted (os : Os) (started : os.Started) (H : Type) (enc : TypeId × Value → H) :
    ReturnsInHanded {} Tryd.checked os 6 .any (fun w args => (Rows.wideScriptSpec.pre enc Tryd.prog Tryd.f6 [] false w args ∧ laidMetH Tryd.prog laidL w) ∧ sizedMet enc Tryd.prog Tryd.f6 (OpenSpec.ofChange Rows.wideScriptSpec) false w args)
      (Rows.wideScriptSpec.post enc Tryd.prog Tryd.f6 false true false false) := by
  refine returnsInHanded_of_change_and (C := Tryd.checked) (X := fun w _ => laidMetH Tryd.prog laidL w) (fun _ _ _ hh h => h.of_heap hh) own started (by kernel_rfl) Tryd.func6
    (ChangeSpec.witness_shaped (enc := enc) (C := Tryd.checked) (os := os) (X := fun w _ => laidMetH Tryd.prog laidL w) false (World.doorLaid Tryd.prog 400 os) #[.slice none 0 0] 8 rfl (World.shaped_of_RefB (by kernel_rfl) (by kernel_rfl)) (by kernel_rfl) (by kernel_rfl) (by kernel_rfl) (door_met os _)) ?_
  intro W base args ds gs before hval0 hW _ hz hL _
  have hval : ∀ (j : Nat) t v, Tryd.f6.params[j]? = some t → args[j]? = some v → Value.okWide Tryd.prog W .any base t v := hval0
  have hW' := hW
  obtain ⟨p, q, hA0, hV, rfl, hfz, hnd⟩ := hW
  have hA : DataW.TrodAll enc Tryd.prog W 0 (fun _ => true) true Tryd.f6.params.toList args.toList ds p := hA0
  rw [Tryd.params6] at hA hval hz
  obtain ⟨v0, vs0, d0, ds0, p0, q0, hargs, rfl, rfl, h0, r0⟩ := trodAll_cons hA
  obtain ⟨rfl, rfl, rfl⟩ := trodAll_nil r0
  obtain rfl : args = #[v0] := by cases args; simp_all
  obtain ⟨rfl, rfl⟩ := trodVars_none hV
  have lt0 : ∀ x ∈ p0, x.block < W.heap.size := by obtain ⟨m, hm⟩ := h0; exact DataW.trod_lt m _ _ _ hm
  have k0 := h0
  obtain ⟨ao0, m0, c0, rfl, hm0, f0⟩ := open_ops (hval 0 48 v0 rfl rfl) h0 (fun n hn => by have := List.all_eq_true.1 hz _ (DataW.weights_mem_each (j := 0) (t := 48) (d := d0) rfl rfl n hn); simpa using this)
  clear hA0 hval0
  refine (wscript_walk ao0 m0 c0 hm0 W (of_laid hL) f0).mono fun e W' ⟨he, bel⟩ => ?_
  subst he
  exact ⟨_, rfl, _, _, _, [], _, [], hW', trodAll_mk1 (shut_bool Tryd.underlying4 _), (trodAll_cons_mk (Below.trod laidOut (by kernel_rfl) (of_decide_eq_true (by kernel_rfl)) k0 bel lt0) trodAll_mk0), rfl, bel.frame _, fun h => by cases h⟩

theorem wideScript_row : Rows.WideScriptSaid :=
  OpenClaim.holds_of_wide 6 Tryd.f6 rfl rfl rfl rfl rfl rfl rfl ⟨rfl, rfl, rfl, rfl, rfl⟩ rfl rfl rfl rfl rfl (by kernel_rfl) Tryd.func6 (by kernel_rfl)
    (of_decide_eq_true (by kernel_rfl)) (by unfold Func.isWrapper; first | (rw [if_pos (by decide +kernel)]; kernel_rfl) | (rw [if_neg (by decide +kernel)]; exact ⟨rfl, rfl⟩))
    (fun os started H enc _ => wideScript_lifted os started H enc)
set_option maxRecDepth 100000 in
theorem wideScript_holds : Rows.WideScriptCardSaid :=
  Claim7.holds_tied_plain_at .later [] [.data, .data, .data, .data] true _ false
    wideScript_row (fun _ h => by cases h) (by kernel_rfl) (fun _ h => by cases h) wideScript_row_tie rfl ⟨rfl, rfl⟩ (by kernel_rfl) rfl
    (fun f fn hf hfn => by
      obtain rfl : f = 6 := Option.some.inj ((show Tryd.prog.funcNamed "heddle/heddlelaw1.WideScript" = some 6 by kernel_rfl).symm.trans hf) |>.symm
      obtain rfl : fn = Tryd.f6 := (Option.some.inj (Tryd.func6.symm.trans hfn)).symm
      exact ⟨by kernel_rfl, fun j t ht => by
        rw [Tryd.params6] at ht
        rcases j with _ | j
        · simp at ht; subst ht; exact (show Tryd.prog.wantsStandIn 48 = false by kernel_rfl)
        · simp at ht⟩)
    (by kernel_rfl)
#print axioms wideScript_holds
end Go.Proofs.YtcjglbejmlebhaaDoor
