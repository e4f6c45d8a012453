/- FRACROUND, WALKED. -/
import Derived.Test.YtboabgjgcnkelabDoorFR3
namespace Go.Proofs.YtboabgjgcnkelabDoor
open Go.RowKit Go.Shelf
attribute [local go_sem ↓] Go.wp_at_zero Go.wp_at_succ

set_option maxHeartbeats 800000 in
set_option maxRecDepth 100000 in
theorem fround_good (n0 d0 n d p q : Int) (s t : ByteArray) (T0 : Hid (∀ w : World, Calls Tryd.prog 7 #[fr n0 d0] w fun e w' => e = .returned (fr n d) ∧ Below w.heap.size w w'))
    (S1 : Hid (∀ w : World, LaidP w → Calls Tryd.prog 8 #[fr n d] w fun e w' => e = .returned (.tuple #[.string t, .int .i64 0]) ∧ Below w.heap.size w w'))
    (R1 : Hid (∀ w : World, LaidB w → Calls Tryd.prog 9 #[.string t] w fun e w' => e = .returned (.tuple #[fr n d, .int .i64 0]) ∧ Below w.heap.size w w'))
    (R2 : Hid (∀ w : World, LaidB w → Calls Tryd.prog 9 #[.string s] w fun e w' => e = .returned (.tuple #[fr p q, .int .i64 0]) ∧ Below w.heap.size w w')) (S2 : Hid (∀ w : World, LaidP w → Calls Tryd.prog 8 #[fr p q] w fun e w' => e = .returned (.tuple #[.string s, .int .i64 0]) ∧ Below w.heap.size w w')) (w : World) (L : LaidB w) :
    Calls Tryd.prog 3 #[fr n0 d0, .string s] w fun e w' => e = .returned (.bool true) ∧ Below w.heap.size w w' := by
  have HL := hid1 L
  clear L
  go_enter Tryd.func3, Tryd.ntmps3
  go_wp2_with fail
  refine gen_calls (fun W' => Below w.heap.size w W' ∧ Hid (Fy W' w.heap.size n0 d0)) ⟨by repeat (first | (with_reducible exact Below.refl _ _) | (with_reducible refine bl_alloc ?_ _) | (with_reducible refine Below.drew ?_) | (with_reducible refine bl_drewN ?_ _) | (with_reducible refine bl_set ?_ (by omega) _) | (with_reducible refine bl_step ?_ (by assumption))), hid1 (fy_new rfl)⟩ ?_
  rintro W ⟨B0, P0⟩
  refine (fbegun_any _ (HL.out.on B0).pow).mono ?_
  rintro e w1 ⟨rfl, hb1⟩
  replace P0 := hid1 (P0.out.keep hb1)
  have B1 : Below w.heap.size w w1 := by repeat (first | (with_reducible exact Below.refl _ _) | (with_reducible refine bl_alloc ?_ _) | (with_reducible refine Below.drew ?_) | (with_reducible refine bl_drewN ?_ _) | (with_reducible refine bl_set ?_ (by omega) _) | (with_reducible refine bl_step ?_ (by assumption)))
  clear hb1 B0
  obtain ⟨q0, q1, _, _⟩ := P0.out
  go_wp2_with fail
  refine (T0.out _).mono ?_
  rintro e w2 ⟨rfl, hb2⟩
  have B2 : Below w.heap.size w w2 := by repeat (first | (with_reducible exact Below.refl _ _) | (with_reducible refine bl_alloc ?_ _) | (with_reducible refine Below.drew ?_) | (with_reducible refine bl_drewN ?_ _) | (with_reducible refine bl_set ?_ (by omega) _) | (with_reducible refine bl_step ?_ (by assumption)))
  clear hb2 B1 q0 q1 P0
  go_wp2_with fail
  refine gen_calls (fun W' => Below w.heap.size w W' ∧ Hid (Fy W' w2.heap.size n d)) ⟨by repeat (first | (with_reducible exact Below.refl _ _) | (with_reducible refine bl_alloc ?_ _) | (with_reducible refine Below.drew ?_) | (with_reducible refine bl_drewN ?_ _) | (with_reducible refine bl_set ?_ (by omega) _) | (with_reducible refine bl_step ?_ (by assumption))), hid1 (fy_new rfl)⟩ ?_
  rintro W3 ⟨B3, F0⟩
  clear B2
  refine (S1.out _ (HL.out.on B3).pow).mono ?_
  rintro e w4 ⟨rfl, hb4⟩
  replace F0 := hid1 (F0.out.keep hb4)
  have B4 : Below w.heap.size w w4 := by repeat (first | (with_reducible exact Below.refl _ _) | (with_reducible refine bl_alloc ?_ _) | (with_reducible refine Below.drew ?_) | (with_reducible refine bl_drewN ?_ _) | (with_reducible refine bl_set ?_ (by omega) _) | (with_reducible refine bl_step ?_ (by assumption)))
  clear hb4 B3
  go_wp2_with fail
  refine (R1.out _ (HL.out.on B4)).mono ?_
  rintro e w5 ⟨rfl, hb5⟩
  replace F0 := hid1 (F0.out.keep hb5)
  have B5 : Below w.heap.size w w5 := by repeat (first | (with_reducible exact Below.refl _ _) | (with_reducible refine bl_alloc ?_ _) | (with_reducible refine Below.drew ?_) | (with_reducible refine bl_drewN ?_ _) | (with_reducible refine bl_set ?_ (by omega) _) | (with_reducible refine bl_step ?_ (by assumption)))
  clear hb5 B4
  obtain ⟨f0, f1, _, _⟩ := F0.out
  have zf := lt_of_cell f0
  go_wp2_with fail
  refine gen_calls (fun W' => Below w.heap.size w W') (by repeat (first | (with_reducible exact Below.refl _ _) | (with_reducible refine bl_alloc ?_ _) | (with_reducible refine Below.drew ?_) | (with_reducible refine bl_drewN ?_ _) | (with_reducible refine bl_set ?_ (by omega) _) | (with_reducible refine bl_step ?_ (by assumption)))) ?_
  rintro W7 B7
  clear f0 f1 zf F0 B5
  refine (R2.out _ (HL.out.on B7)).mono ?_
  rintro e w8 ⟨rfl, hb8⟩
  have B8 : Below w.heap.size w w8 := by repeat (first | (with_reducible exact Below.refl _ _) | (with_reducible refine bl_alloc ?_ _) | (with_reducible refine Below.drew ?_) | (with_reducible refine bl_drewN ?_ _) | (with_reducible refine bl_set ?_ (by omega) _) | (with_reducible refine bl_step ?_ (by assumption)))
  clear hb8 B7
  go_wp2_with fail
  refine gen_calls (fun W' => Below w.heap.size w W') (by repeat (first | (with_reducible exact Below.refl _ _) | (with_reducible refine bl_alloc ?_ _) | (with_reducible refine Below.drew ?_) | (with_reducible refine bl_drewN ?_ _) | (with_reducible refine bl_set ?_ (by omega) _) | (with_reducible refine bl_step ?_ (by assumption)))) ?_
  rintro W10 B10
  refine (S2.out _ (HL.out.on B10).pow).mono ?_
  rintro e w11 ⟨rfl, hb11⟩
  have B11 : Below w.heap.size w w11 := by repeat (first | (with_reducible exact Below.refl _ _) | (with_reducible refine bl_alloc ?_ _) | (with_reducible refine Below.drew ?_) | (with_reducible refine bl_drewN ?_ _) | (with_reducible refine bl_set ?_ (by omega) _) | (with_reducible refine bl_step ?_ (by assumption)))
  go_wp2
  go_ret
  exact ⟨by first | rfl | (simp; done), B11⟩
set_option maxHeartbeats 800000 in
set_option maxRecDepth 100000 in
theorem fround_bad (n0 d0 n d : Int) (s t : ByteArray) (T0 : Hid (∀ w : World, Calls Tryd.prog 7 #[fr n0 d0] w fun e w' => e = .returned (fr n d) ∧ Below w.heap.size w w'))
    (S1 : Hid (∀ w : World, LaidP w → Calls Tryd.prog 8 #[fr n d] w fun e w' => e = .returned (.tuple #[.string t, .int .i64 0]) ∧ Below w.heap.size w w'))
    (R1 : Hid (∀ w : World, LaidB w → Calls Tryd.prog 9 #[.string t] w fun e w' => e = .returned (.tuple #[fr n d, .int .i64 0]) ∧ Below w.heap.size w w'))
    (R2 : Hid (∀ w : World, LaidB w → Calls Tryd.prog 9 #[.string s] w fun e w' => e = .returned (.tuple #[fr 0 0, .int .i64 40]) ∧ Below w.heap.size w w')) (w : World) (L : LaidB w) :
    Calls Tryd.prog 3 #[fr n0 d0, .string s] w fun e w' => e = .returned (.bool true) ∧ Below w.heap.size w w' := by
  have HL := hid1 L
  clear L
  go_enter Tryd.func3, Tryd.ntmps3
  go_wp2_with fail
  refine gen_calls (fun W' => Below w.heap.size w W' ∧ Hid (Fy W' w.heap.size n0 d0)) ⟨by repeat (first | (with_reducible exact Below.refl _ _) | (with_reducible refine bl_alloc ?_ _) | (with_reducible refine Below.drew ?_) | (with_reducible refine bl_drewN ?_ _) | (with_reducible refine bl_set ?_ (by omega) _) | (with_reducible refine bl_step ?_ (by assumption))), hid1 (fy_new rfl)⟩ ?_
  rintro W ⟨B0, P0⟩
  refine (fbegun_any _ (HL.out.on B0).pow).mono ?_
  rintro e w1 ⟨rfl, hb1⟩
  replace P0 := hid1 (P0.out.keep hb1)
  have B1 : Below w.heap.size w w1 := by repeat (first | (with_reducible exact Below.refl _ _) | (with_reducible refine bl_alloc ?_ _) | (with_reducible refine Below.drew ?_) | (with_reducible refine bl_drewN ?_ _) | (with_reducible refine bl_set ?_ (by omega) _) | (with_reducible refine bl_step ?_ (by assumption)))
  clear hb1 B0
  obtain ⟨q0, q1, _, _⟩ := P0.out
  go_wp2_with fail
  refine (T0.out _).mono ?_
  rintro e w2 ⟨rfl, hb2⟩
  have B2 : Below w.heap.size w w2 := by repeat (first | (with_reducible exact Below.refl _ _) | (with_reducible refine bl_alloc ?_ _) | (with_reducible refine Below.drew ?_) | (with_reducible refine bl_drewN ?_ _) | (with_reducible refine bl_set ?_ (by omega) _) | (with_reducible refine bl_step ?_ (by assumption)))
  clear hb2 B1 q0 q1 P0
  go_wp2_with fail
  refine gen_calls (fun W' => Below w.heap.size w W' ∧ Hid (Fy W' w2.heap.size n d)) ⟨by repeat (first | (with_reducible exact Below.refl _ _) | (with_reducible refine bl_alloc ?_ _) | (with_reducible refine Below.drew ?_) | (with_reducible refine bl_drewN ?_ _) | (with_reducible refine bl_set ?_ (by omega) _) | (with_reducible refine bl_step ?_ (by assumption))), hid1 (fy_new rfl)⟩ ?_
  rintro W3 ⟨B3, F0⟩
  clear B2
  refine (S1.out _ (HL.out.on B3).pow).mono ?_
  rintro e w4 ⟨rfl, hb4⟩
  replace F0 := hid1 (F0.out.keep hb4)
  have B4 : Below w.heap.size w w4 := by repeat (first | (with_reducible exact Below.refl _ _) | (with_reducible refine bl_alloc ?_ _) | (with_reducible refine Below.drew ?_) | (with_reducible refine bl_drewN ?_ _) | (with_reducible refine bl_set ?_ (by omega) _) | (with_reducible refine bl_step ?_ (by assumption)))
  clear hb4 B3
  go_wp2_with fail
  refine (R1.out _ (HL.out.on B4)).mono ?_
  rintro e w5 ⟨rfl, hb5⟩
  replace F0 := hid1 (F0.out.keep hb5)
  have B5 : Below w.heap.size w w5 := by repeat (first | (with_reducible exact Below.refl _ _) | (with_reducible refine bl_alloc ?_ _) | (with_reducible refine Below.drew ?_) | (with_reducible refine bl_drewN ?_ _) | (with_reducible refine bl_set ?_ (by omega) _) | (with_reducible refine bl_step ?_ (by assumption)))
  clear hb5 B4
  obtain ⟨f0, f1, _, _⟩ := F0.out
  have zf := lt_of_cell f0
  go_wp2_with fail
  refine gen_calls (fun W' => Below w.heap.size w W') (by repeat (first | (with_reducible exact Below.refl _ _) | (with_reducible refine bl_alloc ?_ _) | (with_reducible refine Below.drew ?_) | (with_reducible refine bl_drewN ?_ _) | (with_reducible refine bl_set ?_ (by omega) _) | (with_reducible refine bl_step ?_ (by assumption)))) ?_
  rintro W7 B7
  clear f0 f1 zf F0 B5
  refine (R2.out _ (HL.out.on B7)).mono ?_
  rintro e w8 ⟨rfl, hb8⟩
  have B8 : Below w.heap.size w w8 := by repeat (first | (with_reducible exact Below.refl _ _) | (with_reducible refine bl_alloc ?_ _) | (with_reducible refine Below.drew ?_) | (with_reducible refine bl_drewN ?_ _) | (with_reducible refine bl_set ?_ (by omega) _) | (with_reducible refine bl_step ?_ (by assumption)))
  clear hb8 B7
  go_wp2
  go_ret
  exact ⟨rfl, by repeat (first | (with_reducible exact Below.refl _ _) | (with_reducible refine bl_alloc ?_ _) | (with_reducible refine Below.drew ?_) | (with_reducible refine bl_drewN ?_ _) | (with_reducible refine bl_set ?_ (by omega) _) | (with_reducible refine bl_step ?_ (by assumption)))⟩
theorem fround_walk (n0 d0 : Int) (s : ByteArray) (hs : s.size ≤ 281474976710656) (w : World) (L : LaidB w) :
    Calls Tryd.prog 3 #[fr n0 d0, .string s] w fun e w' => e = .returned (.bool true) ∧ Below w.heap.size w w' := by
  have f := tame_fr n0 d0
  have T0 := tame_any n0 d0
  generalize tmN n0 = n at *
  generalize tmD d0 = d at *
  have S1 := fshow_ok n d f
  have z : (⟨(shL n d).toArray⟩ : ByteArray).size ≤ 281474976710656 := by
    have i := fr_i64 f
    have a := Lib.itoa_length_le n i.1.1 (by have := i.1.2; omega)
    have b := Lib.itoa_length_le d i.2.1 (by have := i.2.2; omega)
    have e : (⟨(shL n d).toArray⟩ : ByteArray).size = (shL n d).length := rfl
    rw [e]
    unfold shL
    split
    · omega
    · simp; omega
  have R1 := fread_good ⟨(shL n d).toArray⟩ z n d f rfl
  by_cases h : ∃ p q, Fr p q ∧ shL p q = s.data.toList
  · obtain ⟨p, q, g, e⟩ := h
    have S2 := fshow_ok p q g
    rw [e, ← ba_eq rfl] at S2
    exact fround_good n0 d0 n d p q s _ (hid1 T0) (hid1 S1) (hid1 R1) (hid1 (fread_good s hs p q g e.symm)) (hid1 S2) w L
  · exact fround_bad n0 d0 n d s _ (hid1 T0) (hid1 S1) (hid1 R1) (hid1 (fread_bad s hs (fun p q g e => h ⟨p, q, g, e⟩))) w L
end Go.Proofs.YtboabgjgcnkelabDoor
