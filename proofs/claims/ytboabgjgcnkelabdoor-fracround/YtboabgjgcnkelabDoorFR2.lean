/- READ, WALKED. -/
import Derived.Test.YtboabgjgcnkelabDoorFR1
namespace Go.Proofs.YtboabgjgcnkelabDoor
open Go.RowKit Go.Shelf
attribute [local go_sem ↓] Go.wp_at_zero Go.wp_at_succ

/-- Two cells of a fraction, which may be written. -/
def Fy (w : World) (b : Nat) (n d : Int) : Prop := w.cell? ⟨b, 0, none⟩ = some (.int .i64 n) ∧ w.cell? ⟨b, 1, none⟩ = some (.int .i64 d) ∧ w.frozen? ⟨b, 0, none⟩ = false ∧ w.frozen? ⟨b, 1, none⟩ = false
theorem Fy.keep {w w' : World} {b : Nat} {n d : Int} (h : Fy w b n d) (hb : Below w.heap.size w w') : Fy w' b n d := by
  have z := lt_of_cell h.1
  exact ⟨keepc hb h.1, keepc hb h.2.1, keepf hb z h.2.2.1, keepf hb z h.2.2.2⟩
theorem fy_new {W : World} {t : TypeId} {g : Nat} {n d : Int} (hg : W.heap.size = g) : Fy (W.alloc (.cells #[.int .i64 n, .int .i64 d] t)) g n d := by
  subst hg
  exact ⟨by simp [go_sem], by simp [go_sem], by simp [go_sem], by simp [go_sem]⟩
set_option maxRecDepth 100000 in
theorem read_t_no_ok_x (s A B : ByteArray) (d : Int) (HC : Hid (∀ w : World, Calls Tryd.prog 20 #[.string s, .string ⟨#[47]⟩] w fun e w' => e = .returned (.tuple #[.string A, .string B, .bool true]) ∧ Below w.heap.size w w')) (PA : Hid (∀ w : World, LaidB w → Calls Tryd.prog 21 #[.string A, .int .i64 10, .int .i64 64] w fun e w' => ∃ v T N, e = .returned (.tuple #[.int .i64 v, .iface T (.pointer (some ⟨N, 0, none⟩))]) ∧ Below w.heap.size w w')) (PB : Hid (∀ w : World, Calls Tryd.prog 21 #[.string B, .int .i64 10, .int .i64 64] w fun e w' => e = .returned (.tuple #[.int .i64 d, .nilIface]) ∧ Below w.heap.size w w')) (w : World) (L : LaidB w) :
    Calls Tryd.prog 9 #[.string s] w fun e w' => e = .returned (.tuple #[fr 0 0, .int .i64 40]) ∧ Below w.heap.size w w' := by
  have HL := hid1 L
  clear L
  go_enter Tryd.func9, Tryd.ntmps9
  go_wp2_with fail
  refine (HC.out _).mono ?_
  rintro e w1 ⟨rfl, hb1⟩
  have HF : Hid (Fy w1 w.heap.size 0 0) := hid1 (Fy.keep (w := w.alloc _) (fy_new rfl) hb1)
  have B1 : Below w.heap.size w w1 := by repeat (first | (with_reducible exact Below.refl _ _) | (with_reducible refine bl_alloc ?_ _) | (with_reducible refine Below.drew ?_) | (with_reducible refine bl_drewN ?_ _) | (with_reducible refine bl_set ?_ (by omega) _) | (with_reducible refine bl_step ?_ (by assumption)))
  have HL1 := hid1 (HL.out.on B1)
  clear hb1
  go_wp2_with fail
  refine (PA.out _ HL1.out).mono ?_
  rintro e w2 ⟨v2, T2, N2, rfl, hb2⟩
  replace HF := hid1 (HF.out.keep hb2)
  have B2 : Below w.heap.size w w2 := by repeat (first | (with_reducible exact Below.refl _ _) | (with_reducible refine bl_alloc ?_ _) | (with_reducible refine Below.drew ?_) | (with_reducible refine bl_drewN ?_ _) | (with_reducible refine bl_set ?_ (by omega) _) | (with_reducible refine bl_step ?_ (by assumption)))
  have HL2 := hid1 (HL.out.on B2)
  clear hb2
  go_wp2_with fail
  refine (PB.out _).mono ?_
  rintro e w3 ⟨rfl, hb3⟩
  replace HF := hid1 (HF.out.keep hb3)
  have B3 : Below w.heap.size w w3 := by repeat (first | (with_reducible exact Below.refl _ _) | (with_reducible refine bl_alloc ?_ _) | (with_reducible refine Below.drew ?_) | (with_reducible refine bl_drewN ?_ _) | (with_reducible refine bl_set ?_ (by omega) _) | (with_reducible refine bl_step ?_ (by assumption)))
  have HL3 := hid1 (HL.out.on B3)
  clear hb3
  obtain ⟨c0, c1, f0, f1⟩ := HF.out
  have z := lt_of_cell c0
  go_wp2
  simp [bodyPost, results, Tryd.results9, go_sem, *]
  repeat (first | (with_reducible exact Below.refl _ _) | (with_reducible refine bl_alloc ?_ _) | (with_reducible refine Below.drew ?_) | (with_reducible refine bl_drewN ?_ _) | (with_reducible refine bl_set ?_ (by omega) _) | (with_reducible refine bl_step ?_ (by assumption)))
set_option maxRecDepth 100000 in
theorem read_t_no_no_x (s A B : ByteArray) (HC : Hid (∀ w : World, Calls Tryd.prog 20 #[.string s, .string ⟨#[47]⟩] w fun e w' => e = .returned (.tuple #[.string A, .string B, .bool true]) ∧ Below w.heap.size w w')) (PA : Hid (∀ w : World, LaidB w → Calls Tryd.prog 21 #[.string A, .int .i64 10, .int .i64 64] w fun e w' => ∃ v T N, e = .returned (.tuple #[.int .i64 v, .iface T (.pointer (some ⟨N, 0, none⟩))]) ∧ Below w.heap.size w w')) (PB : Hid (∀ w : World, LaidB w → Calls Tryd.prog 21 #[.string B, .int .i64 10, .int .i64 64] w fun e w' => ∃ v T N, e = .returned (.tuple #[.int .i64 v, .iface T (.pointer (some ⟨N, 0, none⟩))]) ∧ Below w.heap.size w w')) (w : World) (L : LaidB w) :
    Calls Tryd.prog 9 #[.string s] w fun e w' => e = .returned (.tuple #[fr 0 0, .int .i64 40]) ∧ Below w.heap.size w w' := by
  have HL := hid1 L
  clear L
  go_enter Tryd.func9, Tryd.ntmps9
  go_wp2_with fail
  refine (HC.out _).mono ?_
  rintro e w1 ⟨rfl, hb1⟩
  have HF : Hid (Fy w1 w.heap.size 0 0) := hid1 (Fy.keep (w := w.alloc _) (fy_new rfl) hb1)
  have B1 : Below w.heap.size w w1 := by repeat (first | (with_reducible exact Below.refl _ _) | (with_reducible refine bl_alloc ?_ _) | (with_reducible refine Below.drew ?_) | (with_reducible refine bl_drewN ?_ _) | (with_reducible refine bl_set ?_ (by omega) _) | (with_reducible refine bl_step ?_ (by assumption)))
  have HL1 := hid1 (HL.out.on B1)
  clear hb1
  go_wp2_with fail
  refine (PA.out _ HL1.out).mono ?_
  rintro e w2 ⟨v2, T2, N2, rfl, hb2⟩
  replace HF := hid1 (HF.out.keep hb2)
  have B2 : Below w.heap.size w w2 := by repeat (first | (with_reducible exact Below.refl _ _) | (with_reducible refine bl_alloc ?_ _) | (with_reducible refine Below.drew ?_) | (with_reducible refine bl_drewN ?_ _) | (with_reducible refine bl_set ?_ (by omega) _) | (with_reducible refine bl_step ?_ (by assumption)))
  have HL2 := hid1 (HL.out.on B2)
  clear hb2
  go_wp2_with fail
  refine (PB.out _ HL2.out).mono ?_
  rintro e w3 ⟨v3, T3, N3, rfl, hb3⟩
  replace HF := hid1 (HF.out.keep hb3)
  have B3 : Below w.heap.size w w3 := by repeat (first | (with_reducible exact Below.refl _ _) | (with_reducible refine bl_alloc ?_ _) | (with_reducible refine Below.drew ?_) | (with_reducible refine bl_drewN ?_ _) | (with_reducible refine bl_set ?_ (by omega) _) | (with_reducible refine bl_step ?_ (by assumption)))
  have HL3 := hid1 (HL.out.on B3)
  clear hb3
  obtain ⟨c0, c1, f0, f1⟩ := HF.out
  have z := lt_of_cell c0
  go_wp2
  simp [bodyPost, results, Tryd.results9, go_sem, *]
  repeat (first | (with_reducible exact Below.refl _ _) | (with_reducible refine bl_alloc ?_ _) | (with_reducible refine Below.drew ?_) | (with_reducible refine bl_drewN ?_ _) | (with_reducible refine bl_set ?_ (by omega) _) | (with_reducible refine bl_step ?_ (by assumption)))
set_option maxRecDepth 100000 in
theorem read_t_ok_no_x (s A B : ByteArray) (n : Int) (HC : Hid (∀ w : World, Calls Tryd.prog 20 #[.string s, .string ⟨#[47]⟩] w fun e w' => e = .returned (.tuple #[.string A, .string B, .bool true]) ∧ Below w.heap.size w w')) (PA : Hid (∀ w : World, Calls Tryd.prog 21 #[.string A, .int .i64 10, .int .i64 64] w fun e w' => e = .returned (.tuple #[.int .i64 n, .nilIface]) ∧ Below w.heap.size w w')) (PB : Hid (∀ w : World, LaidB w → Calls Tryd.prog 21 #[.string B, .int .i64 10, .int .i64 64] w fun e w' => ∃ v T N, e = .returned (.tuple #[.int .i64 v, .iface T (.pointer (some ⟨N, 0, none⟩))]) ∧ Below w.heap.size w w')) (w : World) (L : LaidB w) :
    Calls Tryd.prog 9 #[.string s] w fun e w' => e = .returned (.tuple #[fr 0 0, .int .i64 40]) ∧ Below w.heap.size w w' := by
  have HL := hid1 L
  clear L
  go_enter Tryd.func9, Tryd.ntmps9
  go_wp2_with fail
  refine (HC.out _).mono ?_
  rintro e w1 ⟨rfl, hb1⟩
  have HF : Hid (Fy w1 w.heap.size 0 0) := hid1 (Fy.keep (w := w.alloc _) (fy_new rfl) hb1)
  have B1 : Below w.heap.size w w1 := by repeat (first | (with_reducible exact Below.refl _ _) | (with_reducible refine bl_alloc ?_ _) | (with_reducible refine Below.drew ?_) | (with_reducible refine bl_drewN ?_ _) | (with_reducible refine bl_set ?_ (by omega) _) | (with_reducible refine bl_step ?_ (by assumption)))
  have HL1 := hid1 (HL.out.on B1)
  clear hb1
  go_wp2_with fail
  refine (PA.out _).mono ?_
  rintro e w2 ⟨rfl, hb2⟩
  replace HF := hid1 (HF.out.keep hb2)
  have B2 : Below w.heap.size w w2 := by repeat (first | (with_reducible exact Below.refl _ _) | (with_reducible refine bl_alloc ?_ _) | (with_reducible refine Below.drew ?_) | (with_reducible refine bl_drewN ?_ _) | (with_reducible refine bl_set ?_ (by omega) _) | (with_reducible refine bl_step ?_ (by assumption)))
  have HL2 := hid1 (HL.out.on B2)
  clear hb2
  go_wp2_with fail
  refine (PB.out _ HL2.out).mono ?_
  rintro e w3 ⟨v3, T3, N3, rfl, hb3⟩
  replace HF := hid1 (HF.out.keep hb3)
  have B3 : Below w.heap.size w w3 := by repeat (first | (with_reducible exact Below.refl _ _) | (with_reducible refine bl_alloc ?_ _) | (with_reducible refine Below.drew ?_) | (with_reducible refine bl_drewN ?_ _) | (with_reducible refine bl_set ?_ (by omega) _) | (with_reducible refine bl_step ?_ (by assumption)))
  have HL3 := hid1 (HL.out.on B3)
  clear hb3
  obtain ⟨c0, c1, f0, f1⟩ := HF.out
  have z := lt_of_cell c0
  go_wp2
  simp [bodyPost, results, Tryd.results9, go_sem, *]
  repeat (first | (with_reducible exact Below.refl _ _) | (with_reducible refine bl_alloc ?_ _) | (with_reducible refine Below.drew ?_) | (with_reducible refine bl_drewN ?_ _) | (with_reducible refine bl_set ?_ (by omega) _) | (with_reducible refine bl_step ?_ (by assumption)))
set_option maxRecDepth 100000 in
theorem read_t_ok_ok_bad (s A B t : ByteArray) (n d : Int) (HC : Hid (∀ w : World, Calls Tryd.prog 20 #[.string s, .string ⟨#[47]⟩] w fun e w' => e = .returned (.tuple #[.string A, .string B, .bool true]) ∧ Below w.heap.size w w')) (PA : Hid (∀ w : World, Calls Tryd.prog 21 #[.string A, .int .i64 10, .int .i64 64] w fun e w' => e = .returned (.tuple #[.int .i64 n, .nilIface]) ∧ Below w.heap.size w w')) (PB : Hid (∀ w : World, Calls Tryd.prog 21 #[.string B, .int .i64 10, .int .i64 64] w fun e w' => e = .returned (.tuple #[.int .i64 d, .nilIface]) ∧ Below w.heap.size w w')) (HS : Hid (∀ w : World, LaidP w → Calls Tryd.prog 8 #[fr n d] w fun e w' => e = .returned (.tuple #[.string t, .int .i64 40]) ∧ Below w.heap.size w w')) (w : World) (L : LaidB w) :
    Calls Tryd.prog 9 #[.string s] w fun e w' => e = .returned (.tuple #[fr 0 0, .int .i64 40]) ∧ Below w.heap.size w w' := by
  have HL := hid1 L
  clear L
  go_enter Tryd.func9, Tryd.ntmps9
  go_wp2_with fail
  refine (HC.out _).mono ?_
  rintro e w1 ⟨rfl, hb1⟩
  have HF : Hid (Fy w1 w.heap.size 0 0) := hid1 (Fy.keep (w := w.alloc _) (fy_new rfl) hb1)
  have B1 : Below w.heap.size w w1 := by repeat (first | (with_reducible exact Below.refl _ _) | (with_reducible refine bl_alloc ?_ _) | (with_reducible refine Below.drew ?_) | (with_reducible refine bl_drewN ?_ _) | (with_reducible refine bl_set ?_ (by omega) _) | (with_reducible refine bl_step ?_ (by assumption)))
  have HL1 := hid1 (HL.out.on B1)
  clear hb1
  go_wp2_with fail
  refine (PA.out _).mono ?_
  rintro e w2 ⟨rfl, hb2⟩
  replace HF := hid1 (HF.out.keep hb2)
  have B2 : Below w.heap.size w w2 := by repeat (first | (with_reducible exact Below.refl _ _) | (with_reducible refine bl_alloc ?_ _) | (with_reducible refine Below.drew ?_) | (with_reducible refine bl_drewN ?_ _) | (with_reducible refine bl_set ?_ (by omega) _) | (with_reducible refine bl_step ?_ (by assumption)))
  have HL2 := hid1 (HL.out.on B2)
  clear hb2
  go_wp2_with fail
  refine (PB.out _).mono ?_
  rintro e w3 ⟨rfl, hb3⟩
  replace HF := hid1 (HF.out.keep hb3)
  have B3 : Below w.heap.size w w3 := by repeat (first | (with_reducible exact Below.refl _ _) | (with_reducible refine bl_alloc ?_ _) | (with_reducible refine Below.drew ?_) | (with_reducible refine bl_drewN ?_ _) | (with_reducible refine bl_set ?_ (by omega) _) | (with_reducible refine bl_step ?_ (by assumption)))
  have HL3 := hid1 (HL.out.on B3)
  clear hb3
  go_wp2_with fail
  refine gen_calls (fun W' => Below w.heap.size w W' ∧ Below w3.heap.size w3 W' ∧ Hid (Fy W' w3.heap.size n d)) ⟨by repeat (first | (with_reducible exact Below.refl _ _) | (with_reducible refine bl_alloc ?_ _) | (with_reducible refine Below.drew ?_) | (with_reducible refine bl_drewN ?_ _) | (with_reducible refine bl_set ?_ (by omega) _) | (with_reducible refine bl_step ?_ (by assumption))), by repeat (first | (with_reducible exact Below.refl _ _) | (with_reducible refine bl_alloc ?_ _) | (with_reducible refine Below.drew ?_) | (with_reducible refine bl_drewN ?_ _) | (with_reducible refine bl_set ?_ (by omega) _) | (with_reducible refine bl_step ?_ (by assumption))), hid1 (fy_new rfl)⟩ ?_
  rintro W4 ⟨B4, b4, HG⟩
  replace HF := hid1 (HF.out.keep b4)
  clear b4
  refine (HS.out _ (HL.out.on B4).pow).mono ?_
  rintro e w5 ⟨rfl, hb5⟩
  replace HF := hid1 (HF.out.keep hb5)
  replace HG := hid1 (HG.out.keep hb5)
  have B5 : Below w.heap.size w w5 := by repeat (first | (with_reducible exact Below.refl _ _) | (with_reducible refine bl_alloc ?_ _) | (with_reducible refine Below.drew ?_) | (with_reducible refine bl_drewN ?_ _) | (with_reducible refine bl_set ?_ (by omega) _) | (with_reducible refine bl_step ?_ (by assumption)))
  clear hb5 B4 B1 B2
  obtain ⟨g0, g1, _, _⟩ := HG.out
  obtain ⟨c0, c1, f0, f1⟩ := HF.out
  have z := lt_of_cell c0
  go_wp2
  simp [bodyPost, results, Tryd.results9, go_sem, *]
  repeat (first | (with_reducible exact Below.refl _ _) | (with_reducible refine bl_alloc ?_ _) | (with_reducible refine Below.drew ?_) | (with_reducible refine bl_drewN ?_ _) | (with_reducible refine bl_set ?_ (by omega) _) | (with_reducible refine bl_step ?_ (by assumption)))
set_option maxRecDepth 100000 in
theorem read_t_ok_ok_other (s A B t : ByteArray) (n d : Int) (HC : Hid (∀ w : World, Calls Tryd.prog 20 #[.string s, .string ⟨#[47]⟩] w fun e w' => e = .returned (.tuple #[.string A, .string B, .bool true]) ∧ Below w.heap.size w w')) (PA : Hid (∀ w : World, Calls Tryd.prog 21 #[.string A, .int .i64 10, .int .i64 64] w fun e w' => e = .returned (.tuple #[.int .i64 n, .nilIface]) ∧ Below w.heap.size w w')) (PB : Hid (∀ w : World, Calls Tryd.prog 21 #[.string B, .int .i64 10, .int .i64 64] w fun e w' => e = .returned (.tuple #[.int .i64 d, .nilIface]) ∧ Below w.heap.size w w')) (HS : Hid (∀ w : World, LaidP w → Calls Tryd.prog 8 #[fr n d] w fun e w' => e = .returned (.tuple #[.string t, .int .i64 0]) ∧ Below w.heap.size w w')) (ht : (t.toList == s.toList) = false) (w : World) (L : LaidB w) :
    Calls Tryd.prog 9 #[.string s] w fun e w' => e = .returned (.tuple #[fr 0 0, .int .i64 40]) ∧ Below w.heap.size w w' := by
  have HL := hid1 L
  clear L
  go_enter Tryd.func9, Tryd.ntmps9
  go_wp2_with fail
  refine (HC.out _).mono ?_
  rintro e w1 ⟨rfl, hb1⟩
  have HF : Hid (Fy w1 w.heap.size 0 0) := hid1 (Fy.keep (w := w.alloc _) (fy_new rfl) hb1)
  have B1 : Below w.heap.size w w1 := by repeat (first | (with_reducible exact Below.refl _ _) | (with_reducible refine bl_alloc ?_ _) | (with_reducible refine Below.drew ?_) | (with_reducible refine bl_drewN ?_ _) | (with_reducible refine bl_set ?_ (by omega) _) | (with_reducible refine bl_step ?_ (by assumption)))
  have HL1 := hid1 (HL.out.on B1)
  clear hb1
  go_wp2_with fail
  refine (PA.out _).mono ?_
  rintro e w2 ⟨rfl, hb2⟩
  replace HF := hid1 (HF.out.keep hb2)
  have B2 : Below w.heap.size w w2 := by repeat (first | (with_reducible exact Below.refl _ _) | (with_reducible refine bl_alloc ?_ _) | (with_reducible refine Below.drew ?_) | (with_reducible refine bl_drewN ?_ _) | (with_reducible refine bl_set ?_ (by omega) _) | (with_reducible refine bl_step ?_ (by assumption)))
  have HL2 := hid1 (HL.out.on B2)
  clear hb2
  go_wp2_with fail
  refine (PB.out _).mono ?_
  rintro e w3 ⟨rfl, hb3⟩
  replace HF := hid1 (HF.out.keep hb3)
  have B3 : Below w.heap.size w w3 := by repeat (first | (with_reducible exact Below.refl _ _) | (with_reducible refine bl_alloc ?_ _) | (with_reducible refine Below.drew ?_) | (with_reducible refine bl_drewN ?_ _) | (with_reducible refine bl_set ?_ (by omega) _) | (with_reducible refine bl_step ?_ (by assumption)))
  have HL3 := hid1 (HL.out.on B3)
  clear hb3
  go_wp2_with fail
  refine gen_calls (fun W' => Below w.heap.size w W' ∧ Below w3.heap.size w3 W' ∧ Hid (Fy W' w3.heap.size n d)) ⟨by repeat (first | (with_reducible exact Below.refl _ _) | (with_reducible refine bl_alloc ?_ _) | (with_reducible refine Below.drew ?_) | (with_reducible refine bl_drewN ?_ _) | (with_reducible refine bl_set ?_ (by omega) _) | (with_reducible refine bl_step ?_ (by assumption))), by repeat (first | (with_reducible exact Below.refl _ _) | (with_reducible refine bl_alloc ?_ _) | (with_reducible refine Below.drew ?_) | (with_reducible refine bl_drewN ?_ _) | (with_reducible refine bl_set ?_ (by omega) _) | (with_reducible refine bl_step ?_ (by assumption))), hid1 (fy_new rfl)⟩ ?_
  rintro W4 ⟨B4, b4, HG⟩
  replace HF := hid1 (HF.out.keep b4)
  clear b4
  refine (HS.out _ (HL.out.on B4).pow).mono ?_
  rintro e w5 ⟨rfl, hb5⟩
  replace HF := hid1 (HF.out.keep hb5)
  replace HG := hid1 (HG.out.keep hb5)
  have B5 : Below w.heap.size w w5 := by repeat (first | (with_reducible exact Below.refl _ _) | (with_reducible refine bl_alloc ?_ _) | (with_reducible refine Below.drew ?_) | (with_reducible refine bl_drewN ?_ _) | (with_reducible refine bl_set ?_ (by omega) _) | (with_reducible refine bl_step ?_ (by assumption)))
  clear hb5 B4 B1 B2
  obtain ⟨g0, g1, _, _⟩ := HG.out
  obtain ⟨c0, c1, f0, f1⟩ := HF.out
  have z := lt_of_cell c0
  go_wp2
  simp [bodyPost, results, Tryd.results9, go_sem, *]
  repeat (first | (with_reducible exact Below.refl _ _) | (with_reducible refine bl_alloc ?_ _) | (with_reducible refine Below.drew ?_) | (with_reducible refine bl_drewN ?_ _) | (with_reducible refine bl_set ?_ (by omega) _) | (with_reducible refine bl_step ?_ (by assumption)))
set_option maxRecDepth 100000 in
theorem read_t_ok_ok_good (s A B : ByteArray) (n d : Int) (HC : Hid (∀ w : World, Calls Tryd.prog 20 #[.string s, .string ⟨#[47]⟩] w fun e w' => e = .returned (.tuple #[.string A, .string B, .bool true]) ∧ Below w.heap.size w w')) (PA : Hid (∀ w : World, Calls Tryd.prog 21 #[.string A, .int .i64 10, .int .i64 64] w fun e w' => e = .returned (.tuple #[.int .i64 n, .nilIface]) ∧ Below w.heap.size w w')) (PB : Hid (∀ w : World, Calls Tryd.prog 21 #[.string B, .int .i64 10, .int .i64 64] w fun e w' => e = .returned (.tuple #[.int .i64 d, .nilIface]) ∧ Below w.heap.size w w')) (HS : Hid (∀ w : World, LaidP w → Calls Tryd.prog 8 #[fr n d] w fun e w' => e = .returned (.tuple #[.string s, .int .i64 0]) ∧ Below w.heap.size w w')) (w : World) (L : LaidB w) :
    Calls Tryd.prog 9 #[.string s] w fun e w' => e = .returned (.tuple #[fr n d, .int .i64 0]) ∧ Below w.heap.size w w' := by
  have HL := hid1 L
  clear L
  go_enter Tryd.func9, Tryd.ntmps9
  go_wp2_with fail
  refine (HC.out _).mono ?_
  rintro e w1 ⟨rfl, hb1⟩
  have HF : Hid (Fy w1 w.heap.size 0 0) := hid1 (Fy.keep (w := w.alloc _) (fy_new rfl) hb1)
  have B1 : Below w.heap.size w w1 := by repeat (first | (with_reducible exact Below.refl _ _) | (with_reducible refine bl_alloc ?_ _) | (with_reducible refine Below.drew ?_) | (with_reducible refine bl_drewN ?_ _) | (with_reducible refine bl_set ?_ (by omega) _) | (with_reducible refine bl_step ?_ (by assumption)))
  have HL1 := hid1 (HL.out.on B1)
  clear hb1
  go_wp2_with fail
  refine (PA.out _).mono ?_
  rintro e w2 ⟨rfl, hb2⟩
  replace HF := hid1 (HF.out.keep hb2)
  have B2 : Below w.heap.size w w2 := by repeat (first | (with_reducible exact Below.refl _ _) | (with_reducible refine bl_alloc ?_ _) | (with_reducible refine Below.drew ?_) | (with_reducible refine bl_drewN ?_ _) | (with_reducible refine bl_set ?_ (by omega) _) | (with_reducible refine bl_step ?_ (by assumption)))
  have HL2 := hid1 (HL.out.on B2)
  clear hb2
  go_wp2_with fail
  refine (PB.out _).mono ?_
  rintro e w3 ⟨rfl, hb3⟩
  replace HF := hid1 (HF.out.keep hb3)
  have B3 : Below w.heap.size w w3 := by repeat (first | (with_reducible exact Below.refl _ _) | (with_reducible refine bl_alloc ?_ _) | (with_reducible refine Below.drew ?_) | (with_reducible refine bl_drewN ?_ _) | (with_reducible refine bl_set ?_ (by omega) _) | (with_reducible refine bl_step ?_ (by assumption)))
  have HL3 := hid1 (HL.out.on B3)
  clear hb3
  go_wp2_with fail
  refine gen_calls (fun W' => Below w.heap.size w W' ∧ Below w3.heap.size w3 W' ∧ Hid (Fy W' w3.heap.size n d)) ⟨by repeat (first | (with_reducible exact Below.refl _ _) | (with_reducible refine bl_alloc ?_ _) | (with_reducible refine Below.drew ?_) | (with_reducible refine bl_drewN ?_ _) | (with_reducible refine bl_set ?_ (by omega) _) | (with_reducible refine bl_step ?_ (by assumption))), by repeat (first | (with_reducible exact Below.refl _ _) | (with_reducible refine bl_alloc ?_ _) | (with_reducible refine Below.drew ?_) | (with_reducible refine bl_drewN ?_ _) | (with_reducible refine bl_set ?_ (by omega) _) | (with_reducible refine bl_step ?_ (by assumption))), hid1 (fy_new rfl)⟩ ?_
  rintro W4 ⟨B4, b4, HG⟩
  replace HF := hid1 (HF.out.keep b4)
  clear b4
  refine (HS.out _ (HL.out.on B4).pow).mono ?_
  rintro e w5 ⟨rfl, hb5⟩
  replace HF := hid1 (HF.out.keep hb5)
  replace HG := hid1 (HG.out.keep hb5)
  have B5 : Below w.heap.size w w5 := by repeat (first | (with_reducible exact Below.refl _ _) | (with_reducible refine bl_alloc ?_ _) | (with_reducible refine Below.drew ?_) | (with_reducible refine bl_drewN ?_ _) | (with_reducible refine bl_set ?_ (by omega) _) | (with_reducible refine bl_step ?_ (by assumption)))
  clear hb5 B4 B1 B2
  obtain ⟨g0, g1, _, _⟩ := HG.out
  obtain ⟨c0, c1, f0, f1⟩ := HF.out
  have z := lt_of_cell c0
  go_wp2
  simp [bodyPost, results, Tryd.results9, go_sem, *]
  repeat (first | (with_reducible exact Below.refl _ _) | (with_reducible refine bl_alloc ?_ _) | (with_reducible refine Below.drew ?_) | (with_reducible refine bl_drewN ?_ _) | (with_reducible refine bl_set ?_ (by omega) _) | (with_reducible refine bl_step ?_ (by assumption)))
set_option maxRecDepth 100000 in
theorem read_f_no_ok_x (s A : ByteArray) (d : Int) (HC : Hid (∀ w : World, Calls Tryd.prog 20 #[.string s, .string ⟨#[47]⟩] w fun e w' => e = .returned (.tuple #[.string A, .string ⟨#[]⟩, .bool false]) ∧ Below w.heap.size w w')) (PA : Hid (∀ w : World, LaidB w → Calls Tryd.prog 21 #[.string A, .int .i64 10, .int .i64 64] w fun e w' => ∃ v T N, e = .returned (.tuple #[.int .i64 v, .iface T (.pointer (some ⟨N, 0, none⟩))]) ∧ Below w.heap.size w w')) (PB : Hid (∀ w : World, Calls Tryd.prog 21 #[.string ⟨#[49]⟩, .int .i64 10, .int .i64 64] w fun e w' => e = .returned (.tuple #[.int .i64 d, .nilIface]) ∧ Below w.heap.size w w')) (w : World) (L : LaidB w) :
    Calls Tryd.prog 9 #[.string s] w fun e w' => e = .returned (.tuple #[fr 0 0, .int .i64 40]) ∧ Below w.heap.size w w' := by
  have HL := hid1 L
  clear L
  go_enter Tryd.func9, Tryd.ntmps9
  go_wp2_with fail
  refine (HC.out _).mono ?_
  rintro e w1 ⟨rfl, hb1⟩
  have HF : Hid (Fy w1 w.heap.size 0 0) := hid1 (Fy.keep (w := w.alloc _) (fy_new rfl) hb1)
  have B1 : Below w.heap.size w w1 := by repeat (first | (with_reducible exact Below.refl _ _) | (with_reducible refine bl_alloc ?_ _) | (with_reducible refine Below.drew ?_) | (with_reducible refine bl_drewN ?_ _) | (with_reducible refine bl_set ?_ (by omega) _) | (with_reducible refine bl_step ?_ (by assumption)))
  have HL1 := hid1 (HL.out.on B1)
  clear hb1
  go_wp2_with fail
  refine (PA.out _ HL1.out).mono ?_
  rintro e w2 ⟨v2, T2, N2, rfl, hb2⟩
  replace HF := hid1 (HF.out.keep hb2)
  have B2 : Below w.heap.size w w2 := by repeat (first | (with_reducible exact Below.refl _ _) | (with_reducible refine bl_alloc ?_ _) | (with_reducible refine Below.drew ?_) | (with_reducible refine bl_drewN ?_ _) | (with_reducible refine bl_set ?_ (by omega) _) | (with_reducible refine bl_step ?_ (by assumption)))
  have HL2 := hid1 (HL.out.on B2)
  clear hb2
  go_wp2_with fail
  refine (PB.out _).mono ?_
  rintro e w3 ⟨rfl, hb3⟩
  replace HF := hid1 (HF.out.keep hb3)
  have B3 : Below w.heap.size w w3 := by repeat (first | (with_reducible exact Below.refl _ _) | (with_reducible refine bl_alloc ?_ _) | (with_reducible refine Below.drew ?_) | (with_reducible refine bl_drewN ?_ _) | (with_reducible refine bl_set ?_ (by omega) _) | (with_reducible refine bl_step ?_ (by assumption)))
  have HL3 := hid1 (HL.out.on B3)
  clear hb3
  obtain ⟨c0, c1, f0, f1⟩ := HF.out
  have z := lt_of_cell c0
  go_wp2
  simp [bodyPost, results, Tryd.results9, go_sem, *]
  repeat (first | (with_reducible exact Below.refl _ _) | (with_reducible refine bl_alloc ?_ _) | (with_reducible refine Below.drew ?_) | (with_reducible refine bl_drewN ?_ _) | (with_reducible refine bl_set ?_ (by omega) _) | (with_reducible refine bl_step ?_ (by assumption)))
set_option maxRecDepth 100000 in
theorem read_f_no_no_x (s A : ByteArray) (HC : Hid (∀ w : World, Calls Tryd.prog 20 #[.string s, .string ⟨#[47]⟩] w fun e w' => e = .returned (.tuple #[.string A, .string ⟨#[]⟩, .bool false]) ∧ Below w.heap.size w w')) (PA : Hid (∀ w : World, LaidB w → Calls Tryd.prog 21 #[.string A, .int .i64 10, .int .i64 64] w fun e w' => ∃ v T N, e = .returned (.tuple #[.int .i64 v, .iface T (.pointer (some ⟨N, 0, none⟩))]) ∧ Below w.heap.size w w')) (PB : Hid (∀ w : World, LaidB w → Calls Tryd.prog 21 #[.string ⟨#[49]⟩, .int .i64 10, .int .i64 64] w fun e w' => ∃ v T N, e = .returned (.tuple #[.int .i64 v, .iface T (.pointer (some ⟨N, 0, none⟩))]) ∧ Below w.heap.size w w')) (w : World) (L : LaidB w) :
    Calls Tryd.prog 9 #[.string s] w fun e w' => e = .returned (.tuple #[fr 0 0, .int .i64 40]) ∧ Below w.heap.size w w' := by
  have HL := hid1 L
  clear L
  go_enter Tryd.func9, Tryd.ntmps9
  go_wp2_with fail
  refine (HC.out _).mono ?_
  rintro e w1 ⟨rfl, hb1⟩
  have HF : Hid (Fy w1 w.heap.size 0 0) := hid1 (Fy.keep (w := w.alloc _) (fy_new rfl) hb1)
  have B1 : Below w.heap.size w w1 := by repeat (first | (with_reducible exact Below.refl _ _) | (with_reducible refine bl_alloc ?_ _) | (with_reducible refine Below.drew ?_) | (with_reducible refine bl_drewN ?_ _) | (with_reducible refine bl_set ?_ (by omega) _) | (with_reducible refine bl_step ?_ (by assumption)))
  have HL1 := hid1 (HL.out.on B1)
  clear hb1
  go_wp2_with fail
  refine (PA.out _ HL1.out).mono ?_
  rintro e w2 ⟨v2, T2, N2, rfl, hb2⟩
  replace HF := hid1 (HF.out.keep hb2)
  have B2 : Below w.heap.size w w2 := by repeat (first | (with_reducible exact Below.refl _ _) | (with_reducible refine bl_alloc ?_ _) | (with_reducible refine Below.drew ?_) | (with_reducible refine bl_drewN ?_ _) | (with_reducible refine bl_set ?_ (by omega) _) | (with_reducible refine bl_step ?_ (by assumption)))
  have HL2 := hid1 (HL.out.on B2)
  clear hb2
  go_wp2_with fail
  refine (PB.out _ HL2.out).mono ?_
  rintro e w3 ⟨v3, T3, N3, rfl, hb3⟩
  replace HF := hid1 (HF.out.keep hb3)
  have B3 : Below w.heap.size w w3 := by repeat (first | (with_reducible exact Below.refl _ _) | (with_reducible refine bl_alloc ?_ _) | (with_reducible refine Below.drew ?_) | (with_reducible refine bl_drewN ?_ _) | (with_reducible refine bl_set ?_ (by omega) _) | (with_reducible refine bl_step ?_ (by assumption)))
  have HL3 := hid1 (HL.out.on B3)
  clear hb3
  obtain ⟨c0, c1, f0, f1⟩ := HF.out
  have z := lt_of_cell c0
  go_wp2
  simp [bodyPost, results, Tryd.results9, go_sem, *]
  repeat (first | (with_reducible exact Below.refl _ _) | (with_reducible refine bl_alloc ?_ _) | (with_reducible refine Below.drew ?_) | (with_reducible refine bl_drewN ?_ _) | (with_reducible refine bl_set ?_ (by omega) _) | (with_reducible refine bl_step ?_ (by assumption)))
set_option maxRecDepth 100000 in
theorem read_f_ok_no_x (s A : ByteArray) (n : Int) (HC : Hid (∀ w : World, Calls Tryd.prog 20 #[.string s, .string ⟨#[47]⟩] w fun e w' => e = .returned (.tuple #[.string A, .string ⟨#[]⟩, .bool false]) ∧ Below w.heap.size w w')) (PA : Hid (∀ w : World, Calls Tryd.prog 21 #[.string A, .int .i64 10, .int .i64 64] w fun e w' => e = .returned (.tuple #[.int .i64 n, .nilIface]) ∧ Below w.heap.size w w')) (PB : Hid (∀ w : World, LaidB w → Calls Tryd.prog 21 #[.string ⟨#[49]⟩, .int .i64 10, .int .i64 64] w fun e w' => ∃ v T N, e = .returned (.tuple #[.int .i64 v, .iface T (.pointer (some ⟨N, 0, none⟩))]) ∧ Below w.heap.size w w')) (w : World) (L : LaidB w) :
    Calls Tryd.prog 9 #[.string s] w fun e w' => e = .returned (.tuple #[fr 0 0, .int .i64 40]) ∧ Below w.heap.size w w' := by
  have HL := hid1 L
  clear L
  go_enter Tryd.func9, Tryd.ntmps9
  go_wp2_with fail
  refine (HC.out _).mono ?_
  rintro e w1 ⟨rfl, hb1⟩
  have HF : Hid (Fy w1 w.heap.size 0 0) := hid1 (Fy.keep (w := w.alloc _) (fy_new rfl) hb1)
  have B1 : Below w.heap.size w w1 := by repeat (first | (with_reducible exact Below.refl _ _) | (with_reducible refine bl_alloc ?_ _) | (with_reducible refine Below.drew ?_) | (with_reducible refine bl_drewN ?_ _) | (with_reducible refine bl_set ?_ (by omega) _) | (with_reducible refine bl_step ?_ (by assumption)))
  have HL1 := hid1 (HL.out.on B1)
  clear hb1
  go_wp2_with fail
  refine (PA.out _).mono ?_
  rintro e w2 ⟨rfl, hb2⟩
  replace HF := hid1 (HF.out.keep hb2)
  have B2 : Below w.heap.size w w2 := by repeat (first | (with_reducible exact Below.refl _ _) | (with_reducible refine bl_alloc ?_ _) | (with_reducible refine Below.drew ?_) | (with_reducible refine bl_drewN ?_ _) | (with_reducible refine bl_set ?_ (by omega) _) | (with_reducible refine bl_step ?_ (by assumption)))
  have HL2 := hid1 (HL.out.on B2)
  clear hb2
  go_wp2_with fail
  refine (PB.out _ HL2.out).mono ?_
  rintro e w3 ⟨v3, T3, N3, rfl, hb3⟩
  replace HF := hid1 (HF.out.keep hb3)
  have B3 : Below w.heap.size w w3 := by repeat (first | (with_reducible exact Below.refl _ _) | (with_reducible refine bl_alloc ?_ _) | (with_reducible refine Below.drew ?_) | (with_reducible refine bl_drewN ?_ _) | (with_reducible refine bl_set ?_ (by omega) _) | (with_reducible refine bl_step ?_ (by assumption)))
  have HL3 := hid1 (HL.out.on B3)
  clear hb3
  obtain ⟨c0, c1, f0, f1⟩ := HF.out
  have z := lt_of_cell c0
  go_wp2
  simp [bodyPost, results, Tryd.results9, go_sem, *]
  repeat (first | (with_reducible exact Below.refl _ _) | (with_reducible refine bl_alloc ?_ _) | (with_reducible refine Below.drew ?_) | (with_reducible refine bl_drewN ?_ _) | (with_reducible refine bl_set ?_ (by omega) _) | (with_reducible refine bl_step ?_ (by assumption)))
set_option maxRecDepth 100000 in
theorem read_f_ok_ok_bad (s A t : ByteArray) (n d : Int) (HC : Hid (∀ w : World, Calls Tryd.prog 20 #[.string s, .string ⟨#[47]⟩] w fun e w' => e = .returned (.tuple #[.string A, .string ⟨#[]⟩, .bool false]) ∧ Below w.heap.size w w')) (PA : Hid (∀ w : World, Calls Tryd.prog 21 #[.string A, .int .i64 10, .int .i64 64] w fun e w' => e = .returned (.tuple #[.int .i64 n, .nilIface]) ∧ Below w.heap.size w w')) (PB : Hid (∀ w : World, Calls Tryd.prog 21 #[.string ⟨#[49]⟩, .int .i64 10, .int .i64 64] w fun e w' => e = .returned (.tuple #[.int .i64 d, .nilIface]) ∧ Below w.heap.size w w')) (HS : Hid (∀ w : World, LaidP w → Calls Tryd.prog 8 #[fr n d] w fun e w' => e = .returned (.tuple #[.string t, .int .i64 40]) ∧ Below w.heap.size w w')) (w : World) (L : LaidB w) :
    Calls Tryd.prog 9 #[.string s] w fun e w' => e = .returned (.tuple #[fr 0 0, .int .i64 40]) ∧ Below w.heap.size w w' := by
  have HL := hid1 L
  clear L
  go_enter Tryd.func9, Tryd.ntmps9
  go_wp2_with fail
  refine (HC.out _).mono ?_
  rintro e w1 ⟨rfl, hb1⟩
  have HF : Hid (Fy w1 w.heap.size 0 0) := hid1 (Fy.keep (w := w.alloc _) (fy_new rfl) hb1)
  have B1 : Below w.heap.size w w1 := by repeat (first | (with_reducible exact Below.refl _ _) | (with_reducible refine bl_alloc ?_ _) | (with_reducible refine Below.drew ?_) | (with_reducible refine bl_drewN ?_ _) | (with_reducible refine bl_set ?_ (by omega) _) | (with_reducible refine bl_step ?_ (by assumption)))
  have HL1 := hid1 (HL.out.on B1)
  clear hb1
  go_wp2_with fail
  refine (PA.out _).mono ?_
  rintro e w2 ⟨rfl, hb2⟩
  replace HF := hid1 (HF.out.keep hb2)
  have B2 : Below w.heap.size w w2 := by repeat (first | (with_reducible exact Below.refl _ _) | (with_reducible refine bl_alloc ?_ _) | (with_reducible refine Below.drew ?_) | (with_reducible refine bl_drewN ?_ _) | (with_reducible refine bl_set ?_ (by omega) _) | (with_reducible refine bl_step ?_ (by assumption)))
  have HL2 := hid1 (HL.out.on B2)
  clear hb2
  go_wp2_with fail
  refine (PB.out _).mono ?_
  rintro e w3 ⟨rfl, hb3⟩
  replace HF := hid1 (HF.out.keep hb3)
  have B3 : Below w.heap.size w w3 := by repeat (first | (with_reducible exact Below.refl _ _) | (with_reducible refine bl_alloc ?_ _) | (with_reducible refine Below.drew ?_) | (with_reducible refine bl_drewN ?_ _) | (with_reducible refine bl_set ?_ (by omega) _) | (with_reducible refine bl_step ?_ (by assumption)))
  have HL3 := hid1 (HL.out.on B3)
  clear hb3
  go_wp2_with fail
  refine gen_calls (fun W' => Below w.heap.size w W' ∧ Below w3.heap.size w3 W' ∧ Hid (Fy W' w3.heap.size n d)) ⟨by repeat (first | (with_reducible exact Below.refl _ _) | (with_reducible refine bl_alloc ?_ _) | (with_reducible refine Below.drew ?_) | (with_reducible refine bl_drewN ?_ _) | (with_reducible refine bl_set ?_ (by omega) _) | (with_reducible refine bl_step ?_ (by assumption))), by repeat (first | (with_reducible exact Below.refl _ _) | (with_reducible refine bl_alloc ?_ _) | (with_reducible refine Below.drew ?_) | (with_reducible refine bl_drewN ?_ _) | (with_reducible refine bl_set ?_ (by omega) _) | (with_reducible refine bl_step ?_ (by assumption))), hid1 (fy_new rfl)⟩ ?_
  rintro W4 ⟨B4, b4, HG⟩
  replace HF := hid1 (HF.out.keep b4)
  clear b4
  refine (HS.out _ (HL.out.on B4).pow).mono ?_
  rintro e w5 ⟨rfl, hb5⟩
  replace HF := hid1 (HF.out.keep hb5)
  replace HG := hid1 (HG.out.keep hb5)
  have B5 : Below w.heap.size w w5 := by repeat (first | (with_reducible exact Below.refl _ _) | (with_reducible refine bl_alloc ?_ _) | (with_reducible refine Below.drew ?_) | (with_reducible refine bl_drewN ?_ _) | (with_reducible refine bl_set ?_ (by omega) _) | (with_reducible refine bl_step ?_ (by assumption)))
  clear hb5 B4 B1 B2
  obtain ⟨g0, g1, _, _⟩ := HG.out
  obtain ⟨c0, c1, f0, f1⟩ := HF.out
  have z := lt_of_cell c0
  go_wp2
  simp [bodyPost, results, Tryd.results9, go_sem, *]
  repeat (first | (with_reducible exact Below.refl _ _) | (with_reducible refine bl_alloc ?_ _) | (with_reducible refine Below.drew ?_) | (with_reducible refine bl_drewN ?_ _) | (with_reducible refine bl_set ?_ (by omega) _) | (with_reducible refine bl_step ?_ (by assumption)))
set_option maxRecDepth 100000 in
theorem read_f_ok_ok_other (s A t : ByteArray) (n d : Int) (HC : Hid (∀ w : World, Calls Tryd.prog 20 #[.string s, .string ⟨#[47]⟩] w fun e w' => e = .returned (.tuple #[.string A, .string ⟨#[]⟩, .bool false]) ∧ Below w.heap.size w w')) (PA : Hid (∀ w : World, Calls Tryd.prog 21 #[.string A, .int .i64 10, .int .i64 64] w fun e w' => e = .returned (.tuple #[.int .i64 n, .nilIface]) ∧ Below w.heap.size w w')) (PB : Hid (∀ w : World, Calls Tryd.prog 21 #[.string ⟨#[49]⟩, .int .i64 10, .int .i64 64] w fun e w' => e = .returned (.tuple #[.int .i64 d, .nilIface]) ∧ Below w.heap.size w w')) (HS : Hid (∀ w : World, LaidP w → Calls Tryd.prog 8 #[fr n d] w fun e w' => e = .returned (.tuple #[.string t, .int .i64 0]) ∧ Below w.heap.size w w')) (ht : (t.toList == s.toList) = false) (w : World) (L : LaidB w) :
    Calls Tryd.prog 9 #[.string s] w fun e w' => e = .returned (.tuple #[fr 0 0, .int .i64 40]) ∧ Below w.heap.size w w' := by
  have HL := hid1 L
  clear L
  go_enter Tryd.func9, Tryd.ntmps9
  go_wp2_with fail
  refine (HC.out _).mono ?_
  rintro e w1 ⟨rfl, hb1⟩
  have HF : Hid (Fy w1 w.heap.size 0 0) := hid1 (Fy.keep (w := w.alloc _) (fy_new rfl) hb1)
  have B1 : Below w.heap.size w w1 := by repeat (first | (with_reducible exact Below.refl _ _) | (with_reducible refine bl_alloc ?_ _) | (with_reducible refine Below.drew ?_) | (with_reducible refine bl_drewN ?_ _) | (with_reducible refine bl_set ?_ (by omega) _) | (with_reducible refine bl_step ?_ (by assumption)))
  have HL1 := hid1 (HL.out.on B1)
  clear hb1
  go_wp2_with fail
  refine (PA.out _).mono ?_
  rintro e w2 ⟨rfl, hb2⟩
  replace HF := hid1 (HF.out.keep hb2)
  have B2 : Below w.heap.size w w2 := by repeat (first | (with_reducible exact Below.refl _ _) | (with_reducible refine bl_alloc ?_ _) | (with_reducible refine Below.drew ?_) | (with_reducible refine bl_drewN ?_ _) | (with_reducible refine bl_set ?_ (by omega) _) | (with_reducible refine bl_step ?_ (by assumption)))
  have HL2 := hid1 (HL.out.on B2)
  clear hb2
  go_wp2_with fail
  refine (PB.out _).mono ?_
  rintro e w3 ⟨rfl, hb3⟩
  replace HF := hid1 (HF.out.keep hb3)
  have B3 : Below w.heap.size w w3 := by repeat (first | (with_reducible exact Below.refl _ _) | (with_reducible refine bl_alloc ?_ _) | (with_reducible refine Below.drew ?_) | (with_reducible refine bl_drewN ?_ _) | (with_reducible refine bl_set ?_ (by omega) _) | (with_reducible refine bl_step ?_ (by assumption)))
  have HL3 := hid1 (HL.out.on B3)
  clear hb3
  go_wp2_with fail
  refine gen_calls (fun W' => Below w.heap.size w W' ∧ Below w3.heap.size w3 W' ∧ Hid (Fy W' w3.heap.size n d)) ⟨by repeat (first | (with_reducible exact Below.refl _ _) | (with_reducible refine bl_alloc ?_ _) | (with_reducible refine Below.drew ?_) | (with_reducible refine bl_drewN ?_ _) | (with_reducible refine bl_set ?_ (by omega) _) | (with_reducible refine bl_step ?_ (by assumption))), by repeat (first | (with_reducible exact Below.refl _ _) | (with_reducible refine bl_alloc ?_ _) | (with_reducible refine Below.drew ?_) | (with_reducible refine bl_drewN ?_ _) | (with_reducible refine bl_set ?_ (by omega) _) | (with_reducible refine bl_step ?_ (by assumption))), hid1 (fy_new rfl)⟩ ?_
  rintro W4 ⟨B4, b4, HG⟩
  replace HF := hid1 (HF.out.keep b4)
  clear b4
  refine (HS.out _ (HL.out.on B4).pow).mono ?_
  rintro e w5 ⟨rfl, hb5⟩
  replace HF := hid1 (HF.out.keep hb5)
  replace HG := hid1 (HG.out.keep hb5)
  have B5 : Below w.heap.size w w5 := by repeat (first | (with_reducible exact Below.refl _ _) | (with_reducible refine bl_alloc ?_ _) | (with_reducible refine Below.drew ?_) | (with_reducible refine bl_drewN ?_ _) | (with_reducible refine bl_set ?_ (by omega) _) | (with_reducible refine bl_step ?_ (by assumption)))
  clear hb5 B4 B1 B2
  obtain ⟨g0, g1, _, _⟩ := HG.out
  obtain ⟨c0, c1, f0, f1⟩ := HF.out
  have z := lt_of_cell c0
  go_wp2
  simp [bodyPost, results, Tryd.results9, go_sem, *]
  repeat (first | (with_reducible exact Below.refl _ _) | (with_reducible refine bl_alloc ?_ _) | (with_reducible refine Below.drew ?_) | (with_reducible refine bl_drewN ?_ _) | (with_reducible refine bl_set ?_ (by omega) _) | (with_reducible refine bl_step ?_ (by assumption)))
set_option maxRecDepth 100000 in
theorem read_f_ok_ok_good (s A : ByteArray) (n d : Int) (HC : Hid (∀ w : World, Calls Tryd.prog 20 #[.string s, .string ⟨#[47]⟩] w fun e w' => e = .returned (.tuple #[.string A, .string ⟨#[]⟩, .bool false]) ∧ Below w.heap.size w w')) (PA : Hid (∀ w : World, Calls Tryd.prog 21 #[.string A, .int .i64 10, .int .i64 64] w fun e w' => e = .returned (.tuple #[.int .i64 n, .nilIface]) ∧ Below w.heap.size w w')) (PB : Hid (∀ w : World, Calls Tryd.prog 21 #[.string ⟨#[49]⟩, .int .i64 10, .int .i64 64] w fun e w' => e = .returned (.tuple #[.int .i64 d, .nilIface]) ∧ Below w.heap.size w w')) (HS : Hid (∀ w : World, LaidP w → Calls Tryd.prog 8 #[fr n d] w fun e w' => e = .returned (.tuple #[.string s, .int .i64 0]) ∧ Below w.heap.size w w')) (w : World) (L : LaidB w) :
    Calls Tryd.prog 9 #[.string s] w fun e w' => e = .returned (.tuple #[fr n d, .int .i64 0]) ∧ Below w.heap.size w w' := by
  have HL := hid1 L
  clear L
  go_enter Tryd.func9, Tryd.ntmps9
  go_wp2_with fail
  refine (HC.out _).mono ?_
  rintro e w1 ⟨rfl, hb1⟩
  have HF : Hid (Fy w1 w.heap.size 0 0) := hid1 (Fy.keep (w := w.alloc _) (fy_new rfl) hb1)
  have B1 : Below w.heap.size w w1 := by repeat (first | (with_reducible exact Below.refl _ _) | (with_reducible refine bl_alloc ?_ _) | (with_reducible refine Below.drew ?_) | (with_reducible refine bl_drewN ?_ _) | (with_reducible refine bl_set ?_ (by omega) _) | (with_reducible refine bl_step ?_ (by assumption)))
  have HL1 := hid1 (HL.out.on B1)
  clear hb1
  go_wp2_with fail
  refine (PA.out _).mono ?_
  rintro e w2 ⟨rfl, hb2⟩
  replace HF := hid1 (HF.out.keep hb2)
  have B2 : Below w.heap.size w w2 := by repeat (first | (with_reducible exact Below.refl _ _) | (with_reducible refine bl_alloc ?_ _) | (with_reducible refine Below.drew ?_) | (with_reducible refine bl_drewN ?_ _) | (with_reducible refine bl_set ?_ (by omega) _) | (with_reducible refine bl_step ?_ (by assumption)))
  have HL2 := hid1 (HL.out.on B2)
  clear hb2
  go_wp2_with fail
  refine (PB.out _).mono ?_
  rintro e w3 ⟨rfl, hb3⟩
  replace HF := hid1 (HF.out.keep hb3)
  have B3 : Below w.heap.size w w3 := by repeat (first | (with_reducible exact Below.refl _ _) | (with_reducible refine bl_alloc ?_ _) | (with_reducible refine Below.drew ?_) | (with_reducible refine bl_drewN ?_ _) | (with_reducible refine bl_set ?_ (by omega) _) | (with_reducible refine bl_step ?_ (by assumption)))
  have HL3 := hid1 (HL.out.on B3)
  clear hb3
  go_wp2_with fail
  refine gen_calls (fun W' => Below w.heap.size w W' ∧ Below w3.heap.size w3 W' ∧ Hid (Fy W' w3.heap.size n d)) ⟨by repeat (first | (with_reducible exact Below.refl _ _) | (with_reducible refine bl_alloc ?_ _) | (with_reducible refine Below.drew ?_) | (with_reducible refine bl_drewN ?_ _) | (with_reducible refine bl_set ?_ (by omega) _) | (with_reducible refine bl_step ?_ (by assumption))), by repeat (first | (with_reducible exact Below.refl _ _) | (with_reducible refine bl_alloc ?_ _) | (with_reducible refine Below.drew ?_) | (with_reducible refine bl_drewN ?_ _) | (with_reducible refine bl_set ?_ (by omega) _) | (with_reducible refine bl_step ?_ (by assumption))), hid1 (fy_new rfl)⟩ ?_
  rintro W4 ⟨B4, b4, HG⟩
  replace HF := hid1 (HF.out.keep b4)
  clear b4
  refine (HS.out _ (HL.out.on B4).pow).mono ?_
  rintro e w5 ⟨rfl, hb5⟩
  replace HF := hid1 (HF.out.keep hb5)
  replace HG := hid1 (HG.out.keep hb5)
  have B5 : Below w.heap.size w w5 := by repeat (first | (with_reducible exact Below.refl _ _) | (with_reducible refine bl_alloc ?_ _) | (with_reducible refine Below.drew ?_) | (with_reducible refine bl_drewN ?_ _) | (with_reducible refine bl_set ?_ (by omega) _) | (with_reducible refine bl_step ?_ (by assumption)))
  clear hb5 B4 B1 B2
  obtain ⟨g0, g1, _, _⟩ := HG.out
  obtain ⟨c0, c1, f0, f1⟩ := HF.out
  have z := lt_of_cell c0
  go_wp2
  simp [bodyPost, results, Tryd.results9, go_sem, *]
  repeat (first | (with_reducible exact Below.refl _ _) | (with_reducible refine bl_alloc ?_ _) | (with_reducible refine Below.drew ?_) | (with_reducible refine bl_drewN ?_ _) | (with_reducible refine bl_set ?_ (by omega) _) | (with_reducible refine bl_step ?_ (by assumption)))
end Go.Proofs.YtboabgjgcnkelabDoor
