/- SHAPES: ONE STEP OF A SCRIPT, WALKED. -/
import Derived.Test.YtdpdfopmmhpfmaaSW12
import Derived.Test.YtdpdfopmmhpfmaaSW14
namespace Go.Proofs.Ytdpdfopmmhpfmaa
open Go.RowKit

abbrev opv (kd h v c r s sy sx t l b q y x z i : Int) : Value := .agg #[.int .i64 kd, .int .i64 h, .int .i64 v, .int .i64 c, .int .i64 r, .int .i64 s, .int .i64 sy, .int .i64 sx, .int .i64 t, .int .i64 l, .int .i64 b, .int .i64 q, .int .i64 y, .int .i64 x, .int .i64 z, .int .i64 i]
/-- The cells of a step behind its kind. -/
def OpC (W : World) (g : Nat) (h v c r s sy sx t l b q y x z i : Int) : Prop := W.cell? ⟨g, 1, none⟩ = some (.int .i64 h) ∧ W.cell? ⟨g, 2, none⟩ = some (.int .i64 v) ∧ W.cell? ⟨g, 3, none⟩ = some (.int .i64 c) ∧ W.cell? ⟨g, 4, none⟩ = some (.int .i64 r) ∧ W.cell? ⟨g, 5, none⟩ = some (.int .i64 s) ∧ W.cell? ⟨g, 6, none⟩ = some (.int .i64 sy) ∧ W.cell? ⟨g, 7, none⟩ = some (.int .i64 sx) ∧ W.cell? ⟨g, 8, none⟩ = some (.int .i64 t) ∧ W.cell? ⟨g, 9, none⟩ = some (.int .i64 l) ∧ W.cell? ⟨g, 10, none⟩ = some (.int .i64 b) ∧ W.cell? ⟨g, 11, none⟩ = some (.int .i64 q) ∧ W.cell? ⟨g, 12, none⟩ = some (.int .i64 y) ∧ W.cell? ⟨g, 13, none⟩ = some (.int .i64 x) ∧ W.cell? ⟨g, 14, none⟩ = some (.int .i64 z) ∧ W.cell? ⟨g, 15, none⟩ = some (.int .i64 i)
theorem OpC.keep {W w' : World} {g : Nat} {h v c r s sy sx t l b q y x z i : Int} (k : OpC W g h v c r s sy sx t l b q y x z i) (hb : Below W.heap.size W w') : OpC w' g h v c r s sy sx t l b q y x z i := by
  obtain ⟨c1, c2, c3, c4, c5, c6, c7, c8, c9, c10, c11, c12, c13, c14, c15⟩ := k
  exact ⟨keepc hb c1, keepc hb c2, keepc hb c3, keepc hb c4, keepc hb c5, keepc hb c6, keepc hb c7, keepc hb c8, keepc hb c9, keepc hb c10, keepc hb c11, keepc hb c12, keepc hb c13, keepc hb c14, keepc hb c15⟩
theorem opc_new (W : World) (kd h v c r s sy sx t l b q y x z i : Int) (T : TypeId) : OpC (W.alloc (.cells #[.int .i64 kd, .int .i64 h, .int .i64 v, .int .i64 c, .int .i64 r, .int .i64 s, .int .i64 sy, .int .i64 sx, .int .i64 t, .int .i64 l, .int .i64 b, .int .i64 q, .int .i64 y, .int .i64 x, .int .i64 z, .int .i64 i] T)) W.heap.size h v c r s sy sx t l b q y x z i := by
  refine ⟨?_, ?_, ?_, ?_, ?_, ?_, ?_, ?_, ?_, ?_, ?_, ?_, ?_, ?_, ?_⟩ <;> simp [go_sem]
theorem kpo1 {W X : World} {g : Nat} {h v c : Int} (HB : Below W.heap.size W X) (c1 : W.cell? ⟨g, 1, none⟩ = some (.int .i64 h)) (c2 : W.cell? ⟨g, 2, none⟩ = some (.int .i64 v)) (c3 : W.cell? ⟨g, 3, none⟩ = some (.int .i64 c)) : X.cell? ⟨g, 1, none⟩ = some (.int .i64 h) ∧ X.cell? ⟨g, 2, none⟩ = some (.int .i64 v) ∧ X.cell? ⟨g, 3, none⟩ = some (.int .i64 c) := ⟨keepc HB c1, keepc HB c2, keepc HB c3⟩
set_option maxHeartbeats 1600000 in
set_option maxRecDepth 100000 in
theorem same_1 (h v c r s sy sx t l b q y x z i : Int) (w : World) :
    Calls Try.prog 25 #[opv 1 h v c r s sy sx t l b q y x z i] w fun e w' => e = .returned (.bool true) ∧ Below w.heap.size w w' := by
  go_enter Try.func25, Try.ntmps25
  go_wp2_with fail
  refine gen_world (fun W => Below w.heap.size w W ∧ OpC W w.heap.size h v c r s sy sx t l b q y x z i) ⟨bl_alloc (Below.refl _ _) _, opc_new _ 1 h v c r s sy sx t l b q y x z i _⟩ ?_
  rintro W0 ⟨B0, O0⟩
  obtain ⟨c1, c2, c3, c4, c5, c6, c7, c8, c9, c10, c11, c12, c13, c14, c15⟩ := O0
  go_region_held3 (fun X => X.cell? ⟨w.heap.size, 1, none⟩ = some (.int .i64 h) ∧ X.cell? ⟨w.heap.size, 2, none⟩ = some (.int .i64 v) ∧ X.cell? ⟨w.heap.size, 3, none⟩ = some (.int .i64 c)) (((try dsimp only); refine kpo1 (W := W0) ?_ c1 c2 c3; repeat (first | exact Below.refl _ _ | refine bl_alloc ?_ _ | refine Below.drew ?_ | refine bl_drewN ?_ _ | refine bl_set ?_ (by first | omega | (simp; done) | (simp; omega)) _ | refine bl_step ?_ (by assumption))))
    (first
      | (go_at_call 14; refine (check_any h v c _).mono ?_; rintro e x5 ⟨rfl, hx5⟩)
      | (go_at_call 23; refine (rcheck_any h v c _).mono ?_; rintro e x6 ⟨rfl, hx6⟩))
  go_wp2_with fail
  go_ret
  refine ⟨rfl, ?_⟩
  repeat (first | exact Below.refl _ _ | refine bl_alloc ?_ _ | refine Below.drew ?_ | refine bl_drewN ?_ _ | refine bl_set ?_ (by first | omega | (simp; done) | (simp; omega)) _ | refine bl_step ?_ (by assumption))
set_option maxHeartbeats 1600000 in
set_option maxRecDepth 100000 in
theorem same_2 (h v c r s sy sx t l b q y x z i : Int) (w : World) :
    Calls Try.prog 25 #[opv 2 h v c r s sy sx t l b q y x z i] w fun e w' => e = .returned (.bool true) ∧ Below w.heap.size w w' := by
  go_enter Try.func25, Try.ntmps25
  go_wp2_with fail
  refine gen_calls (fun W => Below w.heap.size w W ∧ OpC W w.heap.size h v c r s sy sx t l b q y x z i) ⟨bl_alloc (Below.refl _ _) _, opc_new _ 2 h v c r s sy sx t l b q y x z i _⟩ ?_
  rintro W0 ⟨B0, O0⟩
  obtain ⟨c1, c2, c3, c4, c5, c6, c7, c8, c9, c10, c11, c12, c13, c14, c15⟩ := O0
  refine (elems_any h v c W0).mono ?_
  rintro e w1 ⟨rfl, hb⟩
  have O0 := OpC.keep (W := W0) (g := w.heap.size) ⟨c1, c2, c3, c4, c5, c6, c7, c8, c9, c10, c11, c12, c13, c14, c15⟩ hb
  replace B0 := bl_step B0 hb
  clear hb c1 c2 c3 c4 c5 c6 c7 c8 c9 c10 c11 c12 c13 c14 c15
  obtain ⟨c1, c2, c3, c4, c5, c6, c7, c8, c9, c10, c11, c12, c13, c14, c15⟩ := O0
  go_wp2_with fail
  refine (relems_any h v c w1).mono ?_
  rintro e w2 ⟨rfl, hb⟩
  have O0 := OpC.keep (W := w1) (g := w.heap.size) ⟨c1, c2, c3, c4, c5, c6, c7, c8, c9, c10, c11, c12, c13, c14, c15⟩ hb
  replace B0 := bl_step B0 hb
  clear hb c1 c2 c3 c4 c5 c6 c7 c8 c9 c10 c11 c12 c13 c14 c15
  obtain ⟨c1, c2, c3, c4, c5, c6, c7, c8, c9, c10, c11, c12, c13, c14, c15⟩ := O0
  go_wp2_with fail
  go_ret
  exact ⟨rfl, B0⟩
set_option maxHeartbeats 1600000 in
set_option maxRecDepth 100000 in
theorem same_3 (h v c r s sy sx t l b q y x z i : Int) (w : World) :
    Calls Try.prog 25 #[opv 3 h v c r s sy sx t l b q y x z i] w fun e w' => e = .returned (.bool true) ∧ Below w.heap.size w w' := by
  go_enter Try.func25, Try.ntmps25
  go_wp2_with fail
  refine gen_calls (fun W => Below w.heap.size w W ∧ OpC W w.heap.size h v c r s sy sx t l b q y x z i) ⟨bl_alloc (Below.refl _ _) _, opc_new _ 3 h v c r s sy sx t l b q y x z i _⟩ ?_
  rintro W0 ⟨B0, O0⟩
  obtain ⟨c1, c2, c3, c4, c5, c6, c7, c8, c9, c10, c11, c12, c13, c14, c15⟩ := O0
  refine (words_any h v c W0).mono ?_
  rintro e w1 ⟨rfl, hb⟩
  have O0 := OpC.keep (W := W0) (g := w.heap.size) ⟨c1, c2, c3, c4, c5, c6, c7, c8, c9, c10, c11, c12, c13, c14, c15⟩ hb
  replace B0 := bl_step B0 hb
  clear hb c1 c2 c3 c4 c5 c6 c7 c8 c9 c10 c11 c12 c13 c14 c15
  obtain ⟨c1, c2, c3, c4, c5, c6, c7, c8, c9, c10, c11, c12, c13, c14, c15⟩ := O0
  go_wp2_with fail
  refine (rwords_any h v c w1).mono ?_
  rintro e w2 ⟨rfl, hb⟩
  have O0 := OpC.keep (W := w1) (g := w.heap.size) ⟨c1, c2, c3, c4, c5, c6, c7, c8, c9, c10, c11, c12, c13, c14, c15⟩ hb
  replace B0 := bl_step B0 hb
  clear hb c1 c2 c3 c4 c5 c6 c7 c8 c9 c10 c11 c12 c13 c14 c15
  obtain ⟨c1, c2, c3, c4, c5, c6, c7, c8, c9, c10, c11, c12, c13, c14, c15⟩ := O0
  go_wp2_with fail
  go_ret
  exact ⟨rfl, B0⟩
set_option maxHeartbeats 1600000 in
set_option maxRecDepth 100000 in
theorem same_4 (h v c r s sy sx t l b q y x z i : Int) (w : World) :
    Calls Try.prog 25 #[opv 4 h v c r s sy sx t l b q y x z i] w fun e w' => e = .returned (.bool true) ∧ Below w.heap.size w w' := by
  go_enter Try.func25, Try.ntmps25
  go_wp2_with fail
  refine gen_calls (fun W => Below w.heap.size w W ∧ OpC W w.heap.size h v c r s sy sx t l b q y x z i) ⟨bl_alloc (Below.refl _ _) _, opc_new _ 4 h v c r s sy sx t l b q y x z i _⟩ ?_
  rintro W0 ⟨B0, O0⟩
  obtain ⟨c1, c2, c3, c4, c5, c6, c7, c8, c9, c10, c11, c12, c13, c14, c15⟩ := O0
  refine (index_any h v c y x z W0).mono ?_
  rintro e w1 ⟨rfl, hb⟩
  have O0 := OpC.keep (W := W0) (g := w.heap.size) ⟨c1, c2, c3, c4, c5, c6, c7, c8, c9, c10, c11, c12, c13, c14, c15⟩ hb
  replace B0 := bl_step B0 hb
  clear hb c1 c2 c3 c4 c5 c6 c7 c8 c9 c10 c11 c12 c13 c14 c15
  obtain ⟨c1, c2, c3, c4, c5, c6, c7, c8, c9, c10, c11, c12, c13, c14, c15⟩ := O0
  go_wp2_with fail
  refine (rindex_any h v c y x z w1).mono ?_
  rintro e w2 ⟨rfl, hb⟩
  have O0 := OpC.keep (W := w1) (g := w.heap.size) ⟨c1, c2, c3, c4, c5, c6, c7, c8, c9, c10, c11, c12, c13, c14, c15⟩ hb
  replace B0 := bl_step B0 hb
  clear hb c1 c2 c3 c4 c5 c6 c7 c8 c9 c10 c11 c12 c13 c14 c15
  obtain ⟨c1, c2, c3, c4, c5, c6, c7, c8, c9, c10, c11, c12, c13, c14, c15⟩ := O0
  go_wp2_with fail
  go_ret
  exact ⟨rfl, B0⟩
set_option maxHeartbeats 1600000 in
set_option maxRecDepth 100000 in
theorem same_5 (h v c r s sy sx t l b q y x z i : Int) (w : World) :
    Calls Try.prog 25 #[opv 5 h v c r s sy sx t l b q y x z i] w fun e w' => e = .returned (.bool true) ∧ Below w.heap.size w w' := by
  go_enter Try.func25, Try.ntmps25
  go_wp2_with fail
  refine gen_calls (fun W => Below w.heap.size w W ∧ OpC W w.heap.size h v c r s sy sx t l b q y x z i) ⟨bl_alloc (Below.refl _ _) _, opc_new _ 5 h v c r s sy sx t l b q y x z i _⟩ ?_
  rintro W0 ⟨B0, O0⟩
  obtain ⟨c1, c2, c3, c4, c5, c6, c7, c8, c9, c10, c11, c12, c13, c14, c15⟩ := O0
  refine (place_any h v c i W0).mono ?_
  rintro e w1 ⟨rfl, hb⟩
  have O0 := OpC.keep (W := W0) (g := w.heap.size) ⟨c1, c2, c3, c4, c5, c6, c7, c8, c9, c10, c11, c12, c13, c14, c15⟩ hb
  replace B0 := bl_step B0 hb
  clear hb c1 c2 c3 c4 c5 c6 c7 c8 c9 c10 c11 c12 c13 c14 c15
  obtain ⟨c1, c2, c3, c4, c5, c6, c7, c8, c9, c10, c11, c12, c13, c14, c15⟩ := O0
  go_wp2_with fail
  refine (rplace_any h v c i w1).mono ?_
  rintro e w2 ⟨rfl, hb⟩
  have O0 := OpC.keep (W := w1) (g := w.heap.size) ⟨c1, c2, c3, c4, c5, c6, c7, c8, c9, c10, c11, c12, c13, c14, c15⟩ hb
  replace B0 := bl_step B0 hb
  clear hb c1 c2 c3 c4 c5 c6 c7 c8 c9 c10 c11 c12 c13 c14 c15
  obtain ⟨c1, c2, c3, c4, c5, c6, c7, c8, c9, c10, c11, c12, c13, c14, c15⟩ := O0
  go_wp2_with fail
  go_ret
  exact ⟨rfl, B0⟩
theorem kpo6 {W X : World} {g : Nat} {r s sy sx t l b q : Int} (HB : Below W.heap.size W X) (c4 : W.cell? ⟨g, 4, none⟩ = some (.int .i64 r)) (c5 : W.cell? ⟨g, 5, none⟩ = some (.int .i64 s)) (c6 : W.cell? ⟨g, 6, none⟩ = some (.int .i64 sy)) (c7 : W.cell? ⟨g, 7, none⟩ = some (.int .i64 sx)) (c8 : W.cell? ⟨g, 8, none⟩ = some (.int .i64 t)) (c9 : W.cell? ⟨g, 9, none⟩ = some (.int .i64 l)) (c10 : W.cell? ⟨g, 10, none⟩ = some (.int .i64 b)) (c11 : W.cell? ⟨g, 11, none⟩ = some (.int .i64 q)) : X.cell? ⟨g, 4, none⟩ = some (.int .i64 r) ∧ X.cell? ⟨g, 5, none⟩ = some (.int .i64 s) ∧ X.cell? ⟨g, 6, none⟩ = some (.int .i64 sy) ∧ X.cell? ⟨g, 7, none⟩ = some (.int .i64 sx) ∧ X.cell? ⟨g, 8, none⟩ = some (.int .i64 t) ∧ X.cell? ⟨g, 9, none⟩ = some (.int .i64 l) ∧ X.cell? ⟨g, 10, none⟩ = some (.int .i64 b) ∧ X.cell? ⟨g, 11, none⟩ = some (.int .i64 q) := ⟨keepc HB c4, keepc HB c5, keepc HB c6, keepc HB c7, keepc HB c8, keepc HB c9, keepc HB c10, keepc HB c11⟩
set_option maxHeartbeats 1600000 in
set_option maxRecDepth 100000 in
theorem same_6 (h v c r s sy sx t l b q y x z i : Int) (w : World) :
    Calls Try.prog 25 #[opv 6 h v c r s sy sx t l b q y x z i] w fun e w' => e = .returned (.bool true) ∧ Below w.heap.size w w' := by
  go_enter Try.func25, Try.ntmps25
  go_wp2_with fail
  refine gen_world (fun W => Below w.heap.size w W ∧ OpC W w.heap.size h v c r s sy sx t l b q y x z i) ⟨bl_alloc (Below.refl _ _) _, opc_new _ 6 h v c r s sy sx t l b q y x z i _⟩ ?_
  rintro W0 ⟨B0, O0⟩
  obtain ⟨c1, c2, c3, c4, c5, c6, c7, c8, c9, c10, c11, c12, c13, c14, c15⟩ := O0
  go_region_held3 (fun X => X.cell? ⟨w.heap.size, 4, none⟩ = some (.int .i64 r) ∧ X.cell? ⟨w.heap.size, 5, none⟩ = some (.int .i64 s) ∧ X.cell? ⟨w.heap.size, 6, none⟩ = some (.int .i64 sy) ∧ X.cell? ⟨w.heap.size, 7, none⟩ = some (.int .i64 sx) ∧ X.cell? ⟨w.heap.size, 8, none⟩ = some (.int .i64 t) ∧ X.cell? ⟨w.heap.size, 9, none⟩ = some (.int .i64 l) ∧ X.cell? ⟨w.heap.size, 10, none⟩ = some (.int .i64 b) ∧ X.cell? ⟨w.heap.size, 11, none⟩ = some (.int .i64 q)) (((try dsimp only); refine kpo6 (W := W0) ?_ c4 c5 c6 c7 c8 c9 c10 c11; repeat (first | exact Below.refl _ _ | refine bl_alloc ?_ _ | refine Below.drew ?_ | refine bl_drewN ?_ _ | refine bl_set ?_ (by first | omega | (simp; done) | (simp; omega)) _ | refine bl_step ?_ (by assumption))))
    (first
      | (go_at_call 15; refine (window_any r s sy sx t l b q _).mono ?_; rintro e x5 ⟨rfl, hx5⟩)
      | (go_at_call 24; refine (rwindow_any r s sy sx t l b q _).mono ?_; rintro e x6 ⟨rfl, hx6⟩))
  go_wp2_with fail
  go_ret
  refine ⟨rfl, ?_⟩
  repeat (first | exact Below.refl _ _ | refine bl_alloc ?_ _ | refine Below.drew ?_ | refine bl_drewN ?_ _ | refine bl_set ?_ (by first | omega | (simp; done) | (simp; omega)) _ | refine bl_step ?_ (by assumption))
set_option maxHeartbeats 1600000 in
set_option maxRecDepth 100000 in
theorem same_7 (h v c r s sy sx t l b q y x z i : Int) (w : World) :
    Calls Try.prog 25 #[opv 7 h v c r s sy sx t l b q y x z i] w fun e w' => e = .returned (.bool true) ∧ Below w.heap.size w w' := by
  have HS := slide_any h v c r s sy sx t l b q z
  have HR := rslide_any h v c r s sy sx t l b q z
  obtain ⟨A, B, D, E, hsl⟩ := slV_form h v c r s sy sx t l b q z
  rw [hsl] at HS HR
  clear hsl
  go_enter Try.func25, Try.ntmps25
  go_wp2_with fail
  refine gen_calls (fun W => Below w.heap.size w W ∧ OpC W w.heap.size h v c r s sy sx t l b q y x z i) ⟨bl_alloc (Below.refl _ _) _, opc_new _ 7 h v c r s sy sx t l b q y x z i _⟩ ?_
  rintro W0 ⟨B0, O0⟩
  obtain ⟨c1, c2, c3, c4, c5, c6, c7, c8, c9, c10, c11, c12, c13, c14, c15⟩ := O0
  have OO := hid1 (show OpC W0 w.heap.size h v c r s sy sx t l b q y x z i from ⟨c1, c2, c3, c4, c5, c6, c7, c8, c9, c10, c11, c12, c13, c14, c15⟩)
  refine (HS W0).mono ?_
  rintro e w1 ⟨rfl, hb⟩
  clear c1 c2 c3 c4 c5 c6 c7 c8 c9 c10 c11 c12 c13 c14 c15
  have O1 := OO.out.keep (bl_alloc hb (.cells #[.int .i64 A, .int .i64 B, .int .i64 D] 23))
  replace B0 := bl_alloc (bl_step B0 hb) (.cells #[.int .i64 A, .int .i64 B, .int .i64 D] 23)
  clear OO hb
  obtain ⟨c1, c2, c3, c4, c5, c6, c7, c8, c9, c10, c11, c12, c13, c14, c15⟩ := O1
  go_wp2_with fail
  refine gen_calls (fun W => Below w.heap.size w W ∧ Sh W w1.heap.size 0 A B D) ⟨B0, sh_new' rfl⟩ ?_
  clear c1 c2 c3 c4 c5 c6 c7 c8 c9 c10 c11 c12 c13 c14 c15 B0
  rintro W2 ⟨B0, S2⟩
  refine (HR W2).mono ?_
  rintro e w2 ⟨rfl, hb⟩
  obtain ⟨s0, s1, s2⟩ := S2.keep (bl_alloc hb (.cells #[.int .i64 A, .int .i64 B, .int .i64 D] 23))
  replace B0 := bl_step B0 hb
  clear hb S2
  go_wp2_with fail
  go_ret
  refine ⟨rfl, ?_⟩
  repeat (first | exact Below.refl _ _ | refine bl_alloc ?_ _ | refine Below.drew ?_ | refine bl_drewN ?_ _ | refine bl_set ?_ (by first | omega | (simp; done) | (simp; omega)) _ | refine bl_step ?_ (by assumption))
set_option maxRecDepth 100000 in
theorem same_no (kd h v c r s sy sx t l b q y x z i : Int) (k1 : ¬ kd = 1) (k2 : ¬ kd = 2) (k3 : ¬ kd = 3) (k4 : ¬ kd = 4) (k5 : ¬ kd = 5) (k6 : ¬ kd = 6) (k7 : ¬ kd = 7) (w : World) :
    Calls Try.prog 25 #[opv kd h v c r s sy sx t l b q y x z i] w fun e w' => e = .returned (.bool true) ∧ Below w.heap.size w w' := by
  have e1 : (kd == 1) = false := by simpa using k1
  have e2 : (kd == 2) = false := by simpa using k2
  have e3 : (kd == 3) = false := by simpa using k3
  have e4 : (kd == 4) = false := by simpa using k4
  have e5 : (kd == 5) = false := by simpa using k5
  have e6 : (kd == 6) = false := by simpa using k6
  have e7 : (kd == 7) = false := by simpa using k7
  go_enter Try.func25, Try.ntmps25
  go_wp2_with fail
  go_ret
  exact ⟨rfl, bl_alloc (Below.refl _ _) _⟩
theorem same_any (kd h v c r s sy sx t l b q y x z i : Int) (w : World) :
    Calls Try.prog 25 #[opv kd h v c r s sy sx t l b q y x z i] w fun e w' => e = .returned (.bool true) ∧ Below w.heap.size w w' := by
  by_cases k1 : kd = 1
  · subst k1; exact same_1 h v c r s sy sx t l b q y x z i w
  by_cases k2 : kd = 2
  · subst k2; exact same_2 h v c r s sy sx t l b q y x z i w
  by_cases k3 : kd = 3
  · subst k3; exact same_3 h v c r s sy sx t l b q y x z i w
  by_cases k4 : kd = 4
  · subst k4; exact same_4 h v c r s sy sx t l b q y x z i w
  by_cases k5 : kd = 5
  · subst k5; exact same_5 h v c r s sy sx t l b q y x z i w
  by_cases k6 : kd = 6
  · subst k6; exact same_6 h v c r s sy sx t l b q y x z i w
  by_cases k7 : kd = 7
  · subst k7; exact same_7 h v c r s sy sx t l b q y x z i w
  exact same_no kd h v c r s sy sx t l b q y x z i k1 k2 k3 k4 k5 k6 k7 w
end Go.Proofs.Ytdpdfopmmhpfmaa
