/- SHAPES: WHAT EVERY STATEMENT ASKS AHEAD. -/
import Derived.Test.YtdpdfopmmhpfmaaSW8
namespace Go.Proofs.Ytdpdfopmmhpfmaa
open Go.RowKit

theorem sl_5417 : slV 5 4 1 2 2 2 2 0 0 0 0 7 = sle 2 2 7 0 := by
  unfold slV
  rw [if_pos (by decide), show stN 5 0 0 2 2 = 2 by decide, show stN 4 0 0 2 2 = 2 by decide]
set_option maxHeartbeats 800000 in
set_option maxRecDepth 100000 in
theorem begun_any (w : World) : Calls Try.prog 9 #[] w fun e w' => e = .returned (.bool true) ∧ Below w.heap.size w w' := by
  have H1 := slide_any 5 4 1 2 2 2 2 0 0 0 0 7
  rw [sl_5417] at H1
  have H2 := index_any 2 3 5 1 2 4
  rw [show ixN 2 3 5 1 2 4 = 29 by decide, show ixE 2 3 5 1 2 4 = 0 by decide] at H2
  have H3 := place_any 2 3 5 15
  rw [show pl 2 3 5 15 (15 / 5 / 3) = 1 by decide, show pl 2 3 5 15 (15 / 5 % 3) = 0 by decide, show pl 2 3 5 15 (15 % 5) = 0 by decide, show plE 2 3 5 15 = 0 by decide] at H3
  have H4 := words_any 2 3 65
  rw [show woN 2 3 65 = 12 by decide, show chk 2 3 65 = 0 by decide] at H4
  go_enter Try.func9, Try.ntmps9
  go_wp2_with fail
  refine gen_calls (fun W => Below w.heap.size w W) (by repeat (first | exact Below.refl _ _ | refine bl_alloc ?_ _ | refine Below.drew ?_ | refine bl_drewN ?_ _ | refine bl_set ?_ (by first | omega | (simp; done) | (simp; omega)) _ | refine bl_step ?_ (by assumption))) ?_
  rintro W B0
  refine (H1 W).mono ?_
  rintro e w1 ⟨rfl, hb1⟩
  replace B0 := bl_step B0 hb1
  clear hb1 H1
  go_wp2_with fail
  refine gen_calls (fun W => Below w.heap.size w W ∧ Sh W w1.heap.size 0 2 2 7) ⟨by repeat (first | exact Below.refl _ _ | refine bl_alloc ?_ _ | refine Below.drew ?_ | refine bl_drewN ?_ _ | refine bl_set ?_ (by first | omega | (simp; done) | (simp; omega)) _ | refine bl_step ?_ (by assumption)), by first | exact sh_new' rfl | exact sh_set (sh_new' rfl)⟩ ?_
  rintro W2 ⟨B2, S2⟩
  refine (H2 W2).mono ?_
  rintro e w2 ⟨rfl, hb2⟩
  replace B2 := bl_step B2 hb2
  replace S2 := S2.keep hb2
  clear hb2 H2
  go_wp2_with fail
  refine (H3 w2).mono ?_
  rintro e w3 ⟨rfl, hb3⟩
  replace B2 := bl_step B2 hb3
  replace S2 := S2.keep hb3
  clear hb3 H3
  go_wp2_with fail
  refine (H4 w3).mono ?_
  rintro e w4 ⟨rfl, hb4⟩
  replace B2 := bl_step B2 hb4
  replace S2 := S2.keep hb4
  clear hb4 H4
  obtain ⟨q0, q1, q2⟩ := S2
  go_wp2_with fail
  go_ret
  exact ⟨rfl, B2⟩
end Go.Proofs.Ytdpdfopmmhpfmaa
