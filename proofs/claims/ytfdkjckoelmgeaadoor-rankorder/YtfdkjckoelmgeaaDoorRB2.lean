/- heddlelaw24: begun. -/
import Derived.Test.YtfdkjckoelmgeaaDoorRB1
namespace Go.Proofs.YtfdkjckoelmgeaaDoor
open Go.RowKit Go.Sort

theorem top_ex (ao : Option Addr) (cap : Nat) (w : World) (h : Nm w ao [3, 7, 7, -1]) :
    Calls Tryd.prog 9 #[.slice ao 4 cap, .int .i64 3] w fun e w' => ∃ a c, e = .returned (.tuple #[.slice a 3 c, .int .i64 0]) ∧ Hid (Rkm w' a [(1, 7), (2, 7), (0, 3)]) ∧ Below w.heap.size w w' := by
  refine (top_any ao [3, 7, 7, -1] cap 3 w (by omega) (by decide) h (by omega)).mono ?_
  rintro e w' ⟨v', rfl, k1, k2⟩
  obtain ⟨a, c, rfl, hr⟩ := own_rkm k1
  have e1 : tp [3, 7, 7, -1] (3 : Int).toNat = [(1, 7), (2, 7), (0, 3)] := tp_ex
  rw [e1] at hr
  exact ⟨a, c, by rw [e1]; rfl, hr, k2⟩
theorem add_ex (ao : Option Addr) (cap : Nat) (w : World) (h : Tn w ao (List.replicate 2 (List.replicate 2 0))) :
    Calls Tryd.prog 13 #[tbv ao 2 cap, .int .i64 1, .int .i64 0] w fun e w' => ∃ G b K, e = .returned (.tuple #[tbv (some ⟨G, 0, none⟩) 2 2, .int .i64 0]) ∧ Hid (Tb w' w.heap.size G b K [[0, 0], [1, 0]]) ∧ Below w.heap.size w w' := by
  refine (add_ok ao (List.replicate 2 (List.replicate 2 0)) cap 1 0 w h (by decide) aE_ex).mono ?_
  rintro e w' ⟨G, b, K, rfl, h1, h2⟩
  rw [ad_ex] at h1
  exact ⟨G, b, K, rfl, h1, h2⟩
theorem show_ex (ao : Option Addr) (cap : Nat) (w : World) (h : Tn w ao [[3, 1], [0, 2]]) (L : LaidP w) :
    Calls Tryd.prog 15 #[tbv ao 2 cap] w fun e w' => e = .returned (.tuple #[.string ⟨#[51, 32, 49, 10, 48, 32, 50, 10, 53, 47, 54, 10]⟩, .int .i64 0]) ∧ Below w.heap.size w w' := by
  have e1 : cE [[3, 1], [0, 2]] = 0 := by unfold cE; rw [cnt_ex]; rfl
  have e2 : sT [[3, 1], [0, 2]] = [51, 32, 49, 10, 48, 32, 50, 10, 53, 47, 54, 10] := by unfold sT; rw [if_pos e1, shw_ex]
  refine (show_any ao [[3, 1], [0, 2]] cap w (by decide) (by decide) h L).mono ?_
  rintro e w' ⟨rfl, h2⟩
  rw [e1, e2]
  exact ⟨rfl, h2⟩
theorem LaidP.on {w w' : World} (h : LaidP w) (hb : Below w.heap.size w w') : LaidP w' := (Lib.tabBelow_of_tabIs h) w' hb
theorem rkm_new (w : World) (L : List (Int × Int)) : Rkm (w.alloc (.cells (flr L).toArray 30)) (some ⟨w.heap.size, 0, none⟩) L := fun j p hj => by
  obtain ⟨a1, a2⟩ := flr_at hj
  refine ⟨w.heap.size, 0, rfl, ?_, ?_⟩
  · rw [Nat.zero_add]
    exact cell_new (by simpa using a1)
  · rw [Nat.zero_add]
    exact cell_new (by simpa using a2)
theorem arg_nil (w : World) : Calls Tryd.prog 10 #[.slice none 0 0] w fun e w' => e = .returned (.int .i64 (-1)) ∧ w' = w := arg_any none [] 0 w (by decide) (Nm.nil _ _)
set_option maxHeartbeats 1600000 in
set_option maxRecDepth 100000 in
theorem begun_any (w : World) (L : LaidP w) : Calls Tryd.prog 8 #[] w fun e w' => e = .returned (.bool true) ∧ Below w.heap.size w w' := by
  have HL := hid1 L
  clear L
  go_enter Tryd.func8, Tryd.ntmps8
  go_upto_region 2 with (go_at_call 9; refine (top_ex _ _ _ (nm_alloc w [3, 7, 7, -1])).mono ?_; rintro e w1 ⟨a1, q1, rfl, hr1, hb1⟩)
  have B1 : Below w.heap.size w w1 := bl_step (bl_alloc (Below.refl _ _) _) hb1
  clear hb1
  go_upto_region 3 with (go_at_call 12; refine (new_ok 2 (by omega) (by omega) _).mono ?_; rintro e w2 ⟨G, b, K, rfl, tb, hb2⟩)
  have B2 : Below w.heap.size w w2 := bl_step B1 hb2
  have HR2 := hid1 (hr1.out.below hb2)
  have HA : Hid (Tn (w2.alloc (.cells #[.slice (some ⟨G, 0, none⟩) 2 2] 36)) (some ⟨G, 0, none⟩) (List.replicate 2 (List.replicate 2 0))) := (Tb.tn tb).below (bl_alloc (Below.refl _ _) _)
  clear tb hb2 hr1 B1
  go_upto_region 4 with (go_at_call 13; refine (add_ex _ _ _ HA.out).mono ?_; rintro e w3 ⟨G3, b3, K3, rfl, tb, hb3⟩; have c3 := keepc hb3 (b := w2.heap.size) (o := 0) (v := .slice (some ⟨G, 0, none⟩) 2 2) (by simp [go_sem]); have f3 : w3.frozen? ⟨w2.heap.size, 0, none⟩ = false := (hb3.frozen (p := ⟨w2.heap.size, 0, none⟩) (by simp)).trans (by simp [go_sem]); have z3 : w2.heap.size < w3.heap.size := (by have := hb3.size; simp at this; omega))
  have B3 : Below w.heap.size w w3 := bl_step (bl_alloc B2 _) hb3
  have HR3 := hid1 ((HR2.out.below (bl_alloc (Below.refl _ _) _)).below hb3)
  have HT3 := hid1 tb.out.out.lt
  refine gen_world (fun X => Below w.heap.size w X ∧ X.cell? ⟨w2.heap.size, 0, none⟩ = some (.slice (some ⟨G3, 0, none⟩) 2 2) ∧ Hid (Tn X (some ⟨G3, 0, none⟩) [[0, 0], [1, 0]]) ∧ Hid (Rkm X a1 [(1, 7), (2, 7), (0, 3)]) ∧ w2.heap.size < X.heap.size) ⟨bl_set B3 B2.size _, by simp [go_sem, c3], ?_, ?_, by simpa using z3⟩ ?_
  · exact Tb.tn (Tz.other tb.out (a := ⟨w2.heap.size, 0, none⟩) (by simp) _)
  · exact (HR2.out.below ((((Below.refl _ _).alloc (Nat.le_refl _) _).trans (hb3.mono (by simp))).setCell (Nat.le_refl _) _))
  clear B3 HR3 HT3 tb hb3 c3 f3 z3 HR2 HA B2
  rintro X4 ⟨B4, c4, T4, R4, z4⟩
  generalize w2.heap.size = g4 at *
  go_upto_region 5 with (go_at_call 12; refine (new_bad 257 (by omega) _).mono ?_; rintro e w5 ⟨rfl, hb5⟩; have c5 := keepc hb5 c4; have B5 : Below w.heap.size w w5 := bl_step B4 hb5; have z5 : g4 < w5.heap.size := (by have := hb5.size; omega))
  have T5 := hid1 (T4.out.below hb5)
  have R5 := hid1 (R4.out.below hb5)
  clear T4 R4 c4 B4 z4 hb5
  refine gen_world (fun X => Below w.heap.size w X ∧ X.cell? ⟨g4, 0, none⟩ = some (.slice (some ⟨G3, 0, none⟩) 2 2) ∧ Hid (Tn X (some ⟨G3, 0, none⟩) [[0, 0], [1, 0]]) ∧ Hid (Rkm X a1 [(1, 7), (2, 7), (0, 3)]) ∧ g4 < X.heap.size) ⟨bl_alloc B5 _, by simp [go_sem, c5, z5], T5.out.below (bl_alloc (Below.refl _ _) _), R5.out.below (bl_alloc (Below.refl _ _) _), by simp; omega⟩ ?_
  clear B5 c5 T5 R5 z5
  rintro X6 ⟨B6, c6, T6, R6, z6⟩
  go_upto_region 6 with (go_at_call 15; refine (show_ex _ _ _ (tn_two X6 [3, 1] [0, 2]) (HL.out.on (bl_alloc (bl_alloc (bl_alloc B6 _) _) _))).mono ?_; rintro e w7 ⟨rfl, hb7⟩; have B7 : Below w.heap.size w w7 := bl_step (bl_alloc (bl_alloc (bl_alloc B6 _) _) _) hb7)
  have hb6 : Below X6.heap.size X6 w7 := bl_step (bl_alloc (bl_alloc (bl_alloc (Below.refl _ _) _) _) _) hb7
  have c7 := keepc hb6 c6
  have z7 : g4 < w7.heap.size := by have := hb6.size; omega
  have T7 := hid1 (T6.out.below hb6)
  have R7 := hid1 (R6.out.below hb6)
  clear hb6 hb7 T6 R6 c6 z6 B6
  have CR : Hid (Calls Tryd.prog 11 #[.slice a1 3 q1, .slice (some ⟨w7.heap.size, 0, none⟩) 3 3] (w7.alloc (.cells #[.int .i64 1, .int .i64 7, .int .i64 2, .int .i64 7, .int .i64 0, .int .i64 3] 30)) fun e w' => e = .returned (.bool true) ∧ Qt (w7.alloc (.cells #[.int .i64 1, .int .i64 7, .int .i64 2, .int .i64 7, .int .i64 0, .int .i64 3] 30)) w') :=
    eqr_any a1 (some ⟨w7.heap.size, 0, none⟩) [(1, 7), (2, 7), (0, 3)] [(1, 7), (2, 7), (0, 3)] q1 3 _ (by decide) (R7.out.below (bl_alloc (Below.refl _ _) _)) (rkm_new w7 [(1, 7), (2, 7), (0, 3)])
  have AN := fun X => arg_nil X
  go_upto_region 8 with fail
  go_wp2_with (first
    | (go_at_call 11; refine CR.out.mono ?_; rintro e w8 ⟨rfl, hq8⟩; have B8 := hq8.below (bl_alloc (Below.refl _ _) _); have c8 := keepc B8 c7; have T8 := hid1 (T7.out.below B8); have B8' : Below w.heap.size w w8 := bl_step B7 B8)
    | (go_at_call 10; refine (AN _).mono ?_; rintro e w' ⟨rfl, rfl⟩)
    | (go_at_call 24; refine (eqt_any (some ⟨G3, 0, none⟩) (some ⟨w'.heap.size + 2, 0, none⟩) [[0, 0], [1, 0]] [[0, 0], [1, 0]] 2 2 _ (by decide) (by decide) (T8.out.below (bl_alloc (bl_alloc (bl_alloc (Below.refl _ _) _) _) _)) (tn_two w' [0, 0] [1, 0])).mono ?_; rintro e w9 ⟨rfl, hq9⟩))
  go_ret
  exact ⟨rfl, (hq9.below (bl_alloc (bl_alloc (bl_alloc B8' _) _) _))⟩
end Go.Proofs.YtfdkjckoelmgeaaDoor
