/- begun: the calls whose answers the document fixes. -/
import Derived.Test.YtfboegdibohciaaKL1
namespace Go.Proofs.Ytfboegdibohciaa
open Go.RowKit Go.Shelf

def bl6 : List Int := [1, -1, 1, 0, 5, -7]
theorem r8_lit (w : World) (t : TypeId) : R8 (w.alloc (.cells #[.int .i8 1, .int .i8 (-1), .int .i8 1, .int .i8 0, .int .i8 5, .int .i8 (-7)] t)) (some ⟨w.heap.size, 0, none⟩) bl6 := by
  intro k hk
  refine ⟨w.heap.size, 0, rfl, ?_⟩
  have hk' : k < 6 := hk
  rcases k with _ | _ | _ | _ | _ | _ | k
  all_goals first | omega | simp [go_sem, ia, bl6]
theorem rs_lit (w : World) (t : TypeId) : Rs (w.alloc (.cells #[.int .i8 1, .int .i8 (-1), .int .i8 1, .int .i8 (-1), .int .i8 1, .int .i8 (-1)] t)) (some ⟨w.heap.size, 0, none⟩) 6 (fun k => .int .i8 (uv 36893488147419103237 3 k)) := by
  intro k hk
  refine ⟨w.heap.size, 0, rfl, ?_⟩
  rcases k with _ | _ | _ | _ | _ | _ | k
  · show World.cell? _ ⟨w.heap.size, 0, none⟩ = some (.int .i8 (uv 36893488147419103237 3 0))
    rw [show uv 36893488147419103237 3 0 = 1 by decide]; simp [go_sem]
  · show World.cell? _ ⟨w.heap.size, 1, none⟩ = some (.int .i8 (uv 36893488147419103237 3 1))
    rw [show uv 36893488147419103237 3 1 = -1 by decide]; simp [go_sem]
  · show World.cell? _ ⟨w.heap.size, 2, none⟩ = some (.int .i8 (uv 36893488147419103237 3 2))
    rw [show uv 36893488147419103237 3 2 = 1 by decide]; simp [go_sem]
  · show World.cell? _ ⟨w.heap.size, 3, none⟩ = some (.int .i8 (uv 36893488147419103237 3 3))
    rw [show uv 36893488147419103237 3 3 = -1 by decide]; simp [go_sem]
  · show World.cell? _ ⟨w.heap.size, 4, none⟩ = some (.int .i8 (uv 36893488147419103237 3 4))
    rw [show uv 36893488147419103237 3 4 = 1 by decide]; simp [go_sem]
  · show World.cell? _ ⟨w.heap.size, 5, none⟩ = some (.int .i8 (uv 36893488147419103237 3 5))
    rw [show uv 36893488147419103237 3 5 = -1 by decide]; simp [go_sem]
  · omega
theorem wr_lit2 (w : World) (t : TypeId) : Wr (w.alloc (.cells #[.int .u64 5, .int .u64 2] t)) (some ⟨w.heap.size, 0, none⟩) 2 36893488147419103237 := by
  refine ⟨by decide, fun k hk => ⟨w.heap.size, 0, rfl, ?_⟩⟩
  rcases k with _ | _ | k
  · show World.cell? _ ⟨w.heap.size, 0, none⟩ = some (.int .u64 5)
    simp [go_sem]
  · show World.cell? _ ⟨w.heap.size, 1, none⟩ = some (.int .u64 2)
    simp [go_sem]
  · omega
theorem wr_lit1 (w : World) (t : TypeId) : Wr (w.alloc (.cells #[.int .u64 21] t)) (some ⟨w.heap.size, 0, none⟩) 1 21 := by
  refine ⟨by decide, fun k hk => ⟨w.heap.size, 0, rfl, ?_⟩⟩
  have : k = 0 := by omega
  subst this
  show World.cell? _ ⟨w.heap.size, 0, none⟩ = some (.int .u64 21)
  simp [go_sem]
theorem js_lit : js (64 * nw 3) (sp bl6 3) (1 * 2) = 36893488147419103237 := by decide
theorem fl_lit : js 3 (pl 36893488147419103237 (nw 3)) (1 * 2) = 21 := by decide
theorem chk_lit : Sg.chk (1 : Nat) (2 : Nat) (3 : Nat) = 0 := by decide
theorem pok_lit : Pok (1 * 2) 3 36893488147419103237 := by decide
theorem cuk_lit : cuk (1 : Nat) (2 : Nat) (3 : Nat) 2 36893488147419103237 = 0 := by decide
theorem Rs.row {w : World} {g m t : Nat} {f : Nat → Value} (h : w.rowIs g t m f) : Rs w (some ⟨g, 0, none⟩) m f := fun k hk => ⟨g, 0, rfl, by rw [Nat.zero_add]; exact h.cell hk⟩
set_option maxHeartbeats 1600000 in
set_option maxRecDepth 100000 in
theorem cbegun_any (w : World) : Calls Try.prog 4 #[] w fun e w' => e = .returned (.bool true) ∧ Below w.heap.size w w' := by
  have HP := hid1 (fun g W r => cpack_ok 1 2 3 bl6 6 rfl g 0 6 W (by decide) (by decide) (by decide) (by decide) (by decide) (by decide) (by decide) chk_lit 2 (by decide) r)
  rw [js_lit] at HP
  have HF := hid1 (fun G W r => cflat_ok 1 2 3 G 0 2 2 36893488147419103237 W (by decide) (by decide) (by decide) (by decide) cuk_lit (by decide) (by decide) (by decide) pok_lit r)
  rw [fl_lit] at HF
  have HU := hid1 (fun G W r => cunpack_ok 1 2 3 G 0 2 2 36893488147419103237 W (by decide) (by decide) (by decide) (by decide) cuk_lit (by decide) (by decide) (by decide) r)
  simp only [show ((1 : Nat) : Int) = 1 from rfl, show ((2 : Nat) : Int) = 2 from rfl, show ((3 : Nat) : Int) = 3 from rfl, show ((6 : Nat) : Int) = 6 from rfl, show 1 * 2 * 3 = 6 from rfl, show nw 6 = 1 from rfl] at HP HF HU
  go_enter Try.func4, Try.ntmps4
  go_wp2_with fail
  refine gen_calls (fun W => W.rowIs w.heap.size 27 3 (hf 1 2 3) ∧ R8 W (some ⟨w.heap.size + 1, 0, none⟩) bl6 ∧ Below w.heap.size w W) ⟨(hf_new w 1 2 3 _).alloc _, by have := r8_lit (w.alloc (.cells #[.int .i64 1, .int .i64 2, .int .i64 3] 27)) 47; rwa [World.size_alloc] at this, bl_alloc (bl_alloc (Below.refl _ _) _) _⟩ ?_
  rintro W ⟨q0, r8, B0⟩
  refine (HP.out _ W r8).mono ?_
  rintro e w1 ⟨G, rfl, hG, row, hb⟩
  replace q0 := keepr hb q0
  have B1 := bl_step B0 hb
  have WG := Wr.row row (show (36893488147419103237 : Nat) < 2 ^ (64 * 2) by decide)
  clear hb r8 B0 row HP hG
  go_wp2_with fail
  refine gen_calls (fun X => X.rowIs w.heap.size 27 3 (hf 1 2 3) ∧ X.rowIs w1.heap.size 31 4 (cf 1 2 3 (some ⟨G, 0, none⟩) 2 2) ∧ Wr X (some ⟨G, 0, none⟩) 2 36893488147419103237 ∧ Below w.heap.size w X) ⟨q0.alloc _, cu_new _ _ _ _ _ _ _ _, WG.below (bl_alloc (Below.refl _ _) _), bl_alloc B1 _⟩ ?_
  clear q0 WG B1
  rintro X ⟨q0, q1, WG, BX⟩
  refine (HF.out G X WG).mono ?_
  rintro e w2 ⟨F, rfl, hF, row, hb⟩
  replace q0 := keepr hb q0
  replace q1 := keepr hb q1
  replace WG := WG.below hb
  have B2 := bl_step BX hb
  have WF := Wr.row row (show (21 : Nat) < 2 ^ (64 * 1) by decide)
  clear hb BX row HF hF
  have e0 := cf0 q1
  have e1 := cf1 q1
  have e2 := cf2 q1
  have e3 := cf3 q1
  have l1 := q1.lt
  go_wp2_with fail
  refine gen_calls (fun Y => Y.rowIs w.heap.size 27 3 (hf 1 2 3) ∧ Y.rowIs w1.heap.size 31 4 (cf 1 2 3 (some ⟨G, 0, none⟩) 2 2) ∧ Y.rowIs w2.heap.size 33 2 (sf 6 (some ⟨F, 0, none⟩) 1 1) ∧ Wr Y (some ⟨G, 0, none⟩) 2 36893488147419103237 ∧ Wr Y (some ⟨F, 0, none⟩) 1 21 ∧ Below w.heap.size w Y) ⟨q0.alloc _, q1.alloc _, row_new _ _ _ _ _ _, WG.below (bl_alloc (Below.refl _ _) _), WF.below (bl_alloc (Below.refl _ _) _), bl_alloc B2 _⟩ ?_
  clear q0 q1 WG WF B2 e0 e1 e2 e3 l1
  rintro Y ⟨q0, q1, q2, WG, WF, BY⟩
  refine (HU.out G Y WG).mono ?_
  rintro e w3 ⟨L, rfl, hL, row, hb⟩
  replace q0 := keepr hb q0
  replace q1 := keepr hb q1
  replace q2 := keepr hb q2
  replace WG := WG.below hb
  replace WF := WF.below hb
  have B3 := bl_step BY hb
  have RL := Rs.row row
  clear hb BY row HU hL
  have e0 := cf0 q1
  have e1 := cf1 q1
  have e2 := cf2 q1
  have e3 := cf3 q1
  have s0 := hf0 q0
  have s1 := hf1 q0
  have s2 := hf2 q0
  go_wp2_with fail
  refine gen_calls (fun Z => Z.rowIs w2.heap.size 33 2 (sf 6 (some ⟨F, 0, none⟩) 1 1) ∧ Wr Z (some ⟨G, 0, none⟩) 2 36893488147419103237 ∧ Wr Z (some ⟨F, 0, none⟩) 1 21 ∧ Wr Z (some ⟨w3.heap.size, 0, none⟩) 2 36893488147419103237 ∧ Rs Z (some ⟨L, 0, none⟩) 6 (fun j => .int .i8 (uv 36893488147419103237 3 j)) ∧ Below w.heap.size w Z) ⟨q2.alloc _, WG.below (bl_alloc (Below.refl _ _) _), WF.below (bl_alloc (Below.refl _ _) _), wr_lit2 _ _, RL.below (bl_alloc (Below.refl _ _) _), bl_alloc B3 _⟩ ?_
  clear q0 q1 q2 WG WF RL B3 e0 e1 e2 e3 s0 s1 s2
  rintro Z ⟨q2, WG, WF, WN, RL, BZ⟩
  refine (cubes_same 1 2 3 2 36893488147419103237 _ _ _ _ Z (by decide) WG WN).mono ?_
  rintro e w4 ⟨rfl, hb⟩
  replace q2 := keepr hb q2
  replace WF := WF.below hb
  replace RL := RL.below hb
  have B4 := bl_step BZ hb
  clear hb BZ WG WN
  have e0 := sf_len q2
  have e1 := sf_ws q2
  go_wp2_with fail
  refine gen_calls (fun U => Wr U (some ⟨F, 0, none⟩) 1 21 ∧ Wr U (some ⟨w4.heap.size, 0, none⟩) 1 21 ∧ Rs U (some ⟨L, 0, none⟩) 6 (fun j => .int .i8 (uv 36893488147419103237 3 j)) ∧ Below w.heap.size w U) ⟨WF.below (bl_alloc (Below.refl _ _) _), wr_lit1 _ _, RL.below (bl_alloc (Below.refl _ _) _), bl_alloc B4 _⟩ ?_
  clear q2 WF RL B4 e0 e1
  rintro U ⟨WF, WN, RL, BU⟩
  refine (rows_same 6 1 21 _ _ _ _ U (by decide) WF WN).mono ?_
  rintro e w5 ⟨rfl, hb⟩
  replace RL := RL.below hb
  have B5 := bl_step BU hb
  clear hb BU WF WN
  go_wp2_with fail
  refine gen_calls (fun U => Rs U (some ⟨w5.heap.size, 0, none⟩) 6 (fun j => .int .i8 (uv 36893488147419103237 3 j)) ∧ Rs U (some ⟨L, 0, none⟩) 6 (fun j => .int .i8 (uv 36893488147419103237 3 j)) ∧ Below w.heap.size w U) ⟨rs_lit _ _, RL.below (bl_alloc (Below.refl _ _) _), bl_alloc B5 _⟩ ?_
  clear RL B5
  rintro U ⟨RN, RL, BU⟩
  refine (vals_same 6 (fun j => uv 36893488147419103237 3 j) _ _ _ _ U (by decide) RL RN).mono ?_
  rintro e w6 ⟨rfl, hb⟩
  have B6 := bl_step BU hb
  clear hb BU RN RL
  go_wp2_with fail
  go_ret
  exact ⟨rfl, B6⟩
end Go.Proofs.Ytfboegdibohciaa
