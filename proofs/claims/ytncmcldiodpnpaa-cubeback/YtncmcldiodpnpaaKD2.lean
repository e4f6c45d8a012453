/- CubeBack, where Pack refuses. -/
import Derived.Test.YtncmcldiodpnpaaKD1
namespace Go.Proofs.Ytncmcldiodpnpaa
open Go.RowKit Go.Shelf

set_option maxHeartbeats 1600000 in
set_option maxRecDepth 100000 in
theorem back_shape (h v c : Int) (n : Nat) (ao : Option Addr) (cap : Nat) (w : World) (k : Sg.chk h v c ≠ 0) :
    Calls Try.prog 5 #[Sg.shp h v c, .slice ao n cap] w fun e w' => e = .returned (.bool true) ∧ Below w.heap.size w w' := by
  have HP := hid1 (fun W => cpack_bad h v c ao n cap W (Sg.chk h v c) (by rw [if_neg k]) (fun q => absurd q k))
  have HE := hid1 (fun W => Sg.elems_any h v c W)
  obtain ⟨E, eE⟩ : ∃ E, Sg.chk h v c = E := ⟨_, rfl⟩
  rw [eE] at HP HE k
  clear eE
  generalize Sg.elN h v c = N at HE
  have k1 : decide (E = 0) = false := by simpa using k
  go_enter Try.func5, Try.ntmps5
  go_wp2_with fail
  refine gen_calls (fun W => W.rowIs w.heap.size 31 3 (hf h v c) ∧ Below w.heap.size w W) ⟨hf_new w h v c _, bl_alloc (Below.refl _ _) _⟩ ?_
  rintro W ⟨q0, B0⟩
  refine (cbegun_any W).mono ?_
  rintro e w1 ⟨rfl, hb⟩
  replace q0 := keepr hb q0
  have B1 := bl_step B0 hb
  clear hb B0
  have c0 := hf0 q0
  have c1 := hf1 q0
  have c2 := hf2 q0
  go_wp2_with fail
  refine (HP.out w1).mono ?_
  rintro e w2 ⟨rfl, hb⟩
  replace q0 := keepr hb q0
  have B2 := bl_step B1 hb
  clear hb B1 c0 c1 c2
  have c0 := hf0 q0
  have c1 := hf1 q0
  have c2 := hf2 q0
  have l0 := q0.lt
  go_wp2_with fail
  refine gen_calls (fun X => X.rowIs w.heap.size 31 3 (hf h v c) ∧ X.rowIs w2.heap.size 33 4 (cf 0 0 0 none 0 0) ∧ Below w.heap.size w X) ⟨q0.alloc _, cu_new _ _ _ _ _ _ _ _, bl_alloc B2 _⟩ ?_
  clear q0 B2 c0 c1 c2 l0
  rintro X ⟨q0, q1, BX⟩
  refine (HE.out X).mono ?_
  rintro e w3 ⟨rfl, hb⟩
  replace q1 := keepr hb q1
  have B3 := bl_step BX hb
  clear hb BX q0
  have e0 := cf0 q1
  have e1 := cf1 q1
  have e2 := cf2 q1
  have e3 := cf3 q1
  go_wp2_with fail
  refine (cubes_same 0 0 0 0 0 none none 0 0 _ (by decide) (Wr.nil _ _) (Wr.nil _ _)).mono ?_
  rintro e w4 ⟨rfl, hb⟩
  have B4 := bl_step B3 hb
  clear hb B3 q1 e0 e1 e2 e3
  go_wp2_with fail
  go_ret
  exact ⟨rfl, B4⟩
set_option maxHeartbeats 1600000 in
set_option maxRecDepth 100000 in
theorem back_fit (h v c : Int) (n : Nat) (ao : Option Addr) (cap : Nat) (w : World) (k : Sg.chk h v c = 0) (hn : (n : Int) ≠ Sg.elN h v c) :
    Calls Try.prog 5 #[Sg.shp h v c, .slice ao n cap] w fun e w' => e = .returned (.bool true) ∧ Below w.heap.size w w' := by
  have HP := hid1 (fun W => cpack_bad h v c ao n cap W 32 (by rw [if_pos k]) (fun _ => hn))
  have HE := hid1 (fun W => Sg.elems_any h v c W)
  rw [k] at HE
  clear k
  generalize Sg.elN h v c = N at HE hn
  have k2 : (N != (n : Int)) = true := by simpa using fun e => hn e.symm
  have k1 : decide (N = (n : Int)) = false := by simpa using fun e => hn e.symm
  go_enter Try.func5, Try.ntmps5
  go_wp2_with fail
  refine gen_calls (fun W => W.rowIs w.heap.size 31 3 (hf h v c) ∧ Below w.heap.size w W) ⟨hf_new w h v c _, bl_alloc (Below.refl _ _) _⟩ ?_
  rintro W ⟨q0, B0⟩
  refine (cbegun_any W).mono ?_
  rintro e w1 ⟨rfl, hb⟩
  replace q0 := keepr hb q0
  have B1 := bl_step B0 hb
  clear hb B0
  have c0 := hf0 q0
  have c1 := hf1 q0
  have c2 := hf2 q0
  go_wp2_with fail
  refine (HP.out w1).mono ?_
  rintro e w2 ⟨rfl, hb⟩
  replace q0 := keepr hb q0
  have B2 := bl_step B1 hb
  clear hb B1 c0 c1 c2
  have c0 := hf0 q0
  have c1 := hf1 q0
  have c2 := hf2 q0
  have l0 := q0.lt
  go_wp2_with fail
  refine gen_calls (fun X => X.rowIs w.heap.size 31 3 (hf h v c) ∧ X.rowIs w2.heap.size 33 4 (cf 0 0 0 none 0 0) ∧ Below w.heap.size w X) ⟨q0.alloc _, cu_new _ _ _ _ _ _ _ _, bl_alloc B2 _⟩ ?_
  clear q0 B2 c0 c1 c2 l0
  rintro X ⟨q0, q1, BX⟩
  refine (HE.out X).mono ?_
  rintro e w3 ⟨rfl, hb⟩
  replace q1 := keepr hb q1
  have B3 := bl_step BX hb
  clear hb BX q0
  have e0 := cf0 q1
  have e1 := cf1 q1
  have e2 := cf2 q1
  have e3 := cf3 q1
  go_wp2_with fail
  refine (cubes_same 0 0 0 0 0 none none 0 0 _ (by decide) (Wr.nil _ _) (Wr.nil _ _)).mono ?_
  rintro e w4 ⟨rfl, hb⟩
  have B4 := bl_step B3 hb
  clear hb B3 q1 e0 e1 e2 e3
  go_wp2_with fail
  go_ret
  exact ⟨rfl, B4⟩
end Go.Proofs.Ytncmcldiodpnpaa
