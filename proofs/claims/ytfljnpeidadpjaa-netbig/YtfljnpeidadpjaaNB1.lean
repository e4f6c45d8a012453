/- NETWORKS: WHAT EVERY STATEMENT ASKS AHEAD. -/
import Derived.Test.YtfljnpeidadpjaaNE4
import Derived.Test.YtfljnpeidadpjaaNE5
namespace Go.Proofs.Ytfljnpeidadpjaa
open Go.RowKit

def emN : Nt := ⟨⟨#[]⟩, 0, 0, 0, none, 0, 0, fun _ => exP⟩
theorem emW (W : World) : NtW W emN := ⟨fun i hi => absurd hi (Nat.not_lt_zero i), (show (0 : Nat) ≤ 9223372036854775807 by decide), (show (0 : Nat) ≤ 9223372036854775807 by decide)⟩
theorem em_no : chE emN = 50 ∧ chA emN = -1 := ch_whole (by decide)
def exH (k : Nat) : Int := [3, 2, 1].getD k 0
def exC (k : Nat) : Int := [1, 1, 2].getD k 0
theorem ex_shf (B : Nat) : ∀ k, k < 3 → ((sp (exN B 3) (k + 1)).h = exH k ∧ (sp (exN B 3) (k + 1)).v = exH k ∧ (sp (exN B 3) (k + 1)).c = exC k) := fun k hk => by
  rcases (show k = 0 ∨ k = 1 ∨ k = 2 by omega) with rfl | rfl | rfl <;> exact ⟨by kernel_rfl, by kernel_rfl, by kernel_rfl⟩
theorem shf_at (N : Nt) (m k : Nat) (hk : k < m) : shf N m (k * 3) = .int .i64 (sp N (k + 1)).h ∧ shf N m (k * 3 + 1) = .int .i64 (sp N (k + 1)).v ∧ shf N m (k * 3 + 2) = .int .i64 (sp N (k + 1)).c := by
  unfold shf
  rw [if_pos (by omega), if_pos (by omega), if_pos (by omega), show k * 3 / 3 = k by omega, show (k * 3 + 1) / 3 = k by omega, show (k * 3 + 2) / 3 = k by omega, show k * 3 % 3 = 0 by omega, show (k * 3 + 1) % 3 = 1 by omega, show (k * 3 + 2) % 3 = 2 by omega]
  exact ⟨rfl, rfl, rfl⟩
/-- A list of shapes that walk has made. -/
theorem row_lsq {W : World} {N : Nt} {g m : Nat} {t : TypeId} (h : W.rowIs g t (m * 3) (shf N m)) : Lsq W (some ⟨g, 0, none⟩) m (fun k => (sp N (k + 1)).h) (fun k => (sp N (k + 1)).v) (fun k => (sp N (k + 1)).c) := fun k hk => by
  have e := shf_at N m k hk
  refine ⟨g, 0, rfl, ?_, ?_, ?_⟩
  · rw [Nat.zero_add, h.cell (by omega), e.1]
  · rw [Nat.zero_add, h.cell (by omega), e.2.1]
  · rw [Nat.zero_add, h.cell (by omega), e.2.2]
theorem ExB.bias {W : World} {B : Nat} {x y : Int} (h : ExB W B x) : ExB (W.setCell ⟨B + 9, 0, none⟩ (.int .i64 y)) B y := by
  have o := fun i (hi : i ≠ B + 9) => Below.heap_setCell W ⟨B + 9, 0, none⟩ (.int .i64 y) i hi
  refine ⟨(o _ (by omega)).trans h.1, (o _ (by omega)).trans h.2.1, (o _ (by omega)).trans h.2.2.1, ?_, (o _ (by omega)).trans h.2.2.2.2⟩
  simp [World.setCell, Array.getElem?_modify, h.2.2.2.1]
set_option maxHeartbeats 1600000 in
set_option maxRecDepth 100000 in
theorem nbegun_any (w : World) : Calls Try.prog 9 #[] w fun e w' => e = .returned (.bool true) ∧ Below w.heap.size w w' := by
  go_enter Try.func9, Try.ntmps9
  go_wp2_with fail
  refine (example_any w).mono ?_
  rintro e w1 ⟨rfl, EX, B1⟩
  obtain ⟨B, hB⟩ : ∃ B, w.heap.size = B := ⟨_, rfl⟩
  rw [hB] at EX
  rw [hB]
  have hlB : B + 11 < w1.heap.size := lt_block EX.2.2.2.2
  have HE := hid1 EX
  clear EX
  obtain ⟨bn, hbn⟩ : ∃ b, w1.heap.size = b := ⟨_, rfl⟩
  go_upto_region 2 with fail
  refine gen_world (fun X => Below w.heap.size w X ∧ ExB X B 3 ∧ Nb X bn (exN B 3)) ⟨by repeat (first | (with_reducible exact Below.refl _ _) | (with_reducible refine bl_alloc ?_ _) | (with_reducible refine Below.drew ?_) | (with_reducible refine bl_drewN ?_ _) | (with_reducible refine bl_set ?_ (by omega) _) | (with_reducible refine bl_step ?_ (by assumption))), HE.out.keep (bl_alloc (Below.refl _ _) _), by rw [← hbn]; exact nb_new w1 (exN B 3) _⟩ ?_
  clear HE B1
  rintro X ⟨BX, EX, NX⟩
  have KE := hid1 EX
  have KN := hid1 NX
  clear EX
  obtain ⟨n0, n1, n2, n3, n4⟩ := NX
  go_wp2_with fail
  have C1 := ncheck_any (exN B 3) X (exW KE.out)
  rw [(ex_ok B).1, (ex_ok B).2] at C1
  refine C1.mono ?_
  rintro e x1 ⟨rfl, hb⟩
  replace KE := hid1 (KE.out.keep hb)
  replace KN := hid1 (KN.out.keep hb)
  replace BX := bl_step BX hb
  clear hb C1 n0 n1 n2 n3 n4 X
  obtain ⟨n0, n1, n2, n3, n4⟩ := KN.out
  go_wp2_with fail
  refine (nshapes_any (exN B 3) x1 (exW KE.out)).mono ?_
  rintro e x2 ⟨v, rfl, hb, hv⟩
  rw [(ex_ok B).1]
  obtain ⟨g, hg, rfl, RG⟩ := hv.2 (ex_ok B).1
  have hg1 : B + 11 < g := Nat.lt_of_lt_of_le (lt_block KE.out.2.2.2.2) hg
  have hg2 : bn < g := Nat.lt_of_lt_of_le (lt_of_cell n0) hg
  replace KE := hid1 (KE.out.keep hb)
  replace KN := hid1 (KN.out.keep hb)
  replace BX := bl_step BX hb
  have KR := hid1 RG
  clear hb hv RG hg n0 n1 n2 n3 n4 x1
  have n4 : x2.cell? ⟨bn, 4, none⟩ = some (.slice (some ⟨B + 11, 0, none⟩) 3 3) := KN.out.2.2.2.2
  have l44 : x2.cell? ⟨B + 11, 44, none⟩ = some (.slice (some ⟨B + 9, 0, none⟩) 2 2) := bcl KE.out.2.2.2.2 rfl
  have b0 : x2.cell? ⟨B + 9, 0, none⟩ = some (.int .i64 3) := bcl KE.out.2.2.2.1 rfl
  have z0 := bfz KE.out.2.2.2.1 0
  go_upto_region 5 with fail
  have hbB : B + 11 < bn := by omega
  refine gen_world (fun X => Below w.heap.size w X ∧ ExB X B 2147483644 ∧ Nb X bn (exN B 2147483644) ∧ X.rowIs g 35 (3 * 3) (shf (exN B 3) 3)) ⟨by repeat (first | (with_reducible exact Below.refl _ _) | (with_reducible refine bl_alloc ?_ _) | (with_reducible refine Below.drew ?_) | (with_reducible refine bl_drewN ?_ _) | (with_reducible refine bl_set ?_ (by omega) _) | (with_reducible refine bl_step ?_ (by assumption))), KE.out.bias, Nb.of_block KN.out (Below.heap_setCell _ _ _ _ (by show bn ≠ B + 9; omega)), KR.out.setOther (by show g ≠ B + 9; omega) _⟩ ?_
  clear KE KN KR BX n4 l44 b0 z0 x2
  rintro X ⟨BX, EX, NX, RX⟩
  have KE := hid1 EX
  have KR := hid1 RX
  clear EX RX
  obtain ⟨n0, n1, n2, n3, n4⟩ := NX
  go_wp2_with fail
  have C1 := ncheck_any (exN B 2147483644) X (exW KE.out)
  rw [(ex_no B).1, (ex_no B).2] at C1
  refine C1.mono ?_
  rintro e x1 ⟨rfl, hb⟩
  replace KR := hid1 (rowIs_keep KR.out hb)
  replace BX := bl_step BX hb
  clear hb C1 n0 n1 n2 n3 n4 KE X
  go_wp2_with fail
  have C1 := ncheck_any emN x1 (emW _)
  rw [em_no.1, em_no.2] at C1
  refine C1.mono ?_
  rintro e x2 ⟨rfl, hb⟩
  replace KR := hid1 (rowIs_keep KR.out hb)
  replace BX := bl_step BX hb
  clear hb C1 x1
  go_upto_region 8 with fail
  obtain ⟨gw, hgw⟩ : ∃ b, x2.heap.size = b := ⟨_, rfl⟩
  refine gen_world (fun X => Below w.heap.size w X ∧ X.rowIs g 35 (3 * 3) (shf (exN B 3) 3) ∧ Lsq X (some ⟨gw, 0, none⟩) 3 exH exH exC) ⟨by repeat (first | (with_reducible exact Below.refl _ _) | (with_reducible refine bl_alloc ?_ _) | (with_reducible refine Below.drew ?_) | (with_reducible refine bl_drewN ?_ _) | (with_reducible refine bl_set ?_ (by omega) _) | (with_reducible refine bl_step ?_ (by assumption))), KR.out.alloc _, fun k hk => ⟨gw, 0, rfl, by
    have hw := new_at hgw (.cells (i64c [3, 3, 1, 2, 2, 1, 1, 1, 2]) 35)
    rcases (show k = 0 ∨ k = 1 ∨ k = 2 by omega) with rfl | rfl | rfl <;> exact ⟨bcl hw rfl, bcl hw rfl, bcl hw rfl⟩⟩⟩ ?_
  clear KR BX
  rintro X ⟨BX, RX, LX⟩
  have CE := eqs_any (some ⟨g, 0, none⟩) (some ⟨gw, 0, none⟩) 3 3 3 3 (by decide) _ _ _ _ _ _ X (row_lsq RX) LX
  rw [sqB_ok rfl (fun k hk => ex_shf B k hk)] at CE
  clear RX LX
  try rw [hgw]
  go_wp2_with fail
  refine CE.mono ?_
  rintro e x3 ⟨rfl, hb⟩
  replace BX := bl_step BX hb
  clear hb CE
  go_wp2_with fail
  go_ret
  exact ⟨rfl, BX⟩
end Go.Proofs.Ytfljnpeidadpjaa
