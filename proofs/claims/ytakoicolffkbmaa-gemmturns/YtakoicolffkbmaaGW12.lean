/- heddlelaw11: begun. -/
import Derived.Test.YtakoicolffkbmaaGW11
namespace Go.Proofs.Ytakoicolffkbmaa
open Go.RowKit

set_option maxHeartbeats 1600000 in
set_option maxRecDepth 100000 in
theorem gbegun_any (w : World) : Calls Try.prog 8 #[] w fun e w' => e = .returned (.bool true) ∧ Below w.heap.size w w' := by
  go_enter Try.func8, Try.ntmps8
  go_wp2_with fail
  refine (line_any (tx [43, 43, 45]) 3 rfl (by omega) w).mono ?_
  rintro e w1 ⟨a1, b1, rfl, ra1, rb1, B1⟩
  go_wp2_with fail
  refine (line_any (tx [48, 45, 43]) 3 rfl (by omega) w1).mono ?_
  rintro e w2 ⟨a2, b2, rfl, ra2, rb2, hb2⟩
  replace ra1 := ra1.below hb2
  replace rb1 := rb1.below hb2
  replace B1 := bl_step B1 hb2
  clear hb2
  have HL := hid1 (lq_two w2 (lnS (tx [43, 43, 45]) 3 a1, lnM (tx [43, 43, 45]) 3 b1) (lnS (tx [48, 45, 43]) 3 a2, lnM (tx [48, 45, 43]) 3 b2) ⟨ra1, rb1⟩ ⟨ra2, rb2⟩)
  clear ra1 rb1 ra2 rb2
  go_wp2_with fail
  refine gen_calls (fun X => Below w.heap.size w X ∧ ∃ x1 x2, IsL 3 (tx [43, 43, 45]) x1 ∧ IsL 3 (tx [48, 45, 43]) x2 ∧ Lq X (some ⟨w2.heap.size, 0, none⟩) [x1, x2]) ⟨bl_alloc B1 _, _, _, ⟨_, _, rfl⟩, ⟨_, _, rfl⟩, HL.out⟩ ?_
  rintro W3 ⟨B3, x1, x2, hx1, hx2, hLx⟩
  clear HL B1
  generalize w2.heap.size = p at *
  refine (line_any (tx [43, 43, 43]) 3 rfl (by omega) W3).mono ?_
  rintro e w4 ⟨c1, d1, rfl, rc1, rd1, hb4⟩
  replace hLx := hLx.below hb4
  replace B3 := bl_step B3 hb4
  clear hb4
  have HX := hid1 hLx
  clear hLx
  go_wp2_with fail
  refine (line_any (tx [45, 45, 48]) 3 rfl (by omega) w4).mono ?_
  rintro e w5 ⟨c2, d2, rfl, rc2, rd2, hb5⟩
  replace rc1 := rc1.below hb5
  replace rd1 := rd1.below hb5
  replace B3 := bl_step B3 hb5
  have HX5 := hid1 (HX.out.below hb5)
  clear hb5 HX
  have HM := hid1 (lq_two w5 (lnS (tx [43, 43, 43]) 3 c1, lnM (tx [43, 43, 43]) 3 d1) (lnS (tx [45, 45, 48]) 3 c2, lnM (tx [45, 45, 48]) 3 d2) ⟨rc1, rd1⟩ ⟨rc2, rd2⟩)
  clear rc1 rd1 rc2 rd2
  go_upto_region 3 with fail
  refine gen_anyg (fun X => Below w.heap.size w X ∧ Lq X (some ⟨p, 0, none⟩) [x1, x2] ∧ ∃ y1 y2, IsL 3 (tx [43, 43, 43]) y1 ∧ IsL 3 (tx [45, 45, 48]) y2 ∧ Lq X (some ⟨w5.heap.size, 0, none⟩) [y1, y2]) ⟨bl_alloc B3 _, HX5.out.below (bl_alloc (Below.refl _ _) _), _, _, ⟨_, _, rfl⟩, ⟨_, _, rfl⟩, HM.out⟩ ?_
  rintro W6 ⟨B6, hLx, y1, y2, hy1, hy2, hLy⟩
  clear HM HX5 B3
  generalize w5.heap.size = q at *
  have hE : gE [x1, x2] [y1, y2] = 0 := gE_lines (n := 3) (by omega) (fun x hx => by
    simp at hx
    rcases hx with rfl | rfl
    · exact ⟨_, hx1⟩
    · exact ⟨_, hx2⟩) (fun x hx => by
    simp at hx
    rcases hx with rfl | rfl
    · exact ⟨_, hy1⟩
    · exact ⟨_, hy2⟩) (by simp)
  have hS : ∀ i j, i < 2 → j < 2 → sg [x1, x2] [y1, y2] i j = wan i j := fun i j hi hj => by
    obtain ⟨s1, s2, s3, s4⟩ := sums_begun
    rcases i with _ | _ | i
    · rcases j with _ | _ | j
      · exact (sg_lines (by simp) (by simp) hx1 hy1).trans s1
      · exact (sg_lines (by simp) (by simp) hx1 hy2).trans s2
      · omega
    · rcases j with _ | _ | j
      · exact (sg_lines (by simp) (by simp) hx2 hy1).trans s3
      · exact (sg_lines (by simp) (by simp) hx2 hy2).trans s4
      · omega
    · omega
  have HE := hid1 hE
  have HS := hid1 hS
  have HX := hid1 hLx
  have HY := hid1 hLy
  clear hE hS hLx hLy hx1 hx2 hy1 hy2
  have CP : Hid (∀ X : World, Below W6.heap.size W6 X → Calls Try.prog 9 #[.slice (some ⟨p, 0, none⟩) 2 2, .slice (some ⟨q, 0, none⟩) 2 2] X fun e w' => ∃ G, e = .returned (.tuple #[.slice (some ⟨G, 0, none⟩) 2 2, .int .i64 0]) ∧ Ll w' (some ⟨G, 0, none⟩) 2 2 wan ∧ Below X.heap.size X w') := fun X hX => by
    refine (plain_ok [x1, x2] [y1, y2] (some ⟨p, 0, none⟩) (some ⟨q, 0, none⟩) 2 2 X (HX.out.below hX) (HY.out.below hX) (by simp) (by simp) HE.out).mono ?_
    rintro e w' ⟨G, bb, rfl, hgr, hb⟩
    exact ⟨G, rfl, (hgr.congr HS.out).list, hb⟩
  have CB : Hid (∀ X : World, Below W6.heap.size W6 X → Calls Try.prog 10 #[.slice (some ⟨p, 0, none⟩) 2 2, .slice (some ⟨q, 0, none⟩) 2 2, .int .i64 1, .int .i64 2] X fun e w' => ∃ G, e = .returned (.tuple #[.slice (some ⟨G, 0, none⟩) 2 2, .int .i64 0]) ∧ Ll w' (some ⟨G, 0, none⟩) 2 2 wan ∧ Below X.heap.size X w') := fun X hX => by
    refine (block_ok [x1, x2] [y1, y2] (some ⟨p, 0, none⟩) (some ⟨q, 0, none⟩) 2 2 1 2 X (HX.out.below hX) (HY.out.below hX) (by simp) (by simp) (by simp) HE.out (by omega) (by omega) (by omega) (by omega)).mono ?_
    rintro e w' ⟨G, bb, rfl, hgr, hb⟩
    exact ⟨G, rfl, (hgr.congr HS.out).list, hb⟩
  have CS : Hid (∀ X : World, Below W6.heap.size W6 X → Calls Try.prog 11 #[.slice (some ⟨p, 0, none⟩) 2 2, .slice (some ⟨q, 0, none⟩) 2 2, .int .i64 1] X fun e w' => ∃ G, e = .returned (.tuple #[.slice (some ⟨G, 0, none⟩) 2 2, .int .i64 0]) ∧ Ll w' (some ⟨G, 0, none⟩) 2 2 wan ∧ Below X.heap.size X w') := fun X hX => by
    refine (strip_ok [x1, x2] [y1, y2] (some ⟨p, 0, none⟩) (some ⟨q, 0, none⟩) 2 2 1 X (HX.out.below hX) (HY.out.below hX) (by simp) (by simp) HE.out (by omega) (by omega)).mono ?_
    rintro e w' ⟨G, bb, rfl, hgr, hb⟩
    exact ⟨G, rfl, (hgr.congr HS.out).list, hb⟩
  clear HE HS HX HY
  go_wp2_with fail
  refine gen_calls (fun X => Below W6.heap.size W6 X ∧ Ll X (some ⟨W6.heap.size + 1 + 1, 0, none⟩) 2 2 wan) ⟨bl_alloc (bl_alloc (bl_alloc (Below.refl _ _) _) _) _, want_new W6⟩ ?_
  rintro W7 ⟨B7, hW⟩
  generalize W6.heap.size + 1 + 1 = v at *
  refine (CP.out W7 B7).mono ?_
  rintro e w8 ⟨G1, rfl, h1, hb8⟩
  replace B7 := bl_step B7 hb8
  replace hW := hW.below hb8
  clear hb8
  have H1 := hid1 h1
  have HW := hid1 hW
  have B8 := hid1 B7
  clear h1 hW B7 CP
  go_wp2_with fail
  refine (CB.out w8 B8.out).mono ?_
  rintro e w9 ⟨G2, rfl, h2, hb9⟩
  have B9 := hid1 (bl_step B8.out hb9)
  have HW9 := hid1 (HW.out.below hb9)
  have H19 := hid1 (H1.out.below hb9)
  have H2 := hid1 h2
  clear HW H1 h2 hb9 CB B8
  go_wp2_with fail
  refine (CS.out w9 B9.out).mono ?_
  rintro e wa ⟨G3, rfl, h3, hba⟩
  have Ba := hid1 (bl_step B9.out hba)
  have HWa := hid1 (HW9.out.below hba)
  have H1a := hid1 (H19.out.below hba)
  have H2a := hid1 (H2.out.below hba)
  have H3a := hid1 h3
  clear HW9 H19 H2 h3 hba CS B9
  go_wp2_with fail
  refine (strip_arg 2 2 (some ⟨p, 0, none⟩) (some ⟨q, 0, none⟩) 2 2 0 wa (by omega)).mono ?_
  rintro e wb ⟨rfl, rfl⟩
  go_wp2_with fail
  refine (eq_same (some ⟨G1, 0, none⟩) (some ⟨v, 0, none⟩) 2 2 2 2 wan wan wb (by omega) (.inr (by omega)) H1a.out HWa.out (fun _ _ _ _ => rfl)).mono ?_
  rintro e wc ⟨rfl, hqc⟩
  have Bc := hqc.below (Below.refl _ wb)
  have Hc2 := hid1 (H2a.out.below Bc)
  have Hc3 := hid1 (H3a.out.below Bc)
  have HcW := hid1 (HWa.out.below Bc)
  clear H1a H2a H3a HWa
  go_wp2_with fail
  refine (eq_same (some ⟨G2, 0, none⟩) (some ⟨v, 0, none⟩) 2 2 2 2 wan wan wc (by omega) (.inr (by omega)) Hc2.out HcW.out (fun _ _ _ _ => rfl)).mono ?_
  rintro e wd' ⟨rfl, hqd⟩
  have Bd := hqd.below (Below.refl _ wc)
  have Hd3 := hid1 (Hc3.out.below Bd)
  have HdW := hid1 (HcW.out.below Bd)
  clear Hc2 Hc3 HcW
  go_wp2_with fail
  refine (eq_same (some ⟨G3, 0, none⟩) (some ⟨v, 0, none⟩) 2 2 2 2 wan wan wd' (by omega) (.inr (by omega)) Hd3.out HdW.out (fun _ _ _ _ => rfl)).mono ?_
  rintro e we ⟨rfl, hqe⟩
  have Be := hqe.below (Below.refl _ wd')
  have BE := hid1 (bl_step (bl_step (bl_step (bl_step B6 Ba.out) Bc) Bd) Be)
  clear hqe hqd hqc Bc Bd Be
  go_wp2_with fail
  go_ret
  exact ⟨rfl, BE.out⟩
end Go.Proofs.Ytakoicolffkbmaa
