/- BitsSums. -/
import Derived.Test.YteghelmbibpohaaBW12
import Derived.Deep.DeepCutAuto
namespace Go.Proofs.Yteghelmbibpohaa
open Go.RowKit

theorem r8_own' {w : World} {base : Nat} {mo : Option Addr} {cm : Nat} {l : List Int} (h : w.ownsRow base 24 1 (.slice mo l.length cm) l.length (i8s l)) : l.length ≤ cm ∧ (mo = none → l.length = 0 ∧ cm = 0) ∧ (∀ a, mo = some a → ∃ g, a = ⟨g, 0, none⟩) ∧ R8 w mo l := by
  obtain ⟨ao, cap, e, h1, _, h3, h4, h5⟩ := r8_own h
  injection e with e1 e2 e3
  subst e1 e3
  exact ⟨h1, h3, h4, h5⟩
def sLen : Value → Nat
  | .slice _ n _ => n
  | _ => 0

set_option maxHeartbeats 8000000 in
set_option maxRecDepth 100000 in
theorem sums_walk (l mm : List Int) (ao bo : Option Addr) (ca cb : Nat) (w : World) (hl : l.length ≤ ca) (hca : ca ≤ 140737488351232) (hm : mm.length ≤ cb) (hcb : cb ≤ 140737488351232)
    (ra : R8 w ao l) (rb : R8 w bo mm) (hn : bo = none → mm.length = 0 ∧ cb = 0) :
    Calls Try.prog 6 #[.slice ao l.length ca, .slice bo mm.length cb] w fun e w' => e = .returned (.bool true) ∧ Below w.heap.size w w' := by
  obtain ⟨i0, hi, hz0, hz1, hz2⟩ := info_parts info_i8
  obtain ⟨n, l', hn1, hn2, hn3, ra'⟩ : ∃ n l', n ≤ 5000 ∧ l'.length = n ∧ ((l.length ≤ 5000 ∧ l.length = n) ∨ (5000 < l.length ∧ n = 5000)) ∧ R8 w ao l' := by
    by_cases h : l.length ≤ 5000
    · exact ⟨l.length, l, h, rfl, .inl ⟨h, rfl⟩, ra⟩
    · exact ⟨5000, l.take 5000, by omega, by simp; omega, .inr ⟨by omega, rfl⟩, r8_take ra 5000⟩
  have HA := hid1 ra'
  have HB := hid1 rb
  have HN := hid1 hn
  have HL := hid1 hn2
  have hb : nw n ≤ 79 := by unfold nw; omega
  have h16 : n ≤ 16777216 := by omega
  have in0 : (0 : Int) ≤ (n : Int) := by omega
  have in1 : (n : Int) ≤ 5000 := by omega
  have iM : (mm.length : Int) ≤ 140737488351232 := by omega
  have HN3 := hid1 hn3
  clear ra rb hn ra' hn2 hn3
  go_enter Try.func6, Try.ntmps6
  go_wp2_with fail
  refine (begun_any _).mono ?_
  rintro e w0 ⟨rfl, B0⟩
  go_upto_if 30 with fail
  go_cut [0] (fun s0 wx => s0 = .slice ao n ca ∧ wx = w0)
  case first =>
    rcases HN3.out with ⟨hc, hc2⟩ | ⟨hc, hc2⟩
    · have hc' : ¬ (5000 : Int) < (l.length : Int) := by omega
      go_wp2_with fail
      go_meet
      exact ⟨by first | rfl | rw [hc2], rfl⟩
    · have hc' : (5000 : Int) < (l.length : Int) := by omega
      have hc3 : 5000 ≤ ca := by omega
      obtain ⟨ga, oa, rfl, _⟩ := HA.out 0 (by rw [HL.out]; omega)
      go_wp2_with fail
      go_meet
      exact ⟨by first | rfl | rw [hc2], rfl⟩
  case rest =>
    obtain ⟨rfl, rfl⟩ := hcut
    clear HN3
    go_wp2_with ((at_builtin; refine app_nil rfl _ _ rfl (by go_simp) bo mm cb (by go_simp) (HB.out.below B0) HN.out (by omega) ?_; intro vm w1 hown hb1; obtain ⟨mo0, cm0, rfl, hrest⟩ := r8_own hown; clear hrest))
    go_loopw [1] (fun v wr => ∃ (mj : List Int) (mo : Option Addr) (cm : Nat), v = .slice mo mj.length cm ∧ wr.ownsRow wc.heap.size 24 1 (.slice mo mj.length cm) mj.length (i8s mj) ∧ mj.length ≤ 140737488351232 ∧ Below wc.heap.size wc wr)
      (fun v _ => n - sLen v)
    case atStart => exact ⟨mm, mo0, cm0, rfl, hown, by omega, hb1⟩
    case round =>
    clear hown hb1
    obtain ⟨mj, mo, cm, rfl, hown, hmj, hnx⟩ := hrel
    have hsize := hnx.size
    have imj : (mj.length : Int) ≤ 140737488351232 := by omega
    by_cases hlt : mj.length < n
    · have ilt : (mj.length : Int) < (n : Int) := by omega
      go_wp2_with ((at_builtin; refine wpList_append_own _ rfl _ _ 23 rfl wc.heap.size 24 i0 (.int .i8 0) 1 1 und_i8s hi hz0 hz1 hz2 rfl (by decide) (.slice mo mj.length cm) mj.length (i8s mj) (by go_simp) (hown.alloc _) ⟨wr.heap.size, 0, none⟩ 1 1 [.int .i8 (-1)] (by go_simp) rfl (cell_one_new _ _ _) (fun x hx => by simp at hx; subst hx; rfl) (by unfold maxLen; omega) (by omega) (by simp; omega) ?_; intro v' w3 hown' hgrow3 hnil3))
      have hl1 : (mj ++ [-1]).length = mj.length + 1 := by simp
      rw [← i8s_snoc, ← hl1] at hown'
      have e' := r8_own hown'
      obtain ⟨mo', cm', rfl, _⟩ := e'
      exact ⟨⟨mj ++ [-1], mo', cm', rfl, hown', by omega, (hnx.alloc hsize _).grown hgrow3 (by simp; omega) (fun q hq => (hown.lt q hq).1)⟩, by simp [sLen]; omega⟩
    · have ilt : ¬ (mj.length : Int) < (n : Int) := by omega
      obtain ⟨hm1, hm2, hm3, rm⟩ := r8_own' hown
      have HM := hid1 rm
      have HM2 := hid1 hm2
      have HM3 := hid1 hm3
      have B1 := bl_step B0 hnx
      clear hown hnx rm hm2 hm3 hsize
      go_wp2_with fail
      refine (made_any l' n HL.out ao ca wr h16 (HA.out.below B1)).mono ?_
      rintro e w2 ⟨gA, rfl, _, rA, hbx⟩
      have hA := pk_lt l' n
      generalize pk l' n = A at *
      have HM' := hid1 (HM.out.below hbx)
      have B2 := bl_step B1 hbx
      clear hbx B1 HM
      go_upto_region 10 with fail
      refine gen_world (fun W' => Below w.heap.size w W' ∧ R8 W' mo mj ∧ W'.rowIs w2.heap.size 27 2 (sf n (some ⟨gA, 0, none⟩) (nw n) (nw n)) ∧ W'.rowIs gA 35 (nw n) (wf A)) ⟨bl_alloc B2 _, HM'.out.below (bl_alloc (Below.refl _ _) _), row_new _ _ _ _ _ _, rA.alloc _⟩ ?_
      clear B2 rA HM'
      rintro U0 ⟨B2, rm, sA, rA⟩
      go_cut [1, 8, 9] (fun _ s8 s9 wx => ∃ b8 gB Bn, s8 = .pointer (some ⟨b8, 0, none⟩) ∧ s9 = .bool true ∧ Bn < 2 ^ n ∧ Below w.heap.size w wx ∧ wx.rowIs w2.heap.size 27 2 (sf n (some ⟨gA, 0, none⟩) (nw n) (nw n)) ∧ wx.rowIs gA 35 (nw n) (wf A) ∧ wx.rowIs b8 27 2 (sf n (some ⟨gB, 0, none⟩) (nw n) (nw n)) ∧ wx.rowIs gB 35 (nw n) (wf Bn))
      case first =>
        have hcm : (n : Int) ≤ (cm : Int) := by omega
        have hcm' : n ≤ cm := by omega
        have hlen : (mj.take n).length = n := by simp; omega
        cases mo with
        | none =>
          obtain ⟨z1, z2⟩ := HM2.out rfl
          go_wp2_with fail
          refine (made_any (mj.take n) n hlen _ _ U0 h16 (r8_take rm n)).mono ?_
          rintro e w3 ⟨gB, rfl, _, rB, hbx⟩
          go_wp2_with fail
          go_meet
          exact ⟨_, gB, _, rfl, rfl, pk_lt _ n, bl_alloc (bl_step B2 hbx) _, (keepr hbx sA).alloc _, (keepr hbx rA).alloc _, row_new _ _ _ _ _ _, rB.alloc _⟩
        | some am =>
          obtain ⟨gm, rfl⟩ := HM3.out am rfl
          go_wp2_with fail
          refine (made_any (mj.take n) n hlen _ _ U0 h16 (r8_take rm n)).mono ?_
          rintro e w3 ⟨gB, rfl, _, rB, hbx⟩
          go_wp2_with fail
          go_meet
          exact ⟨_, gB, _, rfl, rfl, pk_lt _ n, bl_alloc (bl_step B2 hbx) _, (keepr hbx sA).alloc _, (keepr hbx rA).alloc _, row_new _ _ _ _ _ _, rB.alloc _⟩
      case rest =>
        clear B2 sA rA rm HM2 HM3 HB HN hm1
        obtain ⟨b8, gB, Bn, rfl, rfl, hB, BX, sA, rA, sB, rB⟩ := hcut
        have cA0 := sf_len sA
        have cA1 := sf_ws sA
        have lA := sA.lt
        have cB0 := sf_len sB
        have cB1 := sf_ws sB
        have lB := sB.lt
        go_wp2_with fail
        refine gen_calls (fun W' => Below w.heap.size w W' ∧ W'.rowIs w2.heap.size 27 2 (sf n (some ⟨gA, 0, none⟩) (nw n) (nw n)) ∧ W'.rowIs gA 35 (nw n) (wf A) ∧ W'.rowIs b8 27 2 (sf n (some ⟨gB, 0, none⟩) (nw n) (nw n)) ∧ W'.rowIs gB 35 (nw n) (wf Bn)) ⟨BX, sA, rA, sB, rB⟩ ?_
        clear BX cA0 cA1 lA cB0 cB1 lB sA rA sB rB
        rintro V0 ⟨BB0, sA, rA, sB, rB⟩
        refine (and_any n A Bn _ _ _ _ V0 h16 hA hB (Rd.row rA (lt_nw hA)) (Rd.row rB (lt_nw hB))).mono ?_
        rintro e w10 ⟨gC, rfl, _, rC, hbx⟩
        replace sA := keepr hbx sA
        replace rA := keepr hbx rA
        replace sB := keepr hbx sB
        replace rB := keepr hbx rB
        have BB0' := bl_step BB0 hbx
        clear hbx BB0
        have cA0 := sf_len sA
        have cA1 := sf_ws sA
        have lA := sA.lt
        have cB0 := sf_len sB
        have cB1 := sf_ws sB
        have lB := sB.lt
        have hC := and_lt' (B := Bn) hA
        go_wp2_with fail
        refine gen_calls (fun W' => Below w.heap.size w W' ∧ W'.rowIs w2.heap.size 27 2 (sf n (some ⟨gA, 0, none⟩) (nw n) (nw n)) ∧ W'.rowIs gA 35 (nw n) (wf A) ∧ W'.rowIs b8 27 2 (sf n (some ⟨gB, 0, none⟩) (nw n) (nw n)) ∧ W'.rowIs gB 35 (nw n) (wf Bn) ∧ W'.rowIs w10.heap.size 27 2 (sf n (some ⟨gC, 0, none⟩) (nw n) (nw n)) ∧ W'.rowIs gC 35 (nw n) (wf (A &&& Bn))) ⟨bl_alloc BB0' _, sA.alloc _, rA.alloc _, sB.alloc _, rB.alloc _, row_new _ _ _ _ _ _, rC.alloc _⟩ ?_
        clear BB0' cA0 cA1 lA cB0 cB1 lB sA rA sB rB rC
        rintro V1 ⟨BB1, sA, rA, sB, rB, sC, rC⟩
        refine (xor_any n A Bn _ _ _ _ V1 h16 hA hB (Rd.row rA (lt_nw hA)) (Rd.row rB (lt_nw hB))).mono ?_
        rintro e w11 ⟨gD, rfl, _, rD, hbx⟩
        replace sA := keepr hbx sA
        replace rA := keepr hbx rA
        replace sB := keepr hbx sB
        replace rB := keepr hbx rB
        replace sC := keepr hbx sC
        replace rC := keepr hbx rC
        have BB1' := bl_step BB1 hbx
        clear hbx BB1
        have cA0 := sf_len sA
        have cA1 := sf_ws sA
        have lA := sA.lt
        have cB0 := sf_len sB
        have cB1 := sf_ws sB
        have lB := sB.lt
        have cC0 := sf_len sC
        have cC1 := sf_ws sC
        have lC := sC.lt
        have hD := xor_lt' hA hB
        go_wp2_with fail
        refine gen_calls (fun W' => Below w.heap.size w W' ∧ W'.rowIs w2.heap.size 27 2 (sf n (some ⟨gA, 0, none⟩) (nw n) (nw n)) ∧ W'.rowIs gA 35 (nw n) (wf A) ∧ W'.rowIs b8 27 2 (sf n (some ⟨gB, 0, none⟩) (nw n) (nw n)) ∧ W'.rowIs gB 35 (nw n) (wf Bn) ∧ W'.rowIs w10.heap.size 27 2 (sf n (some ⟨gC, 0, none⟩) (nw n) (nw n)) ∧ W'.rowIs gC 35 (nw n) (wf (A &&& Bn)) ∧ W'.rowIs w11.heap.size 27 2 (sf n (some ⟨gD, 0, none⟩) (nw n) (nw n)) ∧ W'.rowIs gD 35 (nw n) (wf (A ^^^ Bn))) ⟨bl_alloc BB1' _, sA.alloc _, rA.alloc _, sB.alloc _, rB.alloc _, sC.alloc _, rC.alloc _, row_new _ _ _ _ _ _, rD.alloc _⟩ ?_
        clear BB1' cA0 cA1 lA cB0 cB1 lB cC0 cC1 lC sA rA sB rB sC rC rD
        rintro V2 ⟨BB2, sA, rA, sB, rB, sC, rC, sD, rD⟩
        refine (not_any n A _ _ V2 h16 hA (Rd.row rA (lt_nw hA))).mono ?_
        rintro e w12 ⟨gE, rfl, _, rE, hbx⟩
        replace sA := keepr hbx sA
        replace rA := keepr hbx rA
        replace sB := keepr hbx sB
        replace rB := keepr hbx rB
        replace sC := keepr hbx sC
        replace rC := keepr hbx rC
        replace sD := keepr hbx sD
        replace rD := keepr hbx rD
        have BB2' := bl_step BB2 hbx
        clear hbx BB2
        have cA0 := sf_len sA
        have cA1 := sf_ws sA
        have lA := sA.lt
        have cB0 := sf_len sB
        have cB1 := sf_ws sB
        have lB := sB.lt
        have cC0 := sf_len sC
        have cC1 := sf_ws sC
        have lC := sC.lt
        have cD0 := sf_len sD
        have cD1 := sf_ws sD
        have lD := sD.lt
        have hE := nt_lt n A
        go_wp2_with fail
        refine gen_calls (fun W' => Below w.heap.size w W' ∧ W'.rowIs w2.heap.size 27 2 (sf n (some ⟨gA, 0, none⟩) (nw n) (nw n)) ∧ W'.rowIs gA 35 (nw n) (wf A) ∧ W'.rowIs b8 27 2 (sf n (some ⟨gB, 0, none⟩) (nw n) (nw n)) ∧ W'.rowIs gB 35 (nw n) (wf Bn) ∧ W'.rowIs w10.heap.size 27 2 (sf n (some ⟨gC, 0, none⟩) (nw n) (nw n)) ∧ W'.rowIs gC 35 (nw n) (wf (A &&& Bn)) ∧ W'.rowIs w11.heap.size 27 2 (sf n (some ⟨gD, 0, none⟩) (nw n) (nw n)) ∧ W'.rowIs gD 35 (nw n) (wf (A ^^^ Bn)) ∧ W'.rowIs w12.heap.size 27 2 (sf n (some ⟨gE, 0, none⟩) (nw n) (nw n)) ∧ W'.rowIs gE 35 (nw n) (wf (nt n A))) ⟨bl_alloc BB2' _, sA.alloc _, rA.alloc _, sB.alloc _, rB.alloc _, sC.alloc _, rC.alloc _, sD.alloc _, rD.alloc _, row_new _ _ _ _ _ _, rE.alloc _⟩ ?_
        clear BB2' cA0 cA1 lA cB0 cB1 lB cC0 cC1 lC cD0 cD1 lD sA rA sB rB sC rC sD rD rE
        rintro V3 ⟨BB3, sA, rA, sB, rB, sC, rC, sD, rD, sE, rE⟩
        refine (lcount_any n (A &&& Bn) _ _ V3 h16 hC (Rd.row rC (lt_nw hC))).mono ?_
        rintro e w13 ⟨rfl, hbx⟩
        replace sA := keepr hbx sA
        replace rA := keepr hbx rA
        replace sB := keepr hbx sB
        replace rB := keepr hbx rB
        replace sC := keepr hbx sC
        replace rC := keepr hbx rC
        replace sD := keepr hbx sD
        replace rD := keepr hbx rD
        replace sE := keepr hbx sE
        replace rE := keepr hbx rE
        have BB3' := bl_step BB3 hbx
        clear hbx BB3
        have cA0 := sf_len sA
        have cA1 := sf_ws sA
        have lA := sA.lt
        have cB0 := sf_len sB
        have cB1 := sf_ws sB
        have lB := sB.lt
        have cC0 := sf_len sC
        have cC1 := sf_ws sC
        have lC := sC.lt
        have cD0 := sf_len sD
        have cD1 := sf_ws sD
        have lD := sD.lt
        have cE0 := sf_len sE
        have cE1 := sf_ws sE
        have lE := sE.lt
        go_wp2_with fail
        refine gen_calls (fun W' => Below w.heap.size w W' ∧ W'.rowIs w2.heap.size 27 2 (sf n (some ⟨gA, 0, none⟩) (nw n) (nw n)) ∧ W'.rowIs gA 35 (nw n) (wf A) ∧ W'.rowIs b8 27 2 (sf n (some ⟨gB, 0, none⟩) (nw n) (nw n)) ∧ W'.rowIs gB 35 (nw n) (wf Bn) ∧ W'.rowIs w10.heap.size 27 2 (sf n (some ⟨gC, 0, none⟩) (nw n) (nw n)) ∧ W'.rowIs gC 35 (nw n) (wf (A &&& Bn)) ∧ W'.rowIs w11.heap.size 27 2 (sf n (some ⟨gD, 0, none⟩) (nw n) (nw n)) ∧ W'.rowIs gD 35 (nw n) (wf (A ^^^ Bn)) ∧ W'.rowIs w12.heap.size 27 2 (sf n (some ⟨gE, 0, none⟩) (nw n) (nw n)) ∧ W'.rowIs gE 35 (nw n) (wf (nt n A))) ⟨BB3', sA, rA, sB, rB, sC, rC, sD, rD, sE, rE⟩ ?_
        clear BB3' cA0 cA1 lA cB0 cB1 lB cC0 cC1 lC cD0 cD1 lD cE0 cE1 lE sA rA sB rB sC rC sD rD sE rE
        rintro V4 ⟨BB4, sA, rA, sB, rB, sC, rC, sD, rD, sE, rE⟩
        refine (lcount_any n (A ^^^ Bn) _ _ V4 h16 hD (Rd.row rD (lt_nw hD))).mono ?_
        rintro e w14 ⟨rfl, hbx⟩
        replace sA := keepr hbx sA
        replace rA := keepr hbx rA
        replace sB := keepr hbx sB
        replace rB := keepr hbx rB
        replace sC := keepr hbx sC
        replace rC := keepr hbx rC
        replace sD := keepr hbx sD
        replace rD := keepr hbx rD
        replace sE := keepr hbx sE
        replace rE := keepr hbx rE
        have BB4' := bl_step BB4 hbx
        clear hbx BB4
        have cA0 := sf_len sA
        have cA1 := sf_ws sA
        have lA := sA.lt
        have cB0 := sf_len sB
        have cB1 := sf_ws sB
        have lB := sB.lt
        have cC0 := sf_len sC
        have cC1 := sf_ws sC
        have lC := sC.lt
        have cD0 := sf_len sD
        have cD1 := sf_ws sD
        have lD := sD.lt
        have cE0 := sf_len sE
        have cE1 := sf_ws sE
        have lE := sE.lt
        go_wp2_with fail
        refine gen_calls (fun W' => Below w.heap.size w W' ∧ W'.rowIs w2.heap.size 27 2 (sf n (some ⟨gA, 0, none⟩) (nw n) (nw n)) ∧ W'.rowIs gA 35 (nw n) (wf A) ∧ W'.rowIs b8 27 2 (sf n (some ⟨gB, 0, none⟩) (nw n) (nw n)) ∧ W'.rowIs gB 35 (nw n) (wf Bn) ∧ W'.rowIs w10.heap.size 27 2 (sf n (some ⟨gC, 0, none⟩) (nw n) (nw n)) ∧ W'.rowIs gC 35 (nw n) (wf (A &&& Bn)) ∧ W'.rowIs w11.heap.size 27 2 (sf n (some ⟨gD, 0, none⟩) (nw n) (nw n)) ∧ W'.rowIs gD 35 (nw n) (wf (A ^^^ Bn)) ∧ W'.rowIs w12.heap.size 27 2 (sf n (some ⟨gE, 0, none⟩) (nw n) (nw n)) ∧ W'.rowIs gE 35 (nw n) (wf (nt n A))) ⟨BB4', sA, rA, sB, rB, sC, rC, sD, rD, sE, rE⟩ ?_
        clear BB4' cA0 cA1 lA cB0 cB1 lB cC0 cC1 lC cD0 cD1 lD cE0 cE1 lE sA rA sB rB sC rC sD rD sE rE
        rintro V5 ⟨BB5, sA, rA, sB, rB, sC, rC, sD, rD, sE, rE⟩
        refine (lcount_any n (nt n A) _ _ V5 h16 hE (Rd.row rE (lt_nw hE))).mono ?_
        rintro e w15 ⟨rfl, hbx⟩
        replace sA := keepr hbx sA
        replace rA := keepr hbx rA
        replace sB := keepr hbx sB
        replace rB := keepr hbx rB
        replace sC := keepr hbx sC
        replace rC := keepr hbx rC
        replace sD := keepr hbx sD
        replace rD := keepr hbx rD
        replace sE := keepr hbx sE
        replace rE := keepr hbx rE
        have BB5' := bl_step BB5 hbx
        clear hbx BB5
        have cA0 := sf_len sA
        have cA1 := sf_ws sA
        have lA := sA.lt
        have cB0 := sf_len sB
        have cB1 := sf_ws sB
        have lB := sB.lt
        have cC0 := sf_len sC
        have cC1 := sf_ws sC
        have lC := sC.lt
        have cD0 := sf_len sD
        have cD1 := sf_ws sD
        have lD := sD.lt
        have cE0 := sf_len sE
        have cE1 := sf_ws sE
        have lE := sE.lt
        go_wp2_with fail
        refine gen_calls (fun W' => Below w.heap.size w W' ∧ W'.rowIs w2.heap.size 27 2 (sf n (some ⟨gA, 0, none⟩) (nw n) (nw n)) ∧ W'.rowIs gA 35 (nw n) (wf A) ∧ W'.rowIs b8 27 2 (sf n (some ⟨gB, 0, none⟩) (nw n) (nw n)) ∧ W'.rowIs gB 35 (nw n) (wf Bn) ∧ W'.rowIs w10.heap.size 27 2 (sf n (some ⟨gC, 0, none⟩) (nw n) (nw n)) ∧ W'.rowIs gC 35 (nw n) (wf (A &&& Bn)) ∧ W'.rowIs w11.heap.size 27 2 (sf n (some ⟨gD, 0, none⟩) (nw n) (nw n)) ∧ W'.rowIs gD 35 (nw n) (wf (A ^^^ Bn)) ∧ W'.rowIs w12.heap.size 27 2 (sf n (some ⟨gE, 0, none⟩) (nw n) (nw n)) ∧ W'.rowIs gE 35 (nw n) (wf (nt n A))) ⟨BB5', sA, rA, sB, rB, sC, rC, sD, rD, sE, rE⟩ ?_
        clear BB5' cA0 cA1 lA cB0 cB1 lB cC0 cC1 lC cD0 cD1 lD cE0 cE1 lE sA rA sB rB sC rC sD rD sE rE
        rintro V6 ⟨BB6, sA, rA, sB, rB, sC, rC, sD, rD, sE, rE⟩
        refine (lcount_any n A _ _ V6 h16 hA (Rd.row rA (lt_nw hA))).mono ?_
        rintro e w16 ⟨rfl, hbx⟩
        replace sA := keepr hbx sA
        replace rA := keepr hbx rA
        replace sB := keepr hbx sB
        replace rB := keepr hbx rB
        replace sC := keepr hbx sC
        replace rC := keepr hbx rC
        replace sD := keepr hbx sD
        replace rD := keepr hbx rD
        replace sE := keepr hbx sE
        replace rE := keepr hbx rE
        have BB6' := bl_step BB6 hbx
        clear hbx BB6
        have cA0 := sf_len sA
        have cA1 := sf_ws sA
        have lA := sA.lt
        have cB0 := sf_len sB
        have cB1 := sf_ws sB
        have lB := sB.lt
        have cC0 := sf_len sC
        have cC1 := sf_ws sC
        have lC := sC.lt
        have cD0 := sf_len sD
        have cD1 := sf_ws sD
        have lD := sD.lt
        have cE0 := sf_len sE
        have cE1 := sf_ws sE
        have lE := sE.lt
        go_wp2_with fail
        refine gen_calls (fun W' => Below w.heap.size w W' ∧ W'.rowIs w2.heap.size 27 2 (sf n (some ⟨gA, 0, none⟩) (nw n) (nw n)) ∧ W'.rowIs gA 35 (nw n) (wf A) ∧ W'.rowIs b8 27 2 (sf n (some ⟨gB, 0, none⟩) (nw n) (nw n)) ∧ W'.rowIs gB 35 (nw n) (wf Bn) ∧ W'.rowIs w10.heap.size 27 2 (sf n (some ⟨gC, 0, none⟩) (nw n) (nw n)) ∧ W'.rowIs gC 35 (nw n) (wf (A &&& Bn)) ∧ W'.rowIs w11.heap.size 27 2 (sf n (some ⟨gD, 0, none⟩) (nw n) (nw n)) ∧ W'.rowIs gD 35 (nw n) (wf (A ^^^ Bn)) ∧ W'.rowIs w12.heap.size 27 2 (sf n (some ⟨gE, 0, none⟩) (nw n) (nw n)) ∧ W'.rowIs gE 35 (nw n) (wf (nt n A))) ⟨BB6', sA, rA, sB, rB, sC, rC, sD, rD, sE, rE⟩ ?_
        clear BB6' cA0 cA1 lA cB0 cB1 lB cC0 cC1 lC cD0 cD1 lD cE0 cE1 lE sA rA sB rB sC rC sD rD sE rE
        rintro V7 ⟨BB7, sA, rA, sB, rB, sC, rC, sD, rD, sE, rE⟩
        refine (lcount_any n Bn _ _ V7 h16 hB (Rd.row rB (lt_nw hB))).mono ?_
        rintro e w17 ⟨rfl, hbx⟩
        replace sA := keepr hbx sA
        replace rA := keepr hbx rA
        replace sB := keepr hbx sB
        replace rB := keepr hbx rB
        replace sC := keepr hbx sC
        replace rC := keepr hbx rC
        replace sD := keepr hbx sD
        replace rD := keepr hbx rD
        replace sE := keepr hbx sE
        replace rE := keepr hbx rE
        have BB7' := bl_step BB7 hbx
        clear hbx BB7
        have cA0 := sf_len sA
        have cA1 := sf_ws sA
        have lA := sA.lt
        have cB0 := sf_len sB
        have cB1 := sf_ws sB
        have lB := sB.lt
        have cC0 := sf_len sC
        have cC1 := sf_ws sC
        have lC := sC.lt
        have cD0 := sf_len sD
        have cD1 := sf_ws sD
        have lD := sD.lt
        have cE0 := sf_len sE
        have cE1 := sf_ws sE
        have lE := sE.lt
        have e1 : pc A n + pc Bn n = 2 * pc (A &&& Bn) n + pc (A ^^^ Bn) n := pc_and_xor A Bn n
        have e2 : pc A n + pc (nt n A) n = n := pc_nt hA n (Nat.le_refl _)
        have bdx := pc_le (A &&& Bn) n
        have bdy := pc_le (A ^^^ Bn) n
        have bdz := pc_le (nt n A) n
        have bdp := pc_le A n
        have bdq := pc_le Bn n
        generalize pc (A &&& Bn) n = x at *
        generalize pc (A ^^^ Bn) n = y at *
        generalize pc (nt n A) n = z at *
        generalize pc A n = p at *
        generalize pc Bn n = q at *
        have f1 : (p : Int) + (q : Int) = 2 * (x : Int) + (y : Int) := by omega
        have f2 : (p : Int) + (z : Int) = (n : Int) := by omega
        have ix0 : (0 : Int) ≤ (x : Int) := by omega
        have ix1 : (x : Int) ≤ 5000 := by omega
        have iy0 : (0 : Int) ≤ (y : Int) := by omega
        have iy1 : (y : Int) ≤ 5000 := by omega
        have iz0 : (0 : Int) ≤ (z : Int) := by omega
        have iz1 : (z : Int) ≤ 5000 := by omega
        have ip0 : (0 : Int) ≤ (p : Int) := by omega
        have ip1 : (p : Int) ≤ 5000 := by omega
        have iq0 : (0 : Int) ≤ (q : Int) := by omega
        have iq1 : (q : Int) ≤ 5000 := by omega
        clear e1 e2 bdx bdy bdz bdp bdq
        go_wp2_with fail
        refine gen_calls (fun W' => Below w.heap.size w W' ∧ W'.rowIs w2.heap.size 27 2 (sf n (some ⟨gA, 0, none⟩) (nw n) (nw n)) ∧ W'.rowIs gA 35 (nw n) (wf A) ∧ W'.rowIs b8 27 2 (sf n (some ⟨gB, 0, none⟩) (nw n) (nw n)) ∧ W'.rowIs gB 35 (nw n) (wf Bn) ∧ W'.rowIs w10.heap.size 27 2 (sf n (some ⟨gC, 0, none⟩) (nw n) (nw n)) ∧ W'.rowIs gC 35 (nw n) (wf (A &&& Bn)) ∧ W'.rowIs w11.heap.size 27 2 (sf n (some ⟨gD, 0, none⟩) (nw n) (nw n)) ∧ W'.rowIs gD 35 (nw n) (wf (A ^^^ Bn)) ∧ W'.rowIs w12.heap.size 27 2 (sf n (some ⟨gE, 0, none⟩) (nw n) (nw n)) ∧ W'.rowIs gE 35 (nw n) (wf (nt n A))) ⟨BB7', sA, rA, sB, rB, sC, rC, sD, rD, sE, rE⟩ ?_
        clear BB7' cA0 cA1 lA cB0 cB1 lB cC0 cC1 lC cD0 cD1 lD cE0 cE1 lE sA rA sB rB sC rC sD rD sE rE
        rintro V8 ⟨BB8, sA, rA, sB, rB, sC, rC, sD, rD, sE, rE⟩
        refine (xor_any n A A _ _ _ _ V8 h16 hA hA (Rd.row rA (lt_nw hA)) (Rd.row rA (lt_nw hA))).mono ?_
        rintro e w18 ⟨gF, rfl, _, rF, hbx⟩
        rw [Nat.xor_self] at rF
        replace sA := keepr hbx sA
        replace rA := keepr hbx rA
        replace sB := keepr hbx sB
        replace rB := keepr hbx rB
        replace sC := keepr hbx sC
        replace rC := keepr hbx rC
        replace sD := keepr hbx sD
        replace rD := keepr hbx rD
        replace sE := keepr hbx sE
        replace rE := keepr hbx rE
        have BB8' := bl_step BB8 hbx
        clear hbx BB8
        have cA0 := sf_len sA
        have cA1 := sf_ws sA
        have lA := sA.lt
        have cB0 := sf_len sB
        have cB1 := sf_ws sB
        have lB := sB.lt
        have cC0 := sf_len sC
        have cC1 := sf_ws sC
        have lC := sC.lt
        have cD0 := sf_len sD
        have cD1 := sf_ws sD
        have lD := sD.lt
        have cE0 := sf_len sE
        have cE1 := sf_ws sE
        have lE := sE.lt
        have hF := zero_lt n
        go_wp2_with fail
        refine gen_calls (fun W' => Below w.heap.size w W' ∧ W'.rowIs w2.heap.size 27 2 (sf n (some ⟨gA, 0, none⟩) (nw n) (nw n)) ∧ W'.rowIs gA 35 (nw n) (wf A) ∧ W'.rowIs b8 27 2 (sf n (some ⟨gB, 0, none⟩) (nw n) (nw n)) ∧ W'.rowIs gB 35 (nw n) (wf Bn) ∧ W'.rowIs w10.heap.size 27 2 (sf n (some ⟨gC, 0, none⟩) (nw n) (nw n)) ∧ W'.rowIs gC 35 (nw n) (wf (A &&& Bn)) ∧ W'.rowIs w11.heap.size 27 2 (sf n (some ⟨gD, 0, none⟩) (nw n) (nw n)) ∧ W'.rowIs gD 35 (nw n) (wf (A ^^^ Bn)) ∧ W'.rowIs w12.heap.size 27 2 (sf n (some ⟨gE, 0, none⟩) (nw n) (nw n)) ∧ W'.rowIs gE 35 (nw n) (wf (nt n A)) ∧ W'.rowIs w18.heap.size 27 2 (sf n (some ⟨gF, 0, none⟩) (nw n) (nw n)) ∧ W'.rowIs gF 35 (nw n) (wf 0)) ⟨bl_alloc BB8' _, sA.alloc _, rA.alloc _, sB.alloc _, rB.alloc _, sC.alloc _, rC.alloc _, sD.alloc _, rD.alloc _, sE.alloc _, rE.alloc _, row_new _ _ _ _ _ _, rF.alloc _⟩ ?_
        clear BB8' cA0 cA1 lA cB0 cB1 lB cC0 cC1 lC cD0 cD1 lD cE0 cE1 lE sA rA sB rB sC rC sD rD sE rE rF
        rintro V9 ⟨BB9, sA, rA, sB, rB, sC, rC, sD, rD, sE, rE, sF, rF⟩
        refine (not_any n (nt n A) _ _ V9 h16 hE (Rd.row rE (lt_nw hE))).mono ?_
        rintro e w19 ⟨gG, rfl, _, rG, hbx⟩
        rw [nt_nt hA] at rG
        replace sA := keepr hbx sA
        replace rA := keepr hbx rA
        replace sB := keepr hbx sB
        replace rB := keepr hbx rB
        replace sC := keepr hbx sC
        replace rC := keepr hbx rC
        replace sD := keepr hbx sD
        replace rD := keepr hbx rD
        replace sE := keepr hbx sE
        replace rE := keepr hbx rE
        replace sF := keepr hbx sF
        replace rF := keepr hbx rF
        have BB9' := bl_step BB9 hbx
        clear hbx BB9
        have cA0 := sf_len sA
        have cA1 := sf_ws sA
        have lA := sA.lt
        have cB0 := sf_len sB
        have cB1 := sf_ws sB
        have lB := sB.lt
        have cC0 := sf_len sC
        have cC1 := sf_ws sC
        have lC := sC.lt
        have cD0 := sf_len sD
        have cD1 := sf_ws sD
        have lD := sD.lt
        have cE0 := sf_len sE
        have cE1 := sf_ws sE
        have lE := sE.lt
        have cF0 := sf_len sF
        have cF1 := sf_ws sF
        have lF := sF.lt
        have hG := hA
        go_wp2_with fail
        refine gen_calls (fun W' => Below w.heap.size w W' ∧ W'.rowIs w2.heap.size 27 2 (sf n (some ⟨gA, 0, none⟩) (nw n) (nw n)) ∧ W'.rowIs gA 35 (nw n) (wf A) ∧ W'.rowIs b8 27 2 (sf n (some ⟨gB, 0, none⟩) (nw n) (nw n)) ∧ W'.rowIs gB 35 (nw n) (wf Bn) ∧ W'.rowIs w10.heap.size 27 2 (sf n (some ⟨gC, 0, none⟩) (nw n) (nw n)) ∧ W'.rowIs gC 35 (nw n) (wf (A &&& Bn)) ∧ W'.rowIs w11.heap.size 27 2 (sf n (some ⟨gD, 0, none⟩) (nw n) (nw n)) ∧ W'.rowIs gD 35 (nw n) (wf (A ^^^ Bn)) ∧ W'.rowIs w12.heap.size 27 2 (sf n (some ⟨gE, 0, none⟩) (nw n) (nw n)) ∧ W'.rowIs gE 35 (nw n) (wf (nt n A)) ∧ W'.rowIs w18.heap.size 27 2 (sf n (some ⟨gF, 0, none⟩) (nw n) (nw n)) ∧ W'.rowIs gF 35 (nw n) (wf 0) ∧ W'.rowIs w19.heap.size 27 2 (sf n (some ⟨gG, 0, none⟩) (nw n) (nw n)) ∧ W'.rowIs gG 35 (nw n) (wf A)) ⟨bl_alloc BB9' _, sA.alloc _, rA.alloc _, sB.alloc _, rB.alloc _, sC.alloc _, rC.alloc _, sD.alloc _, rD.alloc _, sE.alloc _, rE.alloc _, sF.alloc _, rF.alloc _, row_new _ _ _ _ _ _, rG.alloc _⟩ ?_
        clear BB9' cA0 cA1 lA cB0 cB1 lB cC0 cC1 lC cD0 cD1 lD cE0 cE1 lE cF0 cF1 lF sA rA sB rB sC rC sD rD sE rE sF rF rG
        rintro V10 ⟨BB10, sA, rA, sB, rB, sC, rC, sD, rD, sE, rE, sF, rF, sG, rG⟩
        refine (and_any n A (nt n A) _ _ _ _ V10 h16 hA hE (Rd.row rA (lt_nw hA)) (Rd.row rE (lt_nw hE))).mono ?_
        rintro e w20 ⟨gH, rfl, _, rH, hbx⟩
        rw [and_nt hA] at rH
        replace sA := keepr hbx sA
        replace rA := keepr hbx rA
        replace sB := keepr hbx sB
        replace rB := keepr hbx rB
        replace sC := keepr hbx sC
        replace rC := keepr hbx rC
        replace sD := keepr hbx sD
        replace rD := keepr hbx rD
        replace sE := keepr hbx sE
        replace rE := keepr hbx rE
        replace sF := keepr hbx sF
        replace rF := keepr hbx rF
        replace sG := keepr hbx sG
        replace rG := keepr hbx rG
        have BB10' := bl_step BB10 hbx
        clear hbx BB10
        have cA0 := sf_len sA
        have cA1 := sf_ws sA
        have lA := sA.lt
        have cB0 := sf_len sB
        have cB1 := sf_ws sB
        have lB := sB.lt
        have cC0 := sf_len sC
        have cC1 := sf_ws sC
        have lC := sC.lt
        have cD0 := sf_len sD
        have cD1 := sf_ws sD
        have lD := sD.lt
        have cE0 := sf_len sE
        have cE1 := sf_ws sE
        have lE := sE.lt
        have cF0 := sf_len sF
        have cF1 := sf_ws sF
        have lF := sF.lt
        have cG0 := sf_len sG
        have cG1 := sf_ws sG
        have lG := sG.lt
        have hH := zero_lt n
        go_wp2_with fail
        refine gen_calls (fun W' => Below w.heap.size w W' ∧ W'.rowIs w2.heap.size 27 2 (sf n (some ⟨gA, 0, none⟩) (nw n) (nw n)) ∧ W'.rowIs gA 35 (nw n) (wf A) ∧ W'.rowIs b8 27 2 (sf n (some ⟨gB, 0, none⟩) (nw n) (nw n)) ∧ W'.rowIs gB 35 (nw n) (wf Bn) ∧ W'.rowIs w10.heap.size 27 2 (sf n (some ⟨gC, 0, none⟩) (nw n) (nw n)) ∧ W'.rowIs gC 35 (nw n) (wf (A &&& Bn)) ∧ W'.rowIs w11.heap.size 27 2 (sf n (some ⟨gD, 0, none⟩) (nw n) (nw n)) ∧ W'.rowIs gD 35 (nw n) (wf (A ^^^ Bn)) ∧ W'.rowIs w12.heap.size 27 2 (sf n (some ⟨gE, 0, none⟩) (nw n) (nw n)) ∧ W'.rowIs gE 35 (nw n) (wf (nt n A)) ∧ W'.rowIs w18.heap.size 27 2 (sf n (some ⟨gF, 0, none⟩) (nw n) (nw n)) ∧ W'.rowIs gF 35 (nw n) (wf 0) ∧ W'.rowIs w19.heap.size 27 2 (sf n (some ⟨gG, 0, none⟩) (nw n) (nw n)) ∧ W'.rowIs gG 35 (nw n) (wf A) ∧ W'.rowIs w20.heap.size 27 2 (sf n (some ⟨gH, 0, none⟩) (nw n) (nw n)) ∧ W'.rowIs gH 35 (nw n) (wf 0)) ⟨bl_alloc BB10' _, sA.alloc _, rA.alloc _, sB.alloc _, rB.alloc _, sC.alloc _, rC.alloc _, sD.alloc _, rD.alloc _, sE.alloc _, rE.alloc _, sF.alloc _, rF.alloc _, sG.alloc _, rG.alloc _, row_new _ _ _ _ _ _, rH.alloc _⟩ ?_
        clear BB10' cA0 cA1 lA cB0 cB1 lB cC0 cC1 lC cD0 cD1 lD cE0 cE1 lE cF0 cF1 lF cG0 cG1 lG sA rA sB rB sC rC sD rD sE rE sF rF sG rG rH
        rintro V11 ⟨BB11, sA, rA, sB, rB, sC, rC, sD, rD, sE, rE, sF, rF, sG, rG, sH, rH⟩
        refine (xor_any n (A ^^^ Bn) Bn _ _ _ _ V11 h16 hD hB (Rd.row rD (lt_nw hD)) (Rd.row rB (lt_nw hB))).mono ?_
        rintro e w21 ⟨gI, rfl, _, rI, hbx⟩
        rw [xor_xor'] at rI
        replace sA := keepr hbx sA
        replace rA := keepr hbx rA
        replace sB := keepr hbx sB
        replace rB := keepr hbx rB
        replace sC := keepr hbx sC
        replace rC := keepr hbx rC
        replace sD := keepr hbx sD
        replace rD := keepr hbx rD
        replace sE := keepr hbx sE
        replace rE := keepr hbx rE
        replace sF := keepr hbx sF
        replace rF := keepr hbx rF
        replace sG := keepr hbx sG
        replace rG := keepr hbx rG
        replace sH := keepr hbx sH
        replace rH := keepr hbx rH
        have BB11' := bl_step BB11 hbx
        clear hbx BB11
        have cA0 := sf_len sA
        have cA1 := sf_ws sA
        have lA := sA.lt
        have cB0 := sf_len sB
        have cB1 := sf_ws sB
        have lB := sB.lt
        have cC0 := sf_len sC
        have cC1 := sf_ws sC
        have lC := sC.lt
        have cD0 := sf_len sD
        have cD1 := sf_ws sD
        have lD := sD.lt
        have cE0 := sf_len sE
        have cE1 := sf_ws sE
        have lE := sE.lt
        have cF0 := sf_len sF
        have cF1 := sf_ws sF
        have lF := sF.lt
        have cG0 := sf_len sG
        have cG1 := sf_ws sG
        have lG := sG.lt
        have cH0 := sf_len sH
        have cH1 := sf_ws sH
        have lH := sH.lt
        have hI := hA
        go_wp2_with fail
        refine gen_calls (fun W' => Below w.heap.size w W' ∧ W'.rowIs w2.heap.size 27 2 (sf n (some ⟨gA, 0, none⟩) (nw n) (nw n)) ∧ W'.rowIs gA 35 (nw n) (wf A) ∧ W'.rowIs b8 27 2 (sf n (some ⟨gB, 0, none⟩) (nw n) (nw n)) ∧ W'.rowIs gB 35 (nw n) (wf Bn) ∧ W'.rowIs w10.heap.size 27 2 (sf n (some ⟨gC, 0, none⟩) (nw n) (nw n)) ∧ W'.rowIs gC 35 (nw n) (wf (A &&& Bn)) ∧ W'.rowIs w11.heap.size 27 2 (sf n (some ⟨gD, 0, none⟩) (nw n) (nw n)) ∧ W'.rowIs gD 35 (nw n) (wf (A ^^^ Bn)) ∧ W'.rowIs w12.heap.size 27 2 (sf n (some ⟨gE, 0, none⟩) (nw n) (nw n)) ∧ W'.rowIs gE 35 (nw n) (wf (nt n A)) ∧ W'.rowIs w18.heap.size 27 2 (sf n (some ⟨gF, 0, none⟩) (nw n) (nw n)) ∧ W'.rowIs gF 35 (nw n) (wf 0) ∧ W'.rowIs w19.heap.size 27 2 (sf n (some ⟨gG, 0, none⟩) (nw n) (nw n)) ∧ W'.rowIs gG 35 (nw n) (wf A) ∧ W'.rowIs w20.heap.size 27 2 (sf n (some ⟨gH, 0, none⟩) (nw n) (nw n)) ∧ W'.rowIs gH 35 (nw n) (wf 0) ∧ W'.rowIs w21.heap.size 27 2 (sf n (some ⟨gI, 0, none⟩) (nw n) (nw n)) ∧ W'.rowIs gI 35 (nw n) (wf A)) ⟨bl_alloc BB11' _, sA.alloc _, rA.alloc _, sB.alloc _, rB.alloc _, sC.alloc _, rC.alloc _, sD.alloc _, rD.alloc _, sE.alloc _, rE.alloc _, sF.alloc _, rF.alloc _, sG.alloc _, rG.alloc _, sH.alloc _, rH.alloc _, row_new _ _ _ _ _ _, rI.alloc _⟩ ?_
        clear BB11' cA0 cA1 lA cB0 cB1 lB cC0 cC1 lC cD0 cD1 lD cE0 cE1 lE cF0 cF1 lF cG0 cG1 lG cH0 cH1 lH sA rA sB rB sC rC sD rD sE rE sF rF sG rG sH rH rI
        rintro V12 ⟨BB12, sA, rA, sB, rB, sC, rC, sD, rD, sE, rE, sF, rF, sG, rG, sH, rH, sI, rI⟩
        refine (lcount_any n 0 _ _ V12 h16 hF (Rd.row rF (lt_nw hF))).mono ?_
        rintro e w22 ⟨rfl, hbx⟩
        replace sA := keepr hbx sA
        replace rA := keepr hbx rA
        replace sB := keepr hbx sB
        replace rB := keepr hbx rB
        replace sC := keepr hbx sC
        replace rC := keepr hbx rC
        replace sD := keepr hbx sD
        replace rD := keepr hbx rD
        replace sE := keepr hbx sE
        replace rE := keepr hbx rE
        replace sF := keepr hbx sF
        replace rF := keepr hbx rF
        replace sG := keepr hbx sG
        replace rG := keepr hbx rG
        replace sH := keepr hbx sH
        replace rH := keepr hbx rH
        replace sI := keepr hbx sI
        replace rI := keepr hbx rI
        have BB12' := bl_step BB12 hbx
        clear hbx BB12
        have cA0 := sf_len sA
        have cA1 := sf_ws sA
        have lA := sA.lt
        have cB0 := sf_len sB
        have cB1 := sf_ws sB
        have lB := sB.lt
        have cC0 := sf_len sC
        have cC1 := sf_ws sC
        have lC := sC.lt
        have cD0 := sf_len sD
        have cD1 := sf_ws sD
        have lD := sD.lt
        have cE0 := sf_len sE
        have cE1 := sf_ws sE
        have lE := sE.lt
        have cF0 := sf_len sF
        have cF1 := sf_ws sF
        have lF := sF.lt
        have cG0 := sf_len sG
        have cG1 := sf_ws sG
        have lG := sG.lt
        have cH0 := sf_len sH
        have cH1 := sf_ws sH
        have lH := sH.lt
        have cI0 := sf_len sI
        have cI1 := sf_ws sI
        have lI := sI.lt
        rw [pc_zero]
        go_wp2_with fail
        refine gen_calls (fun W' => Below w.heap.size w W' ∧ W'.rowIs w2.heap.size 27 2 (sf n (some ⟨gA, 0, none⟩) (nw n) (nw n)) ∧ W'.rowIs gA 35 (nw n) (wf A) ∧ W'.rowIs b8 27 2 (sf n (some ⟨gB, 0, none⟩) (nw n) (nw n)) ∧ W'.rowIs gB 35 (nw n) (wf Bn) ∧ W'.rowIs w10.heap.size 27 2 (sf n (some ⟨gC, 0, none⟩) (nw n) (nw n)) ∧ W'.rowIs gC 35 (nw n) (wf (A &&& Bn)) ∧ W'.rowIs w11.heap.size 27 2 (sf n (some ⟨gD, 0, none⟩) (nw n) (nw n)) ∧ W'.rowIs gD 35 (nw n) (wf (A ^^^ Bn)) ∧ W'.rowIs w12.heap.size 27 2 (sf n (some ⟨gE, 0, none⟩) (nw n) (nw n)) ∧ W'.rowIs gE 35 (nw n) (wf (nt n A)) ∧ W'.rowIs w18.heap.size 27 2 (sf n (some ⟨gF, 0, none⟩) (nw n) (nw n)) ∧ W'.rowIs gF 35 (nw n) (wf 0) ∧ W'.rowIs w19.heap.size 27 2 (sf n (some ⟨gG, 0, none⟩) (nw n) (nw n)) ∧ W'.rowIs gG 35 (nw n) (wf A) ∧ W'.rowIs w20.heap.size 27 2 (sf n (some ⟨gH, 0, none⟩) (nw n) (nw n)) ∧ W'.rowIs gH 35 (nw n) (wf 0) ∧ W'.rowIs w21.heap.size 27 2 (sf n (some ⟨gI, 0, none⟩) (nw n) (nw n)) ∧ W'.rowIs gI 35 (nw n) (wf A)) ⟨BB12', sA, rA, sB, rB, sC, rC, sD, rD, sE, rE, sF, rF, sG, rG, sH, rH, sI, rI⟩ ?_
        clear BB12' cA0 cA1 lA cB0 cB1 lB cC0 cC1 lC cD0 cD1 lD cE0 cE1 lE cF0 cF1 lF cG0 cG1 lG cH0 cH1 lH cI0 cI1 lI sA rA sB rB sC rC sD rD sE rE sF rF sG rG sH rH sI rI
        rintro V13 ⟨BB13, sA, rA, sB, rB, sC, rC, sD, rD, sE, rE, sF, rF, sG, rG, sH, rH, sI, rI⟩
        refine (eq_same n (nw n) A _ _ _ _ V13 (by omega) (Rd.row rG (lt_nw hG)) (Rd.row rA (lt_nw hA))).mono ?_
        rintro e w23 ⟨rfl, hbx⟩
        replace sA := keepr hbx sA
        replace rA := keepr hbx rA
        replace sB := keepr hbx sB
        replace rB := keepr hbx rB
        replace sC := keepr hbx sC
        replace rC := keepr hbx rC
        replace sD := keepr hbx sD
        replace rD := keepr hbx rD
        replace sE := keepr hbx sE
        replace rE := keepr hbx rE
        replace sF := keepr hbx sF
        replace rF := keepr hbx rF
        replace sG := keepr hbx sG
        replace rG := keepr hbx rG
        replace sH := keepr hbx sH
        replace rH := keepr hbx rH
        replace sI := keepr hbx sI
        replace rI := keepr hbx rI
        have BB13' := bl_step BB13 hbx
        clear hbx BB13
        have cA0 := sf_len sA
        have cA1 := sf_ws sA
        have lA := sA.lt
        have cB0 := sf_len sB
        have cB1 := sf_ws sB
        have lB := sB.lt
        have cC0 := sf_len sC
        have cC1 := sf_ws sC
        have lC := sC.lt
        have cD0 := sf_len sD
        have cD1 := sf_ws sD
        have lD := sD.lt
        have cE0 := sf_len sE
        have cE1 := sf_ws sE
        have lE := sE.lt
        have cF0 := sf_len sF
        have cF1 := sf_ws sF
        have lF := sF.lt
        have cG0 := sf_len sG
        have cG1 := sf_ws sG
        have lG := sG.lt
        have cH0 := sf_len sH
        have cH1 := sf_ws sH
        have lH := sH.lt
        have cI0 := sf_len sI
        have cI1 := sf_ws sI
        have lI := sI.lt
        go_wp2_with fail
        refine gen_calls (fun W' => Below w.heap.size w W' ∧ W'.rowIs w2.heap.size 27 2 (sf n (some ⟨gA, 0, none⟩) (nw n) (nw n)) ∧ W'.rowIs gA 35 (nw n) (wf A) ∧ W'.rowIs b8 27 2 (sf n (some ⟨gB, 0, none⟩) (nw n) (nw n)) ∧ W'.rowIs gB 35 (nw n) (wf Bn) ∧ W'.rowIs w10.heap.size 27 2 (sf n (some ⟨gC, 0, none⟩) (nw n) (nw n)) ∧ W'.rowIs gC 35 (nw n) (wf (A &&& Bn)) ∧ W'.rowIs w11.heap.size 27 2 (sf n (some ⟨gD, 0, none⟩) (nw n) (nw n)) ∧ W'.rowIs gD 35 (nw n) (wf (A ^^^ Bn)) ∧ W'.rowIs w12.heap.size 27 2 (sf n (some ⟨gE, 0, none⟩) (nw n) (nw n)) ∧ W'.rowIs gE 35 (nw n) (wf (nt n A)) ∧ W'.rowIs w18.heap.size 27 2 (sf n (some ⟨gF, 0, none⟩) (nw n) (nw n)) ∧ W'.rowIs gF 35 (nw n) (wf 0) ∧ W'.rowIs w19.heap.size 27 2 (sf n (some ⟨gG, 0, none⟩) (nw n) (nw n)) ∧ W'.rowIs gG 35 (nw n) (wf A) ∧ W'.rowIs w20.heap.size 27 2 (sf n (some ⟨gH, 0, none⟩) (nw n) (nw n)) ∧ W'.rowIs gH 35 (nw n) (wf 0) ∧ W'.rowIs w21.heap.size 27 2 (sf n (some ⟨gI, 0, none⟩) (nw n) (nw n)) ∧ W'.rowIs gI 35 (nw n) (wf A)) ⟨BB13', sA, rA, sB, rB, sC, rC, sD, rD, sE, rE, sF, rF, sG, rG, sH, rH, sI, rI⟩ ?_
        clear BB13' cA0 cA1 lA cB0 cB1 lB cC0 cC1 lC cD0 cD1 lD cE0 cE1 lE cF0 cF1 lF cG0 cG1 lG cH0 cH1 lH cI0 cI1 lI sA rA sB rB sC rC sD rD sE rE sF rF sG rG sH rH sI rI
        rintro V14 ⟨BB14, sA, rA, sB, rB, sC, rC, sD, rD, sE, rE, sF, rF, sG, rG, sH, rH, sI, rI⟩
        refine (lcount_any n 0 _ _ V14 h16 hH (Rd.row rH (lt_nw hH))).mono ?_
        rintro e w24 ⟨rfl, hbx⟩
        replace sA := keepr hbx sA
        replace rA := keepr hbx rA
        replace sB := keepr hbx sB
        replace rB := keepr hbx rB
        replace sC := keepr hbx sC
        replace rC := keepr hbx rC
        replace sD := keepr hbx sD
        replace rD := keepr hbx rD
        replace sE := keepr hbx sE
        replace rE := keepr hbx rE
        replace sF := keepr hbx sF
        replace rF := keepr hbx rF
        replace sG := keepr hbx sG
        replace rG := keepr hbx rG
        replace sH := keepr hbx sH
        replace rH := keepr hbx rH
        replace sI := keepr hbx sI
        replace rI := keepr hbx rI
        have BB14' := bl_step BB14 hbx
        clear hbx BB14
        have cA0 := sf_len sA
        have cA1 := sf_ws sA
        have lA := sA.lt
        have cB0 := sf_len sB
        have cB1 := sf_ws sB
        have lB := sB.lt
        have cC0 := sf_len sC
        have cC1 := sf_ws sC
        have lC := sC.lt
        have cD0 := sf_len sD
        have cD1 := sf_ws sD
        have lD := sD.lt
        have cE0 := sf_len sE
        have cE1 := sf_ws sE
        have lE := sE.lt
        have cF0 := sf_len sF
        have cF1 := sf_ws sF
        have lF := sF.lt
        have cG0 := sf_len sG
        have cG1 := sf_ws sG
        have lG := sG.lt
        have cH0 := sf_len sH
        have cH1 := sf_ws sH
        have lH := sH.lt
        have cI0 := sf_len sI
        have cI1 := sf_ws sI
        have lI := sI.lt
        rw [pc_zero]
        go_wp2_with fail
        refine gen_calls (fun W' => Below w.heap.size w W' ∧ W'.rowIs w2.heap.size 27 2 (sf n (some ⟨gA, 0, none⟩) (nw n) (nw n)) ∧ W'.rowIs gA 35 (nw n) (wf A) ∧ W'.rowIs b8 27 2 (sf n (some ⟨gB, 0, none⟩) (nw n) (nw n)) ∧ W'.rowIs gB 35 (nw n) (wf Bn) ∧ W'.rowIs w10.heap.size 27 2 (sf n (some ⟨gC, 0, none⟩) (nw n) (nw n)) ∧ W'.rowIs gC 35 (nw n) (wf (A &&& Bn)) ∧ W'.rowIs w11.heap.size 27 2 (sf n (some ⟨gD, 0, none⟩) (nw n) (nw n)) ∧ W'.rowIs gD 35 (nw n) (wf (A ^^^ Bn)) ∧ W'.rowIs w12.heap.size 27 2 (sf n (some ⟨gE, 0, none⟩) (nw n) (nw n)) ∧ W'.rowIs gE 35 (nw n) (wf (nt n A)) ∧ W'.rowIs w18.heap.size 27 2 (sf n (some ⟨gF, 0, none⟩) (nw n) (nw n)) ∧ W'.rowIs gF 35 (nw n) (wf 0) ∧ W'.rowIs w19.heap.size 27 2 (sf n (some ⟨gG, 0, none⟩) (nw n) (nw n)) ∧ W'.rowIs gG 35 (nw n) (wf A) ∧ W'.rowIs w20.heap.size 27 2 (sf n (some ⟨gH, 0, none⟩) (nw n) (nw n)) ∧ W'.rowIs gH 35 (nw n) (wf 0) ∧ W'.rowIs w21.heap.size 27 2 (sf n (some ⟨gI, 0, none⟩) (nw n) (nw n)) ∧ W'.rowIs gI 35 (nw n) (wf A)) ⟨BB14', sA, rA, sB, rB, sC, rC, sD, rD, sE, rE, sF, rF, sG, rG, sH, rH, sI, rI⟩ ?_
        clear BB14' cA0 cA1 lA cB0 cB1 lB cC0 cC1 lC cD0 cD1 lD cE0 cE1 lE cF0 cF1 lF cG0 cG1 lG cH0 cH1 lH cI0 cI1 lI sA rA sB rB sC rC sD rD sE rE sF rF sG rG sH rH sI rI
        rintro V15 ⟨BB15, sA, rA, sB, rB, sC, rC, sD, rD, sE, rE, sF, rF, sG, rG, sH, rH, sI, rI⟩
        refine (eq_same n (nw n) A _ _ _ _ V15 (by omega) (Rd.row rI (lt_nw hI)) (Rd.row rA (lt_nw hA))).mono ?_
        rintro e w25 ⟨rfl, hbx⟩
        replace sA := keepr hbx sA
        replace rA := keepr hbx rA
        replace sB := keepr hbx sB
        replace rB := keepr hbx rB
        replace sC := keepr hbx sC
        replace rC := keepr hbx rC
        replace sD := keepr hbx sD
        replace rD := keepr hbx rD
        replace sE := keepr hbx sE
        replace rE := keepr hbx rE
        replace sF := keepr hbx sF
        replace rF := keepr hbx rF
        replace sG := keepr hbx sG
        replace rG := keepr hbx rG
        replace sH := keepr hbx sH
        replace rH := keepr hbx rH
        replace sI := keepr hbx sI
        replace rI := keepr hbx rI
        have BB15' := bl_step BB15 hbx
        clear hbx BB15
        have cA0 := sf_len sA
        have cA1 := sf_ws sA
        have lA := sA.lt
        have cB0 := sf_len sB
        have cB1 := sf_ws sB
        have lB := sB.lt
        have cC0 := sf_len sC
        have cC1 := sf_ws sC
        have lC := sC.lt
        have cD0 := sf_len sD
        have cD1 := sf_ws sD
        have lD := sD.lt
        have cE0 := sf_len sE
        have cE1 := sf_ws sE
        have lE := sE.lt
        have cF0 := sf_len sF
        have cF1 := sf_ws sF
        have lF := sF.lt
        have cG0 := sf_len sG
        have cG1 := sf_ws sG
        have lG := sG.lt
        have cH0 := sf_len sH
        have cH1 := sf_ws sH
        have lH := sH.lt
        have cI0 := sf_len sI
        have cI1 := sf_ws sI
        have lI := sI.lt
        go_wp2_with fail
        go_ret
        exact ⟨rfl, BB15'⟩
end Go.Proofs.Yteghelmbibpohaa
