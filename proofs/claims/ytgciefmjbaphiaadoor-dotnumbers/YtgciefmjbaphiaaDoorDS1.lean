/- DotSums. -/
import Derived.Test.YtgciefmjbaphiaaDoorDQ4
import Derived.Test.YtgciefmjbaphiaaDoorDW11
namespace Go.Proofs.YtgciefmjbaphiaaDoor
open Go.RowKit
attribute [local go_sem ↓] Go.wp_at_zero Go.wp_at_succ

/-- The cells of a row, of a row of bits. -/
def Cr (w : World) (g o : Nat) (A B : Bt) : Prop := w.cell? ⟨g, o, none⟩ = some (.int .i64 A.n) ∧ w.cell? ⟨g, o + 1, none⟩ = some (.slice A.ao A.m A.cap) ∧ w.cell? ⟨g, o + 2, none⟩ = some (.int .i64 B.n) ∧ w.cell? ⟨g, o + 3, none⟩ = some (.slice B.ao B.m B.cap)
def Cb (w : World) (g o : Nat) (X : Bt) : Prop := w.cell? ⟨g, o, none⟩ = some (.int .i64 X.n) ∧ w.cell? ⟨g, o + 1, none⟩ = some (.slice X.ao X.m X.cap)
theorem keepM {M : Nat} {W X : World} (hb : Below M W X) {g o : Nat} {v : Value} (hg : g < M) (h : W.cell? ⟨g, o, none⟩ = some v) : X.cell? ⟨g, o, none⟩ = some v := (hb.cell (p := ⟨g, o, none⟩) hg).trans h
theorem Cr.keep {M : Nat} {W X : World} {g o : Nat} {A B : Bt} (h : Cr W g o A B) (hg : g < M) (hb : Below M W X) : Cr X g o A B := ⟨keepM hb hg h.1, keepM hb hg h.2.1, keepM hb hg h.2.2.1, keepM hb hg h.2.2.2⟩
theorem Cb.keep {M : Nat} {W X : World} {g o : Nat} {A : Bt} (h : Cb W g o A) (hg : g < M) (hb : Below M W X) : Cb X g o A := ⟨keepM hb hg h.1, keepM hb hg h.2⟩
theorem Cr.below {W X : World} {g o : Nat} {A B : Bt} (h : Cr W g o A B) (hb : Below W.heap.size W X) : Cr X g o A B := h.keep (lt_of_cell h.1) hb
theorem Cb.below {W X : World} {g o : Nat} {A : Bt} (h : Cb W g o A) (hb : Below W.heap.size W X) : Cb X g o A := h.keep (lt_of_cell h.1) hb
/-- Lists of rows, of rows of bits. -/
def Lr (w : World) (ao : Option Addr) (l : List (Bt × Bt)) : Prop := ∀ i (h : i < l.length), (∃ g o, ao = some ⟨g, o, none⟩ ∧ Cr w g (o + i * 4) l[i].1 l[i].2) ∧ Rz w l[i].1 ∧ Rz w l[i].2
def Lb (w : World) (ao : Option Addr) (l : List Bt) : Prop := ∀ i (h : i < l.length), (∃ g o, ao = some ⟨g, o, none⟩ ∧ Cb w g (o + i * 2) l[i]) ∧ Rz w l[i]
theorem kpS1 {M : Nat} {W X : World} {g o g' o' : Nat} {A B C : Bt} (h1 : Cr W g o A B) (h2 : Cb W g' o' C) (hg : g < M) (hg' : g' < M) (hb : Below M W X) :
    (X.cell? ⟨g, o, none⟩ = some (.int .i64 A.n) ∧ X.cell? ⟨g, o + 1, none⟩ = some (.slice A.ao A.m A.cap) ∧ X.cell? ⟨g, o + 2, none⟩ = some (.int .i64 B.n) ∧ X.cell? ⟨g, o + 3, none⟩ = some (.slice B.ao B.m B.cap)) ∧ X.cell? ⟨g', o', none⟩ = some (.int .i64 C.n) ∧ X.cell? ⟨g', o' + 1, none⟩ = some (.slice C.ao C.m C.cap) := ⟨h1.keep hg hb, h2.keep hg' hb⟩
theorem kpS2 {M : Nat} {W X : World} {g o g' o' : Nat} {A B C D : Bt} (h1 : Cr W g o A B) (h2 : Cr W g' o' C D) (hg : g < M) (hg' : g' < M) (hb : Below M W X) :
    (X.cell? ⟨g, o, none⟩ = some (.int .i64 A.n) ∧ X.cell? ⟨g, o + 1, none⟩ = some (.slice A.ao A.m A.cap) ∧ X.cell? ⟨g, o + 2, none⟩ = some (.int .i64 B.n) ∧ X.cell? ⟨g, o + 3, none⟩ = some (.slice B.ao B.m B.cap)) ∧ X.cell? ⟨g', o', none⟩ = some (.int .i64 C.n) ∧ X.cell? ⟨g', o' + 1, none⟩ = some (.slice C.ao C.m C.cap) ∧ X.cell? ⟨g', o' + 2, none⟩ = some (.int .i64 D.n) ∧ X.cell? ⟨g', o' + 3, none⟩ = some (.slice D.ao D.m D.cap) := ⟨h1.keep hg hb, h2.keep hg' hb⟩
theorem rm_new (w : World) : Rm (w.alloc (.cells #[.slice none 0 0, .slice none 0 0] 57)) w.heap.size [] :=
  ⟨.slice none 0 0, .slice none 0 0, World.rowIs_alloc w _ _ _ (fun i hi => by
    rcases i with _ | _ | i
    · rfl
    · rfl
    · simp at hi; omega), World.ownsRow_nil _ _ _ _, World.ownsRow_nil _ _ _ _, .inl rfl, fun e he => by cases he⟩
/-- What the walk keeps behind the making of a Room: W the world then, M its block. -/
def PS (W X : World) (M : Nat) (L : List (Bt × Value)) : Prop := Rm X M L ∧ Below M W X
theorem PS.drew {W X : World} {M : Nat} {L : List (Bt × Value)} (h : PS W X M L) : PS W X.drew M L := ⟨h.1.drew, h.2.drew⟩
set_option maxHeartbeats 6400000 in
set_option maxRecDepth 100000 in
theorem sums_any (ao : Option Addr) (l1 : List (Bt × Bt)) (c1 : Nat) (h1 : l1.length ≤ 9223372036854775807) (bo : Option Addr) (l2 : List Bt) (c2 : Nat) (h2 : l2.length ≤ 9223372036854775807) (w : World) (LD : LaidP w) (r1 : Lr w ao l1) (r2 : Lb w bo l2) :
    Calls Tryd.prog 6 #[.slice ao l1.length c1, .slice bo l2.length c2] w fun e w' => e = .returned (.bool true) ∧ Below w.heap.size w w' := by
  have R1 := hid1 r1
  have R2 := hid1 r2
  have HLD := hid1 LD
  obtain ⟨N1, e1⟩ : ∃ N, l1.length = N := ⟨_, rfl⟩
  obtain ⟨N2, e2⟩ : ∃ N, l2.length = N := ⟨_, rfl⟩
  rw [e1] at h1
  rw [e2] at h2
  rw [e1, e2]
  have E1 := hid1 e1
  have E2 := hid1 e2
  clear r1 r2 LD e1 e2
  go_enter Tryd.func6, Tryd.ntmps6
  go_wp2_with fail
  refine (dbegun_any w HLD.out).mono ?_
  rintro e w0 ⟨rfl, B0⟩
  go_wp2_with fail
  go_loopw [6] (fun i wr => ∃ k : Nat, k ≤ N1 ∧ i = .int .i64 k ∧ Below w.heap.size w wr) (fun i _ => N1 - (intOf i).toNat)
  case atStart => exact ⟨0, Nat.zero_le _, rfl, B0⟩
  case round =>
    clear B0
    obtain ⟨i, hi, rfl, B0⟩ := hrel
    by_cases hlt : i < N1
    · have hl1 : i < l1.length := by rw [E1.out]; exact hlt
      have ii : (i : Int) < (N1 : Int) := by omega
      have ii0 : (0 : Int) ≤ (i : Int) := by omega
      go_wp2_with fail
      go_loopw [7] (fun j wy => ∃ k : Nat, k ≤ N2 ∧ j = .int .i64 k ∧ Below w.heap.size w wy) (fun j _ => N2 - (intOf j).toNat)
      case atStart => exact ⟨0, Nat.zero_le _, rfl, B0⟩
      case round =>
        rename World => V
        clear B0
        obtain ⟨k, hk, rfl, B0⟩ := hrel
        by_cases hkl : k < N2
        · have hl2 : k < l2.length := by rw [E2.out]; exact hkl
          have kk : (k : Int) < (N2 : Int) := by omega
          have kk0 : (0 : Int) ≤ (k : Int) := by omega
          obtain ⟨⟨g1, o1, rfl, hcr⟩, hzA, hzB⟩ := R1.out i hl1
          obtain ⟨⟨g2, o2, rfl, hcb⟩, hzX⟩ := R2.out k hl2
          generalize l1[i] = ab at *
          generalize l2[k] = X at *
          obtain ⟨A, B⟩ := ab
          dsimp only at hcr hzA hzB
          have gl1 := lt_of_cell (hcr.below B0).1
          have gl2 := lt_of_cell (hcb.below B0).1
          have HCR := hid1 (hcr.below B0)
          have HCB := hid1 (hcb.below B0)
          have ZA := hid1 (hzA.below B0)
          have ZB := hid1 (hzB.below B0)
          have ZX := hid1 (hzX.below B0)
          clear hcr hcb hzA hzB hzX
          go_wp2_with fail
          have bel : Below V.heap.size V (V.alloc (.cells #[.slice none 0 0, .slice none 0 0] 57)) := bl_alloc (Below.refl _ _) _
          refine gen_world (fun W => PS W W V.heap.size [] ∧ Below V.heap.size V W) ⟨⟨rm_new V, Below.refl _ _⟩, bel⟩ ?_
          rintro W ⟨hP, hVW⟩
          clear bel
          obtain ⟨M, eM⟩ : ∃ M, V.heap.size = M := ⟨_, rfl⟩
          have HVW := hid1 hVW
          have HP := hid1 hP
          rw [eM] at HP gl1 gl2
          have HVM : Hid (Below M V W) := hid1 (by have := HVW.out; rw [eM] at this; exact this)
          rw [eM]
          have CR := hid1 (HCR.out.below HVW.out)
          have CB := hid1 (HCB.out.below HVW.out)
          have RZ : Hid (∀ Y, Below M W Y → Rz Y A ∧ Rz Y B ∧ Rz Y X) := fun Y hY => by
            have hb : Below V.heap.size V Y := by
              have h := HVM.out.trans hY
              rw [← eM] at h
              exact h
            exact ⟨ZA.out.below hb, ZB.out.below hb, ZX.out.below hb⟩
          have EM := hid1 eM
          clear hP hVW eM HCR HCB ZA ZB ZX
          go_region_held3 (fun Y => (Y.cell? ⟨g1, o1 + i * 4, none⟩ = some (.int .i64 A.n) ∧ Y.cell? ⟨g1, o1 + i * 4 + 1, none⟩ = some (.slice A.ao A.m A.cap) ∧ Y.cell? ⟨g1, o1 + i * 4 + 2, none⟩ = some (.int .i64 B.n) ∧ Y.cell? ⟨g1, o1 + i * 4 + 3, none⟩ = some (.slice B.ao B.m B.cap)) ∧ Y.cell? ⟨g2, o2 + k * 2, none⟩ = some (.int .i64 X.n) ∧ Y.cell? ⟨g2, o2 + k * 2 + 1, none⟩ = some (.slice X.ao X.m X.cap))
            (((try dsimp only); (with_reducible refine kpS1 (M := M) CR.out CB.out gl1 gl2 ?_); repeat (first | (with_reducible exact Below.refl _ _) | (with_reducible assumption) | (with_reducible refine Below.drew ?_))))
            (first
            | (go_at_call 11; refine gen_calls (fun X2 => PS W X2 M ([] ++ [(A, tv A h1g c1g)] ++ [(B, tv B h2g c2g)] ++ [(X, tv X h3g c3g)])) (by first | exact HP2.out | exact HP2.out.drew) ?_; intro X3 hX3; obtain ⟨za, zb', zx⟩ := RZ.out X3 hX3.2; refine (signs_any (tw A h1g) (tw B h2g) (tw X h3g) X3 (hX3.1.twin (c := c1g) (by simp) za.1) (hX3.1.twin (c := c2g) (by simp) zb'.1) (hX3.1.twin (c := c3g) (by simp) zx.1)).mono ?_; rintro e y3 ⟨rfl, hb3⟩; have by3 : Below M W y3 := hX3.2.trans (hb3.mono (by obtain ⟨_, _, hh, _⟩ := hX3.1; have := hh.lt; omega)); have HP3 := hid1 (show PS W y3 M _ from ⟨hX3.1.below hb3, by3⟩); clear hb3 hX3)
            | (go_at_call 23; refine gen_calls (fun X2 => PS W X2 M ([] ++ [(A, tv A h1g c1g)] ++ [(B, tv B h2g c2g)])) (by first | exact HP1.out | exact HP1.out.drew) ?_; intro X2 hX2; refine (room_bits X M _ X2 (by simp) hX2.1 (RZ.out X2 hX2.2).2.2).mono ?_; rintro e y2 ⟨h3g, c3g, rfl, hrm2, hbm2, _⟩; have by2 : Below M W y2 := hX2.2.trans hbm2; have HP2 := hid1 (show PS W y2 M _ from ⟨hrm2, by2⟩); clear hrm2 hbm2 hX2)
            | (go_at_call 22; refine gen_calls (fun X1 => PS W X1 M []) (by first | exact HP.out | exact HP.out.drew) ?_; intro X1 hX1; refine (room_row A B M [] X1 (by simp) hX1.1 (fun Y hY => (RZ.out Y (hX1.2.trans hY)).1) (fun Y hY => (RZ.out Y (hX1.2.trans hY)).2.1)).mono ?_; rintro e y1 ⟨h1g, c1g, h2g, c2g, rfl, hrm1, hbm1, _⟩; have by1 : Below M W y1 := hX1.2.trans hbm1; have HP1 := hid1 (show PS W y1 M _ from ⟨hrm1, by1⟩); clear hrm1 hbm1 hX1))
          go_wp2_with fail
          go_region_held3 (fun Y => (Y.cell? ⟨g1, o1 + i * 4, none⟩ = some (.int .i64 A.n) ∧ Y.cell? ⟨g1, o1 + i * 4 + 1, none⟩ = some (.slice A.ao A.m A.cap) ∧ Y.cell? ⟨g1, o1 + i * 4 + 2, none⟩ = some (.int .i64 B.n) ∧ Y.cell? ⟨g1, o1 + i * 4 + 3, none⟩ = some (.slice B.ao B.m B.cap)) ∧ Y.cell? ⟨g2, o2 + k * 2, none⟩ = some (.int .i64 X.n) ∧ Y.cell? ⟨g2, o2 + k * 2 + 1, none⟩ = some (.slice X.ao X.m X.cap))
            (((try dsimp only); (with_reducible refine kpS1 (M := M) CR.out CB.out gl1 gl2 ?_); repeat (first | (with_reducible exact Below.refl _ _) | (with_reducible assumption) | (with_reducible refine Below.drew ?_))))
            ((go_at_call 24; refine gen_calls (fun X2 => PS W X2 M ([] ++ [(A, tv A h1g c1g)] ++ [(B, tv B h2g c2g)] ++ [(X, tv X h3g c3g)])) (by first | exact HP3.out | exact HP3.out.drew) ?_; intro X4 hX4; obtain ⟨za, zb', zx⟩ := RZ.out X4 hX4.2; refine (rsigns_any A B X X4 za.1 zb'.1 zx.1).mono ?_; rintro e y4 ⟨rfl, hb4⟩; have by4 : Below M W y4 := hX4.2.trans (hb4.mono (by obtain ⟨_, _, hh, _⟩ := hX4.1; have := hh.lt; omega)); have HP4 := hid1 (show PS W y4 M _ from ⟨hX4.1.below hb4, by4⟩); clear hb4 hX4))
          rw [show sgV (tw A h1g) (tw B h2g) (tw X h3g) = sgV A B X from rfl, show sgE (tw A h1g) (tw B h2g) (tw X h3g) = sgE A B X from rfl]
          generalize sgV A B X = va at *
          generalize sgE A B X = ve at *
          clear HP HP1 HP2 HP3 by1 by2 by3
          go_wp2_with fail
          refine (kept_any y4 M ([] ++ [(A, tv A h1g c1g)] ++ [(B, tv B h2g c2g)] ++ [(X, tv X h3g c3g)]) (by simp) HP4.out.1 (fun e he => by
            obtain ⟨za, zb', zx⟩ := RZ.out y4 by4
            simp at he
            rcases he with rfl | rfl | rfl
            · exact za
            · exact zb'
            · exact zx)).mono ?_
          rintro e y5 ⟨rfl, hb5⟩
          have hV5 : Below V.heap.size V y5 := by
            have h := HVM.out.trans (by4.trans (hb5.mono (by obtain ⟨_, _, hh, _⟩ := HP4.out.1; have := hh.lt; omega)))
            rw [← EM.out] at h
            exact h
          have BF := hid1 (bl_step B0 hV5)
          clear HP4 RZ CR CB by4 hb5 hV5 HVM HVW B0 gl1 gl2
          go_wp2_with fail
          exact ⟨⟨k + 1, by omega, by go_num, BF.out⟩, by simp [intOf]; omega⟩
        · have hkN : k = N2 := by omega
          subst hkN
          go_wp2_with fail
          go_loopw [13] (fun j wy => ∃ q : Nat, q ≤ N1 ∧ j = .int .i64 q ∧ Below w.heap.size w wy) (fun j _ => N1 - (intOf j).toNat)
          case atStart => exact ⟨0, Nat.zero_le _, rfl, B0⟩
          case round =>
            rename World => V
            clear B0
            obtain ⟨q, hq, rfl, B0⟩ := hrel
            by_cases hql : q < N1
            · have hl2 : q < l1.length := by rw [E1.out]; exact hql
              have kk : (q : Int) < (N1 : Int) := by omega
              have kk0 : (0 : Int) ≤ (q : Int) := by omega
              obtain ⟨⟨g1, o1, rfl, hcr⟩, hzA, hzB⟩ := R1.out i hl1
              obtain ⟨⟨g2, o2, e2, hcb⟩, hzC, hzD⟩ := R1.out q hl2
              cases e2
              generalize l1[i] = ab at *
              generalize l1[q] = cd at *
              obtain ⟨A, B⟩ := ab
              obtain ⟨C, D⟩ := cd
              dsimp only at hcr hzA hzB hcb hzC hzD
              have gl1 := lt_of_cell (hcr.below B0).1
              have HCR := hid1 (hcr.below B0)
              have HCB := hid1 (hcb.below B0)
              have ZA := hid1 (hzA.below B0)
              have ZB := hid1 (hzB.below B0)
              have ZC := hid1 (hzC.below B0)
              have ZD := hid1 (hzD.below B0)
              clear hcr hcb hzA hzB hzC hzD
              go_wp2_with fail
              have bel : Below V.heap.size V (V.alloc (.cells #[.slice none 0 0, .slice none 0 0] 57)) := bl_alloc (Below.refl _ _) _
              refine gen_world (fun W => PS W W V.heap.size [] ∧ Below V.heap.size V W) ⟨⟨rm_new V, Below.refl _ _⟩, bel⟩ ?_
              rintro W ⟨hP, hVW⟩
              clear bel
              obtain ⟨M, eM⟩ : ∃ M, V.heap.size = M := ⟨_, rfl⟩
              have HVW := hid1 hVW
              have HP := hid1 hP
              rw [eM] at HP gl1
              have HVM : Hid (Below M V W) := hid1 (by have := HVW.out; rw [eM] at this; exact this)
              rw [eM]
              have CR := hid1 (HCR.out.below HVW.out)
              have CB := hid1 (HCB.out.below HVW.out)
              have RZ : Hid (∀ Y, Below M W Y → Rz Y A ∧ Rz Y B ∧ Rz Y C ∧ Rz Y D) := fun Y hY => by
                have hb : Below V.heap.size V Y := by
                  have h := HVM.out.trans hY
                  rw [← eM] at h
                  exact h
                exact ⟨ZA.out.below hb, ZB.out.below hb, ZC.out.below hb, ZD.out.below hb⟩
              have EM := hid1 eM
              clear hP hVW eM HCR HCB ZA ZB ZC ZD
              go_region_held3 (fun Y => (Y.cell? ⟨g1, o1 + i * 4, none⟩ = some (.int .i64 A.n) ∧ Y.cell? ⟨g1, o1 + i * 4 + 1, none⟩ = some (.slice A.ao A.m A.cap) ∧ Y.cell? ⟨g1, o1 + i * 4 + 2, none⟩ = some (.int .i64 B.n) ∧ Y.cell? ⟨g1, o1 + i * 4 + 3, none⟩ = some (.slice B.ao B.m B.cap)) ∧ Y.cell? ⟨g1, o1 + q * 4, none⟩ = some (.int .i64 C.n) ∧ Y.cell? ⟨g1, o1 + q * 4 + 1, none⟩ = some (.slice C.ao C.m C.cap) ∧ Y.cell? ⟨g1, o1 + q * 4 + 2, none⟩ = some (.int .i64 D.n) ∧ Y.cell? ⟨g1, o1 + q * 4 + 3, none⟩ = some (.slice D.ao D.m D.cap))
                (((try dsimp only); (with_reducible refine kpS2 (M := M) CR.out CB.out gl1 gl1 ?_); repeat (first | (with_reducible exact Below.refl _ _) | (with_reducible assumption) | (with_reducible refine Below.drew ?_))))
                (first
                | (go_at_call 12; refine gen_calls (fun X2 => PS W X2 M ([] ++ [(A, tv A h1g c1g)] ++ [(B, tv B h2g c2g)] ++ [(C, tv C h3g c3g)] ++ [(D, tv D h4g c4g)])) (by first | exact HP2.out | exact HP2.out.drew) ?_; intro X3 hX3; obtain ⟨za, zb', zc, zd⟩ := RZ.out X3 hX3.2; refine (some_any (tw A h1g) (tw B h2g) (tw C h3g) (tw D h4g) X3 (hX3.1.twin (c := c1g) (by simp) za.1) (hX3.1.twin (c := c2g) (by simp) zb'.1) (hX3.1.twin (c := c3g) (by simp) zc.1) (hX3.1.twin (c := c4g) (by simp) zd.1)).mono ?_; rintro e y3 ⟨rfl, hb3⟩; have by3 : Below M W y3 := hX3.2.trans (hb3.mono (by obtain ⟨_, _, hh, _⟩ := hX3.1; have := hh.lt; omega)); have HP3 := hid1 (show PS W y3 M _ from ⟨hX3.1.below hb3, by3⟩); clear hb3 hX3)
                | (go_at_call 22; have tst := HP1; refine gen_calls (fun X2 => PS W X2 M ([] ++ [(A, tv A h1g c1g)] ++ [(B, tv B h2g c2g)])) (by first | exact HP1.out | exact HP1.out.drew) ?_; intro X2 hX2; refine (room_row C D M ([] ++ [(A, tv A h1g c1g)] ++ [(B, tv B h2g c2g)]) X2 (by simp) hX2.1 (fun Y hY => (RZ.out Y (hX2.2.trans hY)).2.2.1) (fun Y hY => (RZ.out Y (hX2.2.trans hY)).2.2.2)).mono ?_; rintro e y2 ⟨h3g, c3g, h4g, c4g, rfl, hrm2, hbm2, _⟩; have by2 : Below M W y2 := hX2.2.trans hbm2; have HP2 := hid1 (show PS W y2 M _ from ⟨hrm2, by2⟩); clear hrm2 hbm2 hX2)
                | (go_at_call 22; refine gen_calls (fun X1 => PS W X1 M []) (by first | exact HP.out | exact HP.out.drew) ?_; intro X1 hX1; refine (room_row A B M [] X1 (by simp) hX1.1 (fun Y hY => (RZ.out Y (hX1.2.trans hY)).1) (fun Y hY => (RZ.out Y (hX1.2.trans hY)).2.1)).mono ?_; rintro e y1 ⟨h1g, c1g, h2g, c2g, rfl, hrm1, hbm1, _⟩; have by1 : Below M W y1 := hX1.2.trans hbm1; have HP1 := hid1 (show PS W y1 M _ from ⟨hrm1, by1⟩); clear hrm1 hbm1 hX1))
              go_wp2_with fail
              go_region_held3 (fun Y => (Y.cell? ⟨g1, o1 + i * 4, none⟩ = some (.int .i64 A.n) ∧ Y.cell? ⟨g1, o1 + i * 4 + 1, none⟩ = some (.slice A.ao A.m A.cap) ∧ Y.cell? ⟨g1, o1 + i * 4 + 2, none⟩ = some (.int .i64 B.n) ∧ Y.cell? ⟨g1, o1 + i * 4 + 3, none⟩ = some (.slice B.ao B.m B.cap)) ∧ Y.cell? ⟨g1, o1 + q * 4, none⟩ = some (.int .i64 C.n) ∧ Y.cell? ⟨g1, o1 + q * 4 + 1, none⟩ = some (.slice C.ao C.m C.cap) ∧ Y.cell? ⟨g1, o1 + q * 4 + 2, none⟩ = some (.int .i64 D.n) ∧ Y.cell? ⟨g1, o1 + q * 4 + 3, none⟩ = some (.slice D.ao D.m D.cap))
                (((try dsimp only); (with_reducible refine kpS2 (M := M) CR.out CB.out gl1 gl1 ?_); repeat (first | (with_reducible exact Below.refl _ _) | (with_reducible assumption) | (with_reducible refine Below.drew ?_))))
                ((go_at_call 26; refine gen_calls (fun X2 => PS W X2 M ([] ++ [(A, tv A h1g c1g)] ++ [(B, tv B h2g c2g)] ++ [(C, tv C h3g c3g)] ++ [(D, tv D h4g c4g)])) (by first | exact HP3.out | exact HP3.out.drew) ?_; intro X4 hX4; obtain ⟨za, zb', zc, zd⟩ := RZ.out X4 hX4.2; refine (rsome_any A B C D X4 za.1 zb'.1 zc.1 zd.1).mono ?_; rintro e y4 ⟨rfl, hb4⟩; have by4 : Below M W y4 := hX4.2.trans (hb4.mono (by obtain ⟨_, _, hh, _⟩ := hX4.1; have := hh.lt; omega)); have HP4 := hid1 (show PS W y4 M _ from ⟨hX4.1.below hb4, by4⟩); clear hb4 hX4))
              rw [show soV (tw A h1g) (tw B h2g) (tw C h3g) (tw D h4g) = soV A B C D from rfl, show soE (tw A h1g) (tw B h2g) (tw C h3g) (tw D h4g) = soE A B C D from rfl]
              generalize soV A B C D = va at *
              generalize soE A B C D = ve at *
              clear HP HP1 HP2 HP3 by1 by2 by3
              go_wp2_with fail
              refine (kept_any y4 M ([] ++ [(A, tv A h1g c1g)] ++ [(B, tv B h2g c2g)] ++ [(C, tv C h3g c3g)] ++ [(D, tv D h4g c4g)]) (by simp) HP4.out.1 (fun e he => by
                obtain ⟨za, zb', zc, zd⟩ := RZ.out y4 by4
                simp at he
                rcases he with rfl | rfl | rfl | rfl
                · exact za
                · exact zb'
                · exact zc
                · exact zd)).mono ?_
              rintro e y5 ⟨rfl, hb5⟩
              have hV5 : Below V.heap.size V y5 := by
                have h := HVM.out.trans (by4.trans (hb5.mono (by obtain ⟨_, _, hh, _⟩ := HP4.out.1; have := hh.lt; omega)))
                rw [← EM.out] at h
                exact h
              have BF := hid1 (bl_step B0 hV5)
              clear HP4 RZ CR CB by4 hb5 hV5 HVM HVW B0 gl1
              go_wp2_with fail
              exact ⟨⟨q + 1, by omega, by go_num, BF.out⟩, by simp [intOf]; omega⟩
            · have hqN : q = N1 := by omega
              subst hqN
              go_wp2_with fail
              exact ⟨⟨i + 1, by omega, by go_num, B0⟩, by simp [intOf]; omega⟩
    · have hkN : i = N1 := by omega
      subst hkN
      go_wp2_with fail
      go_ret
      exact ⟨rfl, B0⟩
end Go.Proofs.YtgciefmjbaphiaaDoor
