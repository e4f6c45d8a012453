/- PACKAGE gemm: four. -/
import Derived.Test.YtakoicolffkbmaaGW4
import Derived.BigQuiet
import Derived.Deep.DeepCutAuto
namespace Go.Proofs.Ytakoicolffkbmaa
open Go.RowKit

abbrev bxo (c : Bt × Bt) : Obj := .cells #[.int .i64 c.1.n, .slice c.1.ao c.1.m c.1.cap, .int .i64 c.2.n, .slice c.2.ao c.2.m c.2.cap] 28
theorem al4_0 (w : World) (a b c d : Bt × Bt) : ((((w.alloc (bxo a)).alloc (bxo b)).alloc (bxo c)).alloc (bxo d)).rowIs w.heap.size 28 4 (qf a.1 a.2) := (((q_new w a.1 a.2 _).alloc _).alloc _).alloc _
theorem al4_1 (w : World) (a b c d : Bt × Bt) : ((((w.alloc (bxo a)).alloc (bxo b)).alloc (bxo c)).alloc (bxo d)).rowIs (w.heap.size + 1) 28 4 (qf b.1 b.2) := by
  have h := q_new (w.alloc (bxo a)) b.1 b.2 28
  rw [show (w.alloc (bxo a)).heap.size = w.heap.size + 1 by simp] at h
  exact (h.alloc _).alloc _
theorem al4_2 (w : World) (a b c d : Bt × Bt) : ((((w.alloc (bxo a)).alloc (bxo b)).alloc (bxo c)).alloc (bxo d)).rowIs (w.heap.size + 1 + 1) 28 4 (qf c.1 c.2) := by
  have h := q_new ((w.alloc (bxo a)).alloc (bxo b)) c.1 c.2 28
  rw [show ((w.alloc (bxo a)).alloc (bxo b)).heap.size = w.heap.size + 1 + 1 by simp] at h
  exact h.alloc _
theorem al4_3 (w : World) (a b c d : Bt × Bt) : ((((w.alloc (bxo a)).alloc (bxo b)).alloc (bxo c)).alloc (bxo d)).rowIs (w.heap.size + 1 + 1 + 1) 28 4 (qf d.1 d.2) := by
  have h := q_new (((w.alloc (bxo a)).alloc (bxo b)).alloc (bxo c)) d.1 d.2 28
  rw [show (((w.alloc (bxo a)).alloc (bxo b)).alloc (bxo c)).heap.size = w.heap.size + 1 + 1 + 1 by simp] at h
  exact h
theorem al4_b (w : World) (a b c d : Bt × Bt) : Below w.heap.size w ((((w.alloc (bxo a)).alloc (bxo b)).alloc (bxo c)).alloc (bxo d)) := bl_alloc (bl_alloc (bl_alloc (bl_alloc (Below.refl _ _) _) _) _) _
theorem kpF {W X : World} {g o : Nat} {c : Nat → Bt × Bt} (h : ∀ k, k < 4 → Cq W g (o + k * 4) (c k).1 (c k).2) (hb : Below W.heap.size W X) :
    (X.cell? ⟨g, o, none⟩ = some (.int .i64 (c 0).1.n) ∧ X.cell? ⟨g, o + 1, none⟩ = some (.slice (c 0).1.ao (c 0).1.m (c 0).1.cap) ∧ X.cell? ⟨g, o + 2, none⟩ = some (.int .i64 (c 0).2.n) ∧ X.cell? ⟨g, o + 3, none⟩ = some (.slice (c 0).2.ao (c 0).2.m (c 0).2.cap)) ∧
    (X.cell? ⟨g, o + 4, none⟩ = some (.int .i64 (c 1).1.n) ∧ X.cell? ⟨g, o + 4 + 1, none⟩ = some (.slice (c 1).1.ao (c 1).1.m (c 1).1.cap) ∧ X.cell? ⟨g, o + 4 + 2, none⟩ = some (.int .i64 (c 1).2.n) ∧ X.cell? ⟨g, o + 4 + 3, none⟩ = some (.slice (c 1).2.ao (c 1).2.m (c 1).2.cap)) ∧
    (X.cell? ⟨g, o + 8, none⟩ = some (.int .i64 (c 2).1.n) ∧ X.cell? ⟨g, o + 8 + 1, none⟩ = some (.slice (c 2).1.ao (c 2).1.m (c 2).1.cap) ∧ X.cell? ⟨g, o + 8 + 2, none⟩ = some (.int .i64 (c 2).2.n) ∧ X.cell? ⟨g, o + 8 + 3, none⟩ = some (.slice (c 2).2.ao (c 2).2.m (c 2).2.cap)) ∧
    X.cell? ⟨g, o + 12, none⟩ = some (.int .i64 (c 3).1.n) ∧ X.cell? ⟨g, o + 12 + 1, none⟩ = some (.slice (c 3).1.ao (c 3).1.m (c 3).1.cap) ∧ X.cell? ⟨g, o + 12 + 2, none⟩ = some (.int .i64 (c 3).2.n) ∧ X.cell? ⟨g, o + 12 + 3, none⟩ = some (.slice (c 3).2.ao (c 3).2.m (c 3).2.cap) :=
  ⟨(h 0 (by omega)).below hb, (h 1 (by omega)).below hb, (h 2 (by omega)).below hb, (h 3 (by omega)).below hb⟩
theorem meet_of {J K : Act → World → Prop} {Q : Exit → Act → World → Prop} {a : Act} {w : World} (hK : ∀ a' w', Met J a' w' → K a' w') (h : Met J a w) : Exit.then K Q Exit.normal a w := hK _ _ h
/-- The five boxes. -/
structure Fv (w wr : World) (rb p8 p9 p10 p11 : Nat) (A B : Bt) (c0 c1 c2 c3 : Bt × Bt) : Prop where
  r : wr.rowIs rb 28 4 (qf A B)
  d8 : wr.rowIs p8 28 4 (qf c0.1 c0.2)
  d9 : wr.rowIs p9 28 4 (qf c1.1 c1.2)
  d10 : wr.rowIs p10 28 4 (qf c2.1 c2.2)
  d11 : wr.rowIs p11 28 4 (qf c3.1 c3.2)
  b : Below w.heap.size w wr
theorem Fv.drewN {w wr : World} {rb p8 p9 p10 p11 : Nat} {A B : Bt} {c0 c1 c2 c3 : Bt × Bt} (h : Fv w wr rb p8 p9 p10 p11 A B c0 c1 c2 c3) (n : Nat) : Fv w (wr.drewN n) rb p8 p9 p10 p11 A B c0 c1 c2 c3 :=
  ⟨row_drewN h.r n, row_drewN h.d8 n, row_drewN h.d9 n, row_drewN h.d10 n, row_drewN h.d11 n, bl_drewN h.b n⟩
/-- A column's word: its two cells in its box, its two words in memory. -/
theorem Fv.word {w wr : World} {c : Bt × Bt} {p L k : Nat} (hb : Below w.heap.size w wr) (h : (Rw w c.1 ∧ Rw w c.2) ∧ c.1.m = L ∧ c.2.m = L) (hd : wr.rowIs p 28 4 (qf c.1 c.2)) (hk : k < L) :
    ∃ g o x g' o' x', wr.cell? ⟨p, 1, none⟩ = some (.slice (some ⟨g, o, none⟩) L x) ∧ wr.cell? ⟨p, 3, none⟩ = some (.slice (some ⟨g', o', none⟩) L x') ∧ wr.cell? ⟨g, o + k, none⟩ = some (.int .u64 (wd c.1.N k)) ∧ wr.cell? ⟨g', o' + k, none⟩ = some (.int .u64 (wd c.2.N k)) := by
  obtain ⟨⟨h1, h2⟩, e1, e2⟩ := h
  obtain ⟨g, o, ea, d⟩ := (h1.below hb).2.2 k (by omega)
  obtain ⟨g', o', ea', d'⟩ := (h2.below hb).2.2 k (by omega)
  have c1 := q1 hd
  have c3 := q3 hd
  rw [ea, e1] at c1
  rw [ea', e2] at c3
  exact ⟨g, o, _, g', o', _, c1, c3, d, d'⟩
set_option maxHeartbeats 1600000 in
set_option maxRecDepth 100000 in
theorem four_any (A B : Bt) (c : Nat → Bt × Bt) (L g o cs g2 o2 cc W : Nat) (f : Nat → Int) (w : World) (hA : Rw w A) (hB : Rw w B) (hC : ∀ k, k < 4 → Rw w (c k).1 ∧ Rw w (c k).2) (hc : ∀ k, k < 4 → Cq w g2 (o2 + k * 4) (c k).1 (c k).2) (ea : A.m = L) (eb : B.m = L) (ec : ∀ k, k < 4 → (c k).1.m = L ∧ (c k).2.m = L) (hL : L ≤ 262144)
    (hr : w.rowIs g 2 W (fun j => .int .i64 (f j))) (ho : o + 4 ≤ W) :
    Calls Try.prog 45 #[.slice (some ⟨g, o, none⟩) 4 cs, rwv A B, .slice (some ⟨g2, o2, none⟩) 4 cc, kfn] w fun e w' => e = .returned (.tuple #[]) ∧ w'.rowIs g 2 W (fun j => .int .i64 (if o ≤ j ∧ j < o + 4 then sq A B (c (j - o)).1 (c (j - o)).2 L else f j)) ∧ But g w w' := by
  have HA := hid1 hA
  have HB := hid1 hB
  have HC := hid1 hC
  have Hc := hid1 hc
  have HR := hid1 hr
  have EC := hid1 ec
  have EA := hid1 ea
  have EB := hid1 eb
  clear hA hB hC hc hr ec ea eb
  go_enter Try.func45, Try.ntmps45
  go_upto_region 1 with fail
  refine gen_anyg (fun X => Below w.heap.size w X ∧ X.rowIs w.heap.size 28 4 (qf A B)) ⟨bl_alloc (Below.refl _ _) _, q_new w A B _⟩ ?_
  rintro X ⟨B1, r1⟩
  have HKX : Hid (∀ Y, Below X.heap.size X Y → _) := fun Y hY => kpF (W := X) (g := g2) (o := o2) (c := c) (fun k hk => (Hc.out k hk).below B1) hY
  have R1 := hid1 r1
  have B1h := hid1 B1
  clear r1 B1
  generalize hc0 : c 0 = c0 at *
  generalize hc1 : c 1 = c1 at *
  generalize hc2 : c 2 = c2 at *
  generalize hc3 : c 3 = c3 at *
  go_cut [8, 9, 10, 11] (fun s8 s9 s10 s11 wx => ∃ p8 p9 p10 p11, s8 = .pointer (some ⟨p8, 0, none⟩) ∧ s9 = .pointer (some ⟨p9, 0, none⟩) ∧ s10 = .pointer (some ⟨p10, 0, none⟩) ∧ s11 = .pointer (some ⟨p11, 0, none⟩) ∧ wx.rowIs p8 28 4 (qf c0.1 c0.2) ∧ wx.rowIs p9 28 4 (qf c1.1 c1.2) ∧ wx.rowIs p10 28 4 (qf c2.1 c2.2) ∧ wx.rowIs p11 28 4 (qf c3.1 c3.2) ∧ Below X.heap.size X wx)
  case first =>
    go_region_held3 (fun X => (X.cell? ⟨g2, o2, none⟩ = some (.int .i64 c0.1.n) ∧ X.cell? ⟨g2, o2 + 1, none⟩ = some (.slice c0.1.ao c0.1.m c0.1.cap) ∧ X.cell? ⟨g2, o2 + 2, none⟩ = some (.int .i64 c0.2.n) ∧ X.cell? ⟨g2, o2 + 3, none⟩ = some (.slice c0.2.ao c0.2.m c0.2.cap)) ∧
    (X.cell? ⟨g2, o2 + 4, none⟩ = some (.int .i64 c1.1.n) ∧ X.cell? ⟨g2, o2 + 4 + 1, none⟩ = some (.slice c1.1.ao c1.1.m c1.1.cap) ∧ X.cell? ⟨g2, o2 + 4 + 2, none⟩ = some (.int .i64 c1.2.n) ∧ X.cell? ⟨g2, o2 + 4 + 3, none⟩ = some (.slice c1.2.ao c1.2.m c1.2.cap)) ∧
    (X.cell? ⟨g2, o2 + 8, none⟩ = some (.int .i64 c2.1.n) ∧ X.cell? ⟨g2, o2 + 8 + 1, none⟩ = some (.slice c2.1.ao c2.1.m c2.1.cap) ∧ X.cell? ⟨g2, o2 + 8 + 2, none⟩ = some (.int .i64 c2.2.n) ∧ X.cell? ⟨g2, o2 + 8 + 3, none⟩ = some (.slice c2.2.ao c2.2.m c2.2.cap)) ∧
    X.cell? ⟨g2, o2 + 12, none⟩ = some (.int .i64 c3.1.n) ∧ X.cell? ⟨g2, o2 + 12 + 1, none⟩ = some (.slice c3.1.ao c3.1.m c3.1.cap) ∧ X.cell? ⟨g2, o2 + 12 + 2, none⟩ = some (.int .i64 c3.2.n) ∧ X.cell? ⟨g2, o2 + 12 + 3, none⟩ = some (.slice c3.2.ao c3.2.m c3.2.cap))
      (((try dsimp only); (refine HKX.out _ ?_); (repeat (first | (with_reducible exact Below.refl _ _) | (with_reducible assumption) | (with_reducible refine Below.drew ?_) | (with_reducible refine bl_alloc ?_ _) | (with_reducible refine bl_set ?_ (by simp) _))); done)) (fail)
    all_goals
      refine meet_of (by assumption) ?_
      go_meet
      refine ⟨_, _, _, _, rfl, rfl, rfl, rfl, ?_, ?_, ?_, ?_, ?_⟩
      iterate 4 (refine World.rowIs.drew ?_; first | (with_reducible exact al4_0 _ _ _ _ _) | (with_reducible exact al4_1 _ _ _ _ _) | (with_reducible exact al4_2 _ _ _ _ _) | (with_reducible exact al4_3 _ _ _ _ _))
      exact (al4_b _ _ _ _ _).drew
  case rest =>
    obtain ⟨p8, p9, p10, p11, rfl, rfl, rfl, rfl, d8, d9, d10, d11, BW⟩ := hcut
    have rA := keepr BW R1.out
    have BY := bl_step B1h.out BW
    have D8 := hid1 d8
    have D9 := hid1 d9
    have D10 := hid1 d10
    have D11 := hid1 d11
    have a3 := q3 rA
    have RA := hid1 rA
    obtain ⟨hC0, hC0'⟩ := HC.out 0 (by omega)
    obtain ⟨hC1, hC1'⟩ := HC.out 1 (by omega)
    obtain ⟨hC2, hC2'⟩ := HC.out 2 (by omega)
    obtain ⟨hC3, hC3'⟩ := HC.out 3 (by omega)
    obtain ⟨e0, e0'⟩ := EC.out 0 (by omega)
    obtain ⟨e1, e1'⟩ := EC.out 1 (by omega)
    obtain ⟨e2, e2'⟩ := EC.out 2 (by omega)
    obtain ⟨e3, e3'⟩ := EC.out 3 (by omega)
    rw [hc0] at hC0 hC0' e0 e0'
    rw [hc1] at hC1 hC1' e1 e1'
    rw [hc2] at hC2 hC2' e2 e2'
    rw [hc3] at hC3 hC3' e3 e3'
    have HC0 := hid1 (And.intro (And.intro hC0 hC0') (And.intro e0 e0'))
    have HC1 := hid1 (And.intro (And.intro hC1 hC1') (And.intro e1 e1'))
    have HC2 := hid1 (And.intro (And.intro hC2 hC2') (And.intro e2 e2'))
    have HC3 := hid1 (And.intro (And.intro hC3 hC3') (And.intro e3 e3'))
    clear hC0 hC0' e0 e0' hC1 hC1' e1 e1' hC2 hC2' e2 e2' hC3 hC3' e3 e3' HKX B1h BW R1 d8 d9 d10 d11 rA
    have HCC := hid1 (And.intro (And.intro hc0 hc1) (And.intro hc2 hc3))
    clear hc0 hc1 hc2 hc3
    have BYh := hid1 BY
    obtain ⟨rb, erb⟩ : ∃ rb, w.heap.size = rb := ⟨_, rfl⟩
    have ERB := hid1 erb
    rw [erb] at RA a3
    rw [erb]
    rw [EB.out] at a3
    clear BY erb
    have HS0 := hid1 (sq_word A B c0.1 c0.2)
    have HV0 := hid1 (sq_bd A B c0.1 c0.2)
    have HZ0 := hid1 (sq_zero A B c0.1 c0.2)
    obtain ⟨F0, hF0⟩ : ∃ F, sq A B c0.1 c0.2 = F := ⟨_, rfl⟩
    rw [hF0] at HS0 HV0 HZ0
    have HF0 := hid1 hF0
    clear hF0
    have HS1 := hid1 (sq_word A B c1.1 c1.2)
    have HV1 := hid1 (sq_bd A B c1.1 c1.2)
    have HZ1 := hid1 (sq_zero A B c1.1 c1.2)
    obtain ⟨F1, hF1⟩ : ∃ F, sq A B c1.1 c1.2 = F := ⟨_, rfl⟩
    rw [hF1] at HS1 HV1 HZ1
    have HF1 := hid1 hF1
    clear hF1
    have HS2 := hid1 (sq_word A B c2.1 c2.2)
    have HV2 := hid1 (sq_bd A B c2.1 c2.2)
    have HZ2 := hid1 (sq_zero A B c2.1 c2.2)
    obtain ⟨F2, hF2⟩ : ∃ F, sq A B c2.1 c2.2 = F := ⟨_, rfl⟩
    rw [hF2] at HS2 HV2 HZ2
    have HF2 := hid1 hF2
    clear hF2
    have HS3 := hid1 (sq_word A B c3.1 c3.2)
    have HV3 := hid1 (sq_bd A B c3.1 c3.2)
    have HZ3 := hid1 (sq_zero A B c3.1 c3.2)
    obtain ⟨F3, hF3⟩ : ∃ F, sq A B c3.1 c3.2 = F := ⟨_, rfl⟩
    rw [hF3] at HS3 HV3 HZ3
    have HF3 := hid1 hF3
    clear hF3
    obtain ⟨an, aa, am, ac, AN⟩ := A
    obtain ⟨bn, ba, bm, bc, BN⟩ := B
    have ea : am = L := EA.out
    have eb : bm = L := EB.out
    subst ea eb
    have hFv : Hid (Fv w wc rb p8 p9 p10 p11 ⟨an, aa, bm, ac, AN⟩ ⟨bn, ba, bm, bc, BN⟩ c0 c1 c2 c3) := ⟨RA.out, D8.out, D9.out, D10.out, D11.out, BYh.out⟩
    clear RA D8 D9 D10 D11 BYh HC EC Hc
    go_wp2_with fail
    go_loopw [12, 13, 14, 15, 35] (fun s0 s1 s2 s3 x wr => ∃ k : Nat, k ≤ bm ∧ x = .int .i64 k ∧ s0 = .int .i64 (F0 k) ∧ s1 = .int .i64 (F1 k) ∧ s2 = .int .i64 (F2 k) ∧ s3 = .int .i64 (F3 k) ∧ Fv w wr rb p8 p9 p10 p11 ⟨an, aa, bm, ac, AN⟩ ⟨bn, ba, bm, bc, BN⟩ c0 c1 c2 c3) (fun _ _ _ _ x _ => bm - (intOf x).toNat)
    case atStart => exact ⟨0, Nat.zero_le _, rfl, by rw [HZ0.out], by rw [HZ1.out], by rw [HZ2.out], by rw [HZ3.out], hFv.out⟩
    case round =>
      clear hFv a3
      obtain ⟨k, hk, rfl, rfl, rfl, rfl, rfl, hfv⟩ := hrel
      have HFV := hid1 hfv
      clear hfv HZ0 HZ1 HZ2 HZ3
      by_cases hlt : k < bm
      · have ik : (k : Int) < (bm : Int) := by omega
        have ik0 : (0 : Int) ≤ (k : Int) := by omega
        have B0 := HFV.out.b
        obtain ⟨g1, o1, rfl, dA⟩ := (HA.out.below B0).2.2 k hlt
        obtain ⟨g3, o3, rfl, dB⟩ := (HB.out.below B0).2.2 k hlt
        unfold wf at dA dB
        dsimp only at dA dB
        have aA := q1 HFV.out.r
        have aB := q3 HFV.out.r
        obtain ⟨ga0, oa0, xa0, gb0, ob0, xb0, ca0, cb0, da0, db0⟩ := Fv.word B0 HC0.out HFV.out.d8 hlt
        have HT0 := hid1 (gtally_any (wd AN k) (wd BN k) (wd c0.1.N k) (wd c0.2.N k) (wd_lt _ _) (wd_lt _ _) (wd_lt _ _) (wd_lt _ _))
        have HW0 := hid1 (HS0.out k)
        have va0 := HV0.out k
        have vb0 := tq_bd (wd BN k &&& wd c0.2.N k) (wd AN k) (wd c0.1.N k) 64
        obtain ⟨ga1, oa1, xa1, gb1, ob1, xb1, ca1, cb1, da1, db1⟩ := Fv.word B0 HC1.out HFV.out.d9 hlt
        have HT1 := hid1 (gtally_any (wd AN k) (wd BN k) (wd c1.1.N k) (wd c1.2.N k) (wd_lt _ _) (wd_lt _ _) (wd_lt _ _) (wd_lt _ _))
        have HW1 := hid1 (HS1.out k)
        have va1 := HV1.out k
        have vb1 := tq_bd (wd BN k &&& wd c1.2.N k) (wd AN k) (wd c1.1.N k) 64
        obtain ⟨ga2, oa2, xa2, gb2, ob2, xb2, ca2, cb2, da2, db2⟩ := Fv.word B0 HC2.out HFV.out.d10 hlt
        have HT2 := hid1 (gtally_any (wd AN k) (wd BN k) (wd c2.1.N k) (wd c2.2.N k) (wd_lt _ _) (wd_lt _ _) (wd_lt _ _) (wd_lt _ _))
        have HW2 := hid1 (HS2.out k)
        have va2 := HV2.out k
        have vb2 := tq_bd (wd BN k &&& wd c2.2.N k) (wd AN k) (wd c2.1.N k) 64
        obtain ⟨ga3, oa3, xa3, gb3, ob3, xb3, ca3, cb3, da3, db3⟩ := Fv.word B0 HC3.out HFV.out.d11 hlt
        have HT3 := hid1 (gtally_any (wd AN k) (wd BN k) (wd c3.1.N k) (wd c3.2.N k) (wd_lt _ _) (wd_lt _ _) (wd_lt _ _) (wd_lt _ _))
        have HW3 := hid1 (HS3.out k)
        have va3 := HV3.out k
        have vb3 := tq_bd (wd BN k &&& wd c3.2.N k) (wd AN k) (wd c3.1.N k) 64
        generalize wd BN k = y1 at *
        generalize wd AN k = v1 at *
        generalize wd c0.1.N k = ya0 at *
        generalize wd c0.2.N k = yb0 at *
        generalize tq (y1 &&& yb0) v1 ya0 64 = dt0 at *
        obtain ⟨f0, hf0⟩ : ∃ f, F0 k = f := ⟨_, rfl⟩
        rw [hf0] at HW0 va0
        rw [hf0]
        clear hf0
        generalize wd c1.1.N k = ya1 at *
        generalize wd c1.2.N k = yb1 at *
        generalize tq (y1 &&& yb1) v1 ya1 64 = dt1 at *
        obtain ⟨f1, hf1⟩ : ∃ f, F1 k = f := ⟨_, rfl⟩
        rw [hf1] at HW1 va1
        rw [hf1]
        clear hf1
        generalize wd c2.1.N k = ya2 at *
        generalize wd c2.2.N k = yb2 at *
        generalize tq (y1 &&& yb2) v1 ya2 64 = dt2 at *
        obtain ⟨f2, hf2⟩ : ∃ f, F2 k = f := ⟨_, rfl⟩
        rw [hf2] at HW2 va2
        rw [hf2]
        clear hf2
        generalize wd c3.1.N k = ya3 at *
        generalize wd c3.2.N k = yb3 at *
        generalize tq (y1 &&& yb3) v1 ya3 64 = dt3 at *
        obtain ⟨f3, hf3⟩ : ∃ f, F3 k = f := ⟨_, rfl⟩
        rw [hf3] at HW3 va3
        rw [hf3]
        clear hf3
        go_wp2_with fail
        go_quiet ((go_at_call 31; refine (HT0.out _).mono ?_; rintro e w5 ⟨rfl, rfl⟩; exact ⟨rfl, _, rfl⟩))
        go_wp2_with fail
        go_quiet ((go_at_call 31; refine (HT1.out _).mono ?_; rintro e w5 ⟨rfl, rfl⟩; exact ⟨rfl, _, rfl⟩))
        go_wp2_with fail
        go_quiet ((go_at_call 31; refine (HT2.out _).mono ?_; rintro e w5 ⟨rfl, rfl⟩; exact ⟨rfl, _, rfl⟩))
        go_wp2_with fail
        go_quiet ((go_at_call 31; refine (HT3.out _).mono ?_; rintro e w5 ⟨rfl, rfl⟩; exact ⟨rfl, _, rfl⟩))
        go_wp2_with fail
        exact ⟨⟨k + 1, by omega, by go_num, by rw [HW0.out], by rw [HW1.out], by rw [HW2.out], by rw [HW3.out], HFV.out.drewN _⟩, by simp [intOf]; omega⟩
      · have hkN : k = bm := by omega
        subst hkN
        have hr := keepr HFV.out.b HR.out
        have B0 := HFV.out.b
        have H0 := hid1 hr
        have k0 := hr.cell (i := o) (by omega)
        have k1 := hr.cell (i := o + 1) (by omega)
        have k2 := hr.cell (i := o + 2) (by omega)
        have k3 := hr.cell (i := o + 3) (by omega)
        have l0 := hr.frozen o
        have l1 := hr.frozen (o + 1)
        have l2 := hr.frozen (o + 2)
        have l3 := hr.frozen (o + 3)
        have BB := hid1 B0
        have hE : Hid (∀ j, (.int .i64 (if o ≤ j ∧ j < o + 4 then sq ⟨an, aa, k, ac, AN⟩ ⟨bn, ba, k, bc, BN⟩ (c (j - o)).1 (c (j - o)).2 k else f j) : Value) = if j = o + 3 then .int .i64 (F3 k) else if j = o + 2 then .int .i64 (F2 k) else if j = o + 1 then .int .i64 (F1 k) else if j = o then .int .i64 (F0 k) else .int .i64 (f j)) := fun j => by
          obtain ⟨⟨h0, h1⟩, h2, h3⟩ := HCC.out
          by_cases j3 : j = o + 3
          · rw [if_pos j3, if_pos (by omega), show j - o = 3 by omega, h3, HF3.out]
          rw [if_neg j3]
          by_cases j2 : j = o + 2
          · rw [if_pos j2, if_pos (by omega), show j - o = 2 by omega, h2, HF2.out]
          rw [if_neg j2]
          by_cases j1 : j = o + 1
          · rw [if_pos j1, if_pos (by omega), show j - o = 1 by omega, h1, HF1.out]
          rw [if_neg j1]
          by_cases j0 : j = o
          · rw [if_pos j0, if_pos (by omega), show j - o = 0 by omega, h0, HF0.out]
          rw [if_neg j0, if_neg (by omega)]
        generalize F0 k = f0 at *
        generalize F1 k = f1 at *
        generalize F2 k = f2 at *
        generalize F3 k = f3 at *
        clear hr B0 HFV HC0 HC1 HC2 HC3 HS0 HS1 HS2 HS3 HV0 HV1 HV2 HV3 HF0 HF1 HF2 HF3 HA HB HR HCC
        go_wp2_with fail
        refine bodyPost_end (v := .tuple #[]) (by simp [results, go_sem]) rfl ?_
        refine ⟨rfl, ((((H0.out.set o _).set (o + 1) _).set (o + 2) _).set (o + 3) _).congr fun j _ => ?_, ((((But.of_below BB.out).set _).set _).set _).set _⟩
        rw [hE.out]
end Go.Proofs.Ytakoicolffkbmaa
