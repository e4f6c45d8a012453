/- PACKAGE gemm: along. -/
import Derived.Test.YtakoicolffkbmaaGW6
namespace Go.Proofs.Ytakoicolffkbmaa
open Go.RowKit

/-- The numbers of a block, those from o on made anew as far as d. -/
def ag (f : Nat → Int) (o d : Nat) (S : Nat → Int) : Nat → Value := fun j => .int .i64 (if o ≤ j ∧ j < o + d then S (j - o) else f j)
theorem ag_four (f : Nat → Int) (o d : Nat) (S : Nat → Int) : (fun j => Value.int .i64 (if o + d ≤ j ∧ j < o + d + 4 then S (j - (o + d) + d) else if o ≤ j ∧ j < o + d then S (j - o) else f j)) = ag f o (d + 4) S := by
  funext j
  unfold ag
  by_cases h : o + d ≤ j ∧ j < o + d + 4
  · rw [if_pos h, if_pos (by omega), show j - (o + d) + d = j - o by omega]
  · rw [if_neg h]
    by_cases h2 : o ≤ j ∧ j < o + d
    · rw [if_pos h2, if_pos (by omega)]
    · rw [if_neg h2, if_neg (by omega)]
theorem ag_set (f : Nat → Int) (o d : Nat) (S : Nat → Int) : (fun j => if j = o + d then Value.int .i64 (S d) else ag f o d S j) = ag f o (d + 1) S := by
  funext j
  unfold ag
  by_cases h : j = o + d
  · rw [if_pos h, if_pos (by omega), show j - o = d by omega]
  · rw [if_neg h]
    by_cases h2 : o ≤ j ∧ j < o + d
    · rw [if_pos h2, if_pos (by omega)]
    · rw [if_neg h2, if_neg (by omega)]
theorem kpA {W X : World} {rb g2 o : Nat} {A B C D : Bt} (h1 : W.rowIs rb 28 4 (qf A B)) (h2 : Cq W g2 o C D) (hb : Below W.heap.size W X) :
    (X.cell? ⟨rb, 0, none⟩ = some (.int .i64 A.n) ∧ X.cell? ⟨rb, 1, none⟩ = some (.slice A.ao A.m A.cap) ∧ X.cell? ⟨rb, 2, none⟩ = some (.int .i64 B.n) ∧ X.cell? ⟨rb, 3, none⟩ = some (.slice B.ao B.m B.cap)) ∧ X.cell? ⟨g2, o, none⟩ = some (.int .i64 C.n) ∧ X.cell? ⟨g2, o + 1, none⟩ = some (.slice C.ao C.m C.cap) ∧ X.cell? ⟨g2, o + 2, none⟩ = some (.int .i64 D.n) ∧ X.cell? ⟨g2, o + 3, none⟩ = some (.slice D.ao D.m D.cap) :=
  have r1 := keepr hb h1
  ⟨⟨q0 r1, q1 r1, q2 r1, q3 r1⟩, h2.below hb⟩
theorem But.then {g : Nat} {w w' w'' : World} (h : But g w w') (hb : Below w'.heap.size w' w'') : But g w w'' :=
  ⟨hb.os.trans h.os, hb.tape.trans h.tape, hb.output.trans h.output, Nat.le_trans h.size hb.size, fun k hk hne => (hb.block k (Nat.lt_of_lt_of_le hk h.size)).trans (h.block k hk hne)⟩
theorem But.trans {g : Nat} {w w' w'' : World} (h : But g w w') (hb : But g w' w'') : But g w w'' :=
  ⟨hb.os.trans h.os, hb.tape.trans h.tape, hb.output.trans h.output, Nat.le_trans h.size hb.size, fun k hk hne => (hb.block k (Nat.lt_of_lt_of_le hk h.size) hne).trans (h.block k hk hne)⟩
set_option maxHeartbeats 1600000 in
set_option maxRecDepth 100000 in
theorem along_any (A B : Bt) (c : Nat → Bt × Bt) (n L g o cs g2 o2 cc W : Nat) (f : Nat → Int) (w0 w : World) (hB0 : Below w0.heap.size w0 w) (hg : w0.heap.size ≤ g) (hA : Rw w0 A) (hB : Rw w0 B) (hc : ∀ k, k < n → Cq w0 g2 (o2 + k * 4) (c k).1 (c k).2 ∧ Rw w0 (c k).1 ∧ Rw w0 (c k).2 ∧ (c k).1.m = L ∧ (c k).2.m = L) (ea : A.m = L) (eb : B.m = L) (hL : L ≤ 262144)
    (hr : w.rowIs g 2 W (fun j => .int .i64 (f j))) (ho : o + n ≤ W) (hn : n ≤ 16777216) (hcs : n ≤ cs) (hcc : n ≤ cc) :
    Calls Try.prog 33 #[.slice (some ⟨g, o, none⟩) n cs, rwv A B, .slice (some ⟨g2, o2, none⟩) n cc, kfn] w fun e w' => e = .returned (.tuple #[]) ∧ w'.rowIs g 2 W (ag f o n (fun k => sq A B (c k).1 (c k).2 L)) ∧ But g w w' := by
  have HA := hid1 hA
  have HB := hid1 hB
  have Hc := hid1 hc
  have EA := hid1 ea
  have EB := hid1 eb
  have BH0 := hid1 hB0
  have HR := hid1 hr
  have hgw := hr.lt
  obtain ⟨S, hS⟩ : ∃ S : Nat → Int, (fun k => sq A B (c k).1 (c k).2 L) = S := ⟨_, rfl⟩
  have HS : Hid (∀ k, sq A B (c k).1 (c k).2 L = S k) := fun k => by rw [← hS]
  rw [hS]
  clear hA hB hc ea eb hr hB0 hS
  go_enter Try.func33, Try.ntmps33
  go_wp2_with fail
  refine gen_anyg (fun X => Below w.heap.size w X ∧ X.rowIs w.heap.size 28 4 (qf A B)) ⟨bl_alloc (Below.refl _ _) _, q_new w A B _⟩ ?_
  rintro X ⟨B1, r1⟩
  obtain ⟨rb, erb⟩ : ∃ rb, w.heap.size = rb := ⟨_, rfl⟩
  have hrb : rb ≠ g := by omega
  rw [erb] at r1
  rw [erb]
  have R1 := hid1 r1
  have B1h : Hid (But g w X) := But.of_below B1
  have HRX : Hid (X.rowIs g 2 W (ag f o 0 S)) := by
    have h := keepr B1 HR.out
    refine h.congr fun j _ => ?_
    unfold ag; rw [if_neg (by omega)]
  clear r1 B1 erb HR
  go_loopw [8] (fun x wr => ∃ d : Nat, d ≤ n ∧ x = .int .i64 d ∧ wr.rowIs g 2 W (ag f o d S) ∧ wr.rowIs rb 28 4 (qf A B) ∧ But g w wr) (fun x _ => n - (intOf x).toNat)
  case atStart => exact ⟨0, Nat.zero_le _, rfl, HRX.out, R1.out, B1h.out⟩
  case round =>
    clear HRX R1 B1h
    obtain ⟨d, hd, rfl, hr, r1, hbut⟩ := hrel
    have B2 := hbut.below (a := w0) hg BH0.out.size BH0.out
    have HR := hid1 hr
    have R1 := hid1 r1
    have HB1 := hid1 hbut
    have HB2 := hid1 B2
    by_cases h4 : d + 4 ≤ n
    · have i1 : (4 : Int) ≤ (n : Int) - (d : Int) := by omega
      have i0 : (0 : Int) ≤ (d : Int) := by omega
      have i2 : (d : Int) + 4 ≤ (n : Int) := by omega
      have a0 := q0 r1
      have a1 := q1 r1
      have a2 := q2 r1
      have a3 := q3 r1
      have HC4 : Hid (∀ X : World, Below wr.heap.size wr X → Calls Try.prog 45 #[.slice (some ⟨g, o + d, none⟩) 4 (cs - d), rwv A B, .slice (some ⟨g2, o2 + d * 4, none⟩) 4 (cc - d), kfn] X fun e w' => e = .returned (.tuple #[]) ∧ w'.rowIs g 2 W (ag f o (d + 4) S) ∧ But g X w') := fun X hX => by
        have hBX := bl_step HB2.out hX
        have h := four_any A B (fun k => c (k + d)) L g (o + d) (cs - d) g2 (o2 + d * 4) (cc - d) W (fun j => if o ≤ j ∧ j < o + d then S (j - o) else f j) X (HA.out.below hBX) (HB.out.below hBX) (fun k hk => ⟨(Hc.out (k + d) (by omega)).2.1.below hBX, (Hc.out (k + d) (by omega)).2.2.1.below hBX⟩) (fun k hk => by
          have := (Hc.out (k + d) (by omega)).1.below hBX
          rw [show o2 + d * 4 + k * 4 = o2 + (k + d) * 4 by omega]; exact this) EA.out EB.out (fun k hk => (Hc.out (k + d) (by omega)).2.2.2) hL (keepr hX HR.out) (by omega)
        refine h.mono ?_
        rintro e w' ⟨rfl, h1, h2⟩
        refine ⟨rfl, ?_, h2⟩
        rw [← ag_four]
        refine h1.congr fun j _ => ?_
        rw [HS.out]
      clear hr r1 hbut B2
      go_wp2_with fail
      refine still_tail 12 (by decide +kernel) ?_
      simp only [List.take_succ_cons, List.take_zero, List.drop_succ_cons, List.drop_zero]
      have iw : IntKind.i64.wrap ((d : Int) + 4) = (d : Int) + 4 := by rw [IntKind.wrap_i64]; omega
      have it : ((d : Int) + 4).toNat = d + 4 := by omega
      have ic : (d : Int) + 4 ≤ (cs : Int) := by omega
      have ic2 : (d : Int) + 4 ≤ (cc : Int) := by omega
      have i4 : (0 : Int) ≤ (d : Int) + 4 := by omega
      have nd1 : ¬ cs = d := by omega
      have nd2 : ¬ cc = d := by omega
      repeat still_step
      refine wpStill_nil ?_
      go_wp2_with (go_at_call 45; refine gen_calls (fun X => Below wr.heap.size wr X) (Below.drew (Below.refl _ _)) ?_; intro X hX; refine (HC4.out X hX).mono ?_; rintro e w1 ⟨rfl, hrow1, hbut1⟩)
      exact ⟨⟨d + 4, h4, by go_num, hrow1, hbut1.row hrb (keepr hX R1.out), (HB1.out.then hX).trans hbut1⟩, by simp [intOf]; omega⟩
    · have i1 : (n : Int) - (d : Int) < 4 := by omega
      clear hr r1 hbut B2
      go_wp2_with fail
      go_loopw [9] (fun x wy => ∃ j : Nat, j ≤ n ∧ x = .int .i64 j ∧ wy.rowIs g 2 W (ag f o j S) ∧ wy.rowIs rb 28 4 (qf A B) ∧ But g w wy) (fun x _ => n - (intOf x).toNat)
      case atStart => exact ⟨d, hd, rfl, HR.out, R1.out, HB1.out⟩
      case round =>
        clear HR R1 HB1 HB2
        rename World => V
        obtain ⟨j, hj, rfl, hr, r1, hbut⟩ := hrel
        have B2 := hbut.below (a := w0) hg BH0.out.size BH0.out
        by_cases hjl : j < n
        · obtain ⟨hcq, hC, hD, ec, ed⟩ := Hc.out j hjl
          have hS := HS.out j
          generalize c j = cd at *
          obtain ⟨C, D⟩ := cd
          dsimp only at hcq hC hD ec ed hS
          have CS : Hid (∀ Y : World, Below w0.heap.size w0 Y → Calls Try.prog 30 #[rwv A B, rwv C D, .int .i64 0, .int .i64 B.m, kfn] Y fun e w' => e = .returned (.int .i64 (S j)) ∧ Below Y.heap.size Y w') := fun Y hY => by
            have h := gsum_any A B C D 0 L L Y (HA.out.below hY) (HB.out.below hY) (hC.below hY) (hD.below hY) EA.out EB.out ec ed hL (Nat.zero_le _) (Nat.le_refl _)
            rw [sq_zero, Int.sub_zero, hS] at h
            rw [EB.out]
            exact h
          have jj : (j : Int) < (n : Int) := by omega
          have jj0 : (0 : Int) ≤ (j : Int) := by omega
          have hcv := hcq.below B2
          have HK : Hid (∀ X, Below V.heap.size V X → _) := fun X hX => kpA r1 hcv hX
          have hle : g < V.heap.size := hr.lt
          have n2 : g2 ≠ g := by have := lt_of_cell hcq.1; omega
          have HR := hid1 hr
          have R1 := hid1 r1
          have HB1 := hid1 hbut
          have HB2 := hid1 B2
          clear hr r1 hbut B2 hcq hC hD ec ed hS hcv
          obtain ⟨sj, esj⟩ : ∃ sj, S j = sj := ⟨_, rfl⟩
          have ESJ := hid1 esj
          rw [esj] at CS
          clear esj
          go_wp2_with fail
          go_region_held3 (fun X => (X.cell? ⟨rb, 0, none⟩ = some (.int .i64 A.n) ∧ X.cell? ⟨rb, 1, none⟩ = some (.slice A.ao A.m A.cap) ∧ X.cell? ⟨rb, 2, none⟩ = some (.int .i64 B.n) ∧ X.cell? ⟨rb, 3, none⟩ = some (.slice B.ao B.m B.cap)) ∧ X.cell? ⟨g2, o2 + j * 4, none⟩ = some (.int .i64 C.n) ∧ X.cell? ⟨g2, o2 + j * 4 + 1, none⟩ = some (.slice C.ao C.m C.cap) ∧ X.cell? ⟨g2, o2 + j * 4 + 2, none⟩ = some (.int .i64 D.n) ∧ X.cell? ⟨g2, o2 + j * 4 + 3, none⟩ = some (.slice D.ao D.m D.cap))
            (((try dsimp only); first | (refine HK.out _ ?_; (repeat (first | (with_reducible exact Below.refl _ _) | (with_reducible assumption) | (with_reducible refine Below.drew ?_))); done) | (simp [go_sem, *]; done)))
            ((go_at_call 30; refine gen_calls (fun Z => Below V.heap.size V Z) (by repeat (first | (with_reducible exact Below.refl _ _) | (with_reducible assumption) | (with_reducible refine Below.drew ?_))) ?_; intro Z hZ; refine (CS.out Z (bl_step HB2.out hZ)).mono ?_; rintro e y1 ⟨rfl, hy1⟩; have hYy := bl_step hZ hy1; have HSS := HK.out y1 hYy; have g3 := keepr hYy HR.out; have cS := g3.cell (i := o + j) (by omega); have fS := g3.frozen (o + j); clear g3))
          have RF : Hid ((y1.setCell ⟨g, o + j, none⟩ (.int .i64 sj)).rowIs g 2 W (ag f o (j + 1) S)) := by
            have h := (keepr hYy HR.out).set (o + j) (.int .i64 sj)
            rw [← ESJ.out, ag_set] at h
            rw [← ESJ.out]
            exact h
          have RF2 := hid1 ((keepr hYy R1.out).setOther (a := ⟨g, o + j, none⟩) hrb (.int .i64 sj))
          have BF : Hid (But g w (y1.setCell ⟨g, o + j, none⟩ (.int .i64 sj))) := (HB1.out.then hYy).set (.int .i64 sj)
          clear HSS cS fS hy1 hYy hZ CS HK R1 HR HB1 HB2 ESJ
          go_wp2_with fail
          exact ⟨⟨j + 1, by omega, by go_num, RF.out, RF2.out, BF.out⟩, by simp [intOf]; omega⟩
        · have hjN : j = n := by omega
          subst hjN
          have H1 := hid1 hr
          have H2 := hid1 hbut
          clear hr r1 hbut B2
          go_wp2_with fail
          refine bodyPost_end (v := .tuple #[]) (by simp [results, go_sem]) rfl ?_
          exact ⟨rfl, H1.out, H2.out⟩
end Go.Proofs.Ytakoicolffkbmaa
