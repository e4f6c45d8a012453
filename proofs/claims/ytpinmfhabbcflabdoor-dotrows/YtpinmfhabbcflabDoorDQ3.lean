/- The Room's row. -/
import Derived.Test.YtpinmfhabbcflabDoorDQ2
namespace Go.Proofs.YtpinmfhabbcflabDoor
open Go.RowKit
attribute [local go_sem ↓] Go.wp_at_zero Go.wp_at_succ

/-- A twin. -/
abbrev tw (b : Bt) (g : Nat) : Bt := ⟨b.n, some ⟨g, 0, none⟩, b.m, b.m + 20, b.N⟩
abbrev tv (b : Bt) (g c : Nat) : Value := .slice (some ⟨g, 0, none⟩) (b.m + 20) c
/-- A twin reads as what it is a twin of. -/
theorem Rm.twin {w : World} {M : Nat} {L : List (Bt × Value)} {b : Bt} {g c : Nat} (h : Rm w M L) (he : (b, tv b g c) ∈ L) (hw : Rw w b) : Rw w (tw b g) := by
  obtain ⟨vw, vs, h1, h2, h3, h4, h5⟩ := h
  have ho := h5 _ he
  refine ⟨hw.1, hw.2.1, fun k hk => ⟨g, 0, rfl, ?_⟩⟩
  obtain ⟨g', cp, f, hv, _, hle, _, hrow, hf⟩ := own_row ho (by show 0 < b.m + 20; omega)
  injection hv with hv
  injection hv with hv
  injection hv with hv
  subst hv
  have hk' : k < b.m := hk
  have e := hf k (by show k < b.m + 20; omega)
  rw [el_at (by show k < b.m + 20; omega)] at e
  rw [Nat.zero_add]
  refine (hrow.cell (by have : b.m + 20 ≤ cp := hle; omega)).trans ?_
  rw [← e]
  unfold eW
  rw [if_pos hk']
/-- What the walk of row keeps. -/
def Pq (w X : World) (M : Nat) (A B : Bt) (L : List (Bt × Value)) : Prop := Rm X M L ∧ X.rowIs w.heap.size 33 4 (qf A B) ∧ X.rowIs (w.heap.size + 1) 33 4 (qf zb zb) ∧ Below M w X ∧ Fr w X
theorem Pq.drew {w X : World} {M : Nat} {A B : Bt} {L : List (Bt × Value)} (h : Pq w X M A B L) : Pq w X.drew M A B L := ⟨h.1.drew, h.2.1.drew, h.2.2.1.drew, h.2.2.2.1.drew, h.2.2.2.2.drew⟩
theorem Pq.next {w X Y : World} {M : Nat} {A B : Bt} {L L' : List (Bt × Value)} (h : Pq w X M A B L) (hr : Rm Y M L') (hb : Below M X Y) (hf : Fr X Y) : Pq w Y M A B L' :=
  ⟨hr, hf _ _ _ _ h.2.1 (by decide) (by decide) (by decide), hf _ _ _ _ h.2.2.1 (by decide) (by decide) (by decide), h.2.2.2.1.trans hb, h.2.2.2.2.trans hf⟩
theorem kq4 {X : World} {H t : Nat} {A B : Bt} (r : X.rowIs H t 4 (qf A B)) : X.cell? ⟨H, 0, none⟩ = some (.int .i64 A.n) ∧ X.cell? ⟨H, 1, none⟩ = some (.slice A.ao A.m A.cap) ∧ X.cell? ⟨H, 2, none⟩ = some (.int .i64 B.n) ∧ X.cell? ⟨H, 3, none⟩ = some (.slice B.ao B.m B.cap) := ⟨q0 r, q1 r, q2 r, q3 r⟩
set_option maxHeartbeats 3200000 in
set_option maxRecDepth 100000 in
theorem room_row (A B : Bt) (M : Nat) (L : List (Bt × Value)) (w : World) (hL : L.length ≤ 12) (hR : Rm w M L) (hA : ∀ X, Below M w X → Rz X A) (hB : ∀ X, Below M w X → Rz X B) :
    Calls Tryd.prog 6 #[.pointer (some ⟨M, 0, none⟩), rwv A B] w fun e w' => ∃ g1 c1 g2 c2, e = .returned (rwv (tw A g1) (tw B g2)) ∧ Rm w' M (L ++ [(A, tv A g1 c1)] ++ [(B, tv B g2 c2)]) ∧ Below M w w' ∧ Fr w w' := by
  have HR := hid1 hR
  have HA := hid1 hA
  have HB := hid1 hB
  have Mw : M < w.heap.size := by obtain ⟨vw, vs, h1, _⟩ := hR; exact h1.lt
  clear hR hA hB
  go_enter Tryd.func6, Tryd.ntmps6
  go_wp2_with fail
  have bel : Below w.heap.size w ((w.alloc (.cells #[.int .i64 A.n, .slice A.ao A.m A.cap, .int .i64 B.n, .slice B.ao B.m B.cap] 33)).alloc (.cells #[.int .i64 0, .slice none 0 0, .int .i64 0, .slice none 0 0] 33)) := bl_alloc (bl_alloc (Below.refl _ _) _) _
  refine gen_world (fun W => Pq w W M A B L) ⟨HR.out.below bel, (q_new w A B _).alloc _, q_new2 w A B zb zb _, bel.mono (by omega), Fr.of_below bel⟩ ?_
  intro W hP
  have HP := hid1 hP
  have x0 := hP.2.2.1.frozen 0
  have x1 := hP.2.2.1.frozen 1
  have x2 := hP.2.2.1.frozen 2
  have x3 := hP.2.2.1.frozen 3
  have xl := hP.2.2.1.lt
  have nH : w.heap.size ≠ w.heap.size + 1 := by omega
  have PR := hid1 hP.2.1
  clear hP bel HR
  go_region_held3 (fun Y => Y.cell? ⟨w.heap.size, 0, none⟩ = some (.int .i64 A.n) ∧ Y.cell? ⟨w.heap.size, 1, none⟩ = some (.slice A.ao A.m A.cap) ∧ Y.cell? ⟨w.heap.size, 2, none⟩ = some (.int .i64 B.n) ∧ Y.cell? ⟨w.heap.size, 3, none⟩ = some (.slice B.ao B.m B.cap))
    (((try dsimp only); (with_reducible refine kq4 (t := 33) ?_); repeat (first | (with_reducible exact PR.out) | (with_reducible assumption) | (with_reducible refine World.rowIs.drew ?_) | (with_reducible refine World.rowIs.setOther ?_ nH _))))
    (first
    | (go_at_call 23; have tst := rr1; refine gen_calls (fun X => Pq w X M A B (L ++ [(A, tv A g1 c1)])) (by first | exact HP1.out | exact HP1.out.drew) ?_; intro X2 hX2; refine (room_bits B M (L ++ [(A, tv A g1 c1)]) X2 (by simp; omega) hX2.1 (HB.out X2 hX2.2.2.2.1)).mono ?_; rintro e y2 ⟨g2, c2, rfl, hrm2, hbm2, hfr2⟩; have hP2 := hX2.next hrm2 hbm2 hfr2; have rr2 := hP2.2.1; have z0 := hP2.2.2.1.frozen 0; have z1 := hP2.2.2.1.frozen 1; have z2 := hP2.2.2.1.frozen 2; have z3 := hP2.2.2.1.frozen 3; have zl := hP2.2.2.1.lt; have v0 := q0 hP2.2.2.1; have v1 := q1 hP2.2.2.1; have v2 := q2 hP2.2.2.1; have v3 := q3 hP2.2.2.1; have HP2 := hid1 hP2; clear hP2 hrm2 hbm2 hfr2 hX2)
    | (go_at_call 23; refine gen_calls (fun X => Pq w X M A B L) (by first | exact HP.out | exact HP.out.drew) ?_; intro X1 hX1; refine (room_bits A M L X1 (by omega) hX1.1 (HA.out X1 hX1.2.2.2.1)).mono ?_; rintro e y1 ⟨g1, c1, rfl, hrm1, hbm1, hfr1⟩; have hP1 := hX1.next hrm1 hbm1 hfr1; have rr1 := hP1.2.1; have HP1 := hid1 hP1; clear hP1 hrm1 hbm1 hfr1 hX1))
  all_goals
    go_wp2_with fail
    have hR := HP2.out.2.2.1
    refine bodyPost_ret (v := rwv (tw A g1) (tw B g2)) (by simp [results, Tryd.results6, go_sem, v0, v1, v2, v3]) rfl ⟨g1, c1, g2, c2, rfl, ?_, ?_, ?_⟩
    · have nM : M ≠ w.heap.size + 1 := by omega
      exact ((((HP2.out.1.put (o := 0) hR (by decide) (by decide) nM _).put (o := 1) (hR.set 0 _) (by decide) (by decide) nM _).put (o := 2) ((hR.set 0 _).set 1 _) (by decide) (by decide) nM _).put (o := 3) (((hR.set 0 _).set 1 _).set 2 _) (by decide) (by decide) nM _)
    · iterate 4 (refine Below.setCell ?_ (by show M ≤ w.heap.size + 1; omega) _)
      exact HP2.out.2.2.2.1
    · exact (((HP2.out.2.2.2.2.setNew (by omega) _).setNew (by omega) _).setNew (by omega) _).setNew (by omega) _
end Go.Proofs.YtpinmfhabbcflabDoor
