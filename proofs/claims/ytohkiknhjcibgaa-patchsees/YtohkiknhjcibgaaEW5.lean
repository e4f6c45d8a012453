/- PACKAGE patch: from. -/
import Derived.Test.YtohkiknhjcibgaaEM2
import Derived.Test.YtohkiknhjcibgaaEW4
import Derived.Test.YtohkiknhjcibgaaEW2
namespace Go.Proofs.Ytohkiknhjcibgaa
open Go.RowKit Go.Shelf

/-- A place of a patch, copied. -/
theorem Ow.put {W : World} {A K M d P p X c : Nat} {a : Addr} {Pf : Nat → Nat} (hd : 0 < d) (hp : p < P) (hM : P * d = M) (hP : ∀ q, q < P → Pf q < 2 ^ (64 * d)) (hX : X < 2 ^ (64 * d)) (h : Ow W A K M (js (64 * d) Pf P)) (hs : ∀ j, j < d → W.cell? (a.add j) = some (wf X j)) :
    ∃ W', (∀ ty, (Builtin.copy_ #[26, 26] ty #[.slice (some ⟨A, p * d, none⟩) (M - p * d) (K - p * d), .slice (some a) d c]).run Try.prog W = .ok (.int .i64 d) W') ∧ Ow W' A K M (js (64 * d) (fun q => if q = p then X else Pf q) P) ∧ But A W W' := by
  obtain ⟨_, hK, hK2, f, r, e⟩ := h
  have h1 : p * d + d ≤ M := by rw [← hM, ← Nat.succ_mul]; exact Nat.mul_le_mul_right _ hp
  obtain ⟨W', h, r', bt⟩ := copy_gen (w := W) (G := A) (T := K) (p := p * d) (L := M - p * d) (n := K - p * d) (s := d) (c := c) (d := d) (a := a) (h := wf X) (by omega) (by show d = min d (M - p * d); omega) r hs (wf_one _)
  refine ⟨W', h, ⟨?_, hK, hK2, _, r', fun j hj => ?_⟩, bt⟩
  · rw [← hM]; exact js_bound fun q hq => by split; exact hX; exact hP q hq
  · rw [e j hj]
    exact js_put hd hP hX (by rw [hM]; exact hj)
/-- The memory of a patch under way. -/
structure Fm (w W : World) (vw : Vw) (bS A1 K1 A2 K2 M S1 S2 : Nat) : Prop where
  v : W.rowIs w.heap.size 56 18 vw.f
  z : W.rowIs (w.heap.size + 1) 46 4 (qf ⟨0, none, 0, 0, 0⟩ ⟨0, none, 0, 0, 0⟩)
  s : W.rowIs bS 46 4 (qf (bk M A1 K1 0) (bk M A2 K2 0))
  o1 : Ow W A1 K1 M S1
  o2 : Ow W A2 K2 M S2
  b : Below w.heap.size w W
/-- Its blocks are apart. -/
structure Fa (w : World) (bS A1 A2 : Nat) : Prop where
  h1 : w.heap.size + 1 < A1
  h2 : w.heap.size + 1 < A2
  h3 : A1 ≠ A2
  h4 : A1 < bS
  h5 : A2 < bS
theorem Fm.drew {w W : World} {vw : Vw} {bS A1 K1 A2 K2 M S1 S2 : Nat} (h : Fm w W vw bS A1 K1 A2 K2 M S1 S2) : Fm w W.drew vw bS A1 K1 A2 K2 M S1 S2 :=
  ⟨h.v.drew, h.z.drew, h.s.drew, h.o1.below (Below.refl _ _).drew, h.o2.below (Below.refl _ _).drew, h.b.drew⟩
theorem Fm.drewN {w W : World} {vw : Vw} {bS A1 K1 A2 K2 M S1 S2 : Nat} (h : Fm w W vw bS A1 K1 A2 K2 M S1 S2) (n : Nat) : Fm w (W.drewN n) vw bS A1 K1 A2 K2 M S1 S2 := by
  induction n with
  | zero => exact h
  | succ n ih => exact ih.drew
theorem Fm.put1 {w W X : World} {vw : Vw} {bS A1 K1 A2 K2 M S1 S2 S : Nat} (h : Fm w W vw bS A1 K1 A2 K2 M S1 S2) (a : Fa w bS A1 A2) (o : Ow X A1 K1 M S) (b : But A1 W X) : Fm w X vw bS A1 K1 A2 K2 M S S2 := by
  obtain ⟨a1, a2, a3, a4, a5⟩ := a
  exact ⟨b.row (by omega) h.v, b.row (by omega) h.z, b.row (by omega) h.s, o, h.o2.but b (by omega), b.below (by omega) h.b.size h.b⟩
theorem Fm.put2 {w W X : World} {vw : Vw} {bS A1 K1 A2 K2 M S1 S2 S : Nat} (h : Fm w W vw bS A1 K1 A2 K2 M S1 S2) (a : Fa w bS A1 A2) (o : Ow X A2 K2 M S) (b : But A2 W X) : Fm w X vw bS A1 K1 A2 K2 M S1 S := by
  obtain ⟨a1, a2, a3, a4, a5⟩ := a
  exact ⟨b.row (by omega) h.v, b.row (by omega) h.z, b.row (by omega) h.s, h.o1.but b (by omega), o, b.below (by omega) h.b.size h.b⟩
/-- One place of the window that lies within the tensor, laid: both copies. -/
theorem from_step (cap : Nat) {H V C g o m r s N xs xm bS A1 K1 A2 K2 M a c ch : Nat} {y0 x0 ea ec : Int} {w W : World} {vw : Vw} (hC : 1 ≤ C ∧ C ≤ 4096) (hr : r ≤ 15) (hs : 1 ≤ s ∧ s ≤ 15) (hgw : g < w.heap.size) (hm : m = H * V * nw C) (hM : r * s * nw C = M) (hxs : xs < 2 ^ (64 * nw C)) (hxm : xm < 2 ^ (64 * nw C))
    (ha0 : max 0 (-y0) ≤ (a : Int)) (hc0 : max 0 (-x0) ≤ (c : Int)) (hea : ea = min (r : Int) ((H : Int) - y0)) (hec : ec = min (s : Int) ((V : Int) - x0)) (ha : (a : Int) < ea) (hc : (c : Int) < ec) (fa : Fa w bS A1 A2)
    (fm : Fm w W vw bS A1 K1 A2 K2 M (js (64 * nw C) (unP H V y0 x0 s a c (fun p => pl N (nw C) (ixP V y0 x0 s p)) xs) (r * s)) (js (64 * nw C) (unP H V y0 x0 s a c (fun _ => ful C) xm) (r * s))) (rN : Wr W (some ⟨g, o, none⟩) m N) (rch : W.rowIs ch 41 (nw C) (wf (ful C))) :
    ∃ (ya yv ix I0 I1 : Nat) (W3 W4 : World), y0 + a = ya ∧ ya < H ∧ (ya : Int) * V = yv ∧ (yv : Int) + x0 + c = ix ∧ ix < H * V ∧ ((a : Int) * s + c) * nw C = I0 ∧ a * s ≤ 225 ∧ I0 + nw C ≤ M ∧ (ix : Int) * nw C = I1 ∧ I1 + nw C ≤ m ∧
      (∀ ty, (Builtin.copy_ #[26, 26] ty #[.slice (some ⟨A2, I0, none⟩) (M - I0) (K2 - I0), .slice (some ⟨ch, 0, none⟩) (nw C) (nw C)]).run Try.prog W.drew = .ok (.int .i64 (nw C)) W3) ∧
      Fm w W3 vw bS A1 K1 A2 K2 M (js (64 * nw C) (unP H V y0 x0 s a c (fun p => pl N (nw C) (ixP V y0 x0 s p)) xs) (r * s)) (js (64 * nw C) (unP H V y0 x0 s a (c + 1) (fun _ => ful C) xm) (r * s)) ∧
      (∀ ty, (Builtin.copy_ #[26, 26] ty #[.slice (some ⟨A1, I0, none⟩) (M - I0) (K1 - I0), .slice (some ⟨g, o + I1, none⟩) (nw C) (cap - I1)]).run Try.prog W3.drew = .ok (.int .i64 (nw C)) W4) ∧
      Fm w W4 vw bS A1 K1 A2 K2 M (js (64 * nw C) (unP H V y0 x0 s a (c + 1) (fun p => pl N (nw C) (ixP V y0 x0 s p)) xs) (r * s)) (js (64 * nw C) (unP H V y0 x0 s a (c + 1) (fun _ => ful C) xm) (r * s)) := by
  have hd0 : 0 < nw C := by unfold nw; omega
  obtain ⟨hcs, haR, hin, hix⟩ := ins_at (R := r) hs.1 ha0 hc0 hea hec ha hc
  have hixl := ixP_lt hin
  have hp : a * s + c < r * s := by
    have := Nat.mul_le_mul_right s (show a + 1 ≤ r from haR)
    rw [Nat.succ_mul] at this
    omega
  obtain ⟨p0, ep0⟩ : ∃ p0, a * s + c = p0 := ⟨_, rfl⟩
  have hst : ∀ (X : Nat → Nat) (z q : Nat), unP H V y0 x0 s a (c + 1) X z q = if q = p0 then X p0 else unP H V y0 x0 s a c X z q := fun X z q => by
    rw [unP_step hs.1 hcs hin q, ep0]
    by_cases e : q = p0
    · rw [if_pos e, if_pos e, e]
    · rw [if_neg e, if_neg e]
  have hb1 : ∀ (X : Nat → Nat) (z : Nat), (∀ q, X q < 2 ^ (64 * nw C)) → z < 2 ^ (64 * nw C) → ∀ q, q < r * s → unP H V y0 x0 s a c X z q < 2 ^ (64 * nw C) := fun X z hX hz q _ => by
    unfold unP; split
    · exact hX q
    · exact hz
  rw [ep0] at hin hix hixl hp
  obtain ⟨ix, eix⟩ : ∃ ix, ixP V y0 x0 s p0 = ix := ⟨_, rfl⟩
  rw [eix] at hix hixl
  have hI1 : ix * nw C + nw C ≤ m := by rw [hm, ← Nat.succ_mul]; exact Nat.mul_le_mul_right _ hixl
  have hI0 : p0 * nw C + nw C ≤ M := by rw [← hM, ← Nat.succ_mul]; exact Nat.mul_le_mul_right _ hp
  obtain ⟨W3, cp3, o3, b3⟩ := Ow.put (c := nw C) (a := ⟨ch, 0, none⟩) hd0 hp hM (hb1 (fun _ => ful C) xm (fun _ => ful_words C) hxm) (ful_words C) (fm.drew.o2) (fun j hj => by
    have := rch.drew.cell hj
    rcases j with _ | j <;> simpa [Addr.add] using this)
  rw [js_congr (R := unP H V y0 x0 s a (c + 1) (fun _ => ful C) xm) (r * s) (fun q _ => (hst (fun _ => ful C) xm q).symm)] at o3
  have fm3 := fm.drew.put2 fa o3 b3
  have hg : ∀ j, j < nw C → W.cell? ⟨g, o + ix * nw C + j, none⟩ = some (wf (pl N (nw C) ix) j) := fun j hj => by
    have := rN.place (i := ix) (d := nw C) hI1
    obtain ⟨g', o', e, cc⟩ := this.2 j hj
    cases e
    exact cc
  have hgA : g ≠ A2 := by have := fa.h2; omega
  obtain ⟨W4, cp4, o4, b4⟩ := Ow.put (c := cap - ix * nw C) (a := ⟨g, o + ix * nw C, none⟩) (X := pl N (nw C) ix) hd0 hp hM (hb1 (fun p => pl N (nw C) (ixP V y0 x0 s p)) xs (fun _ => pl_lt _ _ _) hxs) (pl_lt _ _ _) (fm3.drew.o1) (fun j hj => by
    rw [Addr.add_mid]
    exact b3.cell hgA (hg j hj))
  rw [js_congr (R := unP H V y0 x0 s a (c + 1) (fun p => pl N (nw C) (ixP V y0 x0 s p)) xs) (r * s) (fun q _ => by rw [hst, eix])] at o4
  have fm4 := fm3.drew.put1 fa o4 b4
  have hya : 0 ≤ y0 + (a : Int) ∧ y0 + (a : Int) < H := by omega
  obtain ⟨ya, eya⟩ := Int.eq_ofNat_of_zero_le hya.1
  rw [eya] at hix hya
  have haS : a * s ≤ 225 := by
    have h1 := Nat.mul_le_mul (show a ≤ 15 by omega) hs.2
    omega
  exact ⟨ya, ya * V, ix, p0 * nw C, ix * nw C, W3, W4, eya, by omega, by push_cast; rfl, by rw [hix]; push_cast; rfl, hixl, by rw [← ep0]; push_cast; rfl, haS, hI0, by push_cast; rfl, hI1, cp3, fm3, cp4, fm4⟩
set_option maxHeartbeats 3200000 in
set_option maxRecDepth 100000 in
theorem from_any (H V C g o m cap r s sy sx t l b q ch G1 G2 M N y x xs xm S1 S2 : Nat) (y0 x0 : Int) (w : World) (hH : 1 ≤ H ∧ H ≤ 4096) (hV : 1 ≤ V ∧ V ≤ 4096) (hC : 1 ≤ C ∧ C ≤ 4096) (hr : 1 ≤ r ∧ r ≤ 15) (hs : 1 ≤ s ∧ s ≤ 15) (hsy : sy ≤ 15) (hsx : sx ≤ 15) (ht : t ≤ 14) (hl : l ≤ 14) (hy : y ≤ 8192) (hx : x ≤ 8192)
    (hm : m = H * V * nw C) (hmc : m ≤ cap) (hM : r * s * nw C = M) (hxs : xs < 2 ^ (64 * nw C)) (hxm : xm < 2 ^ (64 * nw C)) (hy0 : (y : Int) * sy - t = y0) (hx0 : (x : Int) * sx - l = x0)
    (hS1 : js (64 * nw C) (plP H V (nw C) N y0 x0 s xs) (r * s) = S1) (hS2 : js (64 * nw C) (mkP H V C y0 x0 s xm) (r * s) = S2)
    (rN : Wr w (some ⟨g, o, none⟩) m N) (rch : w.rowIs ch 41 (nw C) (wf (ful C))) (rb1 : w.rowIs G1 41 M (wf (js (64 * nw C) (fun _ => xs) (r * s)))) (rb2 : w.rowIs G2 41 M (wf (js (64 * nw C) (fun _ => xm) (r * s)))) :
    Calls Try.prog 17 #[Vw.val ⟨H, V, C, some ⟨g, o, none⟩, m, cap, r, s, sy, sx, t, l, b, q, nw C, some ⟨ch, 0, none⟩, nw C, bt M G1 0, bt M G2 0⟩, .int .i64 y, .int .i64 x] w fun e w' => ∃ A1 K1 A2 K2, e = .returned (rwv (bk M A1 K1 S1) (bk M A2 K2 S2)) ∧
      w.heap.size ≤ A1 ∧ w.heap.size ≤ A2 ∧ A1 ≠ A2 ∧ Ow w' A1 K1 M S1 ∧ Ow w' A2 K2 M S2 ∧ Below w.heap.size w w' := by
  have hd1 : nw C ≤ 64 := by unfold nw; omega
  have hd0 : 1 ≤ nw C := by unfold nw; omega
  have hP : r * s ≤ 225 := Nat.mul_le_mul hr.2 hs.2
  have hP0 : 0 < r * s := Nat.mul_pos (by omega) (by omega)
  have hM1 : M ≤ 14400 := by rw [← hM]; exact Nat.mul_le_mul hP hd1
  have hM0 : 0 < M := by rw [← hM]; exact Nat.mul_pos hP0 (by omega)
  have by1 : y * sy ≤ 122880 := Nat.mul_le_mul hy hsy
  have bx1 : x * sx ≤ 122880 := Nat.mul_le_mul hx hsx
  obtain ⟨Y1, eY1⟩ : ∃ Y1, y * sy = Y1 := ⟨_, rfl⟩
  obtain ⟨X1, eX1⟩ : ∃ X1, x * sx = X1 := ⟨_, rfl⟩
  have iY1 : (y : Int) * (sy : Int) = (Y1 : Int) := by rw [← eY1]; push_cast; rfl
  have iX1 : (x : Int) * (sx : Int) = (X1 : Int) := by rw [← eX1]; push_cast; rfl
  rw [iY1] at hy0
  rw [iX1] at hx0
  rw [eY1] at by1
  rw [eX1] at bx1
  clear eY1 eX1
  have wY1 : IntKind.i64.wrap (Y1 : Int) = (Y1 : Int) := by rw [IntKind.wrap_i64]; omega
  have wX1 : IntKind.i64.wrap (X1 : Int) = (X1 : Int) := by rw [IntKind.wrap_i64]; omega
  have wy0 : IntKind.i64.wrap y0 = y0 := by rw [IntKind.wrap_i64]; omega
  have wx0 : IntKind.i64.wrap x0 = x0 := by rw [IntKind.wrap_i64]; omega
  have HCP := hid1 (fun W p1 p2 => copied_any M G1 G2 M M _ _ W hM0 (by omega) (Wr.row p1 (by rw [← hM]; exact js_bound (fun _ _ => hxs))) (Wr.row p2 (by rw [← hM]; exact js_bound (fun _ _ => hxm))))
  have HW1 := hid1 (within_any y0 r H (by omega) (by omega))
  have HW2 := hid1 (within_any x0 s V (by omega) (by omega))
  obtain ⟨fa, efa⟩ : ∃ fa : Nat, max 0 (-y0) = (fa : Int) := ⟨(max 0 (-y0)).toNat, by omega⟩
  obtain ⟨fc, efc⟩ : ∃ fc : Nat, max 0 (-x0) = (fc : Int) := ⟨(max 0 (-x0)).toNat, by omega⟩
  obtain ⟨ea, eea⟩ : ∃ ea : Int, min (r : Int) ((H : Int) - y0) = ea := ⟨_, rfl⟩
  obtain ⟨ec, eec⟩ : ∃ ec : Int, min (s : Int) ((V : Int) - x0) = ec := ⟨_, rfl⟩
  rw [efa, eea] at HW1
  rw [efc, eec] at HW2
  have bea : ea ≤ 15 := by omega
  have bec : ec ≤ 15 := by omega
  have bfa : fa ≤ 14 := by omega
  have bfc : fc ≤ 14 := by omega
  have EFA := hid1 efa
  have EFC := hid1 efc
  have EEA := hid1 eea
  have EEC := hid1 eec
  clear efa efc eea eec
  obtain ⟨vw, evw⟩ : ∃ vw : Vw, (⟨H, V, C, some ⟨g, o, none⟩, m, cap, r, s, sy, sx, t, l, b, q, nw C, some ⟨ch, 0, none⟩, nw C, bt M G1 0, bt M G2 0⟩ : Vw) = vw := ⟨_, rfl⟩
  have HVW := hid1 evw
  have hgw : g < w.heap.size := by
    obtain ⟨g', o', e, c⟩ := rN.2 0 (by rw [hm]; exact Nat.mul_pos (Nat.mul_pos (by omega) (by omega)) (by omega))
    cases e
    exact lt_of_cell c
  have HN := hid1 rN
  have HCH := hid1 rch
  have HR1 := hid1 rb1
  have HR2 := hid1 rb2
  have HS1 := hid1 hS1
  have HS2 := hid1 hS2
  have bv0 : (w.alloc (Vw.obj vw)).rowIs w.heap.size 56 18 vw.f := vw_new w vw
  have HB0 : Hid (((w.alloc (Vw.obj vw)).alloc (.cells #[.int .i64 0, .slice none 0 0, .int .i64 0, .slice none 0 0] 46)).rowIs (w.heap.size + 1) 46 4 (qf ⟨0, none, 0, 0, 0⟩ ⟨0, none, 0, 0, 0⟩)) := by
    have := q_new (w.alloc (Vw.obj vw)) ⟨0, none, 0, 0, 0⟩ ⟨0, none, 0, 0, 0⟩ 46
    rw [World.size_alloc] at this
    exact this
  have HB1 := hid1 (bv0.alloc (.cells #[.int .i64 0, .slice none 0 0, .int .i64 0, .slice none 0 0] 46))
  rw [← evw] at HB0 HB1
  have EHM := hid1 hm
  have EMM := hid1 hM
  have HXS := hid1 hxs
  have HXM := hid1 hxm
  clear rN rch rb1 rb2 hS1 hS2 evw bv0 hxs hxm hm hM
  go_enter Try.func17, Try.ntmps17
  go_upto_region 1 with fail
  refine gen_world (fun X => X.rowIs w.heap.size 56 18 vw.f ∧ X.rowIs (w.heap.size + 1) 46 4 (qf ⟨0, none, 0, 0, 0⟩ ⟨0, none, 0, 0, 0⟩) ∧ Below w.heap.size w X) ⟨by rw [← HVW.out]; exact HB1.out, HB0.out, bl_alloc (bl_alloc (Below.refl _ _) _) _⟩ ?_
  clear HB0 HB1
  rintro X ⟨bv, bz, BX⟩
  have c14 := bv.cell (i := 14) (by omega)
  have c15 := bv.cell (i := 15) (by omega)
  have c16 := bv.cell (i := 16) (by omega)
  have c17 := bv.cell (i := 17) (by omega)
  rw [← HVW.out] at c14 c15 c16 c17
  simp only [Vw.f] at c14 c15 c16 c17
  have HBV := hid1 bv
  have HBZ := hid1 bz
  have HBX := hid1 BX
  clear bv bz BX
  go_wp2_with fail
  refine (HCP.out X (keepr HBX.out HR1.out) (keepr HBX.out HR2.out)).mono ?_
  rintro e y1 ⟨A1, K1, A2, K2, rfl, hA1, hA2, hne, o1, o2, hb⟩
  have lz := HBZ.out.lt
  have HFA : Fa w y1.heap.size A1 A2 := ⟨by omega, by omega, hne, o1.lt, o2.lt⟩
  have HFM : Hid (Fm w (y1.alloc (.cells #[.int .i64 ((64 * M : Nat) : Int), .slice (some ⟨A1, 0, none⟩) M K1, .int .i64 ((64 * M : Nat) : Int), .slice (some ⟨A2, 0, none⟩) M K2] 46)) vw y1.heap.size A1 K1 A2 K2 M (js (64 * nw C) (fun _ => xs) (r * s)) (js (64 * nw C) (fun _ => xm) (r * s))) :=
    ⟨(keepr hb HBV.out).alloc _, (keepr hb HBZ.out).alloc _, q_new y1 (bk M A1 K1 0) (bk M A2 K2 0) _, o1.below (bl_alloc (Below.refl _ _) _), o2.below (bl_alloc (Below.refl _ _) _), bl_alloc (bl_step HBX.out hb) _⟩
  clear c14 c15 c16 c17 HBV HBZ HBX hb o1 o2 hne hA1 hA2 lz HCP HR1 HR2
  go_upto_region 2 with fail
  refine gen_world (fun X => Fm w X vw y1.heap.size A1 K1 A2 K2 M (js (64 * nw C) (fun _ => xs) (r * s)) (js (64 * nw C) (fun _ => xm) (r * s))) HFM.out ?_
  clear HFM
  intro X0 fm
  have HFM := hid1 fm
  have v0 := fm.v.cell (i := 0) (by omega)
  have v1 := fm.v.cell (i := 1) (by omega)
  have v4 := fm.v.cell (i := 4) (by omega)
  have v5 := fm.v.cell (i := 5) (by omega)
  have v6 := fm.v.cell (i := 6) (by omega)
  have v7 := fm.v.cell (i := 7) (by omega)
  have v8 := fm.v.cell (i := 8) (by omega)
  have v9 := fm.v.cell (i := 9) (by omega)
  rw [← HVW.out] at v0 v1 v4 v5 v6 v7 v8 v9
  simp only [Vw.f] at v0 v1 v4 v5 v6 v7 v8 v9
  clear fm
  go_quiet (fail)
  go_upto_region 3 with fail
  refine gen_world (fun X => Fm w X vw y1.heap.size A1 K1 A2 K2 M (js (64 * nw C) (fun _ => xs) (r * s)) (js (64 * nw C) (fun _ => xm) (r * s))) (HFM.out.drewN _) ?_
  clear HFM v0 v1 v4 v5 v6 v7 v8 v9
  intro X1w fm
  have HFM := hid1 fm
  have v0 := fm.v.cell (i := 0) (by omega)
  have v1 := fm.v.cell (i := 1) (by omega)
  have v4 := fm.v.cell (i := 4) (by omega)
  have v5 := fm.v.cell (i := 5) (by omega)
  rw [← HVW.out] at v0 v1 v4 v5
  simp only [Vw.f] at v0 v1 v4 v5
  clear fm
  go_upto_region 4 with (go_at_call 37; refine (HW1.out _).mono ?_; rintro e y2 ⟨rfl, rfl⟩)
  go_upto_region 5 with (go_at_call 37; refine (HW2.out _).mono ?_; rintro e y3 ⟨rfl, rfl⟩)
  go_wp2_with fail
  clear v0 v1 v4 v5
  go_loopw [14] (fun i wr => ∃ a : Nat, fa ≤ a ∧ a ≤ 15 ∧ i = .int .i64 a ∧ Fm w wr vw y1.heap.size A1 K1 A2 K2 M (js (64 * nw C) (unP H V y0 x0 s a fc (fun p => pl N (nw C) (ixP V y0 x0 s p)) xs) (r * s)) (js (64 * nw C) (unP H V y0 x0 s a fc (fun _ => ful C) xm) (r * s))) (fun i _ => 15 - (intOf i).toNat)
  case atStart =>
    refine ⟨fa, Nat.le_refl _, by omega, rfl, ?_⟩
    rw [js_congr (P := unP H V y0 x0 s fa fc _ xs) (r * s) (fun p _ => unP_start EFA.out.symm EFC.out.symm p), js_congr (P := unP H V y0 x0 s fa fc _ xm) (r * s) (fun p _ => unP_start EFA.out.symm EFC.out.symm p)]
    exact HFM.out
  case round =>
    clear HFM
    obtain ⟨a, ha1, ha2, rfl, fm⟩ := hrel
    have ia0 : (0 : Int) ≤ (a : Int) := by omega
    have HFM := hid1 fm
    clear fm
    by_cases hlt : (a : Int) < ea
    · go_wp2_with fail
      go_loopw [15] (fun i wr => ∃ c : Nat, fc ≤ c ∧ c ≤ 15 ∧ i = .int .i64 c ∧ Fm w wr vw y1.heap.size A1 K1 A2 K2 M (js (64 * nw C) (unP H V y0 x0 s a c (fun p => pl N (nw C) (ixP V y0 x0 s p)) xs) (r * s)) (js (64 * nw C) (unP H V y0 x0 s a c (fun _ => ful C) xm) (r * s))) (fun i _ => 15 - (intOf i).toNat)
      case atStart => exact ⟨fc, Nat.le_refl _, by omega, rfl, HFM.out⟩
      case round =>
        clear HFM
        obtain ⟨c, hc1, hc2, rfl, fm⟩ := hrel
        have ic0 : (0 : Int) ≤ (c : Int) := by omega
        have HFM := hid1 fm
        clear fm
        by_cases hlc : (c : Int) < ec
        · have HSTEP := hid1 (from_step cap (xs := xs) (xm := xm) (vw := vw) hC hr.2 hs hgw EHM.out EMM.out HXS.out HXM.out (by rw [EFA.out]; exact_mod_cast ha1) (by rw [EFC.out]; exact_mod_cast hc1) EEA.out.symm EEC.out.symm hlt hlc HFA HFM.out (HN.out.below HFM.out.b) (keepr HFM.out.b HCH.out))
          obtain ⟨ya, yv, ix, I0, I1, W3, W4, eya, hya, eyv, eix, hix, eI0, haS, hI0, eI1, hI1, cp3, fm3, cp4, fm4⟩ := HSTEP.out
          have v1 := HFM.out.v.cell (i := 1) (by omega)
          have v3 := fm3.v.cell (i := 3) (by omega)
          have v5 := HFM.out.v.cell (i := 5) (by omega)
          have v12 := HFM.out.v.cell (i := 12) (by omega)
          have v13 := HFM.out.v.cell (i := 13) (by omega)
          have u12 := fm3.v.cell (i := 12) (by omega)
          rw [← HVW.out] at v1 v3 v5 v12 v13 u12
          simp only [Vw.f] at v1 v3 v5 v12 v13 u12
          have s3 := q3 HFM.out.s
          have t1 := q1 fm3.s
          have hHV := (wo_bd hH.2 hV.2 hC.2).1
          have iyv : yv ≤ 16777216 := by
            have h1 : ya * V = yv := by exact_mod_cast eyv
            have := Nat.mul_le_mul (show ya ≤ 4096 by omega) hV.2
            omega
          obtain ⟨as1, eas⟩ : ∃ as1, a * s = as1 := ⟨_, rfl⟩
          have ias : (a : Int) * (s : Int) = (as1 : Int) := by rw [← eas]; push_cast; rfl
          rw [ias] at eI0
          rw [eas] at haS
          have kK1 := fm3.o1.2.1
          have kK2 := HFM.out.o2.2.1
          have kK3 := fm3.o1.2.2.1
          have kK4 := HFM.out.o2.2.2.1
          have w1 : IntKind.i64.wrap (as1 : Int) = (as1 : Int) := by rw [IntKind.wrap_i64]; omega
          have w2 : IntKind.i64.wrap ((as1 : Int) + (c : Int)) = (as1 : Int) + (c : Int) := by rw [IntKind.wrap_i64]; omega
          have w3 : IntKind.i64.wrap (I0 : Int) = (I0 : Int) := by rw [IntKind.wrap_i64]; omega
          have w4 : IntKind.i64.wrap (ya : Int) = (ya : Int) := by rw [IntKind.wrap_i64]; omega
          have w5 : IntKind.i64.wrap (yv : Int) = (yv : Int) := by rw [IntKind.wrap_i64]; omega
          have w6 : IntKind.i64.wrap ((yv : Int) + x0) = (yv : Int) + x0 := by rw [IntKind.wrap_i64]; omega
          have w7 : IntKind.i64.wrap (ix : Int) = (ix : Int) := by rw [IntKind.wrap_i64]; omega
          have hmb := (wo_bd hH.2 hV.2 hC.2).2
          rw [← EHM.out] at hmb
          have w8 : IntKind.i64.wrap (I1 : Int) = (I1 : Int) := by rw [IntKind.wrap_i64]; omega
          obtain ⟨I2, eI2⟩ : ∃ I2, I1 + nw C = I2 := ⟨_, rfl⟩
          have w9 : IntKind.i64.wrap ((I1 : Int) + (nw C : Int)) = (I2 : Int) := by rw [IntKind.wrap_i64]; omega
          have k1 : (0 : Int) ≤ (I2 : Int) := by omega
          have k2 : (I2 : Int) ≤ (cap : Int) := by omega
          have k2' : I2 ≤ cap := by omega
          have k3 : I1 ≤ I2 := by omega
          have k4 : I2 - I1 = nw C := by omega
          have j1 : I0 ≤ M := by omega
          have j2 : ¬ K2 = I0 := by omega
          have j3 : ¬ K1 = I0 := by omega
          have j6 : ¬ cap = I1 := by omega
          have HX := hid1 fm4
          have iI0 : (0 : Int) ≤ (I0 : Int) := by omega
          have iI1 : (0 : Int) ≤ (I1 : Int) := by omega
          clear fm3 fm4 HSTEP HFM eas eI2 hI1
          go_wp2_with fail
          refine still_tail 7 (by kernel_rfl) ?_
          simp only [List.take_succ_cons, List.take_zero, List.drop_succ_cons, List.drop_zero]
          repeat still_step
          refine wpStill_nil ?_
          go_wp2_with fail
          refine still_tail 14 (by kernel_rfl) ?_
          simp only [List.take_succ_cons, List.take_zero, List.drop_succ_cons, List.drop_zero]
          repeat still_step
          refine wpStill_nil ?_
          go_wp2_with fail
          exact ⟨⟨c + 1, by omega, by omega, by go_num, HX.out⟩, by simp [intOf]; omega⟩
        · have hlc' : ec ≤ (c : Int) := by omega
          have HX : Hid (Fm w wr vw y1.heap.size A1 K1 A2 K2 M (js (64 * nw C) (unP H V y0 x0 s (a + 1) fc (fun p => pl N (nw C) (ixP V y0 x0 s p)) xs) (r * s)) (js (64 * nw C) (unP H V y0 x0 s (a + 1) fc (fun _ => ful C) xm) (r * s))) := by
            have := HFM.out
            rw [js_congr (P := unP H V y0 x0 s a c _ xs) (r * s) (fun p _ => unP_row EEC.out.symm hlc' EFC.out.symm hs.1 p), js_congr (P := unP H V y0 x0 s a c _ xm) (r * s) (fun p _ => unP_row EEC.out.symm hlc' EFC.out.symm hs.1 p)] at this
            exact this
          clear HFM
          go_wp2_with fail
          exact ⟨⟨a + 1, by omega, by omega, by go_num, HX.out⟩, by simp [intOf]; omega⟩
    · have hla : ea ≤ (a : Int) := by omega
      have HX : Hid (Fm w wr vw y1.heap.size A1 K1 A2 K2 M S1 S2) := by
        have := HFM.out
        rw [js_congr (P := unP H V y0 x0 s a fc _ xs) (r * s) (fun p hp => unP_end EEA.out.symm hla hp), js_congr (P := unP H V y0 x0 s a fc _ xm) (r * s) (fun p hp => unP_end EEA.out.symm hla hp)] at this
        have e1 := HS1.out
        have e2 := HS2.out
        unfold plP at e1
        unfold mkP at e2
        rw [e1, e2] at this
        exact this
      clear HFM
      have fm := HX.out
      have s0 := q0 fm.s
      have s1 := q1 fm.s
      have s2 := q2 fm.s
      have s3 := q3 fm.s
      have f0 := fm.z.frozen 0
      have f1 := fm.z.frozen 1
      have f2 := fm.z.frozen 2
      have f3 := fm.z.frozen 3
      have d0 := q0 fm.z
      have d1 := q1 fm.z
      have d2 := q2 fm.z
      have d3 := q3 fm.z
      clear fm
      go_wp2_with fail
      have btz : But (w.heap.size + 1) wr _ := (((((But.refl (w.heap.size + 1) wr).set (o := 0) (.int .i64 ((64 * M : Nat) : Int))).set (o := 1) (.slice (some ⟨A1, 0, none⟩) M K1)).set (o := 2) (.int .i64 ((64 * M : Nat) : Int))).set (o := 3) (.slice (some ⟨A2, 0, none⟩) M K2))
      obtain ⟨a1, a2, a3, a4, a5⟩ := HFA
      refine bodyPost_ret (v := rwv (bk M A1 K1 S1) (bk M A2 K2 S2)) (by simp [results, Try.results17, go_sem, d0, d1, d2, d3]) rfl ⟨A1, K1, A2, K2, rfl, by omega, by omega, a3, HX.out.o1.but btz (by omega), HX.out.o2.but btz (by omega), btz.below (by omega) HX.out.b.size HX.out.b⟩
end Go.Proofs.Ytohkiknhjcibgaa
