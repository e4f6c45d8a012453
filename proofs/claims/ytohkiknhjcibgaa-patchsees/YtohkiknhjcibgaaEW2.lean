/- PACKAGE patch: copied. -/
import Derived.Test.YtohkiknhjcibgaaEW1
import Derived.Test.YtohkiknhjcibgaaKW8
namespace Go.Proofs.Ytohkiknhjcibgaa
open Go.RowKit Go.Shelf

/-- The first m words of a block of K words are the number N. -/
def Ow (W : World) (G K m N : Nat) : Prop := N < 2 ^ (64 * m) ∧ m ≤ K ∧ K ≤ 9223372036854775807 ∧ ∃ f, W.rowIs G 41 K f ∧ ∀ j, j < m → f j = wf N j
theorem Ow.below {W X : World} {G K m N : Nat} (h : Ow W G K m N) (hb : Below W.heap.size W X) : Ow X G K m N := by
  obtain ⟨h1, h2, h3, f, r, e⟩ := h; exact ⟨h1, h2, h3, f, keepr hb r, e⟩
theorem Ow.but {W X : World} {G K m N g : Nat} (h : Ow W G K m N) (hb : But g W X) (hne : G ≠ g) : Ow X G K m N := by
  obtain ⟨h1, h2, h3, f, r, e⟩ := h; exact ⟨h1, h2, h3, f, hb.row hne r, e⟩
theorem Ow.wr {W : World} {G K m N : Nat} (h : Ow W G K m N) : Wr W (some ⟨G, 0, none⟩) m N := by
  obtain ⟨h1, h2, _, f, r, e⟩ := h
  exact ⟨h1, fun k hk => ⟨G, 0, rfl, by rw [Nat.zero_add, ← e k hk]; exact r.cell (by omega)⟩⟩
theorem Ow.lt {W : World} {G K m N : Nat} (h : Ow W G K m N) : G < W.heap.size := by
  obtain ⟨_, _, _, f, r, _⟩ := h; exact r.lt
theorem Ow.row {W : World} {G m N : Nat} (h : W.rowIs G 41 m (wf N)) (hN : N < 2 ^ (64 * m)) (hm : m ≤ 9223372036854775807) : Ow W G m m N := ⟨hN, Nat.le_refl _, hm, _, h, fun _ _ => rfl⟩
theorem Ow.own {W : World} {base G K m N : Nat} (h : W.ownsRow base 41 1 (.slice (some ⟨G, 0, none⟩) m K) m (wl N m)) (hm : 0 < m) (hN : N < 2 ^ (64 * m)) : Ow W G K m N := by
  obtain ⟨g, cap, f, e, _, h4, h5, r, q⟩ := own_row h hm
  cases e
  refine ⟨hN, h4, by unfold maxLen at h5; omega, f, r, fun j hj => ?_⟩
  have := q j hj
  rw [wl_at hj] at this
  injection this with this
  exact this.symm
/-- A list of m words in a block of K. -/
abbrev bk (m G K N : Nat) : Bt := ⟨(64 * m : Nat), some ⟨G, 0, none⟩, m, K, N⟩
theorem q_set {w : World} {b t : Nat} {A B : Bt} (r : w.rowIs b t 4 (qf A B)) (a1 a2 : Option Addr) (m1 m2 k1 k2 : Nat) : ((w.setCell ⟨b, 1, none⟩ (.slice a1 m1 k1)).setCell ⟨b, 3, none⟩ (.slice a2 m2 k2)).rowIs b t 4 (qf ⟨A.n, a1, m1, k1, A.N⟩ ⟨B.n, a2, m2, k2, B.N⟩) := ((r.set 1 _).set 3 _).congr fun k hk => by
  have : k = 0 ∨ k = 1 ∨ k = 2 ∨ k = 3 := by omega
  rcases this with rfl | rfl | rfl | rfl <;> simp [qf]
theorem q_all {w : World} {b t : Nat} {A B : Bt} (r : w.rowIs b t 4 (qf A B)) (C D : Bt) : ((((w.setCell ⟨b, 0, none⟩ (.int .i64 C.n)).setCell ⟨b, 1, none⟩ (.slice C.ao C.m C.cap)).setCell ⟨b, 2, none⟩ (.int .i64 D.n)).setCell ⟨b, 3, none⟩ (.slice D.ao D.m D.cap)).rowIs b t 4 (qf C D) := ((((r.set 0 _).set 1 _).set 2 _).set 3 _).congr fun k hk => by
  have : k = 0 ∨ k = 1 ∨ k = 2 ∨ k = 3 := by omega
  rcases this with rfl | rfl | rfl | rfl <;> simp [qf]
theorem copied_end {w X y1 y2 : World} {m G1 K1 G2 K2 N1 N2 b1 b2 : Nat} {A B C D : Bt} (h0 : y2.rowIs w.heap.size 46 4 (qf A B)) (h1 : y2.rowIs (w.heap.size + 1) 46 4 (qf C D))
    (o1 : y1.ownsRow b1 41 1 (.slice (some ⟨G1, 0, none⟩) m K1) m (wl N1 m)) (o2 : y2.ownsRow b2 41 1 (.slice (some ⟨G2, 0, none⟩) m K2) m (wl N2 m)) (hb2 : Below y1.heap.size y1 y2) (hG1 : X.heap.size ≤ G1) (hG2 : y1.heap.size ≤ G2)
    (BY : Below w.heap.size w y1) (hm : 0 < m) (hN1 : N1 < 2 ^ (64 * m)) (hN2 : N2 < 2 ^ (64 * m)) (hX : w.heap.size + 1 < X.heap.size) :
    ∃ G1' K1' G2' K2', ((y2.setCell ⟨w.heap.size, 1, none⟩ (.slice (some ⟨G1, 0, none⟩) m K1)).setCell ⟨w.heap.size, 3, none⟩ (.slice (some ⟨G2, 0, none⟩) m K2)).rowIs w.heap.size 46 4 (qf ⟨A.n, some ⟨G1', 0, none⟩, m, K1', A.N⟩ ⟨B.n, some ⟨G2', 0, none⟩, m, K2', B.N⟩) ∧ ((y2.setCell ⟨w.heap.size, 1, none⟩ (.slice (some ⟨G1, 0, none⟩) m K1)).setCell ⟨w.heap.size, 3, none⟩ (.slice (some ⟨G2, 0, none⟩) m K2)).rowIs (w.heap.size + 1) 46 4 (qf C D) ∧ w.heap.size + 1 < G1' ∧ w.heap.size + 1 < G2' ∧ G1' ≠ G2' ∧
      Ow ((y2.setCell ⟨w.heap.size, 1, none⟩ (.slice (some ⟨G1, 0, none⟩) m K1)).setCell ⟨w.heap.size, 3, none⟩ (.slice (some ⟨G2, 0, none⟩) m K2)) G1' K1' m N1 ∧ Ow ((y2.setCell ⟨w.heap.size, 1, none⟩ (.slice (some ⟨G1, 0, none⟩) m K1)).setCell ⟨w.heap.size, 3, none⟩ (.slice (some ⟨G2, 0, none⟩) m K2)) G2' K2' m N2 ∧ Below w.heap.size w ((y2.setCell ⟨w.heap.size, 1, none⟩ (.slice (some ⟨G1, 0, none⟩) m K1)).setCell ⟨w.heap.size, 3, none⟩ (.slice (some ⟨G2, 0, none⟩) m K2)) := by
  have q1 := Ow.own o1 hm hN1
  have q2 := Ow.own o2 hm hN2
  have l1 := q1.lt
  have bt : But w.heap.size y2 ((y2.setCell ⟨w.heap.size, 1, none⟩ (.slice (some ⟨G1, 0, none⟩) m K1)).setCell ⟨w.heap.size, 3, none⟩ (.slice (some ⟨G2, 0, none⟩) m K2)) := (((But.refl w.heap.size y2).set _).set _)
  have := hb2.size
  have hs : w.heap.size < y2.heap.size := h0.lt
  exact ⟨G1, K1, G2, K2, q_set h0 _ _ _ _ _ _, bt.row (by omega) h1, by omega, by omega, by omega, (q1.below hb2).but bt (by omega), q2.but bt (by omega), bl_set (bl_set (bl_step BY hb2) (Nat.le_refl _) _) (Nat.le_refl _) _⟩
set_option maxHeartbeats 1600000 in
set_option maxRecDepth 100000 in
theorem copied_any (m g1 g2 k1 k2 N1 N2 : Nat) (w : World) (h0 : 0 < m) (h1 : m ≤ 1073741824) (r1 : Wr w (some ⟨g1, 0, none⟩) m N1) (r2 : Wr w (some ⟨g2, 0, none⟩) m N2) :
    Calls Try.prog 36 #[rwv (bk m g1 k1 N1) (bk m g2 k2 N2)] w fun e w' => ∃ G1 K1 G2 K2, e = .returned (rwv (bk m G1 K1 N1) (bk m G2 K2 N2)) ∧ w.heap.size ≤ G1 ∧ w.heap.size ≤ G2 ∧ G1 ≠ G2 ∧ Ow w' G1 K1 m N1 ∧ Ow w' G2 K2 m N2 ∧ Below w.heap.size w w' := by
  have HC1 := hid1 (fun W r => clone_any g1 0 m k1 N1 W h0 h1 r)
  have HC2 := hid1 (fun W r => clone_any g2 0 m k2 N2 W h0 h1 r)
  have HR1 := hid1 r1
  have HR2 := hid1 r2
  clear r1 r2
  have hfo := follows
  go_enter Try.func36, Try.ntmps36
  go_upto_region 1 with fail
  refine gen_world (fun X => X.rowIs w.heap.size 46 4 (qf (bk m g1 k1 N1) (bk m g2 k2 N2)) ∧ X.rowIs (w.heap.size + 1) 46 4 (qf ⟨0, none, 0, 0, 0⟩ ⟨0, none, 0, 0, 0⟩) ∧ Below w.heap.size w X) ⟨(q_new w (bk m g1 k1 N1) (bk m g2 k2 N2) _).alloc _, by have := q_new (w.alloc (.cells #[.int .i64 (64 * m : Nat), .slice (some ⟨g1, 0, none⟩) m k1, .int .i64 (64 * m : Nat), .slice (some ⟨g2, 0, none⟩) m k2] 46)) ⟨0, none, 0, 0, 0⟩ ⟨0, none, 0, 0, 0⟩ 46; rwa [World.size_alloc] at this, bl_alloc (bl_alloc (Below.refl _ _) _) _⟩ ?_
  rintro X ⟨b0, b1, BX⟩
  have HB0 := hid1 b0
  have HB1 := hid1 b1
  have HBX := hid1 BX
  have c1 := q1 b0
  have c3 := q3 b0
  have lb := b0.lt
  have lx := b1.lt
  clear b0 b1 BX
  go_cut [] from 3 to 14 (fun wx => ∃ G1 K1 G2 K2, wx.rowIs w.heap.size 46 4 (qf (bk m G1 K1 N1) (bk m G2 K2 N2)) ∧ wx.rowIs (w.heap.size + 1) 46 4 (qf ⟨0, none, 0, 0, 0⟩ ⟨0, none, 0, 0, 0⟩) ∧ w.heap.size + 1 < G1 ∧ w.heap.size + 1 < G2 ∧ G1 ≠ G2 ∧ Ow wx G1 K1 m N1 ∧ Ow wx G2 K2 m N2 ∧ Below w.heap.size w wx)
  case first =>
    go_region_with (go_at_call 53; first
      | (refine (HC1.out _ (HR1.out.below (HBX.out.drew))).mono ?_; rintro e y1 ⟨G1, K1, rfl, hG1, hK1, hL1, own1, _, hb1⟩; have u0 := keepr hb1 HB0.out.drew; have u1 := q1 u0; have u3 := q3 u0; have HU0 := hid1 u0; have HU1 := hid1 (keepr hb1 HB1.out.drew); have HO1 := hid1 own1; have HY1 := hid1 (bl_step HBX.out.drew hb1); clear u0 own1 hb1)
      | (refine (HC2.out _ (HR2.out.below HY1.out)).mono ?_; rintro e y2 ⟨G2, K2, rfl, hG2, hK2, hL2, own2, _, hb2⟩; have u0 := keepr hb2 HU0.out; have f1 := u0.frozen 1; have f3 := u0.frozen 3; have u1 := q1 u0; have u3 := q3 u0; have HV0 := hid1 u0; have HV1 := hid1 (keepr hb2 HU1.out); have HO2 := hid1 own2; have HB2 := hid1 hb2; clear u0 own2 hb2))
    all_goals (refine kmeet_of (by assumption) ?_; go_meet; exact copied_end HV0.out HV1.out HO1.out HO2.out HB2.out hG1 hG2 HY1.out h0 HR1.out.1 HR2.out.1 lx)
  case rest =>
    obtain ⟨G1, K1, G2, K2, b0, b1, hG1, hG2, hne, o1, o2, B2⟩ := hcut
    have c0 := q0 b0
    have c1 := q1 b0
    have c2 := q2 b0
    have c3 := q3 b0
    have lb := b0.lt
    have f0 := b1.frozen 0
    have f1 := b1.frozen 1
    have f2 := b1.frozen 2
    have f3 := b1.frozen 3
    have d0 := q0 b1
    have d1 := q1 b1
    have d2 := q2 b1
    have d3 := q3 b1
    clear b0 b1
    go_wp2_with fail
    refine bodyPost_ret (v := rwv (bk m G1 K1 N1) (bk m G2 K2 N2)) (by simp [results, Try.results36, go_sem, d0, d1, d2, d3]) rfl ⟨_, _, _, _, rfl, by omega, by omega, hne, ?_, ?_, bl_set (bl_set (bl_set (bl_set B2 (by omega) _) (by omega) _) (by omega) _) (by omega) _⟩
    · exact o1.but (((((But.refl (w.heap.size + 1) wc).set _).set _).set _).set _) (by omega)
    · exact o2.but (((((But.refl (w.heap.size + 1) wc).set _).set _).set _).set _) (by omega)
end Go.Proofs.Ytohkiknhjcibgaa
