/- PACKAGE pool: pooled, Max, Min. -/
import Derived.Test.YtmbhapegdbajpaaUW4
import Derived.Test.YtmbhapegdbajpaaKW7
namespace Go.Proofs.Ytmbhapegdbajpaa
open Go.RowKit Go.Shelf

theorem pooled_start (w : World) (h v c : Int) (ao : Option Addr) (m cap : Nat) (r s sy sx t l b q : Int) : ∃ W, ((w.alloc (.cells #[.int .i64 h, .int .i64 v, .int .i64 c, .slice ao m cap] 35)).alloc (.cells #[.int .i64 r, .int .i64 s, .int .i64 sy, .int .i64 sx, .int .i64 t, .int .i64 l, .int .i64 b, .int .i64 q] 24)).alloc (.cells #[.int .i64 0, .int .i64 0, .int .i64 0, .slice none 0 0] 35) = W ∧ W.heap.size = w.heap.size + 3 ∧ Below w.heap.size w W ∧
    W.rowIs w.heap.size 35 4 (cf h v c ao m cap) ∧ Sg.Wn W (w.heap.size + 1) 0 r s sy sx t l b q ∧ W.rowIs (w.heap.size + 2) 35 4 (cf 0 0 0 none 0 0) := by
  refine ⟨_, rfl, by simp, bl_alloc (bl_alloc (bl_alloc (Below.refl _ _) _) _) _, ((cu_new w _ _ _ _ _ _ _).alloc _).alloc _, ?_, ?_⟩
  · have := Sg.wn_new (w.alloc (.cells #[.int .i64 h, .int .i64 v, .int .i64 c, .slice ao m cap] 35)) r s sy sx t l b q 24
    rw [World.size_alloc] at this
    exact this.keep (bl_alloc (Below.refl _ _) _)
  · have := cu_new ((w.alloc (.cells #[.int .i64 h, .int .i64 v, .int .i64 c, .slice ao m cap] 35)).alloc (.cells #[.int .i64 r, .int .i64 s, .int .i64 sy, .int .i64 sx, .int .i64 t, .int .i64 l, .int .i64 b, .int .i64 q] 24)) 0 0 0 none 0 0 35
    rw [World.size_alloc, World.size_alloc] at this
    exact this
set_option maxHeartbeats 3200000 in
set_option maxRecDepth 100000 in
theorem pooled_bad (F : Nat) (h v c : Int) (ao : Option Addr) (m cap N : Nat) (r s sy sx t l b q : Int) (w : World) (hmc : m ≤ cap) (hcap : cap ≤ 9223372036854775807) (rd : Wr w ao m N) (hE : poE h v c m N r s sy sx t l b q ≠ 0) :
    Calls Try.prog 18 #[cuv h v c ao m cap, Sg.win r s sy sx t l b q, jfn F] w fun e w' => e = .returned (.tuple #[cuv 0 0 0 none 0 0, .int .i64 (poE h v c m N r s sy sx t l b q)]) ∧ Below w.heap.size w w' := by
  have HG := hid1 (fun W r' => given_any h v c ao m cap N r s sy sx t l b q W hmc hcap r')
  have eb : poV h v c m N r s sy sx t l b q = Sg.sle 0 0 0 (poE h v c m N r s sy sx t l b q) := by unfold poV; rw [if_neg hE]
  rw [eb] at HG
  clear eb
  generalize poE h v c m N r s sy sx t l b q = EE at *
  have HST := hid1 (pooled_start w h v c ao m cap r s sy sx t l b q)
  have RD := hid1 rd
  clear rd
  go_enter Try.func18, Try.ntmps18
  go_wp2_with fail
  refine gen_calls (fun W => W.heap.size = w.heap.size + 3 ∧ Below w.heap.size w W ∧ W.rowIs w.heap.size 35 4 (cf h v c ao m cap) ∧ Sg.Wn W (w.heap.size + 1) 0 r s sy sx t l b q ∧ W.rowIs (w.heap.size + 2) 35 4 (cf 0 0 0 none 0 0)) (by obtain ⟨X, rfl, z⟩ := HST.out; exact z) ?_
  rintro W ⟨z0, B0, b0, b1, b2⟩
  refine (HG.out W (RD.out.below B0)).mono ?_
  rintro e w1 ⟨rfl, hb⟩
  replace b2 := keepr hb b2
  have B1 := bl_step B0 hb
  have z1 := hb.size
  clear hb B0 b0 b1
  have f0 := b2.frozen 0
  have f1 := b2.frozen 1
  have f2 := b2.frozen 2
  have f3 := b2.frozen 3
  have d0 := cf0 b2
  have d1 := cf1 b2
  have d2 := cf2 b2
  have d3 := cf3 b2
  have l2 := b2.lt
  go_wp2_with fail
  have u := (cf_set b2 0 0 0 none 0 0).alloc (.cells #[.int .i64 0, .int .i64 0, .int .i64 0] 32)
  have u0 := cf0 u
  have u1 := cf1 u
  have u2 := cf2 u
  have u3 := cf3 u
  exact bodyPost_ret (v := .tuple #[cuv 0 0 0 none 0 0, .int .i64 EE]) (by simp [results, Try.results18, go_sem, u0, u1, u2, u3]) rfl ⟨rfl, bl_alloc (bl_set (bl_set (bl_set (bl_set B1 (by omega) _) (by omega) _) (by omega) _) (by omega) _) _⟩
theorem kpP {W X : World} {b k : Nat} {v0 v1 v2 v3 v4 v5 v6 v7 v8 v9 v10 v11 v12 v13 v14 : Value} (h : (W.cell? ⟨b, 0, none⟩ = some v0 ∧ W.cell? ⟨b, 1, none⟩ = some v1 ∧ W.cell? ⟨b, 2, none⟩ = some v2 ∧ W.cell? ⟨b, 3, none⟩ = some v3) ∧ (W.cell? ⟨b + 1, 0, none⟩ = some v4 ∧ W.cell? ⟨b + 1, 1, none⟩ = some v5 ∧ W.cell? ⟨b + 1, 2, none⟩ = some v6 ∧ W.cell? ⟨b + 1, 3, none⟩ = some v7 ∧ W.cell? ⟨b + 1, 4, none⟩ = some v8 ∧ W.cell? ⟨b + 1, 5, none⟩ = some v9 ∧ W.cell? ⟨b + 1, 6, none⟩ = some v10 ∧ W.cell? ⟨b + 1, 7, none⟩ = some v11) ∧ W.cell? ⟨k, 0, none⟩ = some v12 ∧ W.cell? ⟨k, 1, none⟩ = some v13 ∧ W.cell? ⟨k, 2, none⟩ = some v14) (hk : k ≠ b + 2) (bt : But (b + 2) W X) :
    (X.cell? ⟨b, 0, none⟩ = some v0 ∧ X.cell? ⟨b, 1, none⟩ = some v1 ∧ X.cell? ⟨b, 2, none⟩ = some v2 ∧ X.cell? ⟨b, 3, none⟩ = some v3) ∧ (X.cell? ⟨b + 1, 0, none⟩ = some v4 ∧ X.cell? ⟨b + 1, 1, none⟩ = some v5 ∧ X.cell? ⟨b + 1, 2, none⟩ = some v6 ∧ X.cell? ⟨b + 1, 3, none⟩ = some v7 ∧ X.cell? ⟨b + 1, 4, none⟩ = some v8 ∧ X.cell? ⟨b + 1, 5, none⟩ = some v9 ∧ X.cell? ⟨b + 1, 6, none⟩ = some v10 ∧ X.cell? ⟨b + 1, 7, none⟩ = some v11) ∧ X.cell? ⟨k, 0, none⟩ = some v12 ∧ X.cell? ⟨k, 1, none⟩ = some v13 ∧ X.cell? ⟨k, 2, none⟩ = some v14 := by
  obtain ⟨⟨a0, a1, a2, a3⟩, ⟨b0, b1, b2, b3, b4, b5, b6, b7⟩, c0, c1, c2⟩ := h
  exact ⟨⟨bt.cell (by omega) a0, bt.cell (by omega) a1, bt.cell (by omega) a2, bt.cell (by omega) a3⟩, ⟨bt.cell (by omega) b0, bt.cell (by omega) b1, bt.cell (by omega) b2, bt.cell (by omega) b3, bt.cell (by omega) b4, bt.cell (by omega) b5, bt.cell (by omega) b6, bt.cell (by omega) b7⟩, bt.cell hk c0, bt.cell hk c1, bt.cell hk c2⟩
theorem pool_end {w y : World} {b z G M X : Nat} {h v c : Int} (r : y.rowIs b 35 4 (cf 0 0 0 none 0 0)) (row : y.rowIs G 47 M (wf X)) (hG : z ≤ G) (hb : w.heap.size ≤ b ∧ b < z) (B : Below w.heap.size w y) : ((((y.setCell ⟨b, 0, none⟩ (.int .i64 h)).setCell ⟨b, 1, none⟩ (.int .i64 v)).setCell ⟨b, 2, none⟩ (.int .i64 c)).setCell ⟨b, 3, none⟩ (.slice (some ⟨G, 0, none⟩) M M)).rowIs b 35 4 (cf h v c (some ⟨G, 0, none⟩) M M) ∧ w.heap.size ≤ G ∧ ((((y.setCell ⟨b, 0, none⟩ (.int .i64 h)).setCell ⟨b, 1, none⟩ (.int .i64 v)).setCell ⟨b, 2, none⟩ (.int .i64 c)).setCell ⟨b, 3, none⟩ (.slice (some ⟨G, 0, none⟩) M M)).rowIs G 47 M (wf X) ∧ Below w.heap.size w ((((y.setCell ⟨b, 0, none⟩ (.int .i64 h)).setCell ⟨b, 1, none⟩ (.int .i64 v)).setCell ⟨b, 2, none⟩ (.int .i64 c)).setCell ⟨b, 3, none⟩ (.slice (some ⟨G, 0, none⟩) M M)) := by
  obtain ⟨hb1, hb2⟩ := hb
  have bt : But b y ((((y.setCell ⟨b, 0, none⟩ (.int .i64 h)).setCell ⟨b, 1, none⟩ (.int .i64 v)).setCell ⟨b, 2, none⟩ (.int .i64 c)).setCell ⟨b, 3, none⟩ (.slice (some ⟨G, 0, none⟩) M M)) := ((((But.refl b y).set _).set _).set _).set _
  exact ⟨cf_set r _ _ _ _ _ _, by omega, bt.row (by omega) row, bl_set (bl_set (bl_set (bl_set B hb1 _) hb1 _) hb1 _) hb1 _⟩
set_option maxHeartbeats 3200000 in
set_option maxRecDepth 100000 in
theorem pooled_ok (al : Bool) (F : Nat) (HJ : Jok al F) (H V C R S y x g o m cap N OH OW M : Nat) (w : World) (pg : Pg H V C R S y x m N) (eH : oS H R y = OH) (eW : oS V S x = OW) (eM : OH * OW * nw C = M) (hmc : m ≤ cap) (hcap : cap ≤ 9223372036854775807) (rd : Wr w (some ⟨g, o, none⟩) m N) :
    Calls Try.prog 18 #[cuv H V C (some ⟨g, o, none⟩) m cap, Sg.win R S y x 0 0 0 0, jfn F] w fun e w' => ∃ G, e = .returned (.tuple #[cuv OH OW C (some ⟨G, 0, none⟩) M M, .int .i64 0]) ∧ w.heap.size ≤ G ∧ w'.rowIs G 47 M (wf (poN al N V (nw C) R S y x OW (OH * OW))) ∧ Below w.heap.size w w' := by
  have HG := hid1 (fun W r' => given_any H V C (some ⟨g, o, none⟩) m cap N R S y x 0 0 0 0 W hmc hcap r')
  rw [pg.v, eH, eW] at HG
  have hlt : g < w.heap.size := by
    have d0 : 0 < nw C := by unfold nw; have := pg.hC; omega
    have : 0 < m := by rw [pg.hm]; exact Nat.mul_pos (Nat.mul_pos pg.hH.1 pg.hV.1) d0
    obtain ⟨g', o', e, c⟩ := rd.2 0 this
    cases e
    exact lt_of_cell c
  have hOH : OH ≤ 4096 := by rw [← eH]; exact Nat.le_trans (oS_le pg.fH pg.hR.1) pg.hH.2
  have hOW : OW ≤ 4096 := by rw [← eW]; exact Nat.le_trans (oS_le pg.fV pg.hS.1) pg.hV.2
  have HWK := hid1 (fun W (h : g < W.heap.size) r' => pwalk_any al F HJ H V C g o m cap N R S y x OH OW (C : Int) W pg.hH.2 pg.hV pg.hC pg.hR pg.hS hOH hOW (fun _ h => oS_fit pg.fH (by rw [eH]; exact h)) (fun _ h => oS_fit pg.fV (by rw [eW]; exact h)) pg.hm hmc h r' M eM)
  obtain ⟨X, hX⟩ : ∃ X, poN al N V (nw C) R S y x OW (OH * OW) = X := ⟨_, rfl⟩
  rw [hX] at HWK ⊢
  clear hX eM eH eW pg hOH hOW
  have HST := hid1 (pooled_start w H V C (some ⟨g, o, none⟩) m cap R S y x 0 0 0 0)
  have RD := hid1 rd
  clear rd
  go_enter Try.func18, Try.ntmps18
  go_wp2_with fail
  refine gen_calls (fun W => W.heap.size = w.heap.size + 3 ∧ Below w.heap.size w W ∧ W.rowIs w.heap.size 35 4 (cf H V C (some ⟨g, o, none⟩) m cap) ∧ Sg.Wn W (w.heap.size + 1) 0 R S y x 0 0 0 0 ∧ W.rowIs (w.heap.size + 2) 35 4 (cf 0 0 0 none 0 0)) (by obtain ⟨X, rfl, z⟩ := HST.out; exact z) ?_
  rintro W ⟨z0, B0, b0, b1, b2⟩
  refine (HG.out W (RD.out.below B0)).mono ?_
  rintro e w1 ⟨rfl, hb⟩
  replace b0 := keepr hb b0
  replace b1 := b1.keep hb
  replace b2 := keepr hb b2
  have B1 := bl_step B0 hb
  have z1 := hb.size
  clear hb B0
  have l2 := b2.lt
  have HB0 := hid1 (b0.alloc (.cells #[.int .i64 (OH : Int), .int .i64 (OW : Int), .int .i64 (C : Int)] 32))
  have HB1 := hid1 (b1.keep (bl_alloc (Below.refl _ _) (.cells #[.int .i64 (OH : Int), .int .i64 (OW : Int), .int .i64 (C : Int)] 32)))
  have HB2 := hid1 (b2.alloc (.cells #[.int .i64 (OH : Int), .int .i64 (OW : Int), .int .i64 (C : Int)] 32))
  have HB3 := hid1 (hf_new w1 OH OW C 32)
  have HBB := hid1 (bl_alloc B1 (.cells #[.int .i64 (OH : Int), .int .i64 (OW : Int), .int .i64 (C : Int)] 32))
  clear b0 b1 b2 B1
  go_upto_region 4 with fail
  refine gen_world (fun X => X.heap.size = w1.heap.size + 1 ∧ X.rowIs w.heap.size 35 4 (cf H V C (some ⟨g, o, none⟩) m cap) ∧ Sg.Wn X (w.heap.size + 1) 0 R S y x 0 0 0 0 ∧ X.rowIs (w.heap.size + 2) 35 4 (cf 0 0 0 none 0 0) ∧ X.rowIs w1.heap.size 32 3 (hf OH OW C) ∧ Below w.heap.size w X) ⟨by simp, HB0.out, HB1.out, HB2.out, HB3.out, HBB.out⟩ ?_
  clear HB0 HB1 HB2 HB3 HBB
  rintro Y ⟨zY, b0, b1, b2, b3, BY⟩
  have c0 := cf0 b0
  have c1 := cf1 b0
  have c2 := cf2 b0
  have c3 := cf3 b0
  have b1' := b1
  obtain ⟨n0, n1, n2, n3, n4, n5, n6, n7⟩ := b1'
  simp only [Nat.zero_add] at n1 n2 n3 n4 n5 n6 n7
  have s0 := hf0 b3
  have s1 := hf1 b3
  have s2 := hf2 b3
  have HBY := hid1 BY
  have HB2 := hid1 b2
  have HB3 := hid1 b3
  have hgY : g < Y.heap.size := Nat.lt_of_lt_of_le hlt BY.size
  clear b0 b1 b2 b3 BY
  have HC := hid1 (And.intro (And.intro c0 (And.intro c1 (And.intro c2 c3))) (And.intro (And.intro n0 (And.intro n1 (And.intro n2 (And.intro n3 (And.intro n4 (And.intro n5 (And.intro n6 n7))))))) (And.intro s0 (And.intro s1 s2))))
  clear c0 c1 c2 c3 n0 n1 n2 n3 n4 n5 n6 n7 s0 s1 s2
  have x1 : w1.heap.size ≠ w.heap.size + 2 := by omega
  go_region_held3 (fun X => (X.cell? ⟨w.heap.size, 0, none⟩ = some (.int .i64 H) ∧ X.cell? ⟨w.heap.size, 1, none⟩ = some (.int .i64 V) ∧ X.cell? ⟨w.heap.size, 2, none⟩ = some (.int .i64 C) ∧ X.cell? ⟨w.heap.size, 3, none⟩ = some (.slice (some ⟨g, o, none⟩) m cap)) ∧ (X.cell? ⟨w.heap.size + 1, 0, none⟩ = some (.int .i64 R) ∧ X.cell? ⟨w.heap.size + 1, 1, none⟩ = some (.int .i64 S) ∧ X.cell? ⟨w.heap.size + 1, 2, none⟩ = some (.int .i64 y) ∧ X.cell? ⟨w.heap.size + 1, 3, none⟩ = some (.int .i64 x) ∧ X.cell? ⟨w.heap.size + 1, 4, none⟩ = some (.int .i64 0) ∧ X.cell? ⟨w.heap.size + 1, 5, none⟩ = some (.int .i64 0) ∧ X.cell? ⟨w.heap.size + 1, 6, none⟩ = some (.int .i64 0) ∧ X.cell? ⟨w.heap.size + 1, 7, none⟩ = some (.int .i64 0)) ∧ X.cell? ⟨w1.heap.size, 0, none⟩ = some (.int .i64 OH) ∧ X.cell? ⟨w1.heap.size, 1, none⟩ = some (.int .i64 OW) ∧ X.cell? ⟨w1.heap.size, 2, none⟩ = some (.int .i64 C))
    (((try dsimp only); (with_reducible refine kpP (W := Y) HC.out x1 ?_); repeat (first | (with_reducible exact But.refl _ _) | (with_reducible assumption) | (with_reducible refine But.drew ?_) | (with_reducible refine But.set ?_ _))))
    ((go_at_call 22; refine (HWK.out Y.drew hgY (RD.out.below HBY.out.drew)).mono ?_; rintro e y1 ⟨G, rfl, hG, row, hb⟩; have bb : But (w.heap.size + 2) Y y1 := (But.refl _ _).drew.trans (But.of_below hb); have u2 := keepr hb HB2.out.drew; have f0 := u2.frozen 0; have f1 := u2.frozen 1; have f2 := u2.frozen 2; have f3 := u2.frozen 3; have d0 := cf0 u2; have d1 := cf1 u2; have d2 := cf2 u2; have d3 := cf3 u2; have HU2 := hid1 u2; have HBE := hid1 (bl_step HBY.out.drew hb); have HRW := hid1 row; clear u2 hb row))
  have PE := hid1 (pool_end (h := OH) (v := OW) (c := C) HU2.out HRW.out hG (And.intro (Nat.le_add_right _ _) (by show w.heap.size + 2 < Y.heap.size; omega)) HBE.out)
  go_wp2_with fail
  obtain ⟨q, hG', qr, qB⟩ := PE.out
  have u0 := cf0 q
  have u1 := cf1 q
  have u2 := cf2 q
  have u3 := cf3 q
  exact bodyPost_ret (v := .tuple #[cuv OH OW C (some ⟨G, 0, none⟩) M M, .int .i64 0]) (by simp [results, Try.results18, go_sem, u0, u1, u2, u3]) rfl ⟨G, rfl, hG', qr, qB⟩
set_option maxHeartbeats 3200000 in
set_option maxRecDepth 100000 in
theorem max_bad (h v c : Int) (ao : Option Addr) (m cap N : Nat) (r s sy sx t l b q : Int) (w : World) (hmc : m ≤ cap) (hcap : cap ≤ 9223372036854775807) (rd : Wr w ao m N) (hE : poE h v c m N r s sy sx t l b q ≠ 0) :
    Calls Try.prog 12 #[cuv h v c ao m cap, Sg.win r s sy sx t l b q] w fun e w' => e = .returned (.tuple #[cuv 0 0 0 none 0 0, .int .i64 (poE h v c m N r s sy sx t l b q)]) ∧ Below w.heap.size w w' := by
  have HG := hid1 (fun W r' => pooled_bad 19 h v c ao m cap N r s sy sx t l b q W hmc hcap r' hE)
  clear hE
  generalize poE h v c m N r s sy sx t l b q = EE at *
  have HST := hid1 (pooled_start w h v c ao m cap r s sy sx t l b q)
  have RD := hid1 rd
  clear rd
  go_enter Try.func12, Try.ntmps12
  go_wp2_with fail
  refine gen_calls (fun W => W.heap.size = w.heap.size + 3 ∧ Below w.heap.size w W ∧ W.rowIs w.heap.size 35 4 (cf h v c ao m cap) ∧ Sg.Wn W (w.heap.size + 1) 0 r s sy sx t l b q ∧ W.rowIs (w.heap.size + 2) 35 4 (cf 0 0 0 none 0 0)) (by obtain ⟨X, rfl, z⟩ := HST.out; exact z) ?_
  rintro W ⟨z0, B0, b0, b1, b2⟩
  refine (HG.out W (RD.out.below B0)).mono ?_
  rintro e w1 ⟨rfl, hb⟩
  replace b2 := keepr hb b2
  have B1 := bl_step B0 hb
  clear hb B0 b0 b1
  have f0 := b2.frozen 0
  have f1 := b2.frozen 1
  have f2 := b2.frozen 2
  have f3 := b2.frozen 3
  have d0 := cf0 b2
  have d1 := cf1 b2
  have d2 := cf2 b2
  have d3 := cf3 b2
  have u := cf_set b2 0 0 0 none 0 0
  have u0 := cf0 u
  have u1 := cf1 u
  have u2 := cf2 u
  have u3 := cf3 u
  clear u
  go_wp2_with fail
  exact bodyPost_ret (v := .tuple #[cuv 0 0 0 none 0 0, .int .i64 EE]) (by simp [results, Try.results12, go_sem, u0, u1, u2, u3]) rfl ⟨rfl, bl_set (bl_set (bl_set (bl_set B1 (by omega) _) (by omega) _) (by omega) _) (by omega) _⟩
set_option maxHeartbeats 3200000 in
set_option maxRecDepth 100000 in
theorem max_ok (H V C R S y x g o m cap N OH OW M : Nat) (w : World) (pg : Pg H V C R S y x m N) (eH : oS H R y = OH) (eW : oS V S x = OW) (eM : OH * OW * nw C = M) (hmc : m ≤ cap) (hcap : cap ≤ 9223372036854775807) (rd : Wr w (some ⟨g, o, none⟩) m N) :
    Calls Try.prog 12 #[cuv H V C (some ⟨g, o, none⟩) m cap, Sg.win R S y x 0 0 0 0] w fun e w' => ∃ G, e = .returned (.tuple #[cuv OH OW C (some ⟨G, 0, none⟩) M M, .int .i64 0]) ∧ w.heap.size ≤ G ∧ w'.rowIs G 47 M (wf (poN false N V (nw C) R S y x OW (OH * OW))) ∧ Below w.heap.size w w' := by
  have HG := hid1 (fun W r' => pooled_ok false 19 or_is H V C R S y x g o m cap N OH OW M W pg eH eW eM hmc hcap r')
  clear pg eH eW eM
  generalize poN false N V (nw C) R S y x OW (OH * OW) = X at *
  have HST := hid1 (pooled_start w H V C (some ⟨g, o, none⟩) m cap R S y x 0 0 0 0)
  have RD := hid1 rd
  clear rd
  go_enter Try.func12, Try.ntmps12
  go_wp2_with fail
  refine gen_calls (fun W => W.heap.size = w.heap.size + 3 ∧ Below w.heap.size w W ∧ W.rowIs w.heap.size 35 4 (cf H V C (some ⟨g, o, none⟩) m cap) ∧ Sg.Wn W (w.heap.size + 1) 0 R S y x 0 0 0 0 ∧ W.rowIs (w.heap.size + 2) 35 4 (cf 0 0 0 none 0 0)) (by obtain ⟨X, rfl, z⟩ := HST.out; exact z) ?_
  rintro W ⟨z0, B0, b0, b1, b2⟩
  refine (HG.out W (RD.out.below B0)).mono ?_
  rintro e w1 ⟨G, rfl, hG, row, hb⟩
  replace b2 := keepr hb b2
  have B1 := bl_step B0 hb
  clear hb B0 b0 b1
  have f0 := b2.frozen 0
  have f1 := b2.frozen 1
  have f2 := b2.frozen 2
  have f3 := b2.frozen 3
  have d0 := cf0 b2
  have d1 := cf1 b2
  have d2 := cf2 b2
  have d3 := cf3 b2
  have PE := hid1 (pool_end (h := OH) (v := OW) (c := C) b2 row hG (And.intro (Nat.le_add_right _ _) (by omega)) B1)
  clear b2 row
  go_wp2_with fail
  obtain ⟨q, hG', qr, qB⟩ := PE.out
  have u0 := cf0 q
  have u1 := cf1 q
  have u2 := cf2 q
  have u3 := cf3 q
  exact bodyPost_ret (v := .tuple #[cuv OH OW C (some ⟨G, 0, none⟩) M M, .int .i64 0]) (by simp [results, Try.results12, go_sem, u0, u1, u2, u3]) rfl ⟨G, rfl, hG', qr, qB⟩
set_option maxHeartbeats 3200000 in
set_option maxRecDepth 100000 in
theorem min_bad (h v c : Int) (ao : Option Addr) (m cap N : Nat) (r s sy sx t l b q : Int) (w : World) (hmc : m ≤ cap) (hcap : cap ≤ 9223372036854775807) (rd : Wr w ao m N) (hE : poE h v c m N r s sy sx t l b q ≠ 0) :
    Calls Try.prog 13 #[cuv h v c ao m cap, Sg.win r s sy sx t l b q] w fun e w' => e = .returned (.tuple #[cuv 0 0 0 none 0 0, .int .i64 (poE h v c m N r s sy sx t l b q)]) ∧ Below w.heap.size w w' := by
  have HG := hid1 (fun W r' => pooled_bad 20 h v c ao m cap N r s sy sx t l b q W hmc hcap r' hE)
  clear hE
  generalize poE h v c m N r s sy sx t l b q = EE at *
  have HST := hid1 (pooled_start w h v c ao m cap r s sy sx t l b q)
  have RD := hid1 rd
  clear rd
  go_enter Try.func13, Try.ntmps13
  go_wp2_with fail
  refine gen_calls (fun W => W.heap.size = w.heap.size + 3 ∧ Below w.heap.size w W ∧ W.rowIs w.heap.size 35 4 (cf h v c ao m cap) ∧ Sg.Wn W (w.heap.size + 1) 0 r s sy sx t l b q ∧ W.rowIs (w.heap.size + 2) 35 4 (cf 0 0 0 none 0 0)) (by obtain ⟨X, rfl, z⟩ := HST.out; exact z) ?_
  rintro W ⟨z0, B0, b0, b1, b2⟩
  refine (HG.out W (RD.out.below B0)).mono ?_
  rintro e w1 ⟨rfl, hb⟩
  replace b2 := keepr hb b2
  have B1 := bl_step B0 hb
  clear hb B0 b0 b1
  have f0 := b2.frozen 0
  have f1 := b2.frozen 1
  have f2 := b2.frozen 2
  have f3 := b2.frozen 3
  have d0 := cf0 b2
  have d1 := cf1 b2
  have d2 := cf2 b2
  have d3 := cf3 b2
  have u := cf_set b2 0 0 0 none 0 0
  have u0 := cf0 u
  have u1 := cf1 u
  have u2 := cf2 u
  have u3 := cf3 u
  clear u
  go_wp2_with fail
  exact bodyPost_ret (v := .tuple #[cuv 0 0 0 none 0 0, .int .i64 EE]) (by simp [results, Try.results13, go_sem, u0, u1, u2, u3]) rfl ⟨rfl, bl_set (bl_set (bl_set (bl_set B1 (by omega) _) (by omega) _) (by omega) _) (by omega) _⟩
set_option maxHeartbeats 3200000 in
set_option maxRecDepth 100000 in
theorem min_ok (H V C R S y x g o m cap N OH OW M : Nat) (w : World) (pg : Pg H V C R S y x m N) (eH : oS H R y = OH) (eW : oS V S x = OW) (eM : OH * OW * nw C = M) (hmc : m ≤ cap) (hcap : cap ≤ 9223372036854775807) (rd : Wr w (some ⟨g, o, none⟩) m N) :
    Calls Try.prog 13 #[cuv H V C (some ⟨g, o, none⟩) m cap, Sg.win R S y x 0 0 0 0] w fun e w' => ∃ G, e = .returned (.tuple #[cuv OH OW C (some ⟨G, 0, none⟩) M M, .int .i64 0]) ∧ w.heap.size ≤ G ∧ w'.rowIs G 47 M (wf (poN true N V (nw C) R S y x OW (OH * OW))) ∧ Below w.heap.size w w' := by
  have HG := hid1 (fun W r' => pooled_ok true 20 and_is H V C R S y x g o m cap N OH OW M W pg eH eW eM hmc hcap r')
  clear pg eH eW eM
  generalize poN true N V (nw C) R S y x OW (OH * OW) = X at *
  have HST := hid1 (pooled_start w H V C (some ⟨g, o, none⟩) m cap R S y x 0 0 0 0)
  have RD := hid1 rd
  clear rd
  go_enter Try.func13, Try.ntmps13
  go_wp2_with fail
  refine gen_calls (fun W => W.heap.size = w.heap.size + 3 ∧ Below w.heap.size w W ∧ W.rowIs w.heap.size 35 4 (cf H V C (some ⟨g, o, none⟩) m cap) ∧ Sg.Wn W (w.heap.size + 1) 0 R S y x 0 0 0 0 ∧ W.rowIs (w.heap.size + 2) 35 4 (cf 0 0 0 none 0 0)) (by obtain ⟨X, rfl, z⟩ := HST.out; exact z) ?_
  rintro W ⟨z0, B0, b0, b1, b2⟩
  refine (HG.out W (RD.out.below B0)).mono ?_
  rintro e w1 ⟨G, rfl, hG, row, hb⟩
  replace b2 := keepr hb b2
  have B1 := bl_step B0 hb
  clear hb B0 b0 b1
  have f0 := b2.frozen 0
  have f1 := b2.frozen 1
  have f2 := b2.frozen 2
  have f3 := b2.frozen 3
  have d0 := cf0 b2
  have d1 := cf1 b2
  have d2 := cf2 b2
  have d3 := cf3 b2
  have PE := hid1 (pool_end (h := OH) (v := OW) (c := C) b2 row hG (And.intro (Nat.le_add_right _ _) (by omega)) B1)
  clear b2 row
  go_wp2_with fail
  obtain ⟨q, hG', qr, qB⟩ := PE.out
  have u0 := cf0 q
  have u1 := cf1 q
  have u2 := cf2 q
  have u3 := cf3 q
  exact bodyPost_ret (v := .tuple #[cuv OH OW C (some ⟨G, 0, none⟩) M M, .int .i64 0]) (by simp [results, Try.results13, go_sem, u0, u1, u2, u3]) rfl ⟨G, rfl, hG', qr, qB⟩
end Go.Proofs.Ytmbhapegdbajpaa
