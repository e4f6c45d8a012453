/- bound.Net of every network, walked. -/
import Derived.Test.YtkodihmjjiadnaaNO5
namespace Go.Proofs.Ytkodihmjjiadnaa.Nn
open Go.RowKit

abbrev tri3 (x y z : Int) : Nat → Value := fun i => .int .i64 (if i = 0 then x else if i = 1 then y else z)
theorem tri_set {W : World} {g : Nat} {t : TypeId} {x y z : Int} (h : W.rowIs g t 3 (tri3 x y z)) (u v s : Int) : (((W.setCell ⟨g, 0, none⟩ (.int .i64 u)).setCell ⟨g, 1, none⟩ (.int .i64 v)).setCell ⟨g, 2, none⟩ (.int .i64 s)).rowIs g t 3 (tri3 u v s) := by
  have h1 := ((h.set 0 (.int .i64 u)).set 1 (.int .i64 v)).set 2 (.int .i64 s)
  refine h1.congr fun i hi => ?_
  rcases i with _ | _ | _ | i
  · rfl
  · rfl
  · rfl
  · omega
theorem heap_three {Y : World} {b c i j k : Nat} {u v x : Value} (hn : b ≠ c) : (((Y.setCell ⟨c, i, none⟩ u).setCell ⟨c, j, none⟩ v).setCell ⟨c, k, none⟩ x).heap[b]? = Y.heap[b]? := by rw [Below.heap_setCell _ _ _ _ (by show b ≠ c; exact hn), heap_two hn]
theorem cell_three {Y : World} {b c i j k l : Nat} {u v x z : Value} (h : Y.cell? ⟨b, l, none⟩ = some z) (hn : b ≠ c) : (((Y.setCell ⟨c, i, none⟩ u).setCell ⟨c, j, none⟩ v).setCell ⟨c, k, none⟩ x).cell? ⟨b, l, none⟩ = some z := (World.cell?_of_block (w := Y) (heap_three hn)).trans h
/-- What Net answers. -/
def BnP (N : Nt) (w w' : World) (v : Value) : Prop := (¬ chE N = 0 → v = .slice none 0 0) ∧ (chE N = 0 → ∃ G gs, w.heap.size ≤ G ∧ v = .slice (some ⟨G, 0, none⟩) N.ml N.ml ∧ Yl w' N G gs N.ml)
set_option maxHeartbeats 3200000 in
set_option maxRecDepth 100000 in
theorem bnet_any (N : Nt) (w : World) (hN : NtW w N) (hc : ∀ i, i < N.ml → (N.lf i).mw ≤ (N.lf i).cw) :
    Calls Try.prog 15 #[ntv N] w fun e w' => ∃ v, e = .returned (.tuple #[v, .int .i64 (chA N), .int .i64 (chE N)]) ∧ Below w.heap.size w w' ∧ BnP N w w' v := by
  have HW := hid1 hN
  have HCW := hid1 hc
  clear hN hc
  have CC := hid1 (fun X (h : Below w.heap.size w X) => ncheck_any N X (HW.out.keep h))
  by_cases hz : chE N = 0
  · have hall : whE N = 0 ∧ ∀ j, j < N.ml → fl N j = 0 := by
      unfold chE at hz
      by_cases h0 : whE N = 0
      · rw [if_pos h0] at hz; exact ⟨h0, frF_z hz⟩
      · rw [if_neg h0] at hz; exact absurd hz h0
    have HP := hid1 (wh_parts hall.1)
    have HA := hid1 hall.2
    have hA0 : chA N = 0 := (ch_ok hall.1 hall.2).2
    have HZ := hid1 hz
    rw [hz, hA0] at CC ⊢
    clear hz hA0 hall
    obtain ⟨b, hb0⟩ : ∃ b, w.heap.size = b := ⟨_, rfl⟩
    go_enter Try.func15, Try.ntmps15
    go_wp2_with fail
    refine gen_calls (fun X => Below w.heap.size w X ∧ Nb X b N) ⟨by repeat (first | (with_reducible exact Below.refl _ _) | (with_reducible refine bl_alloc ?_ _) | (with_reducible refine Below.drew ?_) | (with_reducible refine bl_drewN ?_ _) | (with_reducible refine bl_set ?_ (by omega) _) | (with_reducible refine bl_step ?_ (by assumption))), by rw [← hb0]; exact nb_new _ _ _⟩ ?_
    rintro X ⟨BX, NX⟩
    refine (CC.out X BX).mono ?_
    rintro e w1 ⟨rfl, hb⟩
    replace BX := bl_step BX hb
    replace NX := NX.keep hb
    have hMb : b < w1.heap.size := lt_of_cell NX.1
    clear hb X CC
    go_wp2_with fail
    refine (works_any w1).mono ?_
    rintro e w2 ⟨rfl, WK, hb⟩
    replace BX := bl_step BX hb
    replace NX := NX.keep hb
    obtain ⟨M, hM⟩ : ∃ M, w1.heap.size = M := ⟨_, rfl⟩
    rw [hM] at WK hMb ⊢
    clear hb hM
    obtain ⟨G, hG⟩ : ∃ G, G = w2.heap.size := ⟨_, rfl⟩
    have hml : N.ml ≤ 64 := HP.out.2.2.2
    obtain ⟨w3, mk, BY, RY, zs⟩ : ∃ w3, (Instr.makeSlice 51 (.int .i64 (N.ml : Int)) (.int .i64 (N.ml : Int))).run Try.prog w2 = .ok (.slice (some ⟨G, 0, none⟩) N.ml N.ml) w3 ∧ Below w2.heap.size w2 w3 ∧ Yl w3 N G (fun _ => 0) 0 ∧ w3.heap.size = G + 1 :=
      ⟨_, by rw [hG]; exact make_rch2 N.ml (by omega) w2, bl_alloc (Below.refl _ _) _, by rw [hG]; exact Yl.new N, by simp [hG]⟩
    have hMG : M < G := by rw [hG]; exact WK.lt
    have d4 := NX.2.2.2.2
    replace NX := NX.keep BY
    replace WK := WK.keep BY
    replace BX := bl_step BX BY
    have KN := hid1 NX
    have KW := hid1 WK
    have KY := hid1 RY
    obtain ⟨n0, n1, n2, n3, n4⟩ := NX
    have hc0 : N.c = cN N 0 := by unfold cN; show N.c = (N.c.toNat : Int); have := (chk_sides HP.out.2.1).2.2; omega
    rw [hc0] at n3
    clear BY RY WK hG hc0 w1
    have hbG : b < G + 1 := by omega
    have hbz : b < w3.heap.size := by omega
    have hnz : b ≠ w3.heap.size := by omega
    go_wp2_with fail
    clear mk n0 n1 n2 n3 n4 d4
    refine gen_world (fun X => Below w.heap.size w X ∧ Wks X M ∧ Yl X N G (fun _ => 0) 0 ∧ X.rowIs (G + 1) 92 3 (tri3 (inL 0) (inH 0) (cN N 0))) ⟨by repeat (first | (with_reducible exact Below.refl _ _) | (with_reducible refine bl_alloc ?_ _) | (with_reducible refine Below.drew ?_) | (with_reducible refine bl_drewN ?_ _) | (with_reducible refine bl_set ?_ (by omega) _) | (with_reducible refine bl_step ?_ (by assumption))), KW.out.keep (bl_alloc (Below.refl _ _) _), KY.out.keep (bl_alloc (Below.refl _ _) _), by rw [← zs]; exact trf w3 (-128) 127 (cN N 0) _⟩ ?_
    clear KN KW KY BX zs
    rintro Z ⟨BZ, WZ, YZ, TZ⟩
    have K1 := hid1 WZ
    have K2 := hid1 YZ
    have K3 := hid1 TZ
    clear WZ YZ TZ
    go_loopw [34] (fun i wr => ∃ (k : Nat) (gs : Nat → Nat), k ≤ N.ml ∧ i = .int .i64 k ∧ Below w.heap.size w wr ∧ Hid (Wks wr M) ∧ Hid (Yl wr N G gs k) ∧ Hid (∀ j, j < k → G + 1 < gs j) ∧ Hid (wr.rowIs (G + 1) 92 3 (tri3 (inL k) (inH k) (cN N k)))) (fun i _ => N.ml - (intOf i).toNat)
    case atStart => exact ⟨0, _, Nat.zero_le _, rfl, BZ, K1, K2, hid1 (fun j hj => absurd hj (by omega)), K3⟩
    case round =>
      clear BZ K1 K2 K3 Z
      obtain ⟨k, gs, hk, rfl, BX, K1, K2, KS, K3⟩ := hrel
      have ik0 : (0 : Int) ≤ (k : Int) := by omega
      by_cases hlt : k < N.ml
      · have ik : (k : Int) < (N.ml : Int) := by omega
        obtain ⟨gl, o, ea, LC, LL⟩ := (HW.out.keep BX).1 k hlt
        have CK := wk_any N (i := k) (sp_ok HP.out.2.1 (fun j hj => HA.out j (by omega))) (HA.out k hlt) (HCW.out k hlt)
        have hkd := CK.1.1
        have hc4 := CK.1.2
        have HCK := hid1 CK.2
        have CF := wkF_call (N.lf k).kd
        have LK := hid1 (fun W (h : Wks W M) => lookW_run h (N.lf k).kd hkd)
        have HYP : ∀ W g, Yl W N G gs k → G < g → (∀ i, i < k → gs i < g) → Rc W g (cN N (k + 1)) (yLo (N.lf k) (fanN N k) k) (yHi (N.lf k) (fanN N k) k) (cN N (k + 1)) → Yl (W.setCell ⟨G, k, none⟩ (.slice (some ⟨g, 0, none⟩) (cN N (k + 1)) (cN N (k + 1)))) N G (fun i => if i = k then g else gs i) (k + 1) := fun W g h1 h2 h3 h4 => Yl.put h1 h2 h3 h4
        have HYQ := hid1 HYP
        clear CK HYP hkd
        generalize wkF (N.lf k).kd = fw at CF HCK LK
        generalize hRL : yLo (N.lf k) (fanN N k) k = rl at HCK HYQ
        generalize hRH : yHi (N.lf k) (fanN N k) k = rh at HCK HYQ
        clear hRL hRH
        generalize hLk : N.lf k = L at LC LL HCK LK CF
        have HL := hid1 hLk
        have HLS := hid1 LL
        clear LL hLk
        obtain ⟨C, hC⟩ : ∃ C, cN N (k + 1) = C := ⟨_, rfl⟩
        rw [hC] at HCK HYQ hc4
        have HCE := hid1 hC
        clear hC
        obtain ⟨c0, c1, c2, c3, c4, c5, c6, c7, c8, c9, c10, c11, c12, c13, c14⟩ := LC
        obtain ⟨bl, hbl⟩ : ∃ x, wr.heap.size = x := ⟨_, rfl⟩
        have hG1 : G + 1 < bl := by rw [← hbl]; exact World.rowIs.lt K3.out
        go_upto_region 10 with fail
        clear c0 c1 c2 c3 c4 c5 c6 c7 c8 c9 c10 c11 c12 c13 c14
        refine gen_world (fun X => Below wr.heap.size wr X ∧ Lp X bl L ∧ X.heap.size = bl + 1) ⟨by repeat (first | (with_reducible exact Below.refl _ _) | (with_reducible refine bl_alloc ?_ _) | (with_reducible refine Below.drew ?_) | (with_reducible refine bl_drewN ?_ _) | (with_reducible refine bl_set ?_ (by omega) _) | (with_reducible refine bl_step ?_ (by assumption))), lp_new' hbl L _, by simp [hbl]⟩ ?_
        rintro V ⟨BV, LV, zV⟩
        replace BX := bl_step BX BV
        replace K1 := hid1 (K1.out.keep BV)
        replace K2 := hid1 (K2.out.keep BV)
        replace K3 := hid1 (World.rowIs.of_block K3.out (BV.block _ (World.rowIs.lt K3.out)))
        replace HLS := hid1 (HLS.out.keep BV)
        clear BV
        obtain ⟨c0, c1, c2, c3, c4, c5, c6, c7, c8, c9, c10, c11, c12, c13, c14⟩ := LV
        have t0 : V.cell? ⟨G + 1, 0, none⟩ = some (.int .i64 (inL k)) := World.rowIs.cell K3.out (i := 0) (by decide)
        have t1 : V.cell? ⟨G + 1, 1, none⟩ = some (.int .i64 (inH k)) := World.rowIs.cell K3.out (i := 1) (by decide)
        have t2 : V.cell? ⟨G + 1, 2, none⟩ = some (.int .i64 (cN N k)) := World.rowIs.cell K3.out (i := 2) (by decide)
        have lk := LK.out V K1.out
        go_wp2_with fail
        refine (HCK.out V HLS.out).mono ?_
        rintro e y ⟨g, rfl, hg, RG, hb⟩
        clear c0 c1 c2 c3 c4 c5 c6 c7 c8 c9 c10 c11 c12 c13 c14 t0 t1 t2 lk LK CF HCK HLS
        have hgl : G + 1 < g := by omega
        have hgs : ∀ i, i < k → gs i < g := fun i hi => Nat.lt_of_lt_of_le (K2.out.lt i hi) hg
        replace BX := bl_step BX hb
        replace K1 := hid1 (K1.out.keep hb)
        replace K2 := hid1 (K2.out.keep hb)
        replace K3 := hid1 (World.rowIs.of_block K3.out (hb.block _ (World.rowIs.lt K3.out)))
        have YN := hid1 (HYQ.out y g K2.out (by omega) hgs RG)
        have r0 := World.rowIs.cell K2.out.2 (i := k) hlt
        have f0 := World.rowIs.frozen K2.out.2 k
        unfold lsf at r0
        rw [if_neg (Nat.lt_irrefl k)] at r0
        have HGS := hid1 hgs
        have ebl : bl < V.heap.size := by omega
        clear hb RG K2 HYQ hgs hg
        go_upto_region 11 with fail
        clear r0 f0
        refine gen_world (fun X => Below w.heap.size w X ∧ Wks X M ∧ Yl X N G (fun i => if i = k then g else gs i) (k + 1) ∧ X.rowIs (G + 1) 92 3 (tri3 (inL k) (inH k) (cN N k)) ∧ G + 1 < X.heap.size) ⟨bl_set BX (by omega) _, (Below.heap_setCell _ _ _ _ (by show M ≠ G; omega)).trans K1.out, YN.out, World.rowIs.setOther K3.out (by show G + 1 ≠ G; omega) _, by have := World.rowIs.lt K3.out; simpa using this⟩ ?_
        clear BX K1 YN K3
        rintro X ⟨BX, K1, YN, K3, lX⟩
        have HBX := hid1 BX
        have HK1 := hid1 K1
        have HYN := hid1 YN
        have HK3 := hid1 K3
        have r0 : X.cell? ⟨G, k, none⟩ = some (.slice (some ⟨g, 0, none⟩) C C) := by
          have := World.rowIs.cell YN.2 (i := k) hlt
          rw [this]
          unfold lsf
          rw [if_pos (Nat.lt_succ_self k), HCE.out]
          simp
        clear BX K1 YN K3
        have HR0 := hid1 r0
        have hfo := follows
        go_region_held3 (fun Y => Y.cell? ⟨G, k, none⟩ = some (.slice (some ⟨g, 0, none⟩) C C))
          (((try dsimp only); first | ((with_reducible refine keepc (W := X) ?_ HR0.out); (repeat (first | (with_reducible exact Below.refl _ _) | (with_reducible assumption) | (with_reducible refine Below.drew ?_))); done) | (exact cell_three (keepc (by assumption) HR0.out) (by omega)) | (exact cell_three (keepc (by exact Below.drew (by assumption)) HR0.out) (by omega))))
          ((go_at_call 35; refine (signsO_any _).mono ?_; rintro e y1 ⟨rfl, hb1⟩; have by1 : Below X.heap.size X y1 := (bl_step (by repeat (first | (with_reducible exact Below.refl _ _) | (with_reducible refine Below.drew ?_))) hb1); have VR := World.rowIs.of_block HK3.out (by1.block _ lX); have v0 := World.rowIs.cell VR (i := 0) (by decide); have v1 := World.rowIs.cell VR (i := 1) (by decide); have v2 := World.rowIs.cell VR (i := 2) (by decide); have f0 := World.rowIs.frozen VR 0; have f1 := World.rowIs.frozen VR 1; have f2 := World.rowIs.frozen VR 2; have HVR := hid1 VR; clear hb1 VR))
        go_wp2_with fail
        have HE := hid1 (show Hid (Wks (((y1.setCell ⟨G + 1, 0, none⟩ (.int .i64 (-1))).setCell ⟨G + 1, 1, none⟩ (.int .i64 1)).setCell ⟨G + 1, 2, none⟩ (.int .i64 (C : Nat))) M) ∧ Hid (Yl (((y1.setCell ⟨G + 1, 0, none⟩ (.int .i64 (-1))).setCell ⟨G + 1, 1, none⟩ (.int .i64 1)).setCell ⟨G + 1, 2, none⟩ (.int .i64 (C : Nat))) N G (fun i => if i = k then g else gs i) (k + 1)) ∧ Hid (World.rowIs (((y1.setCell ⟨G + 1, 0, none⟩ (.int .i64 (-1))).setCell ⟨G + 1, 1, none⟩ (.int .i64 1)).setCell ⟨G + 1, 2, none⟩ (.int .i64 (C : Nat))) (G + 1) 92 3 (tri3 (inL (k + 1)) (inH (k + 1)) (cN N (k + 1)))) from
          And.intro (hid1 ((heap_three (by omega)).trans (HK1.out.keep by1))) (And.intro (hid1 (Yl.of (b := G + 1) (HYN.out.keep by1) (fun i hi => heap_three hi) (by omega) (fun i hi => by
            by_cases e : i = k
            · rw [if_pos e]; omega
            · rw [if_neg e]; have := KS.out i (by omega); omega))) (hid1 (by rw [HCE.out]; exact tri_set HVR.out (-1) 1 C))))
        have BE : Below w.heap.size w (((y1.setCell ⟨G + 1, 0, none⟩ (.int .i64 (-1))).setCell ⟨G + 1, 1, none⟩ (.int .i64 1)).setCell ⟨G + 1, 2, none⟩ (.int .i64 (C : Nat))) := bl_set (bl_set (bl_set (bl_step HBX.out by1) (by omega) _) (by omega) _) (by omega) _
        have KS2 := hid1 (show ∀ j, j < k + 1 → G + 1 < (if j = k then g else gs j) from fun j hj => by
          by_cases e : j = k
          · rw [if_pos e]; exact hgl
          · rw [if_neg e]; exact KS.out j (by omega))
        go_roundw
        case measure => simp [intOf]; omega
        case rel =>
          iterate 25 (refine Exists.intro ?_ ?_; rotate_left)
          refine And.intro ?_ ?_
          rotate_left
          · rw [ea]
          · exact ⟨k + 1, _, by omega, by go_num, BE, HE.out.1, HE.out.2.1, KS2, HE.out.2.2⟩
      · have hkN : k = N.ml := by omega
        subst hkN
        go_wp2_with fail
        go_ret3
        exact ⟨_, rfl, BX, fun h => absurd HZ.out h, fun _ => ⟨G, gs, by omega, rfl, K2.out⟩⟩
  · have hx2 : (chE N != 0) = true := by simpa using hz
    have HZ := hid1 hz
    clear hz
    generalize hE : chE N = E at *
    generalize chA N = A at *
    go_enter Try.func15, Try.ntmps15
    go_wp2_with fail
    refine gen_calls (fun X => Below w.heap.size w X) (by repeat (first | (with_reducible exact Below.refl _ _) | (with_reducible refine bl_alloc ?_ _) | (with_reducible refine Below.drew ?_) | (with_reducible refine bl_drewN ?_ _) | (with_reducible refine bl_set ?_ (by omega) _) | (with_reducible refine bl_step ?_ (by assumption)))) ?_
    rintro X BX
    refine (CC.out X BX).mono ?_
    rintro e w1 ⟨rfl, hb⟩
    replace BX := bl_step BX hb
    clear hb X CC
    go_wp2_with fail
    go_ret3
    exact ⟨.slice none 0 0, rfl, BX, fun _ => rfl, fun h => absurd (hE.symm.trans h) HZ.out⟩
end Go.Proofs.Ytkodihmjjiadnaa.Nn
