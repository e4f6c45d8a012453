/- CubeTurns. -/
import Derived.Test.YtgmildjfikgkmaaKA4
import Derived.Deep.RegionHeld3
import Derived.Deep.DeepCutAuto
namespace Go.Proofs.Ytgmildjfikgkmaa
open Go.RowKit Go.Shelf

/-- A row's two cells in a list. -/
def Cb (w : World) (g o : Nat) (X : Bt) : Prop := w.cell? ⟨g, o, none⟩ = some (.int .i64 X.n) ∧ w.cell? ⟨g, o + 1, none⟩ = some (.slice X.ao X.m X.cap)
theorem Cb.below {W X : World} {g o : Nat} {A : Bt} (h : Cb W g o A) (hb : Below W.heap.size W X) : Cb X g o A := ⟨keepc hb h.1, keepc hb h.2⟩
/-- A list of rows in memory. -/
def Lb (w : World) (ao : Option Addr) (l : List Bt) : Prop := ∀ i (h : i < l.length), (∃ g o, ao = some ⟨g, o, none⟩ ∧ Cb w g (o + i * 2) l[i]) ∧ Wr w l[i].ao l[i].m l[i].N ∧ l[i].m ≤ 17592186043904
theorem Lb.below {W X : World} {ao : Option Addr} {l : List Bt} (h : Lb W ao l) (hb : Below W.heap.size W X) : Lb X ao l := fun i hi => by
  obtain ⟨⟨g, o, e, c⟩, wr, hm⟩ := h i hi
  exact ⟨⟨g, o, e, c.below hb⟩, wr.below hb, hm⟩
theorem und_bits : Try.prog.underlying 53 = some (.slice 26) := by kernel_rfl
theorem kpT {V Y : World} {g o : Nat} {A : Bt} (h : Cb V g o A) (hb : Below V.heap.size V Y) : Y.cell? ⟨g, o, none⟩ = some (.int .i64 A.n) ∧ Y.cell? ⟨g, o + 1, none⟩ = some (.slice A.ao A.m A.cap) := h.below hb
theorem kpU {Z Y : World} {ba bb bM g o t1 t2 t3 : Nat} {h v c : Int} {bo bo2 mo : Option Addr} {kk K K2 mm mc : Nat} {n : Int} {A : Bt} (ha : Z.rowIs ba t1 4 (cf h v c bo kk K)) (hb : Z.rowIs bb t2 4 (cf h v c bo2 kk K2)) (hm : Z.rowIs bM t3 2 (sf n mo mm mc)) (hc : Cb Z g o A) (hB : Below Z.heap.size Z Y) :
    (Y.cell? ⟨ba, 0, none⟩ = some (.int .i64 h) ∧ Y.cell? ⟨ba, 1, none⟩ = some (.int .i64 v) ∧ Y.cell? ⟨ba, 2, none⟩ = some (.int .i64 c) ∧ Y.cell? ⟨ba, 3, none⟩ = some (.slice bo kk K)) ∧ (Y.cell? ⟨bb, 0, none⟩ = some (.int .i64 h) ∧ Y.cell? ⟨bb, 1, none⟩ = some (.int .i64 v) ∧ Y.cell? ⟨bb, 2, none⟩ = some (.int .i64 c) ∧ Y.cell? ⟨bb, 3, none⟩ = some (.slice bo2 kk K2)) ∧ Y.cell? ⟨bM, 1, none⟩ = some (.slice mo mm mc) ∧ Y.cell? ⟨g, o + 1, none⟩ = some (.slice A.ao A.m A.cap) :=
  ⟨⟨cf0 (keepr hB ha), cf1 (keepr hB ha), cf2 (keepr hB ha), cf3 (keepr hB ha)⟩, ⟨cf0 (keepr hB hb), cf1 (keepr hB hb), cf2 (keepr hB hb), cf3 (keepr hB hb)⟩, sf_ws (keepr hB hm), keepc hB hc.2⟩
set_option maxHeartbeats 3200000 in
set_option maxRecDepth 100000 in
theorem cubeTurns_any (ao : Option Addr) (l : List Bt) (cap : Nat) (w : World) (hl : l.length ≤ 9223372036854775807) (rd : Lb w ao l) :
    Calls Try.prog 6 #[.slice ao l.length cap] w fun e w' => e = .returned (.bool true) ∧ Below w.heap.size w w' := by
  have RD := hid1 rd
  clear rd
  obtain ⟨L, hL⟩ : ∃ L, l.length = L := ⟨_, rfl⟩
  have HL := hid1 hL
  rw [hL] at hl ⊢
  clear hL
  go_enter Try.func6, Try.ntmps6
  go_wp2_with fail
  refine (cbegun_any w).mono ?_
  rintro e w1 ⟨rfl, B1⟩
  go_wp2_with fail
  go_loopw [3] (fun i wr => ∃ k : Nat, k ≤ L ∧ i = .int .i64 k ∧ Below w.heap.size w wr) (fun i _ => L - (intOf i).toNat)
  case atStart => exact ⟨0, Nat.zero_le _, rfl, B1⟩
  case round =>
    clear B1
    obtain ⟨k, hk, rfl, hnx⟩ := hrel
    by_cases hlt : k < L
    · obtain ⟨⟨g, o, rfl, cb⟩, wx, hm⟩ := (RD.out.below hnx) k (by rw [HL.out]; exact hlt)
      obtain ⟨X, eX⟩ : ∃ X, l[k]'(by rw [HL.out]; exact hlt) = X := ⟨_, rfl⟩
      rw [eX] at cb wx hm
      clear eX
      obtain ⟨n, xo, m, xc, N⟩ := X
      have ik : (k : Int) < (L : Nat) := by omega
      have ik0 : (0 : Int) ≤ (k : Int) := by omega
      have HCB := hid1 cb
      obtain ⟨e0, e1⟩ := cb
      dsimp only at wx hm e0 e1
      have lg := lt_of_cell e0
      have HWX := hid1 wx
      have HNX := hid1 hnx
      clear wx hnx
      have hfo := follows
      go_upto_region 6 with fail
      go_cut [4] from 17 to 28 (fun s4 wx => ∃ G bM, s4 = .pointer (some ⟨bM, 0, none⟩) ∧ G ≠ bM ∧ wr.heap.size ≤ G ∧ wr.heap.size ≤ bM ∧ wx.rowIs G 75 (m + 66) (rmf N m) ∧ wx.rowIs bM 26 2 (sf n (some ⟨G, 0, none⟩) m (m + 66)) ∧ Below wr.heap.size wr wx)
      case first =>
        go_region_held3 (fun Y => Y.cell? ⟨g, o + k * 2, none⟩ = some (.int .i64 n) ∧ Y.cell? ⟨g, o + k * 2 + 1, none⟩ = some (.slice xo m xc))
          (((try dsimp only); (with_reducible refine kpT (V := wr) HCB.out ?_); repeat (first | (with_reducible exact Below.refl _ _) | (with_reducible assumption) | (with_reducible refine Below.drew ?_) | (with_reducible refine bl_alloc ?_ _) | (with_reducible refine bl_set ?_ (Nat.le_refl _) _))))
          ((go_at_call 24; refine (roomy_any m N xo xc _ hm (HWX.out.below (by repeat (first | (with_reducible exact Below.refl _ _) | (with_reducible refine Below.drew ?_) | (with_reducible refine bl_alloc ?_ _))))).mono ?_; rintro e y1 ⟨G, rfl, hG, hrow, hb⟩; have HRW := hid1 hrow; have HBB := hid1 hb; have by1 : Below wr.heap.size wr y1 := (by first | exact bl_step (Below.refl _ _).drew hb | exact bl_step (bl_alloc (Below.refl _ _) _).drew hb); have zG := hG; (try (have VR := keepr HBB.out (row_new wr 0 none 0 0 26).drew; have v0 := sf_len VR; have v1 := sf_ws VR; have f0 := VR.frozen 0; have f1 := VR.frozen 1; have HVR := hid1 VR; clear VR)); clear hrow hb hG))
        all_goals (refine kmeet_of (by assumption) ?_; go_meet)
        · have zG' : wr.heap.size ≤ G := zG
          have lG := HRW.out.lt
          exact ⟨G, y1.heap.size, rfl, by omega, zG', by1.size, HRW.out.alloc _, row_new _ _ _ _ _ _, bl_alloc by1 _⟩
        · have zG' : wr.heap.size + 1 ≤ G := by simpa using zG
          exact ⟨G, wr.heap.size, rfl, by omega, by omega, Nat.le_refl _, (HRW.out.setOther (a := ⟨wr.heap.size, 0, none⟩) (by show G ≠ wr.heap.size; omega) _).setOther (a := ⟨wr.heap.size, 1, none⟩) (by show G ≠ wr.heap.size; omega) _, rs_set HVR.out n (some ⟨G, 0, none⟩) m (m + 66), bl_set (bl_set by1 (Nat.le_refl _) _) (Nat.le_refl _) _⟩
      case rest =>
        obtain ⟨G, bM, rfl, hGM, gG, gM, RG, RM, Bc⟩ := hcut
        have CB := hid1 (HCB.out.below Bc)
        have WX := hid1 (HWX.out.below Bc)
        have B2 := hid1 (bl_step HNX.out Bc)
        clear HCB HWX HNX Bc e0 e1 gG gM hGM
        obtain ⟨h, v, c, kk, P, hS⟩ : ∃ h v c kk P, tS n m N = (h, v, c, kk, P) := ⟨_, _, _, _, _, rfl⟩
        obtain ⟨E, hE⟩ : ∃ E, tuE n m N = E := ⟨_, rfl⟩
        have hkk := tS_le (by omega) hS
        have HT := hid1 (fun g W r => turn_all n (some ⟨g, 0, none⟩) m (m + 66) N W (by omega) r h v c kk P E hE hS)
        have HRT := hid1 (fun W r => rturn_all n xo m xc N W r h v c kk P E hE hS)
        clear hS hE
        have q0 := sf_len RM
        have q1 := sf_ws RM
        have lM := RM.lt
        go_wp2_with fail
        refine (HT.out G wc (rm_wr RG WX.out.1)).mono ?_
        rintro e w3 ⟨bo, K, rfl, WA, hb⟩
        replace RG := keepr hb RG
        replace RM := keepr hb RM
        replace CB := hid1 (CB.out.below hb)
        replace WX := hid1 (WX.out.below hb)
        have B3 := hid1 (bl_step B2.out hb)
        clear hb B2 q0 q1 HT lM
        obtain ⟨c0, c1⟩ := CB.out
        dsimp only at c0 c1
        have lg3 := lt_of_cell c0
        go_wp2_with fail
        refine gen_calls (fun Y => Y.rowIs w3.heap.size 33 4 (cf h v c bo kk K) ∧ Wr Y bo kk P ∧ Y.rowIs G 75 (m + 66) (rmf N m) ∧ Y.rowIs bM 26 2 (sf n (some ⟨G, 0, none⟩) m (m + 66)) ∧ Cb Y g (o + k * 2) ⟨n, xo, m, xc, N⟩ ∧ Wr Y xo m N ∧ Below w.heap.size w Y) ⟨cu_new _ _ _ _ _ _ _ _, WA.below (bl_alloc (Below.refl _ _) _), RG.alloc _, RM.alloc _, CB.out.below (bl_alloc (Below.refl _ _) _), WX.out.below (bl_alloc (Below.refl _ _) _), bl_alloc B3.out _⟩ ?_
        clear WA RG RM CB WX B3 c0 c1 lg3
        rintro Y ⟨QA, WA, RG, RM, CB, WX, BY⟩
        refine (HRT.out Y WX).mono ?_
        rintro e w4 ⟨bo2, K2, rfl, WB, hb⟩
        replace QA := keepr hb QA
        replace WA := WA.below hb
        replace RG := keepr hb RG
        replace RM := keepr hb RM
        replace CB := CB.below hb
        replace WX := WX.below hb
        have B4 := bl_step BY hb
        clear hb BY HRT
        go_upto_region 9 with fail
        refine gen_world (fun Z => Z.rowIs w3.heap.size 33 4 (cf h v c bo kk K) ∧ Z.rowIs w4.heap.size 33 4 (cf h v c bo2 kk K2) ∧ Wr Z bo kk P ∧ Wr Z bo2 kk P ∧ Z.rowIs G 75 (m + 66) (rmf N m) ∧ Z.rowIs bM 26 2 (sf n (some ⟨G, 0, none⟩) m (m + 66)) ∧ Cb Z g (o + k * 2) ⟨n, xo, m, xc, N⟩ ∧ Wr Z xo m N ∧ Below w.heap.size w Z) ⟨QA.alloc _, cu_new _ _ _ _ _ _ _ _, WA.below (bl_alloc (Below.refl _ _) _), WB.below (bl_alloc (Below.refl _ _) _), RG.alloc _, RM.alloc _, CB.below (bl_alloc (Below.refl _ _) _), WX.below (bl_alloc (Below.refl _ _) _), bl_alloc B4 _⟩ ?_
        clear QA WA WB RG RM CB WX B4
        rintro Z ⟨QA, QB, WA, WB, RG, RM, CB, WX, BZ⟩
        have HA := hid1 QA
        have HB := hid1 QB
        have HM := hid1 RM
        have HCb := hid1 CB
        have HWA := hid1 WA
        have HWB := hid1 WB
        have HWX := hid1 WX
        have HRG := hid1 RG
        have HBZ := hid1 BZ
        have HHm := hid1 hm
        clear QA QB RM CB WA WB WX RG BZ
        go_region_held3 (fun Y => (Y.cell? ⟨w3.heap.size, 0, none⟩ = some (.int .i64 h) ∧ Y.cell? ⟨w3.heap.size, 1, none⟩ = some (.int .i64 v) ∧ Y.cell? ⟨w3.heap.size, 2, none⟩ = some (.int .i64 c) ∧ Y.cell? ⟨w3.heap.size, 3, none⟩ = some (.slice bo kk K)) ∧ (Y.cell? ⟨w4.heap.size, 0, none⟩ = some (.int .i64 h) ∧ Y.cell? ⟨w4.heap.size, 1, none⟩ = some (.int .i64 v) ∧ Y.cell? ⟨w4.heap.size, 2, none⟩ = some (.int .i64 c) ∧ Y.cell? ⟨w4.heap.size, 3, none⟩ = some (.slice bo2 kk K2)) ∧ Y.cell? ⟨bM, 1, none⟩ = some (.slice (some ⟨G, 0, none⟩) m (m + 66)) ∧ Y.cell? ⟨g, o + k * 2 + 1, none⟩ = some (.slice xo m xc))
          (((try dsimp only); (with_reducible refine kpU (Z := Z) HA.out HB.out HM.out HCb.out ?_); repeat (first | (with_reducible exact Below.refl _ _) | (with_reducible assumption) | (with_reducible refine Below.drew ?_))))
          (first
          | (go_at_call 26; refine (kept_true m N G xo xc _ HHm.out (keepr by1 HRG.out) (HWX.out.below by1)).mono ?_; rintro e y2 ⟨rfl, hb2⟩; have by2 : Below Z.heap.size Z y2 := bl_step by1 hb2; clear hb2)
          | (go_at_call 12; refine (cubes_same h v c kk P bo bo2 K K2 _ hkk (HWA.out.below (Below.refl _ _).drew) (HWB.out.below (Below.refl _ _).drew)).mono ?_; rintro e y1 ⟨rfl, hb1⟩; have by1 : Below Z.heap.size Z y1 := bl_step (Below.refl _ _).drew hb1; clear hb1))
        go_wp2_with fail
        exact ⟨⟨k + 1, by omega, by go_num, bl_step HBZ.out by2⟩, by simp [intOf]; omega⟩
    · have hkL : k = L := by omega
      subst hkL
      go_wp2_with fail
      go_ret
      exact ⟨rfl, hnx⟩
end Go.Proofs.Ytgmildjfikgkmaa
