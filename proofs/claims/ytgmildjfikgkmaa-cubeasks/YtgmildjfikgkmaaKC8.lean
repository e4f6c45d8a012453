/- CubeAsks: asked. -/
import Derived.Test.YtgmildjfikgkmaaKC7
import Derived.Deep.RegionHeld3
import Derived.Deep.DeepCutAuto
namespace Go.Proofs.Ytgmildjfikgkmaa
open Go.RowKit Go.Shelf

theorem Rs.belowK {w w' : World} {ao : Option Addr} {m : Nat} {f : Nat → Value} (h : Rs w ao m f) (hb : Below w.heap.size w w') : Rs w' ao m f := fun k hk => by
  obtain ⟨g, o, e, c⟩ := h k hk
  exact ⟨g, o, e, keepc hb c⟩
theorem kpQ {Z Y : World} {b t : Nat} {h v c : Int} {xo : Option Addr} {m xc : Nat} (q : Z.rowIs b t 4 (cf h v c xo m xc)) (hB : Below Z.heap.size Z Y) :
    Y.cell? ⟨b, 0, none⟩ = some (.int .i64 h) ∧ Y.cell? ⟨b, 1, none⟩ = some (.int .i64 v) ∧ Y.cell? ⟨b, 2, none⟩ = some (.int .i64 c) ∧ Y.cell? ⟨b, 3, none⟩ = some (.slice xo m xc) :=
  ⟨cf0 (keepr hB q), cf1 (keepr hB q), cf2 (keepr hB q), cf3 (keepr hB q)⟩
theorem kpR {Z Y : World} {ba bb bM b t1 t2 t3 t4 : Nat} {n : Int} {ao bo : Option Addr} {kk ak bk : Nat} {h v c : Int} {mo xo : Option Addr} {m mc xc : Nat} (qa : Z.rowIs ba t1 2 (sf n ao kk ak)) (qb : Z.rowIs bb t2 2 (sf n bo kk bk)) (qm : Z.rowIs bM t3 4 (cf h v c mo m mc)) (q : Z.rowIs b t4 4 (cf h v c xo m xc)) (hB : Below Z.heap.size Z Y) :
    (Y.cell? ⟨ba, 0, none⟩ = some (.int .i64 n) ∧ Y.cell? ⟨ba, 1, none⟩ = some (.slice ao kk ak)) ∧ (Y.cell? ⟨bb, 0, none⟩ = some (.int .i64 n) ∧ Y.cell? ⟨bb, 1, none⟩ = some (.slice bo kk bk)) ∧ (Y.cell? ⟨bM, 0, none⟩ = some (.int .i64 h) ∧ Y.cell? ⟨bM, 1, none⟩ = some (.int .i64 v) ∧ Y.cell? ⟨bM, 2, none⟩ = some (.int .i64 c) ∧ Y.cell? ⟨bM, 3, none⟩ = some (.slice mo m mc)) ∧ (Y.cell? ⟨b, 0, none⟩ = some (.int .i64 h) ∧ Y.cell? ⟨b, 1, none⟩ = some (.int .i64 v) ∧ Y.cell? ⟨b, 2, none⟩ = some (.int .i64 c) ∧ Y.cell? ⟨b, 3, none⟩ = some (.slice xo m xc)) :=
  ⟨⟨sf_len (keepr hB qa), sf_ws (keepr hB qa)⟩, ⟨sf_len (keepr hB qb), sf_ws (keepr hB qb)⟩, kpQ qm hB, kpQ q hB⟩
theorem wr_putK {w : World} {bo : Option Addr} {m N b : Nat} (h : Wr w bo m N) (hb : ∀ g o, bo = some ⟨g, o, none⟩ → g ≠ b) (k : Nat) (u : Value) : Wr (w.setCell ⟨b, k, none⟩ u) bo m N :=
  ⟨h.1, fun j hj => by
    obtain ⟨g, o, e, c⟩ := h.2 j hj
    exact ⟨g, o, e, ((But.refl b w).set u).cell (hb g o e) c⟩⟩
theorem kpS {Z Y : World} {b t g1 o1 g2 o2 : Nat} {h v c : Int} {xo : Option Addr} {m xc : Nat} {a d : Int} (q : Z.rowIs b t 4 (cf h v c xo m xc)) (k1 : Z.cell? ⟨g1, o1, none⟩ = some (.int .i64 a)) (k2 : Z.cell? ⟨g2, o2, none⟩ = some (.int .i64 d)) (hB : Below Z.heap.size Z Y) :
    (Y.cell? ⟨b, 0, none⟩ = some (.int .i64 h) ∧ Y.cell? ⟨b, 1, none⟩ = some (.int .i64 v) ∧ Y.cell? ⟨b, 2, none⟩ = some (.int .i64 c) ∧ Y.cell? ⟨b, 3, none⟩ = some (.slice xo m xc)) ∧ Y.cell? ⟨g1, o1, none⟩ = some (.int .i64 a) ∧ Y.cell? ⟨g2, o2, none⟩ = some (.int .i64 d) :=
  ⟨kpQ q hB, keepc hB k1, keepc hB k2⟩
theorem cu_start (w : World) (h v c : Int) (ao : Option Addr) (m cap : Nat) : ∃ W, (w.alloc (.cells #[.int .i64 h, .int .i64 v, .int .i64 c, .slice ao m cap] 33)) = W ∧
    W.heap.size = w.heap.size + 1 ∧ Below w.heap.size w W ∧ W.rowIs w.heap.size 33 4 (cf h v c ao m cap) :=
  ⟨_, rfl, by simp, bl_alloc (Below.refl _ _) _, cu_new w _ _ _ _ _ _ _⟩
set_option maxHeartbeats 3200000 in
set_option maxRecDepth 100000 in
theorem asked_any (h v c : Int) (xo : Option Addr) (m xc N : Nat) (yo zo : Option Addr) (L ca M cb : Nat) (fy fx : Nat → Int) (w : World) (hm : m ≤ 17592186043904) (hL : L ≤ 9223372036854775807) (hM : M ≤ 9223372036854775807) (rd : Wr w xo m N) (ry : Rs w yo L (fun k => .int .i64 (fy k))) (rx : Rs w zo M (fun k => .int .i64 (fx k))) :
    Calls Try.prog 27 #[cuv h v c xo m xc, .slice yo L ca, .slice zo M cb] w fun e w' => e = .returned (.bool true) ∧ Below w.heap.size w w' := by
  obtain ⟨W, eW, z0, B0, q0⟩ := cu_start w h v c xo m xc
  have HRD := hid1 rd
  have HRY := hid1 ry
  have HRX := hid1 rx
  clear rd ry rx
  have e0 := cf0 q0
  have e1 := cf1 q0
  have e2 := cf2 q0
  have e3 := cf3 q0
  have HQ0 := hid1 q0
  have HB0 := hid1 B0
  clear q0 B0
  have hfo := follows
  go_enter Try.func27, Try.ntmps27
  go_upto_region 1 with fail
  have lw : w.heap.size < W.heap.size := by omega
  clear z0 eW
  go_cut [7] from 21 to 125 (fun s7 wx => ∃ G bM, s7 = .pointer (some ⟨bM, 0, none⟩) ∧ wx.rowIs G 75 (m + 66) (rmf N m) ∧ wx.rowIs bM 33 4 (cf h v c (some ⟨G, 0, none⟩) m (m + 66)) ∧ Below W.heap.size W wx)
  case first =>
    go_region_held3 (fun Y => Y.cell? ⟨w.heap.size, 0, none⟩ = some (.int .i64 h) ∧ Y.cell? ⟨w.heap.size, 1, none⟩ = some (.int .i64 v) ∧ Y.cell? ⟨w.heap.size, 2, none⟩ = some (.int .i64 c) ∧ Y.cell? ⟨w.heap.size, 3, none⟩ = some (.slice xo m xc))
      (((try dsimp only); (with_reducible refine kpQ (Z := W) HQ0.out ?_); repeat (first | (with_reducible exact Below.refl _ _) | (with_reducible assumption) | (with_reducible refine Below.drew ?_) | (with_reducible refine bl_alloc ?_ _) | (with_reducible refine bl_set ?_ (Nat.le_refl _) _))))
      ((go_at_call 24; refine (roomy_any m N xo xc _ hm ((HRD.out.below HB0.out).below (by repeat (first | (with_reducible exact Below.refl _ _) | (with_reducible refine Below.drew ?_) | (with_reducible refine bl_alloc ?_ _))))).mono ?_; rintro e y1 ⟨G, rfl, hG, hrow, hb⟩; have HRW := hid1 hrow; have HBB := hid1 hb; have by1 : Below W.heap.size W y1 := (by first | exact bl_step (Below.refl _ _).drew hb | exact bl_step (bl_alloc (Below.refl _ _) _).drew hb); have zG := hG; (try (have VR := keepr HBB.out (cu_new W 0 0 0 none 0 0 33).drew; have v0 := cf0 VR; have v1 := cf1 VR; have v2 := cf2 VR; have v3 := cf3 VR; have f0 := VR.frozen 0; have f1 := VR.frozen 1; have f2 := VR.frozen 2; have f3 := VR.frozen 3; have HVR := hid1 VR; clear VR)); clear hrow hb hG))
    all_goals (refine kmeet_of (by assumption) ?_; go_meet)
    · exact ⟨G, y1.heap.size, rfl, HRW.out.alloc _, cu_new _ _ _ _ _ _ _ _, bl_alloc by1 _⟩
    · have zG' : W.heap.size + 1 ≤ G := by simpa using zG
      have hne : G ≠ W.heap.size := by omega
      exact ⟨G, W.heap.size, rfl, (((HRW.out.setOther (a := ⟨W.heap.size, 0, none⟩) hne _).setOther (a := ⟨W.heap.size, 1, none⟩) hne _).setOther (a := ⟨W.heap.size, 2, none⟩) hne _).setOther (a := ⟨W.heap.size, 3, none⟩) hne _, cf_set HVR.out h v c (some ⟨G, 0, none⟩) m (m + 66), bl_set (bl_set (bl_set (bl_set by1 (Nat.le_refl _) _) (Nat.le_refl _) _) (Nat.le_refl _) _) (Nat.le_refl _) _⟩
  case rest =>
    obtain ⟨G, bM, rfl, RG, RM, Bc⟩ := hcut
    have RC := keepr Bc HQ0.out
    have WX := (HRD.out.below HB0.out).below Bc
    have B2 := bl_step HB0.out Bc
    clear HRD HQ0 HB0 Bc e0 e1 e2 e3
    obtain ⟨T, hT⟩ : ∃ T, uT h v c m N = T := ⟨_, rfl⟩
    obtain ⟨n, kk, P, hS⟩ : ∃ n kk P, fS h v c m N = (n, kk, P) := ⟨_, _, _, rfl⟩
    obtain ⟨E, hE⟩ : ∃ E, cuk h v c m N = E := ⟨_, rfl⟩
    have hTl : T ≤ 16777216 := by rw [← hT]; exact uT_le _ _ _ _ _
    have hkk := fS_le hS
    have HU := hid1 (fun g W r => unpack_all h v c (some ⟨g, 0, none⟩) m (m + 66) N W (by omega) (by omega) r E T hE hT)
    have HRU := hid1 (fun W r => runpack_all h v c xo m xc N W r E T hE hT)
    have HF := hid1 (fun g W r => flat_all h v c (some ⟨g, 0, none⟩) m (m + 66) N W (by omega) (by omega) r E n kk P hE hS)
    have HRF := hid1 (fun W r => rflat_all h v c xo m xc N W r E n kk P hE hS)
    have HC := hid1 (fun g W (r : Wr W (some ⟨g, 0, none⟩) m N) => ccheck_any h v c (some ⟨g, 0, none⟩) m (m + 66) N W (by omega) (by omega) r)
    have HRC := hid1 (fun W (r : Wr W xo m N) => rccheck_any h v c xo m xc N W r)
    rw [hE] at HC HRC
    clear hS hE hT
    have q0 := cf0 RM
    have q1 := cf1 RM
    have q2 := cf2 RM
    have q3 := cf3 RM
    have HWX := hid1 WX
    have HRG := hid1 RG
    have HRC' := hid1 RC
    have HB2 := hid1 B2
    have HRM := hid1 RM
    clear WX RG RC B2 RM
    go_wp2_with fail
    refine (HU.out G wc (rm_wr HRG.out HWX.out.1)).mono ?_
    rintro e w3 ⟨lo, lk, rfl, rl, hb⟩
    replace HRG := hid1 (keepr hb HRG.out)
    replace HRM := hid1 (keepr hb HRM.out)
    replace HRC' := hid1 (keepr hb HRC'.out)
    replace HWX := hid1 (HWX.out.below hb)
    replace HB2 := hid1 (bl_step HB2.out hb)
    clear hb q0 q1 q2 q3 HU
    have q0 := cf0 HRC'.out
    have q1 := cf1 HRC'.out
    have q2 := cf2 HRC'.out
    have q3 := cf3 HRC'.out
    go_wp2_with fail
    refine (HRU.out w3 HWX.out).mono ?_
    rintro e w4 ⟨lo2, lk2, rfl, rl2, hb⟩
    replace HRG := hid1 (keepr hb HRG.out)
    replace HRM := hid1 (keepr hb HRM.out)
    replace HRC' := hid1 (keepr hb HRC'.out)
    replace HWX := hid1 (HWX.out.below hb)
    replace HB2 := hid1 (bl_step HB2.out hb)
    replace rl := rl.belowK hb
    clear hb q0 q1 q2 q3 HRU
    have q0 := cf0 HRM.out
    have q1 := cf1 HRM.out
    have q2 := cf2 HRM.out
    have q3 := cf3 HRM.out
    have H1 := hid1 rl
    have H2 := hid1 rl2
    clear rl rl2
    go_wp2_with fail
    refine (HF.out G w4 (rm_wr HRG.out HWX.out.1)).mono ?_
    rintro e w5 ⟨ao, ak, rfl, WA, hb⟩
    replace HRG := hid1 (keepr hb HRG.out)
    replace HRM := hid1 (keepr hb HRM.out)
    replace HRC' := hid1 (keepr hb HRC'.out)
    replace HWX := hid1 (HWX.out.below hb)
    replace HB2 := hid1 (bl_step HB2.out hb)
    replace H1 := hid1 (H1.out.belowK hb)
    replace H2 := hid1 (H2.out.belowK hb)
    clear hb q0 q1 q2 q3 HF
    have q0 := cf0 HRC'.out
    have q1 := cf1 HRC'.out
    have q2 := cf2 HRC'.out
    have q3 := cf3 HRC'.out
    have lc := HRC'.out.lt
    have HWA := hid1 WA
    clear WA
    go_wp2_with fail
    refine gen_calls (fun Y => Y.rowIs w5.heap.size 26 2 (sf n ao kk ak) ∧ Wr Y ao kk P ∧ Rs Y lo T (fun k => .int .i8 (uv N c.toNat k)) ∧ Rs Y lo2 T (fun k => .int .i8 (uv N c.toNat k)) ∧ Y.rowIs G 75 (m + 66) (rmf N m) ∧ Y.rowIs bM 33 4 (cf h v c (some ⟨G, 0, none⟩) m (m + 66)) ∧ Y.rowIs w.heap.size 33 4 (cf h v c xo m xc) ∧ Wr Y xo m N ∧ Below w.heap.size w Y) ⟨row_new _ _ _ _ _ _, HWA.out.below (bl_alloc (Below.refl _ _) _), H1.out.belowK (bl_alloc (Below.refl _ _) _), H2.out.belowK (bl_alloc (Below.refl _ _) _), HRG.out.alloc _, HRM.out.alloc _, HRC'.out.alloc _, HWX.out.below (bl_alloc (Below.refl _ _) _), bl_alloc HB2.out _⟩ ?_
    clear HWA H1 H2 HRG HRM HRC' HWX HB2 q0 q1 q2 q3 lc
    rintro Y ⟨QA, WA, R1, R2, RG, RM, RC, WX, BY⟩
    refine (HRF.out Y WX).mono ?_
    rintro e w6 ⟨bo, bk, rfl, WB, hb⟩
    replace QA := keepr hb QA
    replace WA := WA.below hb
    replace R1 := R1.belowK hb
    replace R2 := R2.belowK hb
    replace RG := keepr hb RG
    replace RM := keepr hb RM
    replace RC := keepr hb RC
    replace WX := WX.below hb
    replace BY := bl_step BY hb
    clear hb HRF
    go_upto_region 6 with fail
    refine gen_world (fun Z => Z.rowIs w5.heap.size 26 2 (sf n ao kk ak) ∧ Z.rowIs w6.heap.size 26 2 (sf n bo kk bk) ∧ Wr Z ao kk P ∧ Wr Z bo kk P ∧ Rs Z lo T (fun k => .int .i8 (uv N c.toNat k)) ∧ Rs Z lo2 T (fun k => .int .i8 (uv N c.toNat k)) ∧ Z.rowIs G 75 (m + 66) (rmf N m) ∧ Z.rowIs bM 33 4 (cf h v c (some ⟨G, 0, none⟩) m (m + 66)) ∧ Z.rowIs w.heap.size 33 4 (cf h v c xo m xc) ∧ Wr Z xo m N ∧ Below w.heap.size w Z) ⟨QA.alloc _, row_new _ _ _ _ _ _, WA.below (bl_alloc (Below.refl _ _) _), WB.below (bl_alloc (Below.refl _ _) _), R1.belowK (bl_alloc (Below.refl _ _) _), R2.belowK (bl_alloc (Below.refl _ _) _), RG.alloc _, RM.alloc _, RC.alloc _, WX.below (bl_alloc (Below.refl _ _) _), bl_alloc BY _⟩ ?_
    clear QA WA WB R1 R2 RG RM RC WX BY
    rintro Z ⟨QA, QB, WA, WB, R1, R2, RG, RM, RC, WX, BZ⟩
    have HQA := hid1 QA
    have HQB := hid1 QB
    have HWA := hid1 WA
    have HWB := hid1 WB
    have H1 := hid1 R1
    have H2 := hid1 R2
    have HRG := hid1 RG
    have HRM := hid1 RM
    have HRC' := hid1 RC
    have HWX := hid1 WX
    have HBZ := hid1 BZ
    clear QA QB WA WB R1 R2 RG RM RC WX BZ
    have HhT : Hid (T ≤ 9223372036854775807) := hid1 (by omega)
    have Hhk : Hid (kk ≤ 9223372036854775807) := hid1 (by omega)
    go_region_held3 (fun Y => (Y.cell? ⟨w5.heap.size, 0, none⟩ = some (.int .i64 n) ∧ Y.cell? ⟨w5.heap.size, 1, none⟩ = some (.slice ao kk ak)) ∧ (Y.cell? ⟨w6.heap.size, 0, none⟩ = some (.int .i64 n) ∧ Y.cell? ⟨w6.heap.size, 1, none⟩ = some (.slice bo kk bk)) ∧ (Y.cell? ⟨bM, 0, none⟩ = some (.int .i64 h) ∧ Y.cell? ⟨bM, 1, none⟩ = some (.int .i64 v) ∧ Y.cell? ⟨bM, 2, none⟩ = some (.int .i64 c) ∧ Y.cell? ⟨bM, 3, none⟩ = some (.slice (some ⟨G, 0, none⟩) m (m + 66))) ∧ (Y.cell? ⟨w.heap.size, 0, none⟩ = some (.int .i64 h) ∧ Y.cell? ⟨w.heap.size, 1, none⟩ = some (.int .i64 v) ∧ Y.cell? ⟨w.heap.size, 2, none⟩ = some (.int .i64 c) ∧ Y.cell? ⟨w.heap.size, 3, none⟩ = some (.slice xo m xc)))
      (((try dsimp only); (with_reducible refine kpR (Z := Z) HQA.out HQB.out HRM.out HRC'.out ?_); repeat (first | (with_reducible exact Below.refl _ _) | (with_reducible assumption) | (with_reducible refine Below.drew ?_))))
      (first
      | (go_at_call 57; refine (HRC.out _ (HWX.out.below by3)).mono ?_; rintro e y4 ⟨rfl, hb4⟩; have by4 : Below Z.heap.size Z y4 := bl_step by3 hb4; clear hb4)
      | (go_at_call 22; refine (HC.out G _ (rm_wr (keepr by2 HRG.out) HWX.out.1)).mono ?_; rintro e y3 ⟨rfl, hb3⟩; have by3 : Below Z.heap.size Z y3 := bl_step by2 hb3; clear hb3)
      | (go_at_call 15; refine (rows_same n kk P ao bo ak bk _ Hhk.out (HWA.out.below by1) (HWB.out.below by1)).mono ?_; rintro e y2 ⟨rfl, hb2⟩; have by2 : Below Z.heap.size Z y2 := bl_step by1 hb2; clear hb2)
      | (go_at_call 34; refine (vals_same T (uv N c.toNat) lo lo2 lk lk2 _ HhT.out (H1.out.belowK (Below.refl _ _).drew) (H2.out.belowK (Below.refl _ _).drew)).mono ?_; rintro e y1 ⟨rfl, hb1⟩; have by1 : Below Z.heap.size Z y1 := bl_step (Below.refl _ _).drew hb1; clear hb1))
    replace HRG := hid1 (keepr by4 HRG.out)
    replace HRM := hid1 (keepr by4 HRM.out)
    replace HRC' := hid1 (keepr by4 HRC'.out)
    replace HWX := hid1 (HWX.out.below by4)
    replace HBZ := hid1 (bl_step HBZ.out by4)
    clear HQA HQB HWA HWB H1 H2 by1 by2 by3 by4 HC HRC
    go_wp2_with fail
    go_loopw [16] (fun i wr => ∃ k : Nat, k ≤ L ∧ k ≤ M ∧ i = .int .i64 k ∧ wr.rowIs G 75 (m + 66) (rmf N m) ∧ wr.rowIs bM 33 4 (cf h v c (some ⟨G, 0, none⟩) m (m + 66)) ∧ wr.rowIs w.heap.size 33 4 (cf h v c xo m xc) ∧ Wr wr xo m N ∧ Below w.heap.size w wr) (fun i _ => L - (intOf i).toNat)
    case atStart => exact ⟨0, Nat.zero_le _, Nat.zero_le _, rfl, HRG.out, HRM.out, HRC'.out, HWX.out, HBZ.out⟩
    case round =>
      clear HRG HRM HRC' HWX HBZ
      obtain ⟨k, hk, hk2, rfl, RG, RM, RC, WX, hnx⟩ := hrel
      have HRG := hid1 RG
      have HRM := hid1 RM
      have HRC' := hid1 RC
      have HWX := hid1 WX
      have HNX := hid1 hnx
      have ik0 : (0 : Int) ≤ (k : Int) := by omega
      by_cases hb2 : k < L ∧ k < M
      · obtain ⟨hlt, hlm⟩ := hb2
        have ik : (k : Int) < (L : Nat) := by omega
        have ikm : (k : Int) < (M : Nat) := by omega
        obtain ⟨gy, oy, rfl, cy⟩ := (HRY.out.belowK hnx) k hlt
        obtain ⟨gx, ox, rfl, cx⟩ := (HRX.out.belowK hnx) k hlm
        clear RG RM RC WX hnx
        have HCY := hid1 cy
        have HCX := hid1 cx
        have lgy := lt_of_cell cy
        have lgx := lt_of_cell cx
        obtain ⟨n2, k2, P2, hS2⟩ : ∃ n2 k2 P2, aS h v c (fy k) (fx k) m N = (n2, k2, P2) := ⟨_, _, _, rfl⟩
        obtain ⟨E2, hE2⟩ : ∃ E2, atE h v c (fy k) (fx k) m N = E2 := ⟨_, rfl⟩
        have hk22 := aS_le hS2
        have HA1 := hid1 (fun W r => at_all h v c (fy k) (fx k) (some ⟨G, 0, none⟩) m (m + 66) N W (by omega) (by omega) r E2 n2 k2 P2 hE2 hS2)
        have HA2 := hid1 (fun W r => rat_all h v c (fy k) (fx k) xo m xc N W r E2 n2 k2 P2 hE2 hS2)
        clear hS2 hE2
        have q0 := cf0 HRM.out
        have q1 := cf1 HRM.out
        have q2 := cf2 HRM.out
        have q3 := cf3 HRM.out
        go_upto_region 11 with fail
        go_cut [17, 18] from 74 to 120 (fun s1 s2 wx => ∃ bB bo2 K2, s1 = .pointer (some ⟨bB, 0, none⟩) ∧ s2 = .int .i64 E2 ∧ wx.rowIs bB 26 2 (sf n2 bo2 k2 K2) ∧ Wr wx bo2 k2 P2 ∧ Below wr.heap.size wr wx)
        case first =>
          go_region_held3 (fun Y => (Y.cell? ⟨bM, 0, none⟩ = some (.int .i64 h) ∧ Y.cell? ⟨bM, 1, none⟩ = some (.int .i64 v) ∧ Y.cell? ⟨bM, 2, none⟩ = some (.int .i64 c) ∧ Y.cell? ⟨bM, 3, none⟩ = some (.slice (some ⟨G, 0, none⟩) m (m + 66))) ∧ Y.cell? ⟨gy, oy + k, none⟩ = some (.int .i64 (fy k)) ∧ Y.cell? ⟨gx, ox + k, none⟩ = some (.int .i64 (fx k)))
            (((try dsimp only); (with_reducible refine kpS (Z := wr) HRM.out HCY.out HCX.out ?_); repeat (first | (with_reducible exact Below.refl _ _) | (with_reducible assumption) | (with_reducible refine Below.drew ?_) | (with_reducible refine bl_alloc ?_ _) | (with_reducible refine bl_set ?_ (Nat.le_refl _) _))))
            ((go_at_call 14; refine (HA1.out _ (rm_wr (keepr (by repeat (first | (with_reducible exact Below.refl _ _) | (with_reducible refine Below.drew ?_) | (with_reducible refine bl_alloc ?_ _))) HRG.out) HWX.out.1)).mono ?_; rintro e y1 ⟨bo2, K2, rfl, wr2, hpl, hb⟩; have HWR := hid1 wr2; have by1 : Below wr.heap.size wr y1 := (by first | exact bl_step (Below.refl _ _).drew hb | exact bl_step (bl_alloc (Below.refl _ _) _).drew hb); (try (have VR := keepr hb (row_new wr 0 none 0 0 26).drew; have v0 := sf_len VR; have v1 := sf_ws VR; have f0 := VR.frozen 0; have f1 := VR.frozen 1; have HVR := hid1 VR; clear VR)); clear wr2 hb))
          all_goals (refine kmeet_of (by assumption) ?_; go_meet)
          · exact ⟨y1.heap.size, bo2, K2, rfl, rfl, row_new _ _ _ _ _ _, HWR.out.below (bl_alloc (Below.refl _ _) _), bl_alloc by1 _⟩
          · have hne : ∀ g o, bo2 = some ⟨g, o, none⟩ → g ≠ wr.heap.size := fun g o e => by
              have := hpl g o e
              simp at this
              omega
            exact ⟨wr.heap.size, bo2, K2, rfl, rfl, rs_set HVR.out n2 bo2 k2 K2, wr_putK (wr_putK HWR.out hne 0 _) hne 1 _, bl_set (bl_set by1 (Nat.le_refl _) _) (Nat.le_refl _) _⟩
        case rest =>
          obtain ⟨bA, ao2, KA, rfl, rfl, QA, WA, Bc⟩ := hcut
          replace HRG := hid1 (keepr Bc HRG.out)
          replace HRM := hid1 (keepr Bc HRM.out)
          replace HRC' := hid1 (keepr Bc HRC'.out)
          replace HWX := hid1 (HWX.out.below Bc)
          replace HCY := hid1 (keepc Bc HCY.out)
          replace HCX := hid1 (keepc Bc HCX.out)
          replace HNX := hid1 (bl_step HNX.out Bc)
          have HQA := hid1 QA
          have HWA := hid1 WA
          clear QA WA Bc q0 q1 q2 q3 cy cx lgy lgx HA1
          have q0 := cf0 HRC'.out
          have q1 := cf1 HRC'.out
          have q2 := cf2 HRC'.out
          have q3 := cf3 HRC'.out
          have cy := HCY.out
          have cx := HCX.out
          have lgy := lt_of_cell cy
          have lgx := lt_of_cell cx
          go_upto_region 12 with fail
          go_cut [19, 20] from 74 to 120 (fun s1 s2 wx => ∃ bB bo2 K2, s1 = .pointer (some ⟨bB, 0, none⟩) ∧ s2 = .int .i64 E2 ∧ wx.rowIs bB 26 2 (sf n2 bo2 k2 K2) ∧ Wr wx bo2 k2 P2 ∧ Below wc.heap.size wc wx)
          case first =>
            go_region_held3 (fun Y => (Y.cell? ⟨w.heap.size, 0, none⟩ = some (.int .i64 h) ∧ Y.cell? ⟨w.heap.size, 1, none⟩ = some (.int .i64 v) ∧ Y.cell? ⟨w.heap.size, 2, none⟩ = some (.int .i64 c) ∧ Y.cell? ⟨w.heap.size, 3, none⟩ = some (.slice xo m xc)) ∧ Y.cell? ⟨gy, oy + k, none⟩ = some (.int .i64 (fy k)) ∧ Y.cell? ⟨gx, ox + k, none⟩ = some (.int .i64 (fx k)))
              (((try dsimp only); (with_reducible refine kpS (Z := wc) HRC'.out HCY.out HCX.out ?_); repeat (first | (with_reducible exact Below.refl _ _) | (with_reducible assumption) | (with_reducible refine Below.drew ?_) | (with_reducible refine bl_alloc ?_ _) | (with_reducible refine bl_set ?_ (Nat.le_refl _) _))))
              ((go_at_call 58; refine (HA2.out _ (HWX.out.below (by repeat (first | (with_reducible exact Below.refl _ _) | (with_reducible refine Below.drew ?_) | (with_reducible refine bl_alloc ?_ _))))).mono ?_; rintro e y1 ⟨bo2, K2, rfl, wr2, hpl, hb⟩; have HWR := hid1 wr2; have by1 : Below wc.heap.size wc y1 := (by first | exact bl_step (Below.refl _ _).drew hb | exact bl_step (bl_alloc (Below.refl _ _) _).drew hb); (try (have VR := keepr hb (row_new wc 0 none 0 0 26).drew; have v0 := sf_len VR; have v1 := sf_ws VR; have f0 := VR.frozen 0; have f1 := VR.frozen 1; have HVR := hid1 VR; clear VR)); clear wr2 hb))
            all_goals (refine kmeet_of (by assumption) ?_; go_meet)
            · exact ⟨y1.heap.size, bo2, K2, rfl, rfl, row_new _ _ _ _ _ _, HWR.out.below (bl_alloc (Below.refl _ _) _), bl_alloc by1 _⟩
            · have hne : ∀ g o, bo2 = some ⟨g, o, none⟩ → g ≠ wc.heap.size := fun g o e => by
                have := hpl g o e
                simp at this
                omega
              exact ⟨wc.heap.size, bo2, K2, rfl, rfl, rs_set HVR.out n2 bo2 k2 K2, wr_putK (wr_putK HWR.out hne 0 _) hne 1 _, bl_set (bl_set by1 (Nat.le_refl _) _) (Nat.le_refl _) _⟩
          case rest =>
            obtain ⟨bB, bo2, KB, rfl, rfl, QB, WB, Bc⟩ := hcut
            replace HRG := hid1 (keepr Bc HRG.out)
            replace HRM := hid1 (keepr Bc HRM.out)
            replace HRC' := hid1 (keepr Bc HRC'.out)
            replace HWX := hid1 (HWX.out.below Bc)
            replace HNX := hid1 (bl_step HNX.out Bc)
            replace HQA := hid1 (keepr Bc HQA.out)
            replace HWA := hid1 (HWA.out.below Bc)
            clear Bc q0 q1 q2 q3 cy cx lgy lgx HA2 HCY HCX
            have q0 := sf_len HQA.out
            have q1 := sf_ws HQA.out
            have q2 := sf_len QB
            have q3 := sf_ws QB
            go_wp2_with fail
            refine (rows_same n2 k2 P2 _ _ _ _ _ (by omega) HWA.out WB).mono ?_
            rintro e w9 ⟨rfl, hb⟩
            have RG := keepr hb HRG.out
            have RM := keepr hb HRM.out
            have RC := keepr hb HRC'.out
            have WX := HWX.out.below hb
            have BZ := bl_step HNX.out hb
            clear hb q0 q1 q2 q3 QB WB HQA HWA HRG HRM HRC' HWX HNX
            go_wp2_with fail
            exact ⟨⟨k + 1, by omega, by omega, by go_num, RG, RM, RC, WX, BZ⟩, by simp [intOf]; omega⟩
      · have q3 := cf3 RM
        have p3 := cf3 RC
        clear RG RM RC WX hnx HRM HRC' HRY HRX
        by_cases hkL : k = L
        · subst hkL
          go_wp2_with fail
          refine (kept_true m N G xo xc wr hm HRG.out HWX.out).mono ?_
          rintro e w9 ⟨rfl, hb⟩
          have BZ := bl_step HNX.out hb
          go_wp2_with fail
          go_ret
          exact ⟨rfl, BZ⟩
        · have hkM : k = M := by omega
          have ik : (k : Int) < (L : Nat) := by omega
          clear hkL
          subst hkM
          go_wp2_with fail
          refine (kept_true m N G xo xc wr hm HRG.out HWX.out).mono ?_
          rintro e w9 ⟨rfl, hb⟩
          have BZ := bl_step HNX.out hb
          go_wp2_with fail
          go_ret
          exact ⟨rfl, BZ⟩
end Go.Proofs.Ytgmildjfikgkmaa
