/- bound: a layer with weights. -/
import Derived.Test.YtkodihmjjiadnaaNO2
namespace Go.Proofs.Ytkodihmjjiadnaa.Nn
open Go.RowKit

theorem mulW {p : Nat} {x : Int} (hp : p ≤ 16777216) (hx : -128 ≤ x ∧ x ≤ 127) : -2147483648 ≤ (p : Int) * x ∧ (p : Int) * x ≤ 2147483648 := by
  have h1 : (p : Int) * x ≤ 16777216 * 128 := by
    by_cases h0 : 0 ≤ x
    · exact Int.le_trans (Int.mul_le_mul_of_nonneg_right (show (p : Int) ≤ 16777216 by omega) h0) (Int.mul_le_mul_of_nonneg_left (by omega) (by decide))
    · exact Int.le_trans (Int.mul_nonpos_of_nonneg_of_nonpos (by omega) (by omega)) (by decide)
  have h2 : (p : Int) * (-x) ≤ 16777216 * 128 := by
    by_cases h0 : 0 ≤ -x
    · exact Int.le_trans (Int.mul_le_mul_of_nonneg_right (show (p : Int) ≤ 16777216 by omega) h0) (Int.mul_le_mul_of_nonneg_left (by omega) (by decide))
    · exact Int.le_trans (Int.mul_nonpos_of_nonneg_of_nonpos (by omega) (by omega)) (by decide)
  rw [Int.mul_neg] at h2
  omega
/-- The reach of the output k without its bias. -/
def wLo (ws : Nat → Int) (F : Nat) (lo hi : Int) (k : Nat) : Int := (cnW (fun j => ws (k * F + j)) 1 F : Nat) * lo - (cnW (fun j => ws (k * F + j)) (-1) F : Nat) * hi
def wHi (ws : Nat → Int) (F : Nat) (lo hi : Int) (k : Nat) : Int := (cnW (fun j => ws (k * F + j)) 1 F : Nat) * hi - (cnW (fun j => ws (k * F + j)) (-1) F : Nat) * lo
theorem w_bd (ws : Nat → Int) {F : Nat} {lo hi : Int} (k : Nat) (hF : F ≤ 16777216) (hl : -128 ≤ lo ∧ lo ≤ 127) (hh : -128 ≤ hi ∧ hi ≤ 127) : (-4294967296 ≤ wLo ws F lo hi k ∧ wLo ws F lo hi k ≤ 4294967296) ∧ (-4294967296 ≤ wHi ws F lo hi k ∧ wHi ws F lo hi k ≤ 4294967296) := by
  have a1 := cnW_le (fun j => ws (k * F + j)) 1 F
  have a2 := cnW_le (fun j => ws (k * F + j)) (-1) F
  have b1 := mulW (p := cnW (fun j => ws (k * F + j)) 1 F) (by omega) hl
  have b2 := mulW (p := cnW (fun j => ws (k * F + j)) (-1) F) (by omega) hh
  have b3 := mulW (p := cnW (fun j => ws (k * F + j)) 1 F) (by omega) hh
  have b4 := mulW (p := cnW (fun j => ws (k * F + j)) (-1) F) (by omega) hl
  unfold wLo wHi
  omega
def bsO (L : Ly) (k : Nat) : Int := if k < L.mb then L.bs k else 0
/-- ofWeights, then times: the two calls of a round as one. -/
theorem kmeet_of {J K : Act → World → Prop} {Q : Exit → Act → World → Prop} {a : Act} {w : World} (hK : ∀ a' w', Met J a' w' → K a' w') (h : Met J a w) : Exit.then K Q Exit.normal a w := hK _ _ h
theorem kpW {V Y : World} {b g o m cw : Nat} {lo hi : Int} (h2 : V.cell? ⟨b, 12, none⟩ = some (.slice (some ⟨g, o, none⟩) m cw)) (h3 : V.cell? ⟨b + 1, 0, none⟩ = some (.int .i64 lo) ∧ V.cell? ⟨b + 1, 1, none⟩ = some (.int .i64 hi)) (hb : Below V.heap.size V Y) :
    Y.cell? ⟨b, 12, none⟩ = some (.slice (some ⟨g, o, none⟩) m cw) ∧ Y.cell? ⟨b + 1, 0, none⟩ = some (.int .i64 lo) ∧ Y.cell? ⟨b + 1, 1, none⟩ = some (.int .i64 hi) :=
  ⟨keepc hb h2, keepc hb h3.1, keepc hb h3.2⟩
theorem cell_two {Y : World} {b c i j k : Nat} {u v x : Value} (h : Y.cell? ⟨b, i, none⟩ = some x) (hn : b ≠ c) : ((Y.setCell ⟨c, j, none⟩ u).setCell ⟨c, k, none⟩ v).cell? ⟨b, i, none⟩ = some x := by
  have e : ((Y.setCell ⟨c, j, none⟩ u).setCell ⟨c, k, none⟩ v).heap[b]? = Y.heap[b]? := by rw [Below.heap_setCell _ _ _ _ (by show b ≠ c; exact hn), Below.heap_setCell _ _ _ _ (by show b ≠ c; exact hn)]
  exact (World.cell?_of_block (w := Y) e).trans h
theorem heap_two {Y : World} {b c j k : Nat} {u v : Value} (hn : b ≠ c) : ((Y.setCell ⟨c, j, none⟩ u).setCell ⟨c, k, none⟩ v).heap[b]? = Y.heap[b]? := by rw [Below.heap_setCell _ _ _ _ (by show b ≠ c; exact hn), Below.heap_setCell _ _ _ _ (by show b ≠ c; exact hn)]
theorem Rc.congr {W : World} {g m k : Nat} {f h f' h' : Nat → Int} (r : Rc W g m f h k) (e1 : ∀ i, i < k → f i = f' i) (e2 : ∀ i, i < k → h i = h' i) : Rc W g m f' h' k := World.rowIs.congr r fun i hi => by
  unfold rcf
  by_cases e3 : i < k * 2
  · simp only [if_pos e3]; rw [e1 _ (by omega), e2 _ (by omega)]
  · simp only [if_neg e3]
theorem Rc.upd {W : World} {g m k j : Nat} {f h f' h' : Nat → Int} (r : Rc W g m f h k) (hj : j < k) {x y : Int} (hx : x = f' j) (hy : y = h' j) (e1 : ∀ i, i < k → i ≠ j → f i = f' i) (e2 : ∀ i, i < k → i ≠ j → h i = h' i) : Rc ((W.setCell ⟨g, j * 2, none⟩ (.int .i64 x)).setCell ⟨g, j * 2 + 1, none⟩ (.int .i64 y)) g m f' h' k := by
  have h1 : World.rowIs _ g _ (m * 2) _ := World.rowIs.set (World.rowIs.set r (j * 2) (.int .i64 x)) (j * 2 + 1) (.int .i64 y)
  refine h1.congr fun i hi => ?_
  by_cases q1 : i = j * 2 + 1
  · rw [if_pos q1, q1, (rcf_at hj).2, hy]
  · rw [if_neg q1]
    by_cases q2 : i = j * 2
    · rw [if_pos q2, q2, (rcf_at hj).1, hx]
    · rw [if_neg q2]
      unfold rcf
      by_cases e3 : i < k * 2
      · simp only [if_pos e3]; rw [e1 _ (by omega) (by omega), e2 _ (by omega) (by omega)]
      · simp only [if_neg e3]
theorem kpW2 {V Y : World} {b g o m cw : Nat} {lo hi : Int} (h2 : V.cell? ⟨b, 12, none⟩ = some (.slice (some ⟨g, o, none⟩) m cw)) (h3 : V.cell? ⟨b + 1, 0, none⟩ = some (.int .i64 lo) ∧ V.cell? ⟨b + 1, 1, none⟩ = some (.int .i64 hi)) (hb : Below V.heap.size V Y) (i j : Nat) (u v : Value) :
    ((Y.setCell ⟨b + 2, i, none⟩ u).setCell ⟨b + 2, j, none⟩ v).cell? ⟨b, 12, none⟩ = some (.slice (some ⟨g, o, none⟩) m cw) ∧ ((Y.setCell ⟨b + 2, i, none⟩ u).setCell ⟨b + 2, j, none⟩ v).cell? ⟨b + 1, 0, none⟩ = some (.int .i64 lo) ∧ ((Y.setCell ⟨b + 2, i, none⟩ u).setCell ⟨b + 2, j, none⟩ v).cell? ⟨b + 1, 1, none⟩ = some (.int .i64 hi) :=
  ⟨cell_two (keepc hb h2) (by omega), cell_two (keepc hb h3.1) (by omega), cell_two (keepc hb h3.2) (by omega)⟩
set_option maxHeartbeats 3200000 in
set_option maxRecDepth 100000 in
theorem bweigh_any (L : Ly) (lo hi c : Int) (K F : Nat) (hK : L.k = K) (h1 : 1 ≤ K) (h2 : K ≤ 4096) (hw : L.mw = K * F) (hF1 : 1 ≤ F) (hm : K * F ≤ 16777216) (hcw : L.mw ≤ L.cw) (hl : -128 ≤ lo ∧ lo ≤ 127) (hh : -128 ≤ hi ∧ hi ≤ 127) (hmb : L.mb ≤ K) (hbs : ∀ j, j < L.mb → -2147483647 ≤ L.bs j ∧ L.bs j ≤ 2147483647) (w : World) (hL : Lst w L) :
    Calls Try.prog 52 #[lyv L, trio lo hi c] w fun e w' => ∃ g, e = .returned (.slice (some ⟨g, 0, none⟩) K K) ∧ w.heap.size ≤ g ∧ Rc w' g K (fun k => wLo L.ws F lo hi k + bsO L k) (fun k => wHi L.ws F lo hi k + bsO L k) K ∧ Below w.heap.size w w' := by
  have HLs := hid1 hL
  have HK := hid1 hK
  have HW := hid1 hw
  have HBS := hid1 hbs
  have hF : F ≤ 16777216 := Nat.le_trans (Nat.le_mul_of_pos_left F (by omega)) hm
  have hq : (L.mw : Int) / (K : Int) = (F : Int) := by rw [hw]; push_cast; exact Int.mul_ediv_cancel_left _ (by omega)
  clear hL hbs hK hw
  obtain ⟨b, hb0⟩ : ∃ b, w.heap.size = b := ⟨_, rfl⟩
  go_enter Try.func52, Try.ntmps52
  go_upto_region 1 with fail
  refine gen_world (fun X => Below w.heap.size w X ∧ Lp X b L ∧ X.rowIs (b + 1) 92 3 (fun i => .int .i64 (if i = 0 then lo else if i = 1 then hi else c)) ∧ X.heap.size = b + 2) ⟨by repeat (first | (with_reducible exact Below.refl _ _) | (with_reducible refine bl_alloc ?_ _) | (with_reducible refine Below.drew ?_) | (with_reducible refine bl_drewN ?_ _) | (with_reducible refine bl_set ?_ (by omega) _) | (with_reducible refine bl_step ?_ (by assumption))), (lp_new' hb0 L _).keep (bl_alloc (Below.refl _ _) _), by have := trf (w.alloc (lyo L)) lo hi c 92; rw [show (w.alloc (lyo L)).heap.size = b + 1 by simp [hb0]] at this; exact this, by simp [hb0]⟩ ?_
  rintro X ⟨BX, LX, TX, zX⟩
  have HLX := hid1 LX
  have HTX := hid1 TX
  obtain ⟨-, -, c2, -, -, -, -, -, -, -, -, -, c12, -, -⟩ := LX
  rw [HK.out] at c2
  clear TX
  have iK : (1 : Int) ≤ (K : Int) := by omega
  have hK0 : ¬ (K : Int) = 0 := by omega
  have hmwb : L.mw ≤ 16777216 := by rw [HW.out]; exact hm
  obtain ⟨Y, mk, BY, RY, zY⟩ : ∃ Y, (Instr.makeSlice 59 (.int .i64 (K : Int)) (.int .i64 (K : Int))).run Try.prog X = .ok (.slice (some ⟨b + 2, 0, none⟩) K K) Y ∧ Below X.heap.size X Y ∧ Rc Y (b + 2) K (wLo L.ws F lo hi) (wHi L.ws F lo hi) 0 ∧ Y.heap.size = b + 3 :=
    ⟨_, by rw [← zX]; exact make_rchs K (by omega) X, bl_alloc (Below.refl _ _) _, by rw [← zX]; exact Rc.new K _ _, by simp [zX]⟩
  replace BX := bl_step BX BY
  replace HLX := hid1 (HLX.out.keep BY)
  replace HTX := hid1 (World.rowIs.of_block HTX.out (BY.block _ (World.rowIs.lt HTX.out)))
  have HRY := hid1 RY
  clear BY RY
  go_wp2_with fail
  clear mk c2 c12
  go_loopw [21] (fun i wr => ∃ k : Nat, k ≤ K ∧ i = .int .i64 k ∧ Below w.heap.size w wr ∧ Hid (Lp wr b L) ∧ Hid (wr.rowIs (b + 1) 92 3 (fun i => .int .i64 (if i = 0 then lo else if i = 1 then hi else c))) ∧ Hid (Rc wr (b + 2) K (wLo L.ws F lo hi) (wHi L.ws F lo hi) k)) (fun i _ => K - (intOf i).toNat)
  case atStart => exact ⟨0, Nat.zero_le _, rfl, BX, HLX, HTX, HRY⟩
  case round =>
    clear BX HLX HTX HRY zX zY X Y
    obtain ⟨k, hk, rfl, BX, HLX, HTX, HR⟩ := hrel
    by_cases hlt : k < K
    · have ik : (k : Int) < (K : Nat) := by omega
      have ik0 : (0 : Int) ≤ (k : Int) := by omega
      have c12 : wr.cell? ⟨b, 12, none⟩ = some (.slice L.aw L.mw L.cw) := HLX.out.2.2.2.2.2.2.2.2.2.2.2.2.1
      have t0 : wr.cell? ⟨b + 1, 0, none⟩ = some (.int .i64 lo) := World.rowIs.cell HTX.out (i := 0) (by decide)
      have t1 : wr.cell? ⟨b + 1, 1, none⟩ = some (.int .i64 hi) := World.rowIs.cell HTX.out (i := 1) (by decide)
      have hkF : k * F + F ≤ K * F := by have := Nat.mul_le_mul_right F (show k + 1 ≤ K by omega); rw [Nat.succ_mul] at this; exact this
      obtain ⟨g, o, ea, -⟩ := HLs.out.1 0 (by rw [HW.out]; exact Nat.lt_of_lt_of_le (by omega) hkF)
      obtain ⟨A, hA⟩ : ∃ A, k * F = A := ⟨_, rfl⟩
      obtain ⟨B, hB⟩ : ∃ B, A + F = B := ⟨_, rfl⟩
      rw [hA, hB] at hkF
      have hBm : B ≤ L.mw := by rw [HW.out]; exact hkF
      have q1 : IntKind.i64.wrap ((k : Int) * (F : Int)) = (A : Int) := by rw [IntKind.wrap_i64, ← hA]; push_cast; have := hA; omega
      have q2 : IntKind.i64.wrap ((k : Int) + 1) = ((k : Int) + 1) := by rw [IntKind.wrap_i64]; omega
      have q3 : IntKind.i64.wrap (((k : Int) + 1) * (F : Int)) = (B : Int) := by
        rw [IntKind.wrap_i64]
        have : ((k : Int) + 1) * (F : Int) = (B : Int) := by rw [Int.add_mul, Int.one_mul, ← hB, ← hA]; push_cast; rfl
        omega
      have CO := hid1 (fun W (hW : Below w.heap.size w W) => ofWeights_any (fun j => L.ws (k * F + j)) (some ⟨g, o + A, none⟩) F (L.cw - A) W hF (fun j hj => by
        obtain ⟨g', o', e', c'⟩ := HLs.out.1 (A + j) (by omega)
        rw [ea] at e'
        simp only [Option.some.injEq, Addr.mk.injEq, and_true] at e'
        obtain ⟨rfl, rfl⟩ := e'
        exact ⟨g, o + A, rfl, by rw [hA, Nat.add_assoc]; exact keepc hW c'⟩))
      have p1 := cnW_le (fun j => L.ws (k * F + j)) 1 F
      have p2 := cnW_le (fun j => L.ws (k * F + j)) (-1) F
      have HX1 : Hid (wLo L.ws F lo hi k = (cnW (fun j => L.ws (k * F + j)) 1 F : Nat) * lo - (cnW (fun j => L.ws (k * F + j)) (-1) F : Nat) * hi) := hid1 rfl
      have HX2 : Hid (wHi L.ws F lo hi k = (cnW (fun j => L.ws (k * F + j)) 1 F : Nat) * hi - (cnW (fun j => L.ws (k * F + j)) (-1) F : Nat) * lo) := hid1 rfl
      generalize cnW (fun j => L.ws (k * F + j)) 1 F = P at *
      generalize cnW (fun j => L.ws (k * F + j)) (-1) F = Q at *
      have b1 := mulW (p := P) (by omega) hl
      have b2 := mulW (p := Q) (by omega) hh
      have b3 := mulW (p := P) (by omega) hh
      have b4 := mulW (p := Q) (by omega) hl
      have CT := hid1 (fun W => times_any P Q lo hi W (by omega) (by omega) (by omega) (by omega))
      rw [← HX1.out, ← HX2.out] at CT
      clear b1 b2 b3 b4 HX1 HX2
      obtain ⟨u, hu⟩ : ∃ u, wLo L.ws F lo hi k = u := ⟨_, rfl⟩
      obtain ⟨v, hv⟩ : ∃ v, wHi L.ws F lo hi k = v := ⟨_, rfl⟩
      rw [hu, hv] at CT
      have HU := hid1 hu
      have HV := hid1 hv
      have HBX := hid1 BX
      have lX := HR.out.lt
      have hsz : w.heap.size ≤ wr.heap.size := BX.size
      have iB : (B : Int) ≤ (L.mw : Int) := by omega
      have iA : (A : Int) ≤ (B : Int) := by omega
      have iC : (B : Int) ≤ (L.cw : Int) := by omega
      have eBA : B - A = F := by omega
      have hne : ¬ L.cw = A := by omega
      clear hu hv hA hB BX
      rw [ea] at c12
      clear ea
      have HPB := hid1 c12
      have HTB := hid1 (And.intro t0 t1)
      have hfo := follows
      go_upto_region 6 with fail
      go_region_held3 (fun Y => Y.cell? ⟨b, 12, none⟩ = some (.slice (some ⟨g, o, none⟩) L.mw L.cw) ∧ Y.cell? ⟨b + 1, 0, none⟩ = some (.int .i64 lo) ∧ Y.cell? ⟨b + 1, 1, none⟩ = some (.int .i64 hi))
          (((try dsimp only); first | ((with_reducible refine kpW (V := wr) HPB.out HTB.out ?_); (repeat (first | (with_reducible exact Below.refl _ _) | (with_reducible assumption) | (with_reducible refine Below.drew ?_))); done) | ((with_reducible refine kpW2 (V := wr) HPB.out HTB.out ?_ _ _ _ _); (repeat (first | (with_reducible assumption) | (with_reducible refine Below.drew ?_))); done)))
          (first
          | (go_at_call 79; refine (CO.out _ (bl_step HBX.out (by repeat (first | (with_reducible exact Below.refl _ _) | (with_reducible refine Below.drew ?_))))).mono ?_; rintro e y1 ⟨rfl, hb1⟩; have by1 : Below wr.heap.size wr y1 := (bl_step (by repeat (first | (with_reducible exact Below.refl _ _) | (with_reducible refine Below.drew ?_))) hb1); clear hb1)
          | (go_at_call 51; refine (CT.out _).mono ?_; rintro e y2 ⟨rfl, hb2⟩; have by2 : Below wr.heap.size wr y2 := (bl_step (by repeat (first | (with_reducible assumption) | (with_reducible refine Below.drew ?_))) hb2); have VR := Rc.keep HR.out by2; have v0 := World.rowIs.cell VR (i := k * 2) (by omega); have v1 := World.rowIs.cell VR (i := k * 2 + 1) (by omega); have f0 := World.rowIs.frozen VR (k * 2); have f1 := World.rowIs.frozen VR (k * 2 + 1); unfold rcf at v0 v1; clear hb2 VR))
      go_wp2_with fail
      have HE := hid1 (show Hid (Lp ((y2.setCell ⟨b + 2, k * 2, none⟩ (.int .i64 u)).setCell ⟨b + 2, k * 2 + 1, none⟩ (.int .i64 v)) b L) ∧ Hid (World.rowIs ((y2.setCell ⟨b + 2, k * 2, none⟩ (.int .i64 u)).setCell ⟨b + 2, k * 2 + 1, none⟩ (.int .i64 v)) (b + 1) 92 3 (fun i => .int .i64 (if i = 0 then lo else if i = 1 then hi else c))) ∧ Hid (Rc ((y2.setCell ⟨b + 2, k * 2, none⟩ (.int .i64 u)).setCell ⟨b + 2, k * 2 + 1, none⟩ (.int .i64 v)) (b + 2) K (wLo L.ws F lo hi) (wHi L.ws F lo hi) (k + 1)) from
        And.intro (hid1 ((HLX.out.keep by2).of_block (heap_two (by omega)))) (And.intro (hid1 (World.rowIs.of_block (World.rowIs.of_block HTX.out (by2.block _ (World.rowIs.lt HTX.out))) (heap_two (by omega)))) (hid1 (Rc.put (Rc.keep HR.out by2) HU.out.symm HV.out.symm))))
      have BE := bl_set (bl_set (bl_step HBX.out by2) (show w.heap.size ≤ b + 2 by omega) (o := k * 2) (.int .i64 u)) (show w.heap.size ≤ b + 2 by omega) (o := k * 2 + 1) (.int .i64 v)
      go_roundw
      case measure => simp [intOf]; omega
      case rel => exact ⟨k + 1, by omega, by go_num, BE, HE.out.1, HE.out.2.1, HE.out.2.2⟩
    · have hkN : k = K := by omega
      subst hkN
      have c14 : wr.cell? ⟨b, 14, none⟩ = some (.slice L.ab L.mb L.cb) := HLX.out.2.2.2.2.2.2.2.2.2.2.2.2.2.2
      have hmb2 := HLs.out.2.2.2.2.2
      have HR0 : Hid (Rc wr (b + 2) k (fun j => wLo L.ws F lo hi j + if j < 0 then L.bs j else 0) (fun j => wHi L.ws F lo hi j + if j < 0 then L.bs j else 0) k) := hid1 (Rc.congr HR.out (fun j _ => by simp) (fun j _ => by simp))
      clear HR HLX HTX
      go_wp2_with fail
      clear c14
      go_loopw [45] (fun i wr => ∃ j : Nat, j ≤ L.mb ∧ i = .int .i64 j ∧ Below w.heap.size w wr ∧ Hid (Rc wr (b + 2) k (fun i => wLo L.ws F lo hi i + if i < j then L.bs i else 0) (fun i => wHi L.ws F lo hi i + if i < j then L.bs i else 0) k)) (fun i _ => L.mb - (intOf i).toNat)
      case atStart => exact ⟨0, Nat.zero_le _, rfl, BX, HR0⟩
      case round =>
        clear BX HR0
        obtain ⟨j, hj, rfl, BX, HR⟩ := hrel
        by_cases hlt : j < L.mb
        · have ij : (j : Int) < (L.mb : Nat) := by omega
          have ij0 : (0 : Int) ≤ (j : Int) := by omega
          have ijk : (j : Int) < (k : Nat) := by omega
          have cb := HLs.out.2.2.1 j hlt
          obtain ⟨g, o, ea, cb⟩ := cb
          replace cb := keepc BX cb
          have hbd := HBS.out j hlt
          have hwb := w_bd L.ws (F := F) j hF hl hh
          obtain ⟨r0, r1⟩ := Rc.at HR.out (j := j) (by omega) (by omega)
          have f0 := World.rowIs.frozen HR.out (j * 2)
          have f1 := World.rowIs.frozen HR.out (j * 2 + 1)
          rw [if_neg (Nat.lt_irrefl j), Int.add_zero] at r0 r1
          obtain ⟨x, hx⟩ : ∃ x, L.bs j = x := ⟨_, rfl⟩
          obtain ⟨y, hy⟩ : ∃ y, wLo L.ws F lo hi j = y := ⟨_, rfl⟩
          obtain ⟨z, hz⟩ : ∃ z, wHi L.ws F lo hi j = z := ⟨_, rfl⟩
          rw [hx] at cb hbd
          rw [hy] at r0 hwb
          rw [hz] at r1 hwb
          have HX := hid1 hx
          have HY := hid1 hy
          have HZ := hid1 hz
          have gn : g ≠ b + 2 := by have h0 := lt_of_cell (HLs.out.2.2.1 j hlt).choose_spec.choose_spec.2; obtain ⟨g', o', e', c'⟩ := HLs.out.2.2.1 j hlt; rw [ea] at e'; simp only [Option.some.injEq, Addr.mk.injEq, and_true] at e'; obtain ⟨rfl, rfl⟩ := e'; have := lt_of_cell c'; omega
          clear hx hy hz
          have HEA := hid1 ea
          go_wp2_with fail
          exact ⟨⟨j + 1, by omega, by go_num, bl_set (bl_set BX (by omega) _) (by omega) _, hid1 (Rc.upd HR.out (by omega) (by rw [HY.out, if_pos (Nat.lt_succ_self j), HX.out]) (by rw [HZ.out, if_pos (Nat.lt_succ_self j), HX.out]) (fun i _ hne => by congr 1; by_cases q : i < j <;> simp [q] <;> omega) (fun i _ hne => by congr 1; by_cases q : i < j <;> simp [q] <;> omega))⟩, by simp [intOf]; omega⟩
        · have hjN : j = L.mb := by omega
          go_wp2_with fail
          go_ret
          exact ⟨_, rfl, by omega, Rc.congr HR.out (fun i _ => by rw [hjN]; rfl) (fun i _ => by rw [hjN]; rfl), BX⟩
end Go.Proofs.Ytkodihmjjiadnaa.Nn
