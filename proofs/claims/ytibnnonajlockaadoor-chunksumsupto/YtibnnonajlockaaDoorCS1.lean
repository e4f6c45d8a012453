/- CHUNKSUMS. -/
import Derived.Test.YtibnnonajlockaaDoorCE1
namespace Go.Proofs.YtibnnonajlockaaDoor
open Go.RowKit

/-- Bytes, the first k of them turned. -/
def xz (M tl : List Nat) (k : Nat) : List Nat := M.mapIdx fun i a => if i < k then a ^^^ tl.getD i 0 else a
theorem xz_len (M tl : List Nat) (k : Nat) : (xz M tl k).length = M.length := by simp [xz]
theorem xz_zero (M tl : List Nat) : xz M tl 0 = M := by
  refine List.ext_getElem? fun i => ?_
  simp [xz]
theorem xz_at {M tl : List Nat} {k a : Nat} (h : M[k]? = some a) : (xz M tl k)[k]? = some a := by
  simp [xz, h]
theorem xz_set {M tl : List Nat} {k a t : Nat} (h : M[k]? = some a) (ht : tl[k]? = some t) : (xz M tl k).set k (a ^^^ t) = xz M tl (k + 1) := by
  refine List.ext_getElem? fun i => ?_
  have hk : k < M.length := by
    refine Classical.byContradiction fun hn => ?_
    rw [List.getElem?_eq_none (by omega)] at h
    exact absurd h (by simp)
  by_cases hi : i = k
  · subst hi
    rw [List.getElem?_set_self (by rw [xz_len]; exact hk)]
    simp [xz, h, List.getD_eq_getElem?_getD, ht]
  · rw [List.getElem?_set_ne (fun e => hi e.symm)]
    simp only [xz, List.getElem?_mapIdx]
    congr 1
    funext b
    by_cases h1 : i < k
    · rw [if_pos h1, if_pos (by omega)]
    · rw [if_neg h1, if_neg (by omega)]
theorem xz_lt {M tl : List Nat} {k : Nat} (hM : ∀ x ∈ M, x < 256) (ht : ∀ x ∈ tl, x < 256) : ∀ x ∈ xz M tl k, x < 256 := fun x hx => by
  obtain ⟨i, hi⟩ := List.getElem?_of_mem hx
  simp only [xz, List.getElem?_mapIdx, Option.map_eq_some_iff] at hi
  obtain ⟨a, ha, rfl⟩ := hi
  have h1 := hM a (List.mem_of_getElem? ha)
  split
  · refine Nat.xor_lt_two_pow (n := 8) h1 ?_
    rw [List.getD_eq_getElem?_getD]
    cases e : tl[i]? with
    | none => simp
    | some t => simpa using ht t (List.mem_of_getElem? e)
  · exact h1
/-- What was turned is the same whatever stood there. -/
theorem xz_diff {M X tl : List Nat} {k : Nat} (hl : M.length = X.length) : List.zipWith (· ^^^ ·) M (xz M tl k) = List.zipWith (· ^^^ ·) X (xz X tl k) := by
  refine List.ext_getElem? fun i => ?_
  simp only [xz, List.getElem?_zipWith, List.getElem?_mapIdx]
  by_cases hi : i < M.length
  · rw [List.getElem?_eq_getElem hi, List.getElem?_eq_getElem (show i < X.length by omega)]
    simp only [Option.map_some]
    congr 1
    by_cases h1 : i < k
    · rw [if_pos h1, if_pos h1, ← Nat.xor_assoc, ← Nat.xor_assoc, Nat.xor_self, Nat.xor_self]
    · rw [if_neg h1, if_neg h1, Nat.xor_self, Nat.xor_self]
  · rw [List.getElem?_eq_none (show M.length ≤ i by omega), List.getElem?_eq_none (show X.length ≤ i by omega)]
theorem xz_crc {M X tl : List Nat} {k : Nat} (hl : M.length = X.length) (hM : ∀ x ∈ M, x < 256) (hX : ∀ x ∈ X, x < 256) (ht : ∀ x ∈ tl, x < 256) : crc M ^^^ crc (xz M tl k) = crc X ^^^ crc (xz X tl k) := by
  rw [crc_turn hM (xz_lt hM ht) (xz_len ..).symm, crc_turn hX (xz_lt hX ht) (xz_len ..).symm, xz_diff hl]
theorem Bys.take {W : World} {lo : Option Addr} {L : List (List Nat)} (h : Bys W lo L) (n : Nat) : Bys W lo (L.take n) := fun j l hj => by
  rw [List.getElem?_take] at hj
  split at hj
  · exact h j l hj
  · simp at hj
theorem bys_three (w : World) (ao : Option Addr) (l : List Nat) (c : Nat) (t : TypeId) (h : By w ao l) : Bys (w.alloc (.cells #[.slice none 0 0, .slice ao l.length c, .slice none 0 0] t)) (some ⟨w.heap.size, 0, none⟩) [[], l, []] := by
  intro j k hj
  rcases j with _ | _ | _ | j
  · simp at hj
    subst hj
    exact ⟨_, _, none, 0, rfl, by simp [go_sem], By.nil _ _⟩
  · simp at hj
    subst hj
    exact ⟨_, _, ao, c, rfl, by simp [go_sem], h.keep (bl_alloc (Below.refl _ _) _)⟩
  · simp at hj
    subst hj
    exact ⟨_, _, none, 0, rfl, by simp [go_sem], By.nil _ _⟩
  · simp at hj
theorem cat_succ {L : List (List Nat)} {k : Nat} (h : k < L.length) : cat (L.take (k + 1)) = cat (L.take k) ++ L[k] := by
  unfold cat
  rw [List.take_succ_eq_append_getElem h, List.flatten_append]
  simp only [List.flatten_cons, List.flatten_nil, List.append_nil]
theorem cat_le (L : List (List Nat)) (k : Nat) : (cat (L.take k)).length ≤ (cat L).length := by
  have : cat L = cat (L.take k) ++ cat (L.drop k) := by unfold cat; rw [← List.flatten_append, List.take_append_drop]
  rw [this, List.length_append]; omega
theorem cat_mem : ∀ {L : List (List Nat)} {l : List Nat}, l ∈ L → l.length ≤ (cat L).length
  | m :: L, l, h => by
    have e : cat (m :: L) = m ++ cat L := rfl
    rw [e, List.length_append]
    rcases List.mem_cons.1 h with rfl | h
    · omega
    · have := cat_mem h
      omega
theorem cat_byte {W : World} {lo : Option Addr} {L : List (List Nat)} (h : Bys W lo L) : ∀ x ∈ cat L, x < 256 := fun x hx => by
  obtain ⟨m, hm, hb⟩ := List.mem_flatten.1 hx
  obtain ⟨i, hi⟩ := List.getElem?_of_mem hm
  obtain ⟨_, _, _, _, _, _, z⟩ := h i m hi
  exact z.byte x hb
set_option maxHeartbeats 3200000 in
set_option maxRecDepth 100000 in
theorem sums_any (lo : Option Addr) (L : List (List Nat)) (cl : Nat) (hL : L.length ≤ 1048576 ∧ L.length ≤ cl ∧ (cat L).length ≤ 1048576) (to_ : Option Addr) (tl : List Nat) (tc : Nat) (htl : tl.length ≤ 1048576) (w : World) (LD : Laid w) (hl : Bys w lo L) (ht : By w to_ tl) :
    Calls Tryd.prog 3 #[.slice lo L.length cl, .slice to_ tl.length tc] w fun e w' => e = .returned (.bool true) ∧ Below w.heap.size w w' := by
  obtain ⟨hJ, hcl, hcat⟩ := hL
  have LL := hid1 LD
  have HL := hid1 hl
  have HT := hid1 ht
  have CB := hid1 (cat_byte hl)
  have CL := hid1 (cat_le L)
  clear LD hl ht
  obtain ⟨J, eJ⟩ : ∃ J, L.length = J := ⟨_, rfl⟩
  rw [eJ] at hJ hcl ⊢
  have EJ := hid1 eJ
  clear eJ
  go_enter Tryd.func3, Tryd.ntmps3
  go_wp2_with fail
  refine (begun_any w LL.out).mono ?_
  rintro e w1 ⟨rfl, B1⟩
  go_wp2_with fail
  go_loopw [5, 6] (fun v i wr => ∃ (k : Nat) (a : Option Addr) (n c : Nat), k ≤ J ∧ k ≤ 50 ∧ i = .int .i64 k ∧ v = .slice a n c ∧ Hid (wr.ownsRow w.heap.size 5 1 (.slice a n c) (cat (L.take k)).length (u8s (cat (L.take k)))) ∧ Below w.heap.size w wr) (fun _ i _ => 50 - (intOf i).toNat)
  case atStart => exact ⟨0, none, 0, 0, Nat.zero_le _, by decide, rfl, rfl, hid1 (World.ownsRow_nil _ _ _ _), B1⟩
  case round =>
    clear B1
    obtain ⟨k, a, n, c, hk, hk2, rfl, rfl, HO, hnx⟩ := hrel
    have ik0 : (0 : Int) ≤ (k : Int) := by omega
    by_cases hgo : k < J ∧ k < 50
    · obtain ⟨h1, h2⟩ := hgo
      have ik : (k : Int) < (J : Int) := by omega
      have ik2 : (k : Int) < 50 := by omega
      have hkL : k < L.length := by rw [EJ.out]; exact h1
      obtain ⟨gl, ol, ao, cc, rfl, c1, b1⟩ := HL.out k L[k] (List.getElem?_eq_getElem hkL)
      replace c1 := keepc hnx c1
      have BB := hid1 (b1.keep hnx)
      have CS : Hid (cat (L.take (k + 1)) = cat (L.take k) ++ L[k]) := hid1 (cat_succ hkL)
      have cl1 := CL.out k
      have cl2 := CL.out (k + 1)
      rw [CS.out, List.length_append] at cl2
      obtain ⟨l, el⟩ : ∃ l, L[k] = l := ⟨_, rfl⟩
      rw [el] at c1 BB CS cl2
      obtain ⟨M, eM⟩ : ∃ M, cat (L.take k) = M := ⟨_, rfl⟩
      rw [eM] at HO CS cl1 cl2
      clear b1 el eM
      have zw := hnx.size
      go_wp2_with ((at_builtin; refine wp_app8 rfl _ _ rfl w.heap.size M.length (.slice a n c) M (by go_simp) HO.out zw ao l.length cc l (by go_simp) rfl BB.out (by omega) ?_; intro v2 w2 own2 gr2; obtain ⟨a2, n2, c2, rfl⟩ := own_is own2; have O2 := hid1 own2; have G2 := hid1 gr2; clear own2 gr2))
      have B2 : Below w.heap.size w w2 := bl_bp hnx (BP.grown G2.out) fun x hx he => by
        have := (HO.out.lt x he.symm).1
        omega
      refine ⟨⟨k + 1, a2, n2, c2, by omega, by omega, by go_num, rfl, hid1 ?_, B2⟩, by simp [intOf]; omega⟩
      rw [CS.out, List.length_append]
      exact O2.out
    · by_cases hkJ : k < J
      · obtain rfl : k = 50 := by omega
        obtain ⟨gl, ol, ao, cc, rfl, -, -⟩ := HL.out 0 (L[0]'(by rw [EJ.out]; omega)) (List.getElem?_eq_getElem _)
        obtain ⟨M, eM⟩ : ∃ M, cat (L.take 50) = M := ⟨_, rfl⟩
        have hM : M.length ≤ 1048576 := by rw [← eM]; have := CL.out 50; omega
        have MB : Hid (∀ x ∈ M, x < 256) := hid1 (by rw [← eM]; exact cat_byte (HL.out.take 50))
        have PL : Hid ((L.take 50).length = 50) := hid1 (by rw [List.length_take, EJ.out]; omega)
        have ML : Hid (∀ l ∈ L.take 50, l.length ≤ 1048576) := hid1 fun l hl => by
          have h1 := cat_mem hl
          rw [eM] at h1; omega
        rw [eM] at HO
        have EM := hid1 eM
        have j50 : (50 : Int) < (J : Int) := by omega
        have j51 : (50 : Int) ≤ (cl : Int) := by omega
        clear eM hgo
        -- here: 50 lists, Q : Bys of L', M all their bytes (O : own row of M)
        obtain ⟨ao, cp, h1, hb1, hb4, hb2, hb3⟩ := own_by' HO.out MB.out
        injection h1 with i1 i2 i3
        subst i1
        subst i2
        subst i3
        have YM := hid1 hb1
        have ZW := hnx.size
        clear hb1 hb2 hb3 hb4 hk hk2 ik0
        go_wp2_with fail
        refine gen_calls (fun W => Below wr.heap.size wr W ∧ Bys W (some ⟨wr.heap.size, 0, none⟩) [M]) ⟨bl_alloc (Below.refl _ _) _, bys_one _ _ _ _ _ YM.out⟩ ?_
        rintro W2 ⟨b2, y2⟩
        refine (sum_one wr.heap.size 1 M W2 (LL.out.on (bl_step hnx b2)) (by omega) y2).mono ?_
        rintro e w3 ⟨rfl, rfl⟩
        have SMx : Hid (∀ W, Below w.heap.size w W → Calls Tryd.prog 10 #[.slice (some ⟨gl, ol, none⟩) 50 cl] W fun e w' => e = .returned (.int .u32 (crc M : Nat)) ∧ w' = W) := hid1 fun W hW => by
          have h := sum_any (some ⟨gl, ol, none⟩) cl (L.take 50) W (LL.out.on hW) (by rw [PL.out]; omega) (fun l hl => by have := ML.out l hl; omega) ((HL.out.keep hW).take 50)
          rw [PL.out, show cat (L.take 50) = M from EM.out] at h
          exact h
        obtain ⟨sM, esM⟩ : ∃ x, crc M = x := ⟨_, rfl⟩
        have ESM := hid1 esM
        rw [esM] at SMx ⊢
        clear y2 esM
        go_wp2_with fail
        refine (SMx.out w3 (bl_step hnx b2)).mono ?_
        rintro e w4 ⟨rfl, rfl⟩
        go_wp2_with fail
        refine gen_calls (fun W => Below wr.heap.size wr W ∧ Bys W (some ⟨w4.heap.size, 0, none⟩) [[], M, []]) ⟨bl_alloc b2 _, bys_three _ _ _ _ _ (YM.out.keep b2)⟩ ?_
        rintro W5 ⟨b5, y5⟩
        have S3 := sum_any (some ⟨w4.heap.size, 0, none⟩) 3 [[], M, []] W5 (LL.out.on (bl_step hnx b5)) (by simp) (fun l hl => by simp at hl; rcases hl with rfl | rfl | rfl <;> first | simp | omega) y5
        rw [show crc (cat [[], M, []]) = sM by rw [← ESM.out]; simp [cat]] at S3
        refine S3.mono ?_
        rintro e w6 ⟨rfl, rfl⟩
        have B6 := bl_step hnx b5
        have Y6 := hid1 (YM.out.keep b5)
        obtain ⟨w7, X, mk, b7, y7, xl, x0, -⟩ := make_bytes M.length (by omega) w6
        have B7 := bl_step B6 b7
        have Y7 := hid1 (Y6.out.keep b7)
        have XB : Hid (∀ x ∈ X, x < 256) := hid1 fun x hx => by have := x0 x hx; omega
        have XL := hid1 xl
        have YX := hid1 y7
        clear S3 y5 b5 b2 SMx x0 xl y7 b7
        obtain ⟨g7, eg7⟩ : ∃ g, w6.heap.size = g := ⟨_, rfl⟩
        rw [eg7] at mk YX
        clear eg7
        go_wp2_with (first
          | (at_builtin; refine wp_copyn8 rfl (.const (.slice none 0 0)) (.tmp 52) rfl (by go_simp) a M.length c M (by go_simp) rfl Y7.out (by omega) ?_; intro v8 w8 own8 gr8; obtain ⟨a8, n8, c8, rfl⟩ := own_is own8; have O8 := hid1 own8; have b8 := grown_bel gr8; have YX8 := hid1 (YX.out.keep b8); have B8 := bl_step B7 b8; clear own8 gr8)
          | (at_builtin; refine wp_copyn8 rfl (.const (.slice none 0 0)) (.tmp 54) rfl (by go_simp) (some ⟨g7, 0, none⟩) M.length M.length X (by go_simp) XL.out YX8.out (by omega) ?_; intro v9 w9 own9 gr9; obtain ⟨a9, n9, c9, rfl⟩ := own_is own9; have O9 := hid1 own9; have b9 := grown_bel gr9; clear own9 gr9))
        have O8' := hid1 (own_keep (S := fun _ => False) (BP.bel b9) O8.out (fun _ _ h => h))
        have YX9 := hid1 (YX8.out.keep b9)
        have B9 := bl_step B8 b9
        have z78 : w7.heap.size ≤ w8.heap.size := b8.size
        have z89 := b9.size
        have zy8 : Hid (∀ g, (Value.slice a8 n8 c8).ownBlock = some g → w7.heap.size ≤ g ∧ g < w8.heap.size) := hid1 fun g hg => O8.out.lt g hg
        have zx7 : Hid (0 < M.length → g7 < w7.heap.size) := hid1 fun h => by
          obtain ⟨_, _, _, e, _, cx, _⟩ := YX.out.at (k := 0) (by rw [XL.out]; exact h)
          injection e with e
          injection e with e _
          subst e
          exact lt_of_cell cx
        have zw7 := B7.size
        clear O8 YX8 YX Y7 Y6 YM b8 b9 mk B6 B8
        go_loopw [11] (fun i wr => ∃ k : Nat, k ≤ tl.length ∧ k ≤ M.length ∧ i = .int .i64 k ∧ Hid (wr.ownsRow w7.heap.size 5 1 (.slice a8 n8 c8) M.length (u8s (xz M tl k))) ∧ Hid (wr.ownsRow w8.heap.size 5 1 (.slice a9 n9 c9) M.length (u8s (xz X tl k))) ∧ Hid (By wr (some ⟨g7, 0, none⟩) X) ∧ Below w.heap.size w wr) (fun i _ => M.length - (intOf i).toNat)
        case atStart => exact ⟨0, Nat.zero_le _, Nat.zero_le _, rfl, by rw [xz_zero]; exact O8', by rw [xz_zero]; exact O9, YX9, B9⟩
        case round =>
          clear O8' O9 YX9 B9
          obtain ⟨q, hq1, hq2, rfl, OY, OZ, YX, B10⟩ := hrel
          have iq0 : (0 : Int) ≤ (q : Int) := by omega
          by_cases hqt : q < tl.length
          · have iq1 : (q : Int) < (tl.length : Int) := by omega
            by_cases hqM : q < M.length
            · have iq2 : (q : Int) < (M.length : Int) := by omega
              obtain ⟨gy, cy, e8, hgy, -, -⟩ := own_pos OY.out (by omega)
              obtain ⟨gz, cz, e9, hgz, -, -⟩ := own_pos OZ.out (by omega)
              injection e8 with i1 i2 i3
              subst i1
              subst i2
              subst i3
              injection e9 with i1 i2 i3
              subst i1
              subst i2
              subst i3
              have zy := zy8.out gy rfl
              have zx := zx7.out (by omega)
              obtain ⟨a1, ma⟩ : ∃ x, M[q]? = some x := ⟨_, List.getElem?_eq_getElem hqM⟩
              obtain ⟨b1, mb⟩ : ∃ x, X[q]? = some x := ⟨_, List.getElem?_eq_getElem (by rw [XL.out]; exact hqM)⟩
              obtain ⟨gt, ot, t1, et, mt, ct0, bt⟩ := HT.out.at (k := q) hqt
              subst et
              have ba : a1 < 256 := MB.out a1 (List.mem_of_getElem? ma)
              have bb : b1 < 256 := XB.out b1 (List.mem_of_getElem? mb)
              have zt := lt_of_cell ct0
              have HCT := hid1 ct0
              have ct := keepc B10 ct0
              have cy0 := OY.out.cellAt q (by rw [Nat.mul_one]; exact hqM)
              have cz0 := OZ.out.cellAt q (by rw [Nat.mul_one]; exact hqM)
              rw [u8_get (xz_at ma)] at cy0
              rw [u8_get (xz_at mb)] at cz0
              have fy := OY.out.frozenAt q
              have fz := OZ.out.frozenAt q
              have d1 : ¬ gt = gy := by omega
              have d2 : ¬ gz = gy := by omega
              have d3 : ¬ gy = gz := by omega
              have d4 : ¬ g7 = gy := by omega
              have d5 : ¬ g7 = gz := by omega
              have d6 : ¬ gt = gz := by omega
              have wzy : w.heap.size ≤ gy := by omega
              have wzz : w.heap.size ≤ gz := by omega
              have x1 : bits .xor .u8 (a1 : Int) (t1 : Int) = ((a1 ^^^ t1 : Nat) : Int) := u8_xor_nat a1 t1 ba bt
              have x2 : bits .xor .u8 (b1 : Int) (t1 : Int) = ((b1 ^^^ t1 : Nat) : Int) := u8_xor_nat b1 t1 bb bt
              have WQ : Hid (IntKind.i64.wrap (q : Int) = (q : Int)) := hid1 (iw_id (by omega) (by omega))
              have NY := hid1 (own_set8 (i := q) (x := a1 ^^^ t1) OY.out)
              rw [xz_set ma mt] at NY
              clear ct0 zt zy zx bt ba bb hgy hgz
              go_upto_region 19 with fail
              have wq := WQ.out
              refine still_tail 12 (by decide +kernel) ?_
              simp only [List.take_succ_cons, List.take_zero, List.drop_succ_cons, List.drop_zero]
              repeat still_step
              refine wpStill_nil ?_
              go_upto_region 20 with fail
              clear wq
              have KZ := hid1 (own_keep (bp_set1 (w := wr) (r := gy) (o := q) (v := .int .u8 ((a1 ^^^ t1 : Nat) : Int))) OZ.out (fun b hb he => by have h1 : gz = b := (by injection hb); exact d2 (h1.trans he)))
              have KX := hid1 (YX.out.bp (bp_set1 (w := wr) (r := gy) (o := q) (v := .int .u8 ((a1 ^^^ t1 : Nat) : Int))) (fun p hp _ he => by injection hp with hp; subst hp; exact d4 he))
              refine gen_world (fun W => Below w.heap.size w W ∧ W.ownsRow w7.heap.size 5 1 (.slice (some ⟨gy, 0, none⟩) M.length c8) M.length (u8s (xz M tl (q + 1))) ∧ W.ownsRow w8.heap.size 5 1 (.slice (some ⟨gz, 0, none⟩) M.length c9) M.length (u8s (xz X tl q)) ∧ By W (some ⟨g7, 0, none⟩) X) ⟨by first | exact (bl_set B10 wzy _).drew | exact bl_set B10.drew wzy _, by first | exact NY.out | exact NY.out.drew, by first | exact KZ.out | exact KZ.out.drew, by first | exact KX.out | exact KX.out.drew⟩ ?_
              clear NY KZ KX OY OZ YX cy0 cz0 fy fz ct B10
              rintro W2 ⟨B10, oy, oz, yx⟩
              have ct := keepc B10 HCT.out
              have cz0 := oz.cellAt q (by rw [Nat.mul_one]; exact hqM)
              rw [u8_get (xz_at mb)] at cz0
              have fz := oz.frozenAt q
              have NZ := hid1 (own_set8 (i := q) (x := b1 ^^^ t1) oz)
              rw [xz_set mb mt] at NZ
              have OY := hid1 oy
              have YX := hid1 yx
              clear oy oz yx
              have wq := WQ.out
              refine still_tail 12 (by decide +kernel) ?_
              simp only [List.take_succ_cons, List.take_zero, List.drop_succ_cons, List.drop_zero]
              repeat still_step
              refine wpStill_nil ?_
              go_wp2_with fail
              clear wq
              have KY := hid1 (own_keep (bp_set1 (w := W2) (r := gz) (o := q) (v := .int .u8 ((b1 ^^^ t1 : Nat) : Int))) OY.out (fun b hb he => by have h1 : gy = b := (by injection hb); exact d3 (h1.trans he)))
              have KX := hid1 (YX.out.bp (bp_set1 (w := W2) (r := gz) (o := q) (v := .int .u8 ((b1 ^^^ t1 : Nat) : Int))) (fun p hp _ he => by injection hp with hp; subst hp; exact d5 he))
              exact ⟨⟨q + 1, by omega, by omega, by go_num, hid1 (by first | exact KY.out | exact KY.out.drew), hid1 (by first | exact NZ.out | exact NZ.out.drew), hid1 (by first | exact KX.out | exact KX.out.drew), by first | exact (bl_set B10 wzz _).drew | exact bl_set B10.drew wzz _⟩, by simp [intOf]; omega⟩
            · obtain ⟨ay, cy, ey, yy, lyy, -, -⟩ := own_by' OY.out (xz_lt MB.out HT.out.byte)
              obtain ⟨az, cz, ez, yz, lzz, -, -⟩ := own_by' OZ.out (xz_lt XB.out HT.out.byte)
              have XC : Hid (sM ^^^ crc (xz M tl q) = crc X ^^^ crc (xz X tl q)) := hid1 (by rw [← ESM.out]; exact xz_crc XL.out.symm MB.out XB.out HT.out.byte)
              rw [ey, ez]
              have YY := hid1 yy
              have YZ := hid1 yz
              have hxl : (xz M tl q).length ≤ 1048576 := by rw [xz_len]; exact hM
              have hzl : (xz X tl q).length ≤ 1048576 := by rw [xz_len, XL.out]; exact hM
              have hX1 : X.length ≤ 1048576 := by rw [XL.out]; exact hM
              clear yy yz ey ez OY OZ lyy lzz
              obtain ⟨Y, eY⟩ : ∃ Y, xz M tl q = Y := ⟨_, rfl⟩
              obtain ⟨Z, eZ⟩ : ∃ Z, xz X tl q = Z := ⟨_, rfl⟩
              rw [eY] at YY hxl XC ⊢
              rw [eZ] at YZ hzl XC ⊢
              clear eY eZ
              go_wp2_with fail
              refine gen_calls (fun W => Below wr.heap.size wr W ∧ Bys W (some ⟨wr.heap.size, 0, none⟩) [Y]) ⟨bl_alloc (Below.refl _ _) _, bys_one _ _ _ _ _ YY.out⟩ ?_
              rintro W11 ⟨b11, y11⟩
              refine (sum_one wr.heap.size 1 Y W11 (LL.out.on (bl_step B10 b11)) (by omega) y11).mono ?_
              rintro e w12 ⟨rfl, rfl⟩
              clear y11
              go_wp2_with fail
              refine gen_calls (fun W => Below wr.heap.size wr W ∧ Bys W (some ⟨w12.heap.size, 0, none⟩) [X]) ⟨bl_alloc b11 _, by have := bys_one _ _ _ M.length 23 (YX.out.keep b11); rw [XL.out] at this; exact this⟩ ?_
              rintro W13 ⟨b13, y13⟩
              refine (sum_one w12.heap.size 1 X W13 (LL.out.on (bl_step B10 b13)) (by omega) y13).mono ?_
              rintro e w14 ⟨rfl, rfl⟩
              clear y13 b11
              go_wp2_with fail
              refine gen_calls (fun W => Below wr.heap.size wr W ∧ Bys W (some ⟨w14.heap.size, 0, none⟩) [Z]) ⟨bl_alloc b13 _, bys_one _ _ _ _ _ (YZ.out.keep b13)⟩ ?_
              rintro W15 ⟨b15, y15⟩
              refine (sum_one w14.heap.size 1 Z W15 (LL.out.on (bl_step B10 b15)) (by omega) y15).mono ?_
              rintro e w16 ⟨rfl, rfl⟩
              have B16 := bl_step B10 b15
              have x1 := u32_xor_nat sM (crc Y) (by rw [← ESM.out]; exact crc_lt) crc_lt
              have x2 := u32_xor_nat (crc X) (crc Z) crc_lt crc_lt
              rw [← XC.out] at x2
              clear y15 b13 b15
              go_wp2
              go_ret
              exact ⟨by simp, B16⟩
          · obtain ⟨ay, cy, ey, yy, lyy, -, -⟩ := own_by' OY.out (xz_lt MB.out HT.out.byte)
            obtain ⟨az, cz, ez, yz, lzz, -, -⟩ := own_by' OZ.out (xz_lt XB.out HT.out.byte)
            have XC : Hid (sM ^^^ crc (xz M tl q) = crc X ^^^ crc (xz X tl q)) := hid1 (by rw [← ESM.out]; exact xz_crc XL.out.symm MB.out XB.out HT.out.byte)
            rw [ey, ez]
            have YY := hid1 yy
            have YZ := hid1 yz
            have hxl : (xz M tl q).length ≤ 1048576 := by rw [xz_len]; exact hM
            have hzl : (xz X tl q).length ≤ 1048576 := by rw [xz_len, XL.out]; exact hM
            have hX1 : X.length ≤ 1048576 := by rw [XL.out]; exact hM
            clear yy yz ey ez OY OZ lyy lzz
            obtain ⟨Y, eY⟩ : ∃ Y, xz M tl q = Y := ⟨_, rfl⟩
            obtain ⟨Z, eZ⟩ : ∃ Z, xz X tl q = Z := ⟨_, rfl⟩
            rw [eY] at YY hxl XC ⊢
            rw [eZ] at YZ hzl XC ⊢
            clear eY eZ
            go_wp2_with fail
            refine gen_calls (fun W => Below wr.heap.size wr W ∧ Bys W (some ⟨wr.heap.size, 0, none⟩) [Y]) ⟨bl_alloc (Below.refl _ _) _, bys_one _ _ _ _ _ YY.out⟩ ?_
            rintro W11 ⟨b11, y11⟩
            refine (sum_one wr.heap.size 1 Y W11 (LL.out.on (bl_step B10 b11)) (by omega) y11).mono ?_
            rintro e w12 ⟨rfl, rfl⟩
            clear y11
            go_wp2_with fail
            refine gen_calls (fun W => Below wr.heap.size wr W ∧ Bys W (some ⟨w12.heap.size, 0, none⟩) [X]) ⟨bl_alloc b11 _, by have := bys_one _ _ _ M.length 23 (YX.out.keep b11); rw [XL.out] at this; exact this⟩ ?_
            rintro W13 ⟨b13, y13⟩
            refine (sum_one w12.heap.size 1 X W13 (LL.out.on (bl_step B10 b13)) (by omega) y13).mono ?_
            rintro e w14 ⟨rfl, rfl⟩
            clear y13 b11
            go_wp2_with fail
            refine gen_calls (fun W => Below wr.heap.size wr W ∧ Bys W (some ⟨w14.heap.size, 0, none⟩) [Z]) ⟨bl_alloc b13 _, bys_one _ _ _ _ _ (YZ.out.keep b13)⟩ ?_
            rintro W15 ⟨b15, y15⟩
            refine (sum_one w14.heap.size 1 Z W15 (LL.out.on (bl_step B10 b15)) (by omega) y15).mono ?_
            rintro e w16 ⟨rfl, rfl⟩
            have B16 := bl_step B10 b15
            have x1 := u32_xor_nat sM (crc Y) (by rw [← ESM.out]; exact crc_lt) crc_lt
            have x2 := u32_xor_nat (crc X) (crc Z) crc_lt crc_lt
            rw [← XC.out] at x2
            clear y15 b13 b15
            go_wp2
            go_ret
            exact ⟨by simp, B16⟩
      · obtain rfl : k = J := by omega
        have TK : Hid (L.take 50 = L) := hid1 (List.take_of_length_le (by rw [EJ.out]; omega))
        obtain ⟨M, eM⟩ : ∃ M, cat (L.take 50) = M := ⟨_, rfl⟩
        have hM : M.length ≤ 1048576 := by rw [← eM]; have := CL.out 50; omega
        have MB : Hid (∀ x ∈ M, x < 256) := hid1 (by rw [← eM]; exact cat_byte (HL.out.take 50))
        have PL : Hid ((L.take 50).length = k) := hid1 (by rw [TK.out, EJ.out])
        have ML : Hid (∀ l ∈ L.take 50, l.length ≤ 1048576) := hid1 fun l hl => by
          have h1 := cat_mem hl
          rw [eM] at h1; omega
        rw [List.take_of_length_le (by rw [EJ.out]; exact Nat.le_refl _), ← TK.out, eM] at HO
        have EM := hid1 eM
        have j50 : ¬ (50 : Int) < (k : Int) := by omega
        clear eM hgo
        -- here: k lists, Q : Bys of L', M all their bytes (O : own row of M)
        obtain ⟨ao, cp, h1, hb1, hb4, hb2, hb3⟩ := own_by' HO.out MB.out
        injection h1 with i1 i2 i3
        subst i1
        subst i2
        subst i3
        have YM := hid1 hb1
        have ZW := hnx.size
        clear hb1 hb2 hb3 hb4 hk hk2 ik0
        go_wp2_with fail
        refine gen_calls (fun W => Below wr.heap.size wr W ∧ Bys W (some ⟨wr.heap.size, 0, none⟩) [M]) ⟨bl_alloc (Below.refl _ _) _, bys_one _ _ _ _ _ YM.out⟩ ?_
        rintro W2 ⟨b2, y2⟩
        refine (sum_one wr.heap.size 1 M W2 (LL.out.on (bl_step hnx b2)) (by omega) y2).mono ?_
        rintro e w3 ⟨rfl, rfl⟩
        have SMx : Hid (∀ W, Below w.heap.size w W → Calls Tryd.prog 10 #[.slice lo k cl] W fun e w' => e = .returned (.int .u32 (crc M : Nat)) ∧ w' = W) := hid1 fun W hW => by
          have h := sum_any lo cl (L.take 50) W (LL.out.on hW) (by rw [PL.out]; omega) (fun l hl => by have := ML.out l hl; omega) ((HL.out.keep hW).take 50)
          rw [PL.out, show cat (L.take 50) = M from EM.out] at h
          exact h
        obtain ⟨sM, esM⟩ : ∃ x, crc M = x := ⟨_, rfl⟩
        have ESM := hid1 esM
        rw [esM] at SMx ⊢
        clear y2 esM
        go_wp2_with fail
        refine (SMx.out w3 (bl_step hnx b2)).mono ?_
        rintro e w4 ⟨rfl, rfl⟩
        go_wp2_with fail
        refine gen_calls (fun W => Below wr.heap.size wr W ∧ Bys W (some ⟨w4.heap.size, 0, none⟩) [[], M, []]) ⟨bl_alloc b2 _, bys_three _ _ _ _ _ (YM.out.keep b2)⟩ ?_
        rintro W5 ⟨b5, y5⟩
        have S3 := sum_any (some ⟨w4.heap.size, 0, none⟩) 3 [[], M, []] W5 (LL.out.on (bl_step hnx b5)) (by simp) (fun l hl => by simp at hl; rcases hl with rfl | rfl | rfl <;> first | simp | omega) y5
        rw [show crc (cat [[], M, []]) = sM by rw [← ESM.out]; simp [cat]] at S3
        refine S3.mono ?_
        rintro e w6 ⟨rfl, rfl⟩
        have B6 := bl_step hnx b5
        have Y6 := hid1 (YM.out.keep b5)
        obtain ⟨w7, X, mk, b7, y7, xl, x0, -⟩ := make_bytes M.length (by omega) w6
        have B7 := bl_step B6 b7
        have Y7 := hid1 (Y6.out.keep b7)
        have XB : Hid (∀ x ∈ X, x < 256) := hid1 fun x hx => by have := x0 x hx; omega
        have XL := hid1 xl
        have YX := hid1 y7
        clear S3 y5 b5 b2 SMx x0 xl y7 b7
        obtain ⟨g7, eg7⟩ : ∃ g, w6.heap.size = g := ⟨_, rfl⟩
        rw [eg7] at mk YX
        clear eg7
        go_wp2_with (first
          | (at_builtin; refine wp_copyn8 rfl (.const (.slice none 0 0)) (.tmp 52) rfl (by go_simp) a M.length c M (by go_simp) rfl Y7.out (by omega) ?_; intro v8 w8 own8 gr8; obtain ⟨a8, n8, c8, rfl⟩ := own_is own8; have O8 := hid1 own8; have b8 := grown_bel gr8; have YX8 := hid1 (YX.out.keep b8); have B8 := bl_step B7 b8; clear own8 gr8)
          | (at_builtin; refine wp_copyn8 rfl (.const (.slice none 0 0)) (.tmp 54) rfl (by go_simp) (some ⟨g7, 0, none⟩) M.length M.length X (by go_simp) XL.out YX8.out (by omega) ?_; intro v9 w9 own9 gr9; obtain ⟨a9, n9, c9, rfl⟩ := own_is own9; have O9 := hid1 own9; have b9 := grown_bel gr9; clear own9 gr9))
        have O8' := hid1 (own_keep (S := fun _ => False) (BP.bel b9) O8.out (fun _ _ h => h))
        have YX9 := hid1 (YX8.out.keep b9)
        have B9 := bl_step B8 b9
        have z78 : w7.heap.size ≤ w8.heap.size := b8.size
        have z89 := b9.size
        have zy8 : Hid (∀ g, (Value.slice a8 n8 c8).ownBlock = some g → w7.heap.size ≤ g ∧ g < w8.heap.size) := hid1 fun g hg => O8.out.lt g hg
        have zx7 : Hid (0 < M.length → g7 < w7.heap.size) := hid1 fun h => by
          obtain ⟨_, _, _, e, _, cx, _⟩ := YX.out.at (k := 0) (by rw [XL.out]; exact h)
          injection e with e
          injection e with e _
          subst e
          exact lt_of_cell cx
        have zw7 := B7.size
        clear O8 YX8 YX Y7 Y6 YM b8 b9 mk B6 B8
        go_loopw [11] (fun i wr => ∃ k : Nat, k ≤ tl.length ∧ k ≤ M.length ∧ i = .int .i64 k ∧ Hid (wr.ownsRow w7.heap.size 5 1 (.slice a8 n8 c8) M.length (u8s (xz M tl k))) ∧ Hid (wr.ownsRow w8.heap.size 5 1 (.slice a9 n9 c9) M.length (u8s (xz X tl k))) ∧ Hid (By wr (some ⟨g7, 0, none⟩) X) ∧ Below w.heap.size w wr) (fun i _ => M.length - (intOf i).toNat)
        case atStart => exact ⟨0, Nat.zero_le _, Nat.zero_le _, rfl, by rw [xz_zero]; exact O8', by rw [xz_zero]; exact O9, YX9, B9⟩
        case round =>
          clear O8' O9 YX9 B9
          obtain ⟨q, hq1, hq2, rfl, OY, OZ, YX, B10⟩ := hrel
          have iq0 : (0 : Int) ≤ (q : Int) := by omega
          by_cases hqt : q < tl.length
          · have iq1 : (q : Int) < (tl.length : Int) := by omega
            by_cases hqM : q < M.length
            · have iq2 : (q : Int) < (M.length : Int) := by omega
              obtain ⟨gy, cy, e8, hgy, -, -⟩ := own_pos OY.out (by omega)
              obtain ⟨gz, cz, e9, hgz, -, -⟩ := own_pos OZ.out (by omega)
              injection e8 with i1 i2 i3
              subst i1
              subst i2
              subst i3
              injection e9 with i1 i2 i3
              subst i1
              subst i2
              subst i3
              have zy := zy8.out gy rfl
              have zx := zx7.out (by omega)
              obtain ⟨a1, ma⟩ : ∃ x, M[q]? = some x := ⟨_, List.getElem?_eq_getElem hqM⟩
              obtain ⟨b1, mb⟩ : ∃ x, X[q]? = some x := ⟨_, List.getElem?_eq_getElem (by rw [XL.out]; exact hqM)⟩
              obtain ⟨gt, ot, t1, et, mt, ct0, bt⟩ := HT.out.at (k := q) hqt
              subst et
              have ba : a1 < 256 := MB.out a1 (List.mem_of_getElem? ma)
              have bb : b1 < 256 := XB.out b1 (List.mem_of_getElem? mb)
              have zt := lt_of_cell ct0
              have HCT := hid1 ct0
              have ct := keepc B10 ct0
              have cy0 := OY.out.cellAt q (by rw [Nat.mul_one]; exact hqM)
              have cz0 := OZ.out.cellAt q (by rw [Nat.mul_one]; exact hqM)
              rw [u8_get (xz_at ma)] at cy0
              rw [u8_get (xz_at mb)] at cz0
              have fy := OY.out.frozenAt q
              have fz := OZ.out.frozenAt q
              have d1 : ¬ gt = gy := by omega
              have d2 : ¬ gz = gy := by omega
              have d3 : ¬ gy = gz := by omega
              have d4 : ¬ g7 = gy := by omega
              have d5 : ¬ g7 = gz := by omega
              have d6 : ¬ gt = gz := by omega
              have wzy : w.heap.size ≤ gy := by omega
              have wzz : w.heap.size ≤ gz := by omega
              have x1 : bits .xor .u8 (a1 : Int) (t1 : Int) = ((a1 ^^^ t1 : Nat) : Int) := u8_xor_nat a1 t1 ba bt
              have x2 : bits .xor .u8 (b1 : Int) (t1 : Int) = ((b1 ^^^ t1 : Nat) : Int) := u8_xor_nat b1 t1 bb bt
              have WQ : Hid (IntKind.i64.wrap (q : Int) = (q : Int)) := hid1 (iw_id (by omega) (by omega))
              have NY := hid1 (own_set8 (i := q) (x := a1 ^^^ t1) OY.out)
              rw [xz_set ma mt] at NY
              clear ct0 zt zy zx bt ba bb hgy hgz
              go_upto_region 19 with fail
              have wq := WQ.out
              refine still_tail 12 (by decide +kernel) ?_
              simp only [List.take_succ_cons, List.take_zero, List.drop_succ_cons, List.drop_zero]
              repeat still_step
              refine wpStill_nil ?_
              go_upto_region 20 with fail
              clear wq
              have KZ := hid1 (own_keep (bp_set1 (w := wr) (r := gy) (o := q) (v := .int .u8 ((a1 ^^^ t1 : Nat) : Int))) OZ.out (fun b hb he => by have h1 : gz = b := (by injection hb); exact d2 (h1.trans he)))
              have KX := hid1 (YX.out.bp (bp_set1 (w := wr) (r := gy) (o := q) (v := .int .u8 ((a1 ^^^ t1 : Nat) : Int))) (fun p hp _ he => by injection hp with hp; subst hp; exact d4 he))
              refine gen_world (fun W => Below w.heap.size w W ∧ W.ownsRow w7.heap.size 5 1 (.slice (some ⟨gy, 0, none⟩) M.length c8) M.length (u8s (xz M tl (q + 1))) ∧ W.ownsRow w8.heap.size 5 1 (.slice (some ⟨gz, 0, none⟩) M.length c9) M.length (u8s (xz X tl q)) ∧ By W (some ⟨g7, 0, none⟩) X) ⟨by first | exact (bl_set B10 wzy _).drew | exact bl_set B10.drew wzy _, by first | exact NY.out | exact NY.out.drew, by first | exact KZ.out | exact KZ.out.drew, by first | exact KX.out | exact KX.out.drew⟩ ?_
              clear NY KZ KX OY OZ YX cy0 cz0 fy fz ct B10
              rintro W2 ⟨B10, oy, oz, yx⟩
              have ct := keepc B10 HCT.out
              have cz0 := oz.cellAt q (by rw [Nat.mul_one]; exact hqM)
              rw [u8_get (xz_at mb)] at cz0
              have fz := oz.frozenAt q
              have NZ := hid1 (own_set8 (i := q) (x := b1 ^^^ t1) oz)
              rw [xz_set mb mt] at NZ
              have OY := hid1 oy
              have YX := hid1 yx
              clear oy oz yx
              have wq := WQ.out
              refine still_tail 12 (by decide +kernel) ?_
              simp only [List.take_succ_cons, List.take_zero, List.drop_succ_cons, List.drop_zero]
              repeat still_step
              refine wpStill_nil ?_
              go_wp2_with fail
              clear wq
              have KY := hid1 (own_keep (bp_set1 (w := W2) (r := gz) (o := q) (v := .int .u8 ((b1 ^^^ t1 : Nat) : Int))) OY.out (fun b hb he => by have h1 : gy = b := (by injection hb); exact d3 (h1.trans he)))
              have KX := hid1 (YX.out.bp (bp_set1 (w := W2) (r := gz) (o := q) (v := .int .u8 ((b1 ^^^ t1 : Nat) : Int))) (fun p hp _ he => by injection hp with hp; subst hp; exact d5 he))
              exact ⟨⟨q + 1, by omega, by omega, by go_num, hid1 (by first | exact KY.out | exact KY.out.drew), hid1 (by first | exact NZ.out | exact NZ.out.drew), hid1 (by first | exact KX.out | exact KX.out.drew), by first | exact (bl_set B10 wzz _).drew | exact bl_set B10.drew wzz _⟩, by simp [intOf]; omega⟩
            · obtain ⟨ay, cy, ey, yy, lyy, -, -⟩ := own_by' OY.out (xz_lt MB.out HT.out.byte)
              obtain ⟨az, cz, ez, yz, lzz, -, -⟩ := own_by' OZ.out (xz_lt XB.out HT.out.byte)
              have XC : Hid (sM ^^^ crc (xz M tl q) = crc X ^^^ crc (xz X tl q)) := hid1 (by rw [← ESM.out]; exact xz_crc XL.out.symm MB.out XB.out HT.out.byte)
              rw [ey, ez]
              have YY := hid1 yy
              have YZ := hid1 yz
              have hxl : (xz M tl q).length ≤ 1048576 := by rw [xz_len]; exact hM
              have hzl : (xz X tl q).length ≤ 1048576 := by rw [xz_len, XL.out]; exact hM
              have hX1 : X.length ≤ 1048576 := by rw [XL.out]; exact hM
              clear yy yz ey ez OY OZ lyy lzz
              obtain ⟨Y, eY⟩ : ∃ Y, xz M tl q = Y := ⟨_, rfl⟩
              obtain ⟨Z, eZ⟩ : ∃ Z, xz X tl q = Z := ⟨_, rfl⟩
              rw [eY] at YY hxl XC ⊢
              rw [eZ] at YZ hzl XC ⊢
              clear eY eZ
              go_wp2_with fail
              refine gen_calls (fun W => Below wr.heap.size wr W ∧ Bys W (some ⟨wr.heap.size, 0, none⟩) [Y]) ⟨bl_alloc (Below.refl _ _) _, bys_one _ _ _ _ _ YY.out⟩ ?_
              rintro W11 ⟨b11, y11⟩
              refine (sum_one wr.heap.size 1 Y W11 (LL.out.on (bl_step B10 b11)) (by omega) y11).mono ?_
              rintro e w12 ⟨rfl, rfl⟩
              clear y11
              go_wp2_with fail
              refine gen_calls (fun W => Below wr.heap.size wr W ∧ Bys W (some ⟨w12.heap.size, 0, none⟩) [X]) ⟨bl_alloc b11 _, by have := bys_one _ _ _ M.length 23 (YX.out.keep b11); rw [XL.out] at this; exact this⟩ ?_
              rintro W13 ⟨b13, y13⟩
              refine (sum_one w12.heap.size 1 X W13 (LL.out.on (bl_step B10 b13)) (by omega) y13).mono ?_
              rintro e w14 ⟨rfl, rfl⟩
              clear y13 b11
              go_wp2_with fail
              refine gen_calls (fun W => Below wr.heap.size wr W ∧ Bys W (some ⟨w14.heap.size, 0, none⟩) [Z]) ⟨bl_alloc b13 _, bys_one _ _ _ _ _ (YZ.out.keep b13)⟩ ?_
              rintro W15 ⟨b15, y15⟩
              refine (sum_one w14.heap.size 1 Z W15 (LL.out.on (bl_step B10 b15)) (by omega) y15).mono ?_
              rintro e w16 ⟨rfl, rfl⟩
              have B16 := bl_step B10 b15
              have x1 := u32_xor_nat sM (crc Y) (by rw [← ESM.out]; exact crc_lt) crc_lt
              have x2 := u32_xor_nat (crc X) (crc Z) crc_lt crc_lt
              rw [← XC.out] at x2
              clear y15 b13 b15
              go_wp2
              go_ret
              exact ⟨by simp, B16⟩
          · obtain ⟨ay, cy, ey, yy, lyy, -, -⟩ := own_by' OY.out (xz_lt MB.out HT.out.byte)
            obtain ⟨az, cz, ez, yz, lzz, -, -⟩ := own_by' OZ.out (xz_lt XB.out HT.out.byte)
            have XC : Hid (sM ^^^ crc (xz M tl q) = crc X ^^^ crc (xz X tl q)) := hid1 (by rw [← ESM.out]; exact xz_crc XL.out.symm MB.out XB.out HT.out.byte)
            rw [ey, ez]
            have YY := hid1 yy
            have YZ := hid1 yz
            have hxl : (xz M tl q).length ≤ 1048576 := by rw [xz_len]; exact hM
            have hzl : (xz X tl q).length ≤ 1048576 := by rw [xz_len, XL.out]; exact hM
            have hX1 : X.length ≤ 1048576 := by rw [XL.out]; exact hM
            clear yy yz ey ez OY OZ lyy lzz
            obtain ⟨Y, eY⟩ : ∃ Y, xz M tl q = Y := ⟨_, rfl⟩
            obtain ⟨Z, eZ⟩ : ∃ Z, xz X tl q = Z := ⟨_, rfl⟩
            rw [eY] at YY hxl XC ⊢
            rw [eZ] at YZ hzl XC ⊢
            clear eY eZ
            go_wp2_with fail
            refine gen_calls (fun W => Below wr.heap.size wr W ∧ Bys W (some ⟨wr.heap.size, 0, none⟩) [Y]) ⟨bl_alloc (Below.refl _ _) _, bys_one _ _ _ _ _ YY.out⟩ ?_
            rintro W11 ⟨b11, y11⟩
            refine (sum_one wr.heap.size 1 Y W11 (LL.out.on (bl_step B10 b11)) (by omega) y11).mono ?_
            rintro e w12 ⟨rfl, rfl⟩
            clear y11
            go_wp2_with fail
            refine gen_calls (fun W => Below wr.heap.size wr W ∧ Bys W (some ⟨w12.heap.size, 0, none⟩) [X]) ⟨bl_alloc b11 _, by have := bys_one _ _ _ M.length 23 (YX.out.keep b11); rw [XL.out] at this; exact this⟩ ?_
            rintro W13 ⟨b13, y13⟩
            refine (sum_one w12.heap.size 1 X W13 (LL.out.on (bl_step B10 b13)) (by omega) y13).mono ?_
            rintro e w14 ⟨rfl, rfl⟩
            clear y13 b11
            go_wp2_with fail
            refine gen_calls (fun W => Below wr.heap.size wr W ∧ Bys W (some ⟨w14.heap.size, 0, none⟩) [Z]) ⟨bl_alloc b13 _, bys_one _ _ _ _ _ (YZ.out.keep b13)⟩ ?_
            rintro W15 ⟨b15, y15⟩
            refine (sum_one w14.heap.size 1 Z W15 (LL.out.on (bl_step B10 b15)) (by omega) y15).mono ?_
            rintro e w16 ⟨rfl, rfl⟩
            have B16 := bl_step B10 b15
            have x1 := u32_xor_nat sM (crc Y) (by rw [← ESM.out]; exact crc_lt) crc_lt
            have x2 := u32_xor_nat (crc X) (crc Z) crc_lt crc_lt
            rw [← XC.out] at x2
            clear y15 b13 b15
            go_wp2
            go_ret
            exact ⟨by simp, B16⟩
end Go.Proofs.YtibnnonajlockaaDoor
