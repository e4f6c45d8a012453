/- NETWORKS: THE FIRST FAULT OF A LAYER. -/
import Derived.Test.YtlgjoepeibodkaaGreatNQ7
import Derived.Test.YtlgjoepeibodkaaGreatNQ8
import Derived.Test.YtlgjoepeibodkaaGreatNP1
namespace Go.Proofs.YtlgjoepeibodkaaGreat.Nn
open Go.RowKit

/-- The first of n answers that is not 0. -/
def frF : Nat → (Nat → Int) → Int
  | 0, _ => 0
  | n + 1, q => if q 0 = 0 then frF n (fun i => q (i + 1)) else q 0
theorem frF_ok {q : Nat → Int} {n : Nat} (h : ∀ j, j < n → q j = 0) : frF n q = 0 := by
  induction n generalizing q with
  | zero => rfl
  | succ n ih =>
    unfold frF
    rw [if_pos (h 0 (by omega))]
    exact ih fun j hj => h (j + 1) (by omega)
theorem frF_no {q : Nat → Int} {n k : Nat} (hk : k < n) (h : ∀ j, j < k → q j = 0) (hq : ¬ q k = 0) : frF n q = q k := by
  induction n generalizing q k with
  | zero => omega
  | succ n ih =>
    unfold frF
    cases k with
    | zero => rw [if_neg hq]
    | succ k =>
      rw [if_pos (h 0 (by omega))]
      exact ih (q := fun i => q (i + 1)) (by omega) (fun j hj => h (j + 1) (by omega)) hq
theorem frF_z {q : Nat → Int} {n : Nat} (h : frF n q = 0) : ∀ j, j < n → q j = 0 := by
  induction n generalizing q with
  | zero => intro j hj; omega
  | succ n ih =>
    unfold frF at h
    by_cases h0 : q 0 = 0
    · rw [if_pos h0] at h
      intro j hj
      cases j with
      | zero => exact h0
      | succ j => exact ih h j (by omega)
    · rw [if_neg h0] at h
      exact absurd h h0
theorem zero_else {c : Prop} [Decidable c] {x : Int} (hx : x ≠ 0) (h : (if c then 0 else x) = 0) : c := by
  by_cases hc : c
  · exact hc
  · rw [if_neg hc] at h; exact absurd h hx
theorem fok_win {L : Ly} (h : wiE L.r L.s L.sy L.sx L.t L.l L.b L.q = 0) : Fok L := by
  unfold wiE at h
  have := zero_else (by decide) h
  exact .inr ⟨this.1.1, this.2.1⟩
theorem kok_out {L : Ly} (h : ouE L = 0) : 0 ≤ L.k ∧ L.k ≤ 4096 := by
  unfold ouE at h
  have := zero_else (by decide) h
  omega
abbrev spo (S : Sp) : Obj := .cells #[.int .i64 S.h, .int .i64 S.v, .int .i64 S.c, .int .i64 S.ah, .bool S.fs, .bool S.la] 97
theorem block_cell {W : World} {b : Nat} {cs : Array Value} {t : TypeId} (h : W.heap[b]? = some (.cells cs t)) (j : Nat) : W.cell? ⟨b, j, none⟩ = cs[j]? := by
  simp [World.cell?, h]

def qC (L : Ly) (S : Sp) : Nat → Int
  | 0 => (if S.la = true then 51 else 0)
  | 1 => ouE L
  | 2 => wiE L.r L.s L.sy L.sx L.t L.l L.b L.q
  | 3 => boE L
  | 4 => oE L S.h S.v S.c
  | 5 => wkE L
  | 6 => wrE L S
  | 7 => wsE L S
  | 8 => nmE L
  | _ => reE L S
set_option maxHeartbeats 1600000 in
set_option maxRecDepth 100000 in
theorem fault_C (L : Ly) (S : Sp) (hkd : L.kd = 1) (hs : Sides S.h S.v S.c) (ha : 0 ≤ S.ah ∧ S.ah ≤ 16777216) (b : Nat) (w : World) (hP : Pts w b) (hL : Lst w L) :
    Calls Tryz.prog 45 #[.map (some b), lyv L, spv S] w fun e w' => e = .returned (.int .i64 (frF 10 (qC L S))) ∧ Below w.heap.size w w' := by
  have HS := hid1 hs
  have HA := hid1 ha
  have HP := hid1 hP
  have HL := hid1 hL
  have HKD := hid1 hkd
  have LK := fun W (h : Pts W b) => look_run h L.kd
  rw [show lkV b L.kd = .slice (some ⟨b + 1, 0, none⟩) 10 10 from by rw [hkd]; rfl, show decide (L.kd = 1 ∨ L.kd = 2 ∨ L.kd = 3) = true from by rw [hkd]; rfl] at LK
  have H0 := hid1 (fun k (hk : k < 10) h h2 => frF_no (q := qC L S) hk h h2)
  have H1 := hid1 (fun h => frF_ok (q := qC L S) (n := 10) h)
  generalize frF 10 (qC L S) = fin at *
  clear hs ha hP hL hkd
  have BY0 : Below w.heap.size w ((w.alloc (lyo L)).alloc (spo S)) := bl_alloc (bl_alloc (Below.refl _ _) _) _
  replace LK := LK ((w.alloc (lyo L)).alloc (spo S)) (HP.out.keep BY0)
  clear BY0
  go_enter Tryz.func45, Tryz.ntmps45
  go_wp2_with fail
  clear LK
  refine gen_world (fun X => Below w.heap.size w X ∧ Lp X w.heap.size L ∧ So X (w.heap.size + 1) S) ⟨by repeat (first | (with_reducible exact Below.refl _ _) | (with_reducible refine bl_alloc ?_ _) | (with_reducible refine Below.drew ?_) | (with_reducible refine bl_drewN ?_ _) | (with_reducible refine bl_set ?_ (by omega) _) | (with_reducible refine bl_step ?_ (by assumption))), (lp_new _ _ _).keep (bl_alloc (Below.refl _ _) _), so_new (by simp) _ _⟩ ?_
  rintro Y ⟨BY, LY, SY⟩
  have KL := hid1 LY
  have KS := hid1 SY
  clear LY SY
  go_loopw [23] (fun i wr => ∃ k : Nat, k ≤ 10 ∧ i = .int .i64 k ∧ Hid (∀ j, j < k → qC L S j = 0) ∧ Below w.heap.size w wr ∧ Hid (Lp wr w.heap.size L) ∧ Hid (So wr (w.heap.size + 1) S)) (fun i _ => 10 - (intOf i).toNat)
  case atStart => exact ⟨0, Nat.zero_le _, rfl, hid1 fun j hj => absurd hj (by omega), BY, KL, KS⟩
  case round =>
    clear BY KL KS
    obtain ⟨k, hk, rfl, HQ, BX, KL, KS⟩ := hrel
    by_cases hlt : k < 10
    · have hcs : k = 0 ∨ k = 1 ∨ k = 2 ∨ k = 3 ∨ k = 4 ∨ k = 5 ∨ k = 6 ∨ k = 7 ∨ k = 8 ∨ k = 9 := by omega
      clear hk hlt
      rcases hcs with rfl | rfl | rfl | rfl | rfl | rfl | rfl | rfl | rfl | rfl
      · have hq := notLast_any L S wr
        unfold Asks at hq
        have cc : wr.cell? ⟨b + 1, 0, none⟩ = some (fv 60) := by rw [block_cell (HP.out.keep BX).2.1]; rfl
        have HN := hid1 (fun (h : ¬ qC L S 0 = 0) => H0.out 0 (by decide) HQ.out h)
        have HY := hid1 (fun (h : qC L S 0 = 0) => (show ∀ j, j < 0 + 1 → qC L S j = 0 from fun j hj => by
          by_cases e : j = 0
          · rw [e]; exact h
          · exact HQ.out j (by omega)))
        change Calls Tryz.prog 60 _ _ (fun e w' => e = .returned (.int .i64 (qC L S 0)) ∧ _) at hq
        generalize qC L S 0 = x at hq HN HY
        obtain ⟨c0, c1, c2, c3, c4, c5, c6, c7, c8, c9, c10, c11, c12, c13, c14⟩ := KL.out
        obtain ⟨s0, s1, s2, s3, s4, s5⟩ := KS.out
        go_wp2_with fail
        refine hq.mono ?_
        rintro e w1 ⟨rfl, hb⟩
        replace KL := hid1 (KL.out.keep hb)
        replace KS := hid1 (KS.out.keep hb)
        replace BX := bl_step BX hb
        clear hb hq cc c0 c1 c2 c3 c4 c5 c6 c7 c8 c9 c10 c11 c12 c13 c14 s0 s1 s2 s3 s4 s5
        by_cases hx : x = 0
        · have hx2 : (x != 0) = false := by simpa using hx
          have HX := hid1 hx
          clear hx
          go_wp2_with fail
          go_roundw
          case rel => exact ⟨0 + 1, by omega, by first | rfl | go_num, hid1 (HY.out HX.out), BX, KL, KS⟩
          case measure => simp [intOf]
        · have hx2 : (x != 0) = true := by simpa using hx
          go_wp2_with fail
          go_ret
          exact ⟨by rw [HN.out hx]; rfl, BX⟩
      · have hq := outputs_any L S wr
        unfold Asks at hq
        have cc : wr.cell? ⟨b + 1, 1, none⟩ = some (fv 61) := by rw [block_cell (HP.out.keep BX).2.1]; rfl
        have HN := hid1 (fun (h : ¬ qC L S 1 = 0) => H0.out 1 (by decide) HQ.out h)
        have HY := hid1 (fun (h : qC L S 1 = 0) => (show ∀ j, j < 1 + 1 → qC L S j = 0 from fun j hj => by
          by_cases e : j = 1
          · rw [e]; exact h
          · exact HQ.out j (by omega)))
        change Calls Tryz.prog 61 _ _ (fun e w' => e = .returned (.int .i64 (qC L S 1)) ∧ _) at hq
        generalize qC L S 1 = x at hq HN HY
        obtain ⟨c0, c1, c2, c3, c4, c5, c6, c7, c8, c9, c10, c11, c12, c13, c14⟩ := KL.out
        obtain ⟨s0, s1, s2, s3, s4, s5⟩ := KS.out
        go_wp2_with fail
        refine hq.mono ?_
        rintro e w1 ⟨rfl, hb⟩
        replace KL := hid1 (KL.out.keep hb)
        replace KS := hid1 (KS.out.keep hb)
        replace BX := bl_step BX hb
        clear hb hq cc c0 c1 c2 c3 c4 c5 c6 c7 c8 c9 c10 c11 c12 c13 c14 s0 s1 s2 s3 s4 s5
        by_cases hx : x = 0
        · have hx2 : (x != 0) = false := by simpa using hx
          have HX := hid1 hx
          clear hx
          go_wp2_with fail
          go_roundw
          case rel => exact ⟨1 + 1, by omega, by first | rfl | go_num, hid1 (HY.out HX.out), BX, KL, KS⟩
          case measure => simp [intOf]
        · have hx2 : (x != 0) = true := by simpa using hx
          go_wp2_with fail
          go_ret
          exact ⟨by rw [HN.out hx]; rfl, BX⟩
      · have hq := window_q L S wr
        unfold Asks at hq
        have cc : wr.cell? ⟨b + 1, 2, none⟩ = some (fv 62) := by rw [block_cell (HP.out.keep BX).2.1]; rfl
        have HN := hid1 (fun (h : ¬ qC L S 2 = 0) => H0.out 2 (by decide) HQ.out h)
        have HY := hid1 (fun (h : qC L S 2 = 0) => (show ∀ j, j < 2 + 1 → qC L S j = 0 from fun j hj => by
          by_cases e : j = 2
          · rw [e]; exact h
          · exact HQ.out j (by omega)))
        change Calls Tryz.prog 62 _ _ (fun e w' => e = .returned (.int .i64 (qC L S 2)) ∧ _) at hq
        generalize qC L S 2 = x at hq HN HY
        obtain ⟨c0, c1, c2, c3, c4, c5, c6, c7, c8, c9, c10, c11, c12, c13, c14⟩ := KL.out
        obtain ⟨s0, s1, s2, s3, s4, s5⟩ := KS.out
        go_wp2_with fail
        refine hq.mono ?_
        rintro e w1 ⟨rfl, hb⟩
        replace KL := hid1 (KL.out.keep hb)
        replace KS := hid1 (KS.out.keep hb)
        replace BX := bl_step BX hb
        clear hb hq cc c0 c1 c2 c3 c4 c5 c6 c7 c8 c9 c10 c11 c12 c13 c14 s0 s1 s2 s3 s4 s5
        by_cases hx : x = 0
        · have hx2 : (x != 0) = false := by simpa using hx
          have HX := hid1 hx
          clear hx
          go_wp2_with fail
          go_roundw
          case rel => exact ⟨2 + 1, by omega, by first | rfl | go_num, hid1 (HY.out HX.out), BX, KL, KS⟩
          case measure => simp [intOf]
        · have hx2 : (x != 0) = true := by simpa using hx
          go_wp2_with fail
          go_ret
          exact ⟨by rw [HN.out hx]; rfl, BX⟩
      · have hq := border_any L S wr
        unfold Asks at hq
        have cc : wr.cell? ⟨b + 1, 3, none⟩ = some (fv 63) := by rw [block_cell (HP.out.keep BX).2.1]; rfl
        have HN := hid1 (fun (h : ¬ qC L S 3 = 0) => H0.out 3 (by decide) HQ.out h)
        have HY := hid1 (fun (h : qC L S 3 = 0) => (show ∀ j, j < 3 + 1 → qC L S j = 0 from fun j hj => by
          by_cases e : j = 3
          · rw [e]; exact h
          · exact HQ.out j (by omega)))
        change Calls Tryz.prog 63 _ _ (fun e w' => e = .returned (.int .i64 (qC L S 3)) ∧ _) at hq
        generalize qC L S 3 = x at hq HN HY
        obtain ⟨c0, c1, c2, c3, c4, c5, c6, c7, c8, c9, c10, c11, c12, c13, c14⟩ := KL.out
        obtain ⟨s0, s1, s2, s3, s4, s5⟩ := KS.out
        go_wp2_with fail
        refine hq.mono ?_
        rintro e w1 ⟨rfl, hb⟩
        replace KL := hid1 (KL.out.keep hb)
        replace KS := hid1 (KS.out.keep hb)
        replace BX := bl_step BX hb
        clear hb hq cc c0 c1 c2 c3 c4 c5 c6 c7 c8 c9 c10 c11 c12 c13 c14 s0 s1 s2 s3 s4 s5
        by_cases hx : x = 0
        · have hx2 : (x != 0) = false := by simpa using hx
          have HX := hid1 hx
          clear hx
          go_wp2_with fail
          go_roundw
          case rel => exact ⟨3 + 1, by omega, by first | rfl | go_num, hid1 (HY.out HX.out), BX, KL, KS⟩
          case measure => simp [intOf]
        · have hx2 : (x != 0) = true := by simpa using hx
          go_wp2_with fail
          go_ret
          exact ⟨by rw [HN.out hx]; rfl, BX⟩
      · have hq := fits_any L S wr
        unfold Asks at hq
        have cc : wr.cell? ⟨b + 1, 4, none⟩ = some (fv 64) := by rw [block_cell (HP.out.keep BX).2.1]; rfl
        have HN := hid1 (fun (h : ¬ qC L S 4 = 0) => H0.out 4 (by decide) HQ.out h)
        have HY := hid1 (fun (h : qC L S 4 = 0) => (show ∀ j, j < 4 + 1 → qC L S j = 0 from fun j hj => by
          by_cases e : j = 4
          · rw [e]; exact h
          · exact HQ.out j (by omega)))
        change Calls Tryz.prog 64 _ _ (fun e w' => e = .returned (.int .i64 (qC L S 4)) ∧ _) at hq
        generalize qC L S 4 = x at hq HN HY
        obtain ⟨c0, c1, c2, c3, c4, c5, c6, c7, c8, c9, c10, c11, c12, c13, c14⟩ := KL.out
        obtain ⟨s0, s1, s2, s3, s4, s5⟩ := KS.out
        go_wp2_with fail
        refine hq.mono ?_
        rintro e w1 ⟨rfl, hb⟩
        replace KL := hid1 (KL.out.keep hb)
        replace KS := hid1 (KS.out.keep hb)
        replace BX := bl_step BX hb
        clear hb hq cc c0 c1 c2 c3 c4 c5 c6 c7 c8 c9 c10 c11 c12 c13 c14 s0 s1 s2 s3 s4 s5
        by_cases hx : x = 0
        · have hx2 : (x != 0) = false := by simpa using hx
          have HX := hid1 hx
          clear hx
          go_wp2_with fail
          go_roundw
          case rel => exact ⟨4 + 1, by omega, by first | rfl | go_num, hid1 (HY.out HX.out), BX, KL, KS⟩
          case measure => simp [intOf]
        · have hx2 : (x != 0) = true := by simpa using hx
          go_wp2_with fail
          go_ret
          exact ⟨by rw [HN.out hx]; rfl, BX⟩
      · have hq := weightKind_any L S wr
        unfold Asks at hq
        have cc : wr.cell? ⟨b + 1, 5, none⟩ = some (fv 65) := by rw [block_cell (HP.out.keep BX).2.1]; rfl
        have HN := hid1 (fun (h : ¬ qC L S 5 = 0) => H0.out 5 (by decide) HQ.out h)
        have HY := hid1 (fun (h : qC L S 5 = 0) => (show ∀ j, j < 5 + 1 → qC L S j = 0 from fun j hj => by
          by_cases e : j = 5
          · rw [e]; exact h
          · exact HQ.out j (by omega)))
        change Calls Tryz.prog 65 _ _ (fun e w' => e = .returned (.int .i64 (qC L S 5)) ∧ _) at hq
        generalize qC L S 5 = x at hq HN HY
        obtain ⟨c0, c1, c2, c3, c4, c5, c6, c7, c8, c9, c10, c11, c12, c13, c14⟩ := KL.out
        obtain ⟨s0, s1, s2, s3, s4, s5⟩ := KS.out
        go_wp2_with fail
        refine hq.mono ?_
        rintro e w1 ⟨rfl, hb⟩
        replace KL := hid1 (KL.out.keep hb)
        replace KS := hid1 (KS.out.keep hb)
        replace BX := bl_step BX hb
        clear hb hq cc c0 c1 c2 c3 c4 c5 c6 c7 c8 c9 c10 c11 c12 c13 c14 s0 s1 s2 s3 s4 s5
        by_cases hx : x = 0
        · have hx2 : (x != 0) = false := by simpa using hx
          have HX := hid1 hx
          clear hx
          go_wp2_with fail
          go_roundw
          case rel => exact ⟨5 + 1, by omega, by first | rfl | go_num, hid1 (HY.out HX.out), BX, KL, KS⟩
          case measure => simp [intOf]
        · have hx2 : (x != 0) = true := by simpa using hx
          go_wp2_with fail
          go_ret
          exact ⟨by rw [HN.out hx]; rfl, BX⟩
      · have hq := weightRoom_any L S HS.out (fok_win (HQ.out 2 (by decide))) (kok_out (HQ.out 1 (by decide))) HA.out wr
        unfold Asks at hq
        have cc : wr.cell? ⟨b + 1, 6, none⟩ = some (fv 66) := by rw [block_cell (HP.out.keep BX).2.1]; rfl
        have HN := hid1 (fun (h : ¬ qC L S 6 = 0) => H0.out 6 (by decide) HQ.out h)
        have HY := hid1 (fun (h : qC L S 6 = 0) => (show ∀ j, j < 6 + 1 → qC L S j = 0 from fun j hj => by
          by_cases e : j = 6
          · rw [e]; exact h
          · exact HQ.out j (by omega)))
        change Calls Tryz.prog 66 _ _ (fun e w' => e = .returned (.int .i64 (qC L S 6)) ∧ _) at hq
        generalize qC L S 6 = x at hq HN HY
        obtain ⟨c0, c1, c2, c3, c4, c5, c6, c7, c8, c9, c10, c11, c12, c13, c14⟩ := KL.out
        obtain ⟨s0, s1, s2, s3, s4, s5⟩ := KS.out
        go_wp2_with fail
        refine hq.mono ?_
        rintro e w1 ⟨rfl, hb⟩
        replace KL := hid1 (KL.out.keep hb)
        replace KS := hid1 (KS.out.keep hb)
        replace BX := bl_step BX hb
        clear hb hq cc c0 c1 c2 c3 c4 c5 c6 c7 c8 c9 c10 c11 c12 c13 c14 s0 s1 s2 s3 s4 s5
        by_cases hx : x = 0
        · have hx2 : (x != 0) = false := by simpa using hx
          have HX := hid1 hx
          clear hx
          go_wp2_with fail
          go_roundw
          case rel => exact ⟨6 + 1, by omega, by first | rfl | go_num, hid1 (HY.out HX.out), BX, KL, KS⟩
          case measure => simp [intOf]
        · have hx2 : (x != 0) = true := by simpa using hx
          go_wp2_with fail
          go_ret
          exact ⟨by rw [HN.out hx]; rfl, BX⟩
      · have hq := weights_any L S HS.out (fok_win (HQ.out 2 (by decide))) (kok_out (HQ.out 1 (by decide))) wr (HL.out.keep BX)
        unfold Asks at hq
        have cc : wr.cell? ⟨b + 1, 7, none⟩ = some (fv 67) := by rw [block_cell (HP.out.keep BX).2.1]; rfl
        have HN := hid1 (fun (h : ¬ qC L S 7 = 0) => H0.out 7 (by decide) HQ.out h)
        have HY := hid1 (fun (h : qC L S 7 = 0) => (show ∀ j, j < 7 + 1 → qC L S j = 0 from fun j hj => by
          by_cases e : j = 7
          · rw [e]; exact h
          · exact HQ.out j (by omega)))
        change Calls Tryz.prog 67 _ _ (fun e w' => e = .returned (.int .i64 (qC L S 7)) ∧ _) at hq
        generalize qC L S 7 = x at hq HN HY
        obtain ⟨c0, c1, c2, c3, c4, c5, c6, c7, c8, c9, c10, c11, c12, c13, c14⟩ := KL.out
        obtain ⟨s0, s1, s2, s3, s4, s5⟩ := KS.out
        go_wp2_with fail
        refine hq.mono ?_
        rintro e w1 ⟨rfl, hb⟩
        replace KL := hid1 (KL.out.keep hb)
        replace KS := hid1 (KS.out.keep hb)
        replace BX := bl_step BX hb
        clear hb hq cc c0 c1 c2 c3 c4 c5 c6 c7 c8 c9 c10 c11 c12 c13 c14 s0 s1 s2 s3 s4 s5
        by_cases hx : x = 0
        · have hx2 : (x != 0) = false := by simpa using hx
          have HX := hid1 hx
          clear hx
          go_wp2_with fail
          go_roundw
          case rel => exact ⟨7 + 1, by omega, by first | rfl | go_num, hid1 (HY.out HX.out), BX, KL, KS⟩
          case measure => simp [intOf]
        · have hx2 : (x != 0) = true := by simpa using hx
          go_wp2_with fail
          go_ret
          exact ⟨by rw [HN.out hx]; rfl, BX⟩
      · have hq := norms_any L S wr (HL.out.keep BX)
        unfold Asks at hq
        have cc : wr.cell? ⟨b + 1, 8, none⟩ = some (fv 68) := by rw [block_cell (HP.out.keep BX).2.1]; rfl
        have HN := hid1 (fun (h : ¬ qC L S 8 = 0) => H0.out 8 (by decide) HQ.out h)
        have HY := hid1 (fun (h : qC L S 8 = 0) => (show ∀ j, j < 8 + 1 → qC L S j = 0 from fun j hj => by
          by_cases e : j = 8
          · rw [e]; exact h
          · exact HQ.out j (by omega)))
        change Calls Tryz.prog 68 _ _ (fun e w' => e = .returned (.int .i64 (qC L S 8)) ∧ _) at hq
        generalize qC L S 8 = x at hq HN HY
        obtain ⟨c0, c1, c2, c3, c4, c5, c6, c7, c8, c9, c10, c11, c12, c13, c14⟩ := KL.out
        obtain ⟨s0, s1, s2, s3, s4, s5⟩ := KS.out
        go_wp2_with fail
        refine hq.mono ?_
        rintro e w1 ⟨rfl, hb⟩
        replace KL := hid1 (KL.out.keep hb)
        replace KS := hid1 (KS.out.keep hb)
        replace BX := bl_step BX hb
        clear hb hq cc c0 c1 c2 c3 c4 c5 c6 c7 c8 c9 c10 c11 c12 c13 c14 s0 s1 s2 s3 s4 s5
        by_cases hx : x = 0
        · have hx2 : (x != 0) = false := by simpa using hx
          have HX := hid1 hx
          clear hx
          go_wp2_with fail
          go_roundw
          case rel => exact ⟨8 + 1, by omega, by first | rfl | go_num, hid1 (HY.out HX.out), BX, KL, KS⟩
          case measure => simp [intOf]
        · have hx2 : (x != 0) = true := by simpa using hx
          go_wp2_with fail
          go_ret
          exact ⟨by rw [HN.out hx]; rfl, BX⟩
      · have hq := reach_any L S HS.out (fok_win (HQ.out 2 (by decide))) wr (HL.out.keep BX)
        unfold Asks at hq
        have cc : wr.cell? ⟨b + 1, 9, none⟩ = some (fv 69) := by rw [block_cell (HP.out.keep BX).2.1]; rfl
        have HN := hid1 (fun (h : ¬ qC L S 9 = 0) => H0.out 9 (by decide) HQ.out h)
        have HY := hid1 (fun (h : qC L S 9 = 0) => (show ∀ j, j < 9 + 1 → qC L S j = 0 from fun j hj => by
          by_cases e : j = 9
          · rw [e]; exact h
          · exact HQ.out j (by omega)))
        change Calls Tryz.prog 69 _ _ (fun e w' => e = .returned (.int .i64 (qC L S 9)) ∧ _) at hq
        generalize qC L S 9 = x at hq HN HY
        obtain ⟨c0, c1, c2, c3, c4, c5, c6, c7, c8, c9, c10, c11, c12, c13, c14⟩ := KL.out
        obtain ⟨s0, s1, s2, s3, s4, s5⟩ := KS.out
        go_wp2_with fail
        refine hq.mono ?_
        rintro e w1 ⟨rfl, hb⟩
        replace KL := hid1 (KL.out.keep hb)
        replace KS := hid1 (KS.out.keep hb)
        replace BX := bl_step BX hb
        clear hb hq cc c0 c1 c2 c3 c4 c5 c6 c7 c8 c9 c10 c11 c12 c13 c14 s0 s1 s2 s3 s4 s5
        by_cases hx : x = 0
        · have hx2 : (x != 0) = false := by simpa using hx
          have HX := hid1 hx
          clear hx
          go_wp2_with fail
          go_roundw
          case rel => exact ⟨9 + 1, by omega, by first | rfl | go_num, hid1 (HY.out HX.out), BX, KL, KS⟩
          case measure => simp [intOf]
        · have hx2 : (x != 0) = true := by simpa using hx
          go_wp2_with fail
          go_ret
          exact ⟨by rw [HN.out hx]; rfl, BX⟩
    · have : k = 10 := by omega
      subst this
      go_wp2_with fail
      go_ret
      exact ⟨by rw [H1.out HQ.out]; rfl, BX⟩
def qD (L : Ly) (S : Sp) : Nat → Int
  | 0 => ouE L
  | 1 => nwE L
  | 2 => wkE L
  | 3 => wrE L S
  | 4 => wsE L S
  | 5 => enE L S
  | _ => reE L S
set_option maxHeartbeats 1600000 in
set_option maxRecDepth 100000 in
theorem fault_D (L : Ly) (S : Sp) (hkd : L.kd = 2) (hs : Sides S.h S.v S.c) (ha : 0 ≤ S.ah ∧ S.ah ≤ 16777216) (b : Nat) (w : World) (hP : Pts w b) (hL : Lst w L) :
    Calls Tryz.prog 45 #[.map (some b), lyv L, spv S] w fun e w' => e = .returned (.int .i64 (frF 7 (qD L S))) ∧ Below w.heap.size w w' := by
  have HS := hid1 hs
  have HA := hid1 ha
  have HP := hid1 hP
  have HL := hid1 hL
  have HKD := hid1 hkd
  have LK := fun W (h : Pts W b) => look_run h L.kd
  rw [show lkV b L.kd = .slice (some ⟨b + 2, 0, none⟩) 7 7 from by rw [hkd]; rfl, show decide (L.kd = 1 ∨ L.kd = 2 ∨ L.kd = 3) = true from by rw [hkd]; rfl] at LK
  have H0 := hid1 (fun k (hk : k < 7) h h2 => frF_no (q := qD L S) hk h h2)
  have H1 := hid1 (fun h => frF_ok (q := qD L S) (n := 7) h)
  generalize frF 7 (qD L S) = fin at *
  clear hs ha hP hL hkd
  have BY0 : Below w.heap.size w ((w.alloc (lyo L)).alloc (spo S)) := bl_alloc (bl_alloc (Below.refl _ _) _) _
  replace LK := LK ((w.alloc (lyo L)).alloc (spo S)) (HP.out.keep BY0)
  clear BY0
  go_enter Tryz.func45, Tryz.ntmps45
  go_wp2_with fail
  clear LK
  refine gen_world (fun X => Below w.heap.size w X ∧ Lp X w.heap.size L ∧ So X (w.heap.size + 1) S) ⟨by repeat (first | (with_reducible exact Below.refl _ _) | (with_reducible refine bl_alloc ?_ _) | (with_reducible refine Below.drew ?_) | (with_reducible refine bl_drewN ?_ _) | (with_reducible refine bl_set ?_ (by omega) _) | (with_reducible refine bl_step ?_ (by assumption))), (lp_new _ _ _).keep (bl_alloc (Below.refl _ _) _), so_new (by simp) _ _⟩ ?_
  rintro Y ⟨BY, LY, SY⟩
  have KL := hid1 LY
  have KS := hid1 SY
  clear LY SY
  go_loopw [23] (fun i wr => ∃ k : Nat, k ≤ 7 ∧ i = .int .i64 k ∧ Hid (∀ j, j < k → qD L S j = 0) ∧ Below w.heap.size w wr ∧ Hid (Lp wr w.heap.size L) ∧ Hid (So wr (w.heap.size + 1) S)) (fun i _ => 7 - (intOf i).toNat)
  case atStart => exact ⟨0, Nat.zero_le _, rfl, hid1 fun j hj => absurd hj (by omega), BY, KL, KS⟩
  case round =>
    clear BY KL KS
    obtain ⟨k, hk, rfl, HQ, BX, KL, KS⟩ := hrel
    by_cases hlt : k < 7
    · have hcs : k = 0 ∨ k = 1 ∨ k = 2 ∨ k = 3 ∨ k = 4 ∨ k = 5 ∨ k = 6 := by omega
      clear hk hlt
      rcases hcs with rfl | rfl | rfl | rfl | rfl | rfl | rfl
      · have hq := outputs_any L S wr
        unfold Asks at hq
        have cc : wr.cell? ⟨b + 2, 0, none⟩ = some (fv 61) := by rw [block_cell (HP.out.keep BX).2.2.1]; rfl
        have HN := hid1 (fun (h : ¬ qD L S 0 = 0) => H0.out 0 (by decide) HQ.out h)
        have HY := hid1 (fun (h : qD L S 0 = 0) => (show ∀ j, j < 0 + 1 → qD L S j = 0 from fun j hj => by
          by_cases e : j = 0
          · rw [e]; exact h
          · exact HQ.out j (by omega)))
        change Calls Tryz.prog 61 _ _ (fun e w' => e = .returned (.int .i64 (qD L S 0)) ∧ _) at hq
        generalize qD L S 0 = x at hq HN HY
        obtain ⟨c0, c1, c2, c3, c4, c5, c6, c7, c8, c9, c10, c11, c12, c13, c14⟩ := KL.out
        obtain ⟨s0, s1, s2, s3, s4, s5⟩ := KS.out
        go_wp2_with fail
        refine hq.mono ?_
        rintro e w1 ⟨rfl, hb⟩
        replace KL := hid1 (KL.out.keep hb)
        replace KS := hid1 (KS.out.keep hb)
        replace BX := bl_step BX hb
        clear hb hq cc c0 c1 c2 c3 c4 c5 c6 c7 c8 c9 c10 c11 c12 c13 c14 s0 s1 s2 s3 s4 s5
        by_cases hx : x = 0
        · have hx2 : (x != 0) = false := by simpa using hx
          have HX := hid1 hx
          clear hx
          go_wp2_with fail
          go_roundw
          case rel => exact ⟨0 + 1, by omega, by first | rfl | go_num, hid1 (HY.out HX.out), BX, KL, KS⟩
          case measure => simp [intOf]
        · have hx2 : (x != 0) = true := by simpa using hx
          go_wp2_with fail
          go_ret
          exact ⟨by rw [HN.out hx]; rfl, BX⟩
      · have hq := noWindow_any L S wr
        unfold Asks at hq
        have cc : wr.cell? ⟨b + 2, 1, none⟩ = some (fv 70) := by rw [block_cell (HP.out.keep BX).2.2.1]; rfl
        have HN := hid1 (fun (h : ¬ qD L S 1 = 0) => H0.out 1 (by decide) HQ.out h)
        have HY := hid1 (fun (h : qD L S 1 = 0) => (show ∀ j, j < 1 + 1 → qD L S j = 0 from fun j hj => by
          by_cases e : j = 1
          · rw [e]; exact h
          · exact HQ.out j (by omega)))
        change Calls Tryz.prog 70 _ _ (fun e w' => e = .returned (.int .i64 (qD L S 1)) ∧ _) at hq
        generalize qD L S 1 = x at hq HN HY
        obtain ⟨c0, c1, c2, c3, c4, c5, c6, c7, c8, c9, c10, c11, c12, c13, c14⟩ := KL.out
        obtain ⟨s0, s1, s2, s3, s4, s5⟩ := KS.out
        go_wp2_with fail
        refine hq.mono ?_
        rintro e w1 ⟨rfl, hb⟩
        replace KL := hid1 (KL.out.keep hb)
        replace KS := hid1 (KS.out.keep hb)
        replace BX := bl_step BX hb
        clear hb hq cc c0 c1 c2 c3 c4 c5 c6 c7 c8 c9 c10 c11 c12 c13 c14 s0 s1 s2 s3 s4 s5
        by_cases hx : x = 0
        · have hx2 : (x != 0) = false := by simpa using hx
          have HX := hid1 hx
          clear hx
          go_wp2_with fail
          go_roundw
          case rel => exact ⟨1 + 1, by omega, by first | rfl | go_num, hid1 (HY.out HX.out), BX, KL, KS⟩
          case measure => simp [intOf]
        · have hx2 : (x != 0) = true := by simpa using hx
          go_wp2_with fail
          go_ret
          exact ⟨by rw [HN.out hx]; rfl, BX⟩
      · have hq := weightKind_any L S wr
        unfold Asks at hq
        have cc : wr.cell? ⟨b + 2, 2, none⟩ = some (fv 65) := by rw [block_cell (HP.out.keep BX).2.2.1]; rfl
        have HN := hid1 (fun (h : ¬ qD L S 2 = 0) => H0.out 2 (by decide) HQ.out h)
        have HY := hid1 (fun (h : qD L S 2 = 0) => (show ∀ j, j < 2 + 1 → qD L S j = 0 from fun j hj => by
          by_cases e : j = 2
          · rw [e]; exact h
          · exact HQ.out j (by omega)))
        change Calls Tryz.prog 65 _ _ (fun e w' => e = .returned (.int .i64 (qD L S 2)) ∧ _) at hq
        generalize qD L S 2 = x at hq HN HY
        obtain ⟨c0, c1, c2, c3, c4, c5, c6, c7, c8, c9, c10, c11, c12, c13, c14⟩ := KL.out
        obtain ⟨s0, s1, s2, s3, s4, s5⟩ := KS.out
        go_wp2_with fail
        refine hq.mono ?_
        rintro e w1 ⟨rfl, hb⟩
        replace KL := hid1 (KL.out.keep hb)
        replace KS := hid1 (KS.out.keep hb)
        replace BX := bl_step BX hb
        clear hb hq cc c0 c1 c2 c3 c4 c5 c6 c7 c8 c9 c10 c11 c12 c13 c14 s0 s1 s2 s3 s4 s5
        by_cases hx : x = 0
        · have hx2 : (x != 0) = false := by simpa using hx
          have HX := hid1 hx
          clear hx
          go_wp2_with fail
          go_roundw
          case rel => exact ⟨2 + 1, by omega, by first | rfl | go_num, hid1 (HY.out HX.out), BX, KL, KS⟩
          case measure => simp [intOf]
        · have hx2 : (x != 0) = true := by simpa using hx
          go_wp2_with fail
          go_ret
          exact ⟨by rw [HN.out hx]; rfl, BX⟩
      · have hq := weightRoom_any L S HS.out (.inl HKD.out) (kok_out (HQ.out 0 (by decide))) HA.out wr
        unfold Asks at hq
        have cc : wr.cell? ⟨b + 2, 3, none⟩ = some (fv 66) := by rw [block_cell (HP.out.keep BX).2.2.1]; rfl
        have HN := hid1 (fun (h : ¬ qD L S 3 = 0) => H0.out 3 (by decide) HQ.out h)
        have HY := hid1 (fun (h : qD L S 3 = 0) => (show ∀ j, j < 3 + 1 → qD L S j = 0 from fun j hj => by
          by_cases e : j = 3
          · rw [e]; exact h
          · exact HQ.out j (by omega)))
        change Calls Tryz.prog 66 _ _ (fun e w' => e = .returned (.int .i64 (qD L S 3)) ∧ _) at hq
        generalize qD L S 3 = x at hq HN HY
        obtain ⟨c0, c1, c2, c3, c4, c5, c6, c7, c8, c9, c10, c11, c12, c13, c14⟩ := KL.out
        obtain ⟨s0, s1, s2, s3, s4, s5⟩ := KS.out
        go_wp2_with fail
        refine hq.mono ?_
        rintro e w1 ⟨rfl, hb⟩
        replace KL := hid1 (KL.out.keep hb)
        replace KS := hid1 (KS.out.keep hb)
        replace BX := bl_step BX hb
        clear hb hq cc c0 c1 c2 c3 c4 c5 c6 c7 c8 c9 c10 c11 c12 c13 c14 s0 s1 s2 s3 s4 s5
        by_cases hx : x = 0
        · have hx2 : (x != 0) = false := by simpa using hx
          have HX := hid1 hx
          clear hx
          go_wp2_with fail
          go_roundw
          case rel => exact ⟨3 + 1, by omega, by first | rfl | go_num, hid1 (HY.out HX.out), BX, KL, KS⟩
          case measure => simp [intOf]
        · have hx2 : (x != 0) = true := by simpa using hx
          go_wp2_with fail
          go_ret
          exact ⟨by rw [HN.out hx]; rfl, BX⟩
      · have hq := weights_any L S HS.out (.inl HKD.out) (kok_out (HQ.out 0 (by decide))) wr (HL.out.keep BX)
        unfold Asks at hq
        have cc : wr.cell? ⟨b + 2, 4, none⟩ = some (fv 67) := by rw [block_cell (HP.out.keep BX).2.2.1]; rfl
        have HN := hid1 (fun (h : ¬ qD L S 4 = 0) => H0.out 4 (by decide) HQ.out h)
        have HY := hid1 (fun (h : qD L S 4 = 0) => (show ∀ j, j < 4 + 1 → qD L S j = 0 from fun j hj => by
          by_cases e : j = 4
          · rw [e]; exact h
          · exact HQ.out j (by omega)))
        change Calls Tryz.prog 67 _ _ (fun e w' => e = .returned (.int .i64 (qD L S 4)) ∧ _) at hq
        generalize qD L S 4 = x at hq HN HY
        obtain ⟨c0, c1, c2, c3, c4, c5, c6, c7, c8, c9, c10, c11, c12, c13, c14⟩ := KL.out
        obtain ⟨s0, s1, s2, s3, s4, s5⟩ := KS.out
        go_wp2_with fail
        refine hq.mono ?_
        rintro e w1 ⟨rfl, hb⟩
        replace KL := hid1 (KL.out.keep hb)
        replace KS := hid1 (KS.out.keep hb)
        replace BX := bl_step BX hb
        clear hb hq cc c0 c1 c2 c3 c4 c5 c6 c7 c8 c9 c10 c11 c12 c13 c14 s0 s1 s2 s3 s4 s5
        by_cases hx : x = 0
        · have hx2 : (x != 0) = false := by simpa using hx
          have HX := hid1 hx
          clear hx
          go_wp2_with fail
          go_roundw
          case rel => exact ⟨4 + 1, by omega, by first | rfl | go_num, hid1 (HY.out HX.out), BX, KL, KS⟩
          case measure => simp [intOf]
        · have hx2 : (x != 0) = true := by simpa using hx
          go_wp2_with fail
          go_ret
          exact ⟨by rw [HN.out hx]; rfl, BX⟩
      · have hq := ending_any L S wr (HL.out.keep BX)
        unfold Asks at hq
        have cc : wr.cell? ⟨b + 2, 5, none⟩ = some (fv 71) := by rw [block_cell (HP.out.keep BX).2.2.1]; rfl
        have HN := hid1 (fun (h : ¬ qD L S 5 = 0) => H0.out 5 (by decide) HQ.out h)
        have HY := hid1 (fun (h : qD L S 5 = 0) => (show ∀ j, j < 5 + 1 → qD L S j = 0 from fun j hj => by
          by_cases e : j = 5
          · rw [e]; exact h
          · exact HQ.out j (by omega)))
        change Calls Tryz.prog 71 _ _ (fun e w' => e = .returned (.int .i64 (qD L S 5)) ∧ _) at hq
        generalize qD L S 5 = x at hq HN HY
        obtain ⟨c0, c1, c2, c3, c4, c5, c6, c7, c8, c9, c10, c11, c12, c13, c14⟩ := KL.out
        obtain ⟨s0, s1, s2, s3, s4, s5⟩ := KS.out
        go_wp2_with fail
        refine hq.mono ?_
        rintro e w1 ⟨rfl, hb⟩
        replace KL := hid1 (KL.out.keep hb)
        replace KS := hid1 (KS.out.keep hb)
        replace BX := bl_step BX hb
        clear hb hq cc c0 c1 c2 c3 c4 c5 c6 c7 c8 c9 c10 c11 c12 c13 c14 s0 s1 s2 s3 s4 s5
        by_cases hx : x = 0
        · have hx2 : (x != 0) = false := by simpa using hx
          have HX := hid1 hx
          clear hx
          go_wp2_with fail
          go_roundw
          case rel => exact ⟨5 + 1, by omega, by first | rfl | go_num, hid1 (HY.out HX.out), BX, KL, KS⟩
          case measure => simp [intOf]
        · have hx2 : (x != 0) = true := by simpa using hx
          go_wp2_with fail
          go_ret
          exact ⟨by rw [HN.out hx]; rfl, BX⟩
      · have hq := reach_any L S HS.out (.inl HKD.out) wr (HL.out.keep BX)
        unfold Asks at hq
        have cc : wr.cell? ⟨b + 2, 6, none⟩ = some (fv 69) := by rw [block_cell (HP.out.keep BX).2.2.1]; rfl
        have HN := hid1 (fun (h : ¬ qD L S 6 = 0) => H0.out 6 (by decide) HQ.out h)
        have HY := hid1 (fun (h : qD L S 6 = 0) => (show ∀ j, j < 6 + 1 → qD L S j = 0 from fun j hj => by
          by_cases e : j = 6
          · rw [e]; exact h
          · exact HQ.out j (by omega)))
        change Calls Tryz.prog 69 _ _ (fun e w' => e = .returned (.int .i64 (qD L S 6)) ∧ _) at hq
        generalize qD L S 6 = x at hq HN HY
        obtain ⟨c0, c1, c2, c3, c4, c5, c6, c7, c8, c9, c10, c11, c12, c13, c14⟩ := KL.out
        obtain ⟨s0, s1, s2, s3, s4, s5⟩ := KS.out
        go_wp2_with fail
        refine hq.mono ?_
        rintro e w1 ⟨rfl, hb⟩
        replace KL := hid1 (KL.out.keep hb)
        replace KS := hid1 (KS.out.keep hb)
        replace BX := bl_step BX hb
        clear hb hq cc c0 c1 c2 c3 c4 c5 c6 c7 c8 c9 c10 c11 c12 c13 c14 s0 s1 s2 s3 s4 s5
        by_cases hx : x = 0
        · have hx2 : (x != 0) = false := by simpa using hx
          have HX := hid1 hx
          clear hx
          go_wp2_with fail
          go_roundw
          case rel => exact ⟨6 + 1, by omega, by first | rfl | go_num, hid1 (HY.out HX.out), BX, KL, KS⟩
          case measure => simp [intOf]
        · have hx2 : (x != 0) = true := by simpa using hx
          go_wp2_with fail
          go_ret
          exact ⟨by rw [HN.out hx]; rfl, BX⟩
    · have : k = 7 := by omega
      subst this
      go_wp2_with fail
      go_ret
      exact ⟨by rw [H1.out HQ.out]; rfl, BX⟩
def qP (L : Ly) (S : Sp) : Nat → Int
  | 0 => (if S.fs = true then 51 else 0)
  | 1 => (if S.la = true then 51 else 0)
  | 2 => owE L
  | 3 => wiE L.r L.s L.sy L.sx L.t L.l L.b L.q
  | 4 => (if Wz L then 0 else 56)
  | _ => oE L S.h S.v S.c
set_option maxHeartbeats 1600000 in
set_option maxRecDepth 100000 in
theorem fault_P (L : Ly) (S : Sp) (hkd : L.kd = 3) (hs : Sides S.h S.v S.c) (ha : 0 ≤ S.ah ∧ S.ah ≤ 16777216) (b : Nat) (w : World) (hP : Pts w b) (hL : Lst w L) :
    Calls Tryz.prog 45 #[.map (some b), lyv L, spv S] w fun e w' => e = .returned (.int .i64 (frF 6 (qP L S))) ∧ Below w.heap.size w w' := by
  have HS := hid1 hs
  have HA := hid1 ha
  have HP := hid1 hP
  have HL := hid1 hL
  have HKD := hid1 hkd
  have LK := fun W (h : Pts W b) => look_run h L.kd
  rw [show lkV b L.kd = .slice (some ⟨b + 3, 0, none⟩) 6 6 from by rw [hkd]; rfl, show decide (L.kd = 1 ∨ L.kd = 2 ∨ L.kd = 3) = true from by rw [hkd]; rfl] at LK
  have H0 := hid1 (fun k (hk : k < 6) h h2 => frF_no (q := qP L S) hk h h2)
  have H1 := hid1 (fun h => frF_ok (q := qP L S) (n := 6) h)
  generalize frF 6 (qP L S) = fin at *
  clear hs ha hP hL hkd
  have BY0 : Below w.heap.size w ((w.alloc (lyo L)).alloc (spo S)) := bl_alloc (bl_alloc (Below.refl _ _) _) _
  replace LK := LK ((w.alloc (lyo L)).alloc (spo S)) (HP.out.keep BY0)
  clear BY0
  go_enter Tryz.func45, Tryz.ntmps45
  go_wp2_with fail
  clear LK
  refine gen_world (fun X => Below w.heap.size w X ∧ Lp X w.heap.size L ∧ So X (w.heap.size + 1) S) ⟨by repeat (first | (with_reducible exact Below.refl _ _) | (with_reducible refine bl_alloc ?_ _) | (with_reducible refine Below.drew ?_) | (with_reducible refine bl_drewN ?_ _) | (with_reducible refine bl_set ?_ (by omega) _) | (with_reducible refine bl_step ?_ (by assumption))), (lp_new _ _ _).keep (bl_alloc (Below.refl _ _) _), so_new (by simp) _ _⟩ ?_
  rintro Y ⟨BY, LY, SY⟩
  have KL := hid1 LY
  have KS := hid1 SY
  clear LY SY
  go_loopw [23] (fun i wr => ∃ k : Nat, k ≤ 6 ∧ i = .int .i64 k ∧ Hid (∀ j, j < k → qP L S j = 0) ∧ Below w.heap.size w wr ∧ Hid (Lp wr w.heap.size L) ∧ Hid (So wr (w.heap.size + 1) S)) (fun i _ => 6 - (intOf i).toNat)
  case atStart => exact ⟨0, Nat.zero_le _, rfl, hid1 fun j hj => absurd hj (by omega), BY, KL, KS⟩
  case round =>
    clear BY KL KS
    obtain ⟨k, hk, rfl, HQ, BX, KL, KS⟩ := hrel
    by_cases hlt : k < 6
    · have hcs : k = 0 ∨ k = 1 ∨ k = 2 ∨ k = 3 ∨ k = 4 ∨ k = 5 := by omega
      clear hk hlt
      rcases hcs with rfl | rfl | rfl | rfl | rfl | rfl
      · have hq := notFirst_any L S wr
        unfold Asks at hq
        have cc : wr.cell? ⟨b + 3, 0, none⟩ = some (fv 72) := by rw [block_cell (HP.out.keep BX).2.2.2]; rfl
        have HN := hid1 (fun (h : ¬ qP L S 0 = 0) => H0.out 0 (by decide) HQ.out h)
        have HY := hid1 (fun (h : qP L S 0 = 0) => (show ∀ j, j < 0 + 1 → qP L S j = 0 from fun j hj => by
          by_cases e : j = 0
          · rw [e]; exact h
          · exact HQ.out j (by omega)))
        change Calls Tryz.prog 72 _ _ (fun e w' => e = .returned (.int .i64 (qP L S 0)) ∧ _) at hq
        generalize qP L S 0 = x at hq HN HY
        obtain ⟨c0, c1, c2, c3, c4, c5, c6, c7, c8, c9, c10, c11, c12, c13, c14⟩ := KL.out
        obtain ⟨s0, s1, s2, s3, s4, s5⟩ := KS.out
        go_wp2_with fail
        refine hq.mono ?_
        rintro e w1 ⟨rfl, hb⟩
        replace KL := hid1 (KL.out.keep hb)
        replace KS := hid1 (KS.out.keep hb)
        replace BX := bl_step BX hb
        clear hb hq cc c0 c1 c2 c3 c4 c5 c6 c7 c8 c9 c10 c11 c12 c13 c14 s0 s1 s2 s3 s4 s5
        by_cases hx : x = 0
        · have hx2 : (x != 0) = false := by simpa using hx
          have HX := hid1 hx
          clear hx
          go_wp2_with fail
          go_roundw
          case rel => exact ⟨0 + 1, by omega, by first | rfl | go_num, hid1 (HY.out HX.out), BX, KL, KS⟩
          case measure => simp [intOf]
        · have hx2 : (x != 0) = true := by simpa using hx
          go_wp2_with fail
          go_ret
          exact ⟨by rw [HN.out hx]; rfl, BX⟩
      · have hq := notLast_any L S wr
        unfold Asks at hq
        have cc : wr.cell? ⟨b + 3, 1, none⟩ = some (fv 60) := by rw [block_cell (HP.out.keep BX).2.2.2]; rfl
        have HN := hid1 (fun (h : ¬ qP L S 1 = 0) => H0.out 1 (by decide) HQ.out h)
        have HY := hid1 (fun (h : qP L S 1 = 0) => (show ∀ j, j < 1 + 1 → qP L S j = 0 from fun j hj => by
          by_cases e : j = 1
          · rw [e]; exact h
          · exact HQ.out j (by omega)))
        change Calls Tryz.prog 60 _ _ (fun e w' => e = .returned (.int .i64 (qP L S 1)) ∧ _) at hq
        generalize qP L S 1 = x at hq HN HY
        obtain ⟨c0, c1, c2, c3, c4, c5, c6, c7, c8, c9, c10, c11, c12, c13, c14⟩ := KL.out
        obtain ⟨s0, s1, s2, s3, s4, s5⟩ := KS.out
        go_wp2_with fail
        refine hq.mono ?_
        rintro e w1 ⟨rfl, hb⟩
        replace KL := hid1 (KL.out.keep hb)
        replace KS := hid1 (KS.out.keep hb)
        replace BX := bl_step BX hb
        clear hb hq cc c0 c1 c2 c3 c4 c5 c6 c7 c8 c9 c10 c11 c12 c13 c14 s0 s1 s2 s3 s4 s5
        by_cases hx : x = 0
        · have hx2 : (x != 0) = false := by simpa using hx
          have HX := hid1 hx
          clear hx
          go_wp2_with fail
          go_roundw
          case rel => exact ⟨1 + 1, by omega, by first | rfl | go_num, hid1 (HY.out HX.out), BX, KL, KS⟩
          case measure => simp [intOf]
        · have hx2 : (x != 0) = true := by simpa using hx
          go_wp2_with fail
          go_ret
          exact ⟨by rw [HN.out hx]; rfl, BX⟩
      · have hq := onlyWindow_any L S wr
        unfold Asks at hq
        have cc : wr.cell? ⟨b + 3, 2, none⟩ = some (fv 73) := by rw [block_cell (HP.out.keep BX).2.2.2]; rfl
        have HN := hid1 (fun (h : ¬ qP L S 2 = 0) => H0.out 2 (by decide) HQ.out h)
        have HY := hid1 (fun (h : qP L S 2 = 0) => (show ∀ j, j < 2 + 1 → qP L S j = 0 from fun j hj => by
          by_cases e : j = 2
          · rw [e]; exact h
          · exact HQ.out j (by omega)))
        change Calls Tryz.prog 73 _ _ (fun e w' => e = .returned (.int .i64 (qP L S 2)) ∧ _) at hq
        generalize qP L S 2 = x at hq HN HY
        obtain ⟨c0, c1, c2, c3, c4, c5, c6, c7, c8, c9, c10, c11, c12, c13, c14⟩ := KL.out
        obtain ⟨s0, s1, s2, s3, s4, s5⟩ := KS.out
        go_wp2_with fail
        refine hq.mono ?_
        rintro e w1 ⟨rfl, hb⟩
        replace KL := hid1 (KL.out.keep hb)
        replace KS := hid1 (KS.out.keep hb)
        replace BX := bl_step BX hb
        clear hb hq cc c0 c1 c2 c3 c4 c5 c6 c7 c8 c9 c10 c11 c12 c13 c14 s0 s1 s2 s3 s4 s5
        by_cases hx : x = 0
        · have hx2 : (x != 0) = false := by simpa using hx
          have HX := hid1 hx
          clear hx
          go_wp2_with fail
          go_roundw
          case rel => exact ⟨2 + 1, by omega, by first | rfl | go_num, hid1 (HY.out HX.out), BX, KL, KS⟩
          case measure => simp [intOf]
        · have hx2 : (x != 0) = true := by simpa using hx
          go_wp2_with fail
          go_ret
          exact ⟨by rw [HN.out hx]; rfl, BX⟩
      · have hq := window_q L S wr
        unfold Asks at hq
        have cc : wr.cell? ⟨b + 3, 3, none⟩ = some (fv 62) := by rw [block_cell (HP.out.keep BX).2.2.2]; rfl
        have HN := hid1 (fun (h : ¬ qP L S 3 = 0) => H0.out 3 (by decide) HQ.out h)
        have HY := hid1 (fun (h : qP L S 3 = 0) => (show ∀ j, j < 3 + 1 → qP L S j = 0 from fun j hj => by
          by_cases e : j = 3
          · rw [e]; exact h
          · exact HQ.out j (by omega)))
        change Calls Tryz.prog 62 _ _ (fun e w' => e = .returned (.int .i64 (qP L S 3)) ∧ _) at hq
        generalize qP L S 3 = x at hq HN HY
        obtain ⟨c0, c1, c2, c3, c4, c5, c6, c7, c8, c9, c10, c11, c12, c13, c14⟩ := KL.out
        obtain ⟨s0, s1, s2, s3, s4, s5⟩ := KS.out
        go_wp2_with fail
        refine hq.mono ?_
        rintro e w1 ⟨rfl, hb⟩
        replace KL := hid1 (KL.out.keep hb)
        replace KS := hid1 (KS.out.keep hb)
        replace BX := bl_step BX hb
        clear hb hq cc c0 c1 c2 c3 c4 c5 c6 c7 c8 c9 c10 c11 c12 c13 c14 s0 s1 s2 s3 s4 s5
        by_cases hx : x = 0
        · have hx2 : (x != 0) = false := by simpa using hx
          have HX := hid1 hx
          clear hx
          go_wp2_with fail
          go_roundw
          case rel => exact ⟨3 + 1, by omega, by first | rfl | go_num, hid1 (HY.out HX.out), BX, KL, KS⟩
          case measure => simp [intOf]
        · have hx2 : (x != 0) = true := by simpa using hx
          go_wp2_with fail
          go_ret
          exact ⟨by rw [HN.out hx]; rfl, BX⟩
      · have hq := noBorders_any L S wr
        unfold Asks at hq
        have cc : wr.cell? ⟨b + 3, 4, none⟩ = some (fv 74) := by rw [block_cell (HP.out.keep BX).2.2.2]; rfl
        have HN := hid1 (fun (h : ¬ qP L S 4 = 0) => H0.out 4 (by decide) HQ.out h)
        have HY := hid1 (fun (h : qP L S 4 = 0) => (show ∀ j, j < 4 + 1 → qP L S j = 0 from fun j hj => by
          by_cases e : j = 4
          · rw [e]; exact h
          · exact HQ.out j (by omega)))
        change Calls Tryz.prog 74 _ _ (fun e w' => e = .returned (.int .i64 (qP L S 4)) ∧ _) at hq
        generalize qP L S 4 = x at hq HN HY
        obtain ⟨c0, c1, c2, c3, c4, c5, c6, c7, c8, c9, c10, c11, c12, c13, c14⟩ := KL.out
        obtain ⟨s0, s1, s2, s3, s4, s5⟩ := KS.out
        go_wp2_with fail
        refine hq.mono ?_
        rintro e w1 ⟨rfl, hb⟩
        replace KL := hid1 (KL.out.keep hb)
        replace KS := hid1 (KS.out.keep hb)
        replace BX := bl_step BX hb
        clear hb hq cc c0 c1 c2 c3 c4 c5 c6 c7 c8 c9 c10 c11 c12 c13 c14 s0 s1 s2 s3 s4 s5
        by_cases hx : x = 0
        · have hx2 : (x != 0) = false := by simpa using hx
          have HX := hid1 hx
          clear hx
          go_wp2_with fail
          go_roundw
          case rel => exact ⟨4 + 1, by omega, by first | rfl | go_num, hid1 (HY.out HX.out), BX, KL, KS⟩
          case measure => simp [intOf]
        · have hx2 : (x != 0) = true := by simpa using hx
          go_wp2_with fail
          go_ret
          exact ⟨by rw [HN.out hx]; rfl, BX⟩
      · have hq := fits_any L S wr
        unfold Asks at hq
        have cc : wr.cell? ⟨b + 3, 5, none⟩ = some (fv 64) := by rw [block_cell (HP.out.keep BX).2.2.2]; rfl
        have HN := hid1 (fun (h : ¬ qP L S 5 = 0) => H0.out 5 (by decide) HQ.out h)
        have HY := hid1 (fun (h : qP L S 5 = 0) => (show ∀ j, j < 5 + 1 → qP L S j = 0 from fun j hj => by
          by_cases e : j = 5
          · rw [e]; exact h
          · exact HQ.out j (by omega)))
        change Calls Tryz.prog 64 _ _ (fun e w' => e = .returned (.int .i64 (qP L S 5)) ∧ _) at hq
        generalize qP L S 5 = x at hq HN HY
        obtain ⟨c0, c1, c2, c3, c4, c5, c6, c7, c8, c9, c10, c11, c12, c13, c14⟩ := KL.out
        obtain ⟨s0, s1, s2, s3, s4, s5⟩ := KS.out
        go_wp2_with fail
        refine hq.mono ?_
        rintro e w1 ⟨rfl, hb⟩
        replace KL := hid1 (KL.out.keep hb)
        replace KS := hid1 (KS.out.keep hb)
        replace BX := bl_step BX hb
        clear hb hq cc c0 c1 c2 c3 c4 c5 c6 c7 c8 c9 c10 c11 c12 c13 c14 s0 s1 s2 s3 s4 s5
        by_cases hx : x = 0
        · have hx2 : (x != 0) = false := by simpa using hx
          have HX := hid1 hx
          clear hx
          go_wp2_with fail
          go_roundw
          case rel => exact ⟨5 + 1, by omega, by first | rfl | go_num, hid1 (HY.out HX.out), BX, KL, KS⟩
          case measure => simp [intOf]
        · have hx2 : (x != 0) = true := by simpa using hx
          go_wp2_with fail
          go_ret
          exact ⟨by rw [HN.out hx]; rfl, BX⟩
    · have : k = 6 := by omega
      subst this
      go_wp2_with fail
      go_ret
      exact ⟨by rw [H1.out HQ.out]; rfl, BX⟩
def faE (L : Ly) (S : Sp) : Int := if L.kd = 1 then frF 10 (qC L S) else if L.kd = 2 then frF 7 (qD L S) else if L.kd = 3 then frF 6 (qP L S) else 51
set_option maxRecDepth 100000 in
theorem fault_any (L : Ly) (S : Sp) (hs : Sides S.h S.v S.c) (ha : 0 ≤ S.ah ∧ S.ah ≤ 16777216) (b : Nat) (w : World) (hP : Pts w b) (hL : Lst w L) :
    Calls Tryz.prog 45 #[.map (some b), lyv L, spv S] w fun e w' => e = .returned (.int .i64 (faE L S)) ∧ Below w.heap.size w w' := by
  unfold faE
  by_cases h1 : L.kd = 1
  · rw [if_pos h1]; exact fault_C L S h1 hs ha b w hP hL
  · rw [if_neg h1]
    by_cases h2 : L.kd = 2
    · rw [if_pos h2]; exact fault_D L S h2 hs ha b w hP hL
    · rw [if_neg h2]
      by_cases h3 : L.kd = 3
      · rw [if_pos h3]; exact fault_P L S h3 hs ha b w hP hL
      · rw [if_neg h3]
        have LK := fun W (h : Pts W b) => look_run h L.kd
        rw [show lkV b L.kd = .slice none 0 0 from by unfold lkV; rw [if_neg h1, if_neg h2, if_neg h3], show decide (L.kd = 1 ∨ L.kd = 2 ∨ L.kd = 3) = false from by simp [h1, h2, h3]] at LK
        have HP := hid1 hP
        clear hs ha hP hL h1 h2 h3
        have BY0 : Below w.heap.size w ((w.alloc (lyo L)).alloc (spo S)) := bl_alloc (bl_alloc (Below.refl _ _) _) _
        replace LK := LK ((w.alloc (lyo L)).alloc (spo S)) (HP.out.keep BY0)
        have HB := hid1 BY0
        clear BY0
        go_enter Tryz.func45, Tryz.ntmps45
        go_wp2_with fail
        go_ret
        exact ⟨rfl, HB.out⟩
end Go.Proofs.YtlgjoepeibodkaaGreat.Nn
