/- THE LAWS' OWN WORDS: values with marks behind them. -/
import Derived.Test.YtgmildjfikgkmaaKA1
namespace Go.Proofs.Ytgmildjfikgkmaa
open Go.RowKit Go.Shelf

/-- What Roomy makes: the words, and marks behind them. -/
def rvf (N : Nat → Int) (n : Nat) : Nat → Value := fun k => if k < n then .int .i8 (N k) else .int .i8 ((60 + k - n : Nat) : Int)
/-- .. as far as i. -/
def rvp (N : Nat → Int) (n i : Nat) : Nat → Value := fun k => if k < i then rvf N n k else .int .i8 0
theorem rvp_step (N : Nat → Int) (n i j : Nat) : (if j = i then rvf N n i else rvp N n i j) = rvp N n (i + 1) j := by
  unfold rvp
  by_cases h : j = i
  · subst h; rw [if_pos rfl, if_pos (by omega)]
  · rw [if_neg h]
    by_cases h2 : j < i
    · rw [if_pos h2, if_pos (by omega)]
    · rw [if_neg h2, if_neg (by omega)]
theorem mark8 {k n : Nat} (h : n ≤ k) (hk : k < n + 66) (_hn : n ≤ 140737488351232) : IntKind.i8.wrap (IntKind.i64.wrap (IntKind.i64.wrap (60 + (k : Int)) - (n : Int))) = ((60 + k - n : Nat) : Int) := by
  have e : IntKind.i64.wrap (IntKind.i64.wrap (60 + (k : Int)) - (n : Int)) = ((60 + k - n : Nat) : Int) := by rw [IntKind.wrap_i64, IntKind.wrap_i64]; omega
  rw [e]
  obtain ⟨x, hx⟩ : ∃ x, 60 + k - n = x := ⟨_, rfl⟩
  have hx2 : x < 126 := by omega
  rw [hx]
  have hm : (x : Int) % 256 = x := by omega
  simp [IntKind.wrap, IntKind.bits, IntKind.signed, hm]
  omega
set_option maxHeartbeats 1600000 in
set_option maxRecDepth 100000 in
theorem wide8_any (n : Nat) (N : Nat → Int) (ao : Option Addr) (ca : Nat) (w : World) (hn : n ≤ 140737488351232) (rd : Rs w ao n (fun k => .int .i8 (N k))) :
    Calls Try.prog 16 #[.slice ao n ca] w fun e w' => ∃ G, e = .returned (.slice (some ⟨G, 0, none⟩) n (n + 66)) ∧ w.heap.size ≤ G ∧ w'.rowIs G 52 (n + 66) (rvf N n) ∧ Below w.heap.size w w' := by
  obtain ⟨i0, hi, hz0, hz1, hz2⟩ := info_parts info_i8k
  have RD := hid1 rd
  clear rd
  have r1 : IntKind.i64.wrap ((n : Int) + 66) = ((n + 66 : Nat) : Int) := by rw [IntKind.wrap_i64]; omega
  have r2 : (n : Int) + 66 = ((n + 66 : Nat) : Int) := by omega
  have HM := hid1 (fun k h hk => mark8 (k := k) (n := n) h hk hn)
  obtain ⟨T, hT⟩ : ∃ T, n + 66 = T := ⟨_, rfl⟩
  rw [hT] at r1 r2 ⊢
  have hT1 : T = n + 66 := hT.symm
  have HT := hid1 hT1
  have hnT : n < T := by omega
  have hTb : T ≤ 140737488351298 := by omega
  clear hT hT1
  go_enter Try.func16, Try.ntmps16
  go_wp2_with (refine wpList_make_row _ rfl _ _ 22 rfl 52 i0 (.int .i8 0) und_i8sk hi hz0 hz1 rfl .i64 .i64 T (by go_simp) (by go_simp) (by rw [hz2]; omega) (by omega) ?_)
  have hrow : (w.alloc (.cells (madeCells #[.int .i8 0] T) 52)).rowIs w.heap.size 52 T (rvp N n 0) := (World.rowIs_made w (.int .i8 0) T 52).congr fun k _ => by simp [rvp]
  go_loopw [5] (fun i wr => ∃ k : Nat, k ≤ T ∧ i = .int .i64 k ∧ wr.rowIs w.heap.size 52 T (rvp N n k) ∧ Below w.heap.size w wr) (fun i _ => T - (intOf i).toNat)
  case atStart => exact ⟨0, Nat.zero_le _, rfl, hrow, bl_alloc (Below.refl _ _) _⟩
  case round =>
    clear hrow
    obtain ⟨k, hk, rfl, hrow, hnx⟩ := hrel
    by_cases hlt : k < T
    · have ik : (k : Int) < (T : Nat) := by omega
      have ik0 : (0 : Int) ≤ (k : Int) := by omega
      have cw := hrow.cell hlt
      have fw := hrow.frozen k
      have HH := hid1 hrow
      clear hrow
      generalize rvp N n k k = old at cw
      obtain ⟨y, hy⟩ : ∃ y, IntKind.i8.wrap (IntKind.i64.wrap (IntKind.i64.wrap (60 + (k : Int)) - (n : Int))) = y := ⟨_, rfl⟩
      have HYY := hid1 hy
      by_cases hkn : k < n
      · have ikn : (k : Int) < (n : Nat) := by omega
        obtain ⟨ga, oa, rfl, c8⟩ := (RD.out.below hnx) k hkn
        have lga : ga < w.heap.size := by
          obtain ⟨g', o', e, c⟩ := RD.out k hkn
          cases e
          exact lt_of_cell c
        have nga : ga ≠ w.heap.size := by omega
        generalize hNk : N k = nk at c8
        have HNK := hid1 hNk
        clear hNk
        go_wp2_with fail
        refine ⟨⟨k + 1, by omega, by go_num, ((HH.out.set k _).set k _).congr fun j _ => ?_, bl_set (bl_set hnx (Nat.le_refl _) _) (Nat.le_refl _) _⟩, by simp [intOf]; omega⟩
        rw [← rvp_step]
        by_cases e : j = k
        · subst e; rw [if_pos rfl, if_pos rfl]; unfold rvf; rw [if_pos hkn, HNK.out]
        · rw [if_neg e, if_neg e, if_neg e]
      · have ikn : ¬ (k : Int) < (n : Nat) := by omega
        have HV := hid1 (HM.out k (by omega) (by have := HT.out; omega))
        rw [hy] at HV
        go_wp2_with fail
        refine ⟨⟨k + 1, by omega, by go_num, (HH.out.set k _).congr fun j _ => ?_, bl_set hnx (Nat.le_refl _) _⟩, by simp [intOf]; omega⟩
        rw [← rvp_step]
        by_cases e : j = k
        · subst e; rw [if_pos rfl, if_pos rfl]; unfold rvf; rw [if_neg hkn]; congr 1; omega
        · rw [if_neg e, if_neg e]
    · have hkT : k = T := by omega
      subst hkT
      have HH : Hid (wr.rowIs w.heap.size 52 k (rvf N n)) := hid1 (hrow.congr fun j hj => by unfold rvp; rw [if_pos hj])
      have i3 : (n : Int) ≤ (k : Int) := by omega
      have i4 : (0 : Int) ≤ (n : Int) := by omega
      clear hrow
      go_wp2_with fail
      go_ret
      exact ⟨w.heap.size, rfl, Nat.le_refl _, HH.out, hnx⟩
theorem rv_rs {w : World} {G n : Nat} {N : Nat → Int} (h : w.rowIs G 52 (n + 66) (rvf N n)) : Rs w (some ⟨G, 0, none⟩) n (fun k => .int .i8 (N k)) :=
  fun k hk => ⟨G, 0, rfl, by rw [Nat.zero_add, h.cell (i := k) (by omega)]; unfold rvf; rw [if_pos hk]⟩
set_option maxHeartbeats 1600000 in
set_option maxRecDepth 100000 in
theorem tight_true (n G : Nat) (N : Nat → Int) (bo : Option Addr) (cb : Nat) (w : World) (hn : n ≤ 140737488351232) (row : w.rowIs G 52 (n + 66) (rvf N n)) (rb : Rs w bo n (fun k => .int .i8 (N k))) :
    Calls Try.prog 19 #[.slice (some ⟨G, 0, none⟩) n (n + 66), .slice bo n cb] w fun e w' => e = .returned (.bool true) ∧ Below w.heap.size w w' := by
  have HW := hid1 (vals_same n N (some ⟨G, 0, none⟩) bo (n + 66) cb w (by omega) (rv_rs row) rb)
  have r1 : IntKind.i64.wrap ((n : Int) + 66) = ((n + 66 : Nat) : Int) := by rw [IntKind.wrap_i64]; omega
  have r2 : (n : Int) + 66 = ((n + 66 : Nat) : Int) := by omega
  have HM := hid1 (fun k h hk => mark8 (k := k) (n := n) h hk hn)
  obtain ⟨T, hT⟩ : ∃ T, n + 66 = T := ⟨_, rfl⟩
  rw [hT] at r1 r2 row HW ⊢
  have hT1 : T = n + 66 := hT.symm
  have HT := hid1 hT1
  clear hT1
  have hnT : n < T := by omega
  have hTb : T ≤ 140737488351298 := by omega
  have HR := hid1 row
  clear row rb hT
  have i1 : ¬ (T : Int) < (T : Int) := by omega
  have i2 : (0 : Int) ≤ (T : Int) := by omega
  have n1 : ¬ T = 0 := by omega
  go_enter Try.func19, Try.ntmps19
  go_wp2_with fail
  refine HW.out.mono ?_
  rintro e w1 ⟨rfl, B1⟩
  clear HW
  go_wp2_with fail
  go_loopw [7] (fun i wr => ∃ k : Nat, n ≤ k ∧ k ≤ T ∧ i = .int .i64 k ∧ Below w.heap.size w wr) (fun i _ => T - (intOf i).toNat)
  case atStart => exact ⟨n, Nat.le_refl _, by omega, rfl, B1⟩
  case round =>
    clear B1
    obtain ⟨k, hk0, hk, rfl, hnx⟩ := hrel
    by_cases hlt : k < T
    · have ik : (k : Int) < (T : Nat) := by omega
      have ik0 : (0 : Int) ≤ (k : Int) := by omega
      have c8 := (keepr hnx HR.out).cell hlt
      unfold rvf at c8
      rw [if_neg (by omega)] at c8
      have HV := HM.out k hk0 (by have := HT.out; omega)
      have hv0 : ((60 + k - n : Nat) : Int) = 60 + (k : Int) - (n : Int) := by omega
      have HV' : IntKind.i8.wrap (IntKind.i64.wrap (IntKind.i64.wrap (60 + (k : Int)) - (n : Int))) = 60 + (k : Int) - (n : Int) := by rw [HV, hv0]
      rw [hv0] at c8
      clear HV
      go_wp2_with fail
      exact ⟨⟨k + 1, by omega, by omega, by go_num, hnx⟩, by simp [intOf]; omega⟩
    · have hkT : k = T := by omega
      subst hkT
      go_wp2_with fail
      go_ret
      exact ⟨rfl, hnx⟩
end Go.Proofs.Ytgmildjfikgkmaa
