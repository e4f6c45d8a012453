/- THE LAWS' OWN WORDS: words with marks behind them. -/
import Derived.Test.YtfboegdibohciaaKL2
namespace Go.Proofs.Ytfboegdibohciaa
open Go.RowKit Go.Shelf

/-- What Roomy makes: the words, and marks behind them. -/
def rmf (N n : Nat) : Nat → Value := fun k => if k < n then wf N k else .int .u64 ((43690 + k - n : Nat) : Int)
/-- .. as far as i. -/
def rmp (N n i : Nat) : Nat → Value := fun k => if k < i then rmf N n k else .int .u64 0
theorem rmp_step (N n i j : Nat) : (if j = i then rmf N n i else rmp N n i j) = rmp N n (i + 1) j := by
  unfold rmp
  by_cases h : j = i
  · subst h; rw [if_pos rfl, if_pos (by omega)]
  · rw [if_neg h]
    by_cases h2 : j < i
    · rw [if_pos h2, if_pos (by omega)]
    · rw [if_neg h2, if_neg (by omega)]
theorem mark_conv {k n : Nat} (h : n ≤ k) (hk : k ≤ 17592186044000) : IntKind.u64.wrap (IntKind.i64.wrap (IntKind.i64.wrap (43690 + (k : Int)) - (n : Int))) = ((43690 + k - n : Nat) : Int) := by
  rw [IntKind.wrap_i64, IntKind.wrap_i64, IntKind.wrap_u64]; omega
set_option maxHeartbeats 1600000 in
set_option maxRecDepth 100000 in
theorem roomy_any (n N : Nat) (ao : Option Addr) (ca : Nat) (w : World) (hn : n ≤ 17592186043904) (rd : Wr w ao n N) :
    Calls Try.prog 18 #[.slice ao n ca] w fun e w' => ∃ G, e = .returned (.slice (some ⟨G, 0, none⟩) n (n + 66)) ∧ w.heap.size ≤ G ∧ w'.rowIs G 53 (n + 66) (rmf N n) ∧ Below w.heap.size w w' := by
  obtain ⟨i0, hi, hz0, hz1, hz2⟩ := info_parts info_u64
  have RD := hid1 rd
  clear rd
  have r1 : IntKind.i64.wrap ((n : Int) + 66) = ((n + 66 : Nat) : Int) := by rw [IntKind.wrap_i64]; omega
  have r2 : (n : Int) + 66 = ((n + 66 : Nat) : Int) := by omega
  have HM := hid1 (fun k h hk => mark_conv (k := k) (n := n) h hk)
  obtain ⟨T, hT⟩ : ∃ T, n + 66 = T := ⟨_, rfl⟩
  rw [hT] at r1 r2 ⊢
  have hT1 : T = n + 66 := hT.symm
  have HT := hid1 hT1
  have hnT : n < T := by omega
  have hTb : T ≤ 17592186043970 := by omega
  clear hT hT1
  go_enter Try.func18, Try.ntmps18
  go_wp2_with (refine wpList_make_row _ rfl _ _ 29 rfl 53 i0 (.int .u64 0) und_u64s hi hz0 hz1 rfl .i64 .i64 T (by go_simp) (by go_simp) (by rw [hz2]; omega) (by omega) ?_)
  have hrow : (w.alloc (.cells (madeCells #[.int .u64 0] T) 53)).rowIs w.heap.size 53 T (rmp N n 0) := (World.rowIs_made w (.int .u64 0) T 53).congr fun k _ => by simp [rmp]
  go_loopw [5] (fun i wr => ∃ k : Nat, k ≤ T ∧ i = .int .i64 k ∧ wr.rowIs w.heap.size 53 T (rmp N n k) ∧ Below w.heap.size w wr) (fun i _ => T - (intOf i).toNat)
  case atStart => exact ⟨0, Nat.zero_le _, rfl, hrow, bl_alloc (Below.refl _ _) _⟩
  case round =>
    clear hrow
    obtain ⟨k, hk, rfl, hrow, hnx⟩ := hrel
    by_cases hlt : k < T
    · have ik : (k : Int) < (T : Nat) := by omega
      have ik0 : (0 : Int) ≤ (k : Int) := by omega
      have cw := hrow.cell hlt
      have fw := hrow.frozen k
      have HH := hid1 hrow
      clear hrow
      generalize rmp N n k k = old at cw
      obtain ⟨y, hy⟩ : ∃ y, IntKind.u64.wrap (IntKind.i64.wrap (IntKind.i64.wrap (43690 + (k : Int)) - (n : Int))) = y := ⟨_, rfl⟩
      have HYY := hid1 hy
      by_cases hkn : k < n
      · have ikn : (k : Int) < (n : Nat) := by omega
        obtain ⟨ga, oa, rfl, c8⟩ := (RD.out.below hnx).2 k hkn
        have lga : ga < w.heap.size := by
          obtain ⟨g', o', e, c⟩ := RD.out.2 k hkn
          cases e
          exact lt_of_cell c
        have nga : ga ≠ w.heap.size := by omega
        unfold wf at c8
        go_wp2_with fail
        refine ⟨⟨k + 1, by omega, by go_num, ((HH.out.set k _).set k _).congr fun j _ => ?_, bl_set (bl_set hnx (Nat.le_refl _) _) (Nat.le_refl _) _⟩, by simp [intOf]; omega⟩
        rw [← rmp_step]
        by_cases e : j = k
        · subst e; rw [if_pos rfl, if_pos rfl]; unfold rmf; rw [if_pos hkn]; rfl
        · rw [if_neg e, if_neg e, if_neg e]
      · have ikn : ¬ (k : Int) < (n : Nat) := by omega
        have HV := hid1 (HM.out k (by omega) (by omega))
        rw [hy] at HV
        go_wp2_with fail
        refine ⟨⟨k + 1, by omega, by go_num, (HH.out.set k _).congr fun j _ => ?_, bl_set hnx (Nat.le_refl _) _⟩, by simp [intOf]; omega⟩
        rw [← rmp_step]
        by_cases e : j = k
        · subst e; rw [if_pos rfl, if_pos rfl]; unfold rmf; rw [if_neg hkn]; congr 1; omega
        · rw [if_neg e, if_neg e]
    · have hkT : k = T := by omega
      subst hkT
      have HH : Hid (wr.rowIs w.heap.size 53 k (rmf N n)) := hid1 (hrow.congr fun j hj => by unfold rmp; rw [if_pos hj])
      have i3 : (n : Int) ≤ (k : Int) := by omega
      have i4 : (0 : Int) ≤ (n : Int) := by omega
      clear hrow
      go_wp2_with fail
      go_ret
      exact ⟨w.heap.size, rfl, Nat.le_refl _, HH.out, hnx⟩
theorem rm_wr {w : World} {G n N : Nat} (h : w.rowIs G 53 (n + 66) (rmf N n)) (hN : N < 2 ^ (64 * n)) : Wr w (some ⟨G, 0, none⟩) n N :=
  ⟨hN, fun k hk => ⟨G, 0, rfl, by rw [Nat.zero_add, h.cell (i := k) (by omega)]; unfold rmf; rw [if_pos hk]⟩⟩
end Go.Proofs.Ytfboegdibohciaa
