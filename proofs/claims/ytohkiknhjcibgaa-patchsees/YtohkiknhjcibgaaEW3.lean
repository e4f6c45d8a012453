/- PACKAGE patch: slices.Repeat of one word. -/
import Derived.Test.YtohkiknhjcibgaaEW1
import Derived.Test.YtohkiknhjcibgaaShelf
namespace Go.Proofs.Ytohkiknhjcibgaa
open Go.RowKit Go.Shelf

/-- k words all of whose bits are set. -/
def onf (k : Nat) : Nat → Value := fun j => if j < k then .int .u64 18446744073709551615 else .int .u64 0
theorem onf_one (k j : Nat) : (onf k j).oneCell' = true := by unfold onf; split <;> rfl
set_option maxHeartbeats 1600000 in
set_option maxRecDepth 100000 in
theorem repeat_any (d g : Nat) (w : World) (hd : 1 ≤ d ∧ d ≤ 64) (c0 : w.cell? ⟨g, 0, none⟩ = some (.int .u64 18446744073709551615)) :
    Calls Try.prog 33 #[.slice (some ⟨g, 0, none⟩) 1 1, .int .i64 d] w fun e w' => ∃ G, e = .returned (.slice (some ⟨G, 0, none⟩) d d) ∧ w.heap.size ≤ G ∧ w'.rowIs G 41 d (onf d) ∧ Below w.heap.size w w' := by
  obtain ⟨i0, hi, hz0, hz1, hz2⟩ := info_parts info_u64
  obtain ⟨hd1, hd2⟩ := hd
  have HM := hid1 (Try.bits_Mul 1 d (by decide) (by omega))
  rw [Nat.one_mul, show d / 18446744073709551616 = 0 by omega, show d % 18446744073709551616 = d by omega] at HM
  have w1 : IntKind.u64.wrap (d : Int) = (d : Int) := by rw [IntKind.wrap_u64]; omega
  have w2 : IntKind.i64.wrap (d : Int) = (d : Int) := by rw [IntKind.wrap_i64]; omega
  have id0 : (0 : Int) ≤ (d : Int) := by omega
  have id1 : (d : Int) ≤ 64 := by omega
  have hmk : (Instr.makeSlice 26 (.int .i64 (d : Int)) (.int .i64 (d : Int))).run Try.prog w = .ok (.slice (some ⟨w.heap.size, 0, none⟩) d d) (w.alloc (.cells (madeCells #[.int .u64 0] d) 41)) := run_make_row 26 41 i0 (.int .u64 0) und_u64s hi hz0 hz1 rfl .i64 .i64 d (by rw [hz2]; omega) (by omega) w
  have R0 := World.rowIs_made w (.int .u64 0) d 41
  have B0 : Below w.heap.size w (w.alloc (.cells (madeCells #[.int .u64 0] d) 41)) := bl_alloc (Below.refl _ _) _
  obtain ⟨W1, hW1⟩ : ∃ W1, w.alloc (.cells (madeCells #[.int .u64 0] d) 41) = W1 := ⟨_, rfl⟩
  rw [hW1] at hmk R0 B0
  obtain ⟨W2, hcp, R1, bt1⟩ := copy_gen (w := W1) (G := w.heap.size) (T := d) (p := 0) (L := d) (n := d) (s := 1) (c := 1) (d := 1) (a := ⟨g, 0, none⟩) (h := onf 1) (by omega) (by show 1 = min 1 d; omega) R0 (fun j hj => by
    have : j = 0 := by omega
    subst this
    simpa [Addr.add, onf] using keepc B0 c0) (onf_one 1)
  have HW2 : Hid (W2.rowIs w.heap.size 41 d (onf 1) ∧ Below w.heap.size w W2) := ⟨R1.congr fun j _ => by
    by_cases e : j < 1
    · rw [if_pos (by omega)]; simp [onf, e]
    · rw [if_neg (by omega)]; simp [onf, e], bt1.below (Nat.le_refl _) B0.size B0⟩
  clear R0 B0 hW1 R1 bt1 hi hz0 hz1 hz2 i0
  go_enter Try.func33, Try.ntmps33
  go_wp2_with (go_at_call 52; refine (HM.out _).mono ?_; rintro e y ⟨rfl, rfl⟩)
  go_loopw [8] (fun i wr => ∃ k : Nat, 1 ≤ k ∧ k ≤ d ∧ i = .int .i64 k ∧ wr.rowIs y.heap.size 41 d (onf k) ∧ Below y.heap.size y wr) (fun i _ => d - (intOf i).toNat)
  case atStart => exact ⟨1, Nat.le_refl _, hd1, rfl, HW2.out.1, HW2.out.2⟩
  case round =>
    clear hcp hmk HW2
    obtain ⟨k, hk1, hk, rfl, row, hb⟩ := hrel
    have ik0 : (0 : Int) ≤ (k : Int) := by omega
    by_cases hlt : k < d
    · have ik : (k : Int) < (d : Int) := by omega
      obtain ⟨q, hq⟩ : ∃ q, Nat.min k (d - k) = q := ⟨_, rfl⟩
      have hq2 : q = k ∨ q = d - k := by rw [← hq]; show min k (d - k) = _ ∨ min k (d - k) = _; omega
      have hq3 : q ≤ d - k ∧ q ≤ k ∧ 0 < q := by rw [← hq]; show min k (d - k) ≤ _ ∧ min k (d - k) ≤ _ ∧ 0 < min k (d - k); omega
      obtain ⟨W3, hcp, R3, bt3⟩ := copy_gen (w := wr.drew) (G := y.heap.size) (T := d) (p := k) (L := d - k) (n := d - k) (s := k) (c := d) (d := q) (a := ⟨y.heap.size, 0, none⟩) (h := onf k) (by omega) hq.symm row.drew (fun j hj => by
        have := row.drew.cell (i := j) (by omega)
        rcases j with _ | j
        · simpa [Addr.add] using this
        · simpa [Addr.add] using this) (onf_one k)
      have HW3 : Hid (W3.rowIs y.heap.size 41 d (onf (k + q)) ∧ Below y.heap.size y W3) := ⟨R3.congr fun j _ => by
        by_cases e : k ≤ j ∧ j < k + q
        · rw [if_pos e]; unfold onf; rw [if_pos (by omega), if_pos (by omega)]
        · rw [if_neg e]; unfold onf
          by_cases e2 : j < k
          · rw [if_pos e2, if_pos (by omega)]
          · rw [if_neg e2, if_neg (by omega)], bt3.below (Nat.le_refl _) (by have := hb.drew.size; exact this) hb.drew⟩
      clear R3 bt3 row hb
      have n1 : ¬ k = 0 := by omega
      have n2 : ¬ d = k := by omega
      have n3 : ¬ d - k = 0 := by omega
      have hfo := follows
      have wkq : IntKind.i64.wrap ((k : Int) + (q : Int)) = (k : Int) + (q : Int) := by rw [IntKind.wrap_i64]; omega
      go_wp2_with fail
      go_region_held3 (fun X => True) (trivial) (fail)
      go_roundw
      case rel =>
        refine ⟨_, _, _, _, _, _, _, _, _, _, _, _, _, _, ⟨k + q, by omega, by omega, ?e, HW3.out.1, HW3.out.2⟩, rfl⟩
        simp
      case measure => simp [intOf]; omega
    · have hkN : k = d := by omega
      subst hkN
      go_wp2_with fail
      go_ret
      exact ⟨_, rfl, Nat.le_refl _, row, hb⟩
end Go.Proofs.Ytohkiknhjcibgaa
