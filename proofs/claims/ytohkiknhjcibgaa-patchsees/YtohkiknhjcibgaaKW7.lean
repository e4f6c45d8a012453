/- PACKAGE cube: Pack of values that fit. -/
import Derived.Test.YtohkiknhjcibgaaKW6
namespace Go.Proofs.Ytohkiknhjcibgaa
open Go.RowKit Go.Shelf
attribute [local go_sem] Oper.semAt_some

/-- The words of those places that have come. -/
def pf2 (l : List Int) (C : Nat) (s : List Nat) : Nat → Value := fun k => if k / nw C ∈ s then wf (sp l C (k / nw C)) (k % nw C) else wf 0 0
theorem pf2_step {l : List Int} {C x : Nat} (hC : 0 < C) (s : List Nat) (j : Nat) : (if x * nw C ≤ j ∧ j < x * nw C + nw C then wf (sp l C x) (j - x * nw C) else pf2 l C s j) = pf2 l C (s ++ [x]) j := by
  have hd : 0 < nw C := by unfold nw; omega
  have e : (x * nw C ≤ j ∧ j < x * nw C + nw C) ↔ j / nw C = x := by
    constructor
    · rintro ⟨a, b⟩
      exact Nat.div_eq_of_lt_le a (by rw [Nat.succ_mul]; exact b)
    · rintro rfl
      have := Nat.div_add_mod j (nw C)
      have l := Nat.mod_lt j hd
      rw [Nat.mul_comm] at this
      omega
  unfold pf2
  by_cases h : x * nw C ≤ j ∧ j < x * nw C + nw C
  · rw [if_pos h]
    have hx := e.1 h
    rw [if_pos (by rw [hx]; simp), hx]
    have : j - x * nw C = j % nw C := by
      have := Nat.div_add_mod j (nw C)
      rw [hx, Nat.mul_comm] at this
      omega
    rw [this]
  · rw [if_neg h]
    have hx : ¬ j / nw C = x := fun k => h (e.2 k)
    by_cases h2 : j / nw C ∈ s
    · rw [if_pos h2, if_pos (by simp [h2])]
    · rw [if_neg h2, if_neg (by simp [h2, hx])]
theorem pf2_all {l : List Int} {C P : Nat} (j : Nat) (hj : j < P * nw C) : pf2 l C (List.range P) j = wf (js (64 * nw C) (sp l C) P) j := by
  have hi : j / nw C < P := Nat.div_lt_of_lt_mul (by rwa [Nat.mul_comm])
  unfold pf2
  rw [if_pos (List.mem_range.2 hi)]
  unfold wf
  rw [js_wd (fun i _ => Nat.lt_of_lt_of_le (sp_lt l C i) (pow_mono (nw_le C))) hj]
theorem own_ex {β γ : Type} {I : γ → β → World → Prop} (h : ∀ c, Own (I c)) : Own (fun s W => ∃ c, I c s W) := fun s W W' row ⟨c, k⟩ hg hr => ⟨c, h c s W W' row k hg hr⟩
theorem R8.part {w : World} {ao : Option Addr} {l : List Int} (h : R8 w ao l) {g o a c : Nat} (e : ao = some ⟨g, o, none⟩) (hle : a + c ≤ l.length) : R8 w (some ⟨g, o + a, none⟩) ((l.drop a).take c) := by
  intro k hk
  have hk' : k < c := by simp at hk; omega
  obtain ⟨g', o', e', cc⟩ := h (a + k) (by omega)
  rw [e] at e'
  cases e'
  refine ⟨g, o + a, rfl, ?_⟩
  rw [ia_take hk', ia_drop, Nat.add_assoc]
  exact cc
theorem kmeet_of {J K : Act → World → Prop} {Q : Exit → Act → World → Prop} {a : Act} {w : World} (hK : ∀ a' w', Met J a' w' → K a' w') (h : Met J a w) : Exit.then K Q Exit.normal a w := hK _ _ h
theorem pf2_nil (l : List Int) (C j : Nat) : pf2 l C [] j = .int .u64 0 := by simp [pf2, wf, wd_zero]
theorem made_a (w1 : World) (h v c : Int) (M : Nat) (l : List Int) (C : Nat) : ((w1.alloc (.cells (madeCells #[.int .u64 0] M) 41)).alloc (.cells #[.int .i64 h, .int .i64 v, .int .i64 c, .slice (some ⟨w1.heap.size, 0, none⟩) M M] 31)).drew.rowIs w1.heap.size 41 M (pf2 l C []) ∧
    ((w1.alloc (.cells (madeCells #[.int .u64 0] M) 41)).alloc (.cells #[.int .i64 h, .int .i64 v, .int .i64 c, .slice (some ⟨w1.heap.size, 0, none⟩) M M] 31)).drew.rowIs (w1.heap.size + 1) 31 4 (cf h v c (some ⟨w1.heap.size, 0, none⟩) M M) ∧
    Below w1.heap.size w1 ((w1.alloc (.cells (madeCells #[.int .u64 0] M) 41)).alloc (.cells #[.int .i64 h, .int .i64 v, .int .i64 c, .slice (some ⟨w1.heap.size, 0, none⟩) M M] 31)).drew := by
  refine ⟨(((World.rowIs_made w1 (.int .u64 0) M 41).alloc _).drew).congr fun j _ => (pf2_nil l C j).symm, ?_, (bl_alloc (bl_alloc (Below.refl _ _) _) _).drew⟩
  have := cu_new (w1.alloc (.cells (madeCells #[.int .u64 0] M) 41)) h v c (some ⟨w1.heap.size, 0, none⟩) M M 31
  rw [World.size_alloc] at this
  exact this.drew
theorem made_b (w1 : World) (h v c : Int) (M : Nat) (l : List Int) (C : Nat) : ((w1.alloc (.cells #[.int .i64 h, .int .i64 v, .int .i64 c, .slice (some ⟨w1.heap.size + 1, 0, none⟩) M M] 31)).alloc (.cells (madeCells #[.int .u64 0] M) 41)).drew.rowIs (w1.heap.size + 1) 41 M (pf2 l C []) ∧
    ((w1.alloc (.cells #[.int .i64 h, .int .i64 v, .int .i64 c, .slice (some ⟨w1.heap.size + 1, 0, none⟩) M M] 31)).alloc (.cells (madeCells #[.int .u64 0] M) 41)).drew.rowIs w1.heap.size 31 4 (cf h v c (some ⟨w1.heap.size + 1, 0, none⟩) M M) ∧
    Below w1.heap.size w1 ((w1.alloc (.cells #[.int .i64 h, .int .i64 v, .int .i64 c, .slice (some ⟨w1.heap.size + 1, 0, none⟩) M M] 31)).alloc (.cells (madeCells #[.int .u64 0] M) 41)).drew := by
  refine ⟨?_, ((cu_new w1 h v c (some ⟨w1.heap.size + 1, 0, none⟩) M M 31).alloc _).drew, (bl_alloc (bl_alloc (Below.refl _ _) _) _).drew⟩
  have := World.rowIs_made (w1.alloc (.cells #[.int .i64 h, .int .i64 v, .int .i64 c, .slice (some ⟨w1.heap.size + 1, 0, none⟩) M M] 31)) (.int .u64 0) M 41
  rw [World.size_alloc] at this
  exact this.drew.congr fun j _ => (pf2_nil l C j).symm
theorem R8.drewd {w : World} {ao : Option Addr} {l : List Int} (h : R8 w ao l) : R8 w.drew ao l := h
end Go.Proofs.Ytohkiknhjcibgaa
