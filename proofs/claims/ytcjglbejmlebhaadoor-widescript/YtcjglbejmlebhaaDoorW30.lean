import Derived.Test.YtcjglbejmlebhaaDoorW29
namespace Go.Proofs.YtcjglbejmlebhaaDoor
open Go.RowKit Go.Shelf
attribute [local go_sem ↓] Go.wp_at_zero Go.wp_at_succ

theorem own_form {w : World} {base : Nat} {e : TypeId} {v : Value} {n : Nat} {xs : List Value} (h : w.ownsRow base e 1 v n xs) : ∃ ao cap, v = .slice ao n cap := by
  rcases h.2 with ⟨h1, h2⟩ | ⟨g, cap, _, h1, _⟩
  · subst h2; exact ⟨none, 0, h1⟩
  · exact ⟨_, cap, h1⟩
theorem grown_keep {W w3 : World} {row : Option Nat} (hg : W.grownBy w3 row) {b : Nat} (hb : b < W.heap.size) (hne : some b ≠ row) (o : Nat) : w3.cell? ⟨b, o, none⟩ = W.cell? ⟨b, o, none⟩ ∧ w3.frozen? ⟨b, o, none⟩ = W.frozen? ⟨b, o, none⟩ :=
  ⟨World.cell?_of_block (a := ⟨b, o, none⟩) (hg.block b hb hne), World.frozen?_of_block (a := ⟨b, o, none⟩) (hg.block b hb hne)⟩
def noughts (k : Nat) : List Int := List.replicate k 0
theorem noughts_snoc (k : Nat) : noughts (k + 1) = noughts k ++ [0] := by simp [noughts, List.replicate_succ']
/-- What power keeps while it appends: the answer's block, the number's block, the row. -/
def Pw (w wr : World) (ao : Option Addr) (k cap : Nat) (ds : List Int) : Prop :=
  wr.ownsRow (w.heap.size + 2) 3 1 (.slice ao k cap) k (ivs ds) ∧ wr.cell? ⟨w.heap.size + 1, 0, none⟩ = some (.bool false) ∧ wr.cell? ⟨w.heap.size + 1, 1, none⟩ = some (.slice ao k cap) ∧ wr.cell? ⟨w.heap.size, 0, none⟩ = some (.bool false) ∧ wr.cell? ⟨w.heap.size, 1, none⟩ = some (.slice none 0 0) ∧ wr.frozen? ⟨w.heap.size, 0, none⟩ = false ∧ wr.frozen? ⟨w.heap.size, 1, none⟩ = false ∧ wr.frozen? ⟨w.heap.size + 1, 1, none⟩ = false ∧ Below w.heap.size w wr ∧ w.heap.size + 2 ≤ wr.heap.size
theorem Pw.append {w wr w3 : World} {ao : Option Addr} {k cap : Nat} {ds : List Int} {o : Obj} {v' : Value} {d : Int} (h : Pw w wr ao k cap ds) (hown' : w3.ownsRow (w.heap.size + 2) 3 1 v' (k + 1) (ivs ds ++ [.int .i64 d])) (hg : (wr.alloc o).grownBy w3 (Value.slice ao k cap).ownBlock) :
    ∃ ao' cap', v' = .slice ao' (k + 1) cap' ∧ w3.cell? ⟨w.heap.size + 1, 1, none⟩ = some (.slice ao k cap) ∧ w3.frozen? ⟨w.heap.size + 1, 1, none⟩ = false ∧ (w3.cell? ⟨w.heap.size + 1, 0, none⟩ = some (.bool false) ∧ w3.cell? ⟨w.heap.size, 0, none⟩ = some (.bool false) ∧ w3.cell? ⟨w.heap.size, 1, none⟩ = some (.slice none 0 0) ∧ w3.frozen? ⟨w.heap.size, 0, none⟩ = false ∧ w3.frozen? ⟨w.heap.size, 1, none⟩ = false) ∧ Pw w (w3.setCell ⟨w.heap.size + 1, 1, none⟩ (.slice ao' (k + 1) cap')) ao' (k + 1) cap' (ds ++ [d]) := by
  obtain ⟨ho, c0, c1, r0, r1, f0, f1, f2, hB, hz⟩ := h
  obtain ⟨ao', cap', rfl⟩ := own_form hown'
  have hne : ∀ b, b < w.heap.size + 2 → some b ≠ (Value.slice ao k cap).ownBlock := fun b hb e => by have := (ho.lt b e.symm).1; omega
  have hzz : (wr.alloc o).heap.size = wr.heap.size + 1 := by simp
  have K : ∀ b off, b < w.heap.size + 2 → w3.cell? ⟨b, off, none⟩ = wr.cell? ⟨b, off, none⟩ ∧ w3.frozen? ⟨b, off, none⟩ = wr.frozen? ⟨b, off, none⟩ := fun b off hb => by
    obtain ⟨e1, e2⟩ := grown_keep hg (b := b) (by omega) (hne b hb) off
    have hb' := bl_alloc (Below.refl wr.heap.size wr) o
    obtain ⟨e3, e4⟩ := bcell hb'
    exact ⟨e1.trans (e3 b off (by omega)), e2.trans (e4 b off (by omega))⟩
  have hsz : w.heap.size + 2 ≤ w3.heap.size := by have := hg.size; omega
  have k0 := (K (w.heap.size + 1) 0 (by omega)).1.trans c0
  have k1 := (K (w.heap.size + 1) 1 (by omega)).1.trans c1
  have k2 := (K w.heap.size 0 (by omega)).1.trans r0
  have k3 := (K w.heap.size 1 (by omega)).1.trans r1
  have k4 := (K w.heap.size 0 (by omega)).2.trans f0
  have k5 := (K w.heap.size 1 (by omega)).2.trans f1
  have k6 := (K (w.heap.size + 1) 1 (by omega)).2.trans f2
  refine ⟨ao', cap', rfl, k1, k6, ⟨k0, k2, k3, k4, k5⟩, ?_⟩
  refine ⟨by rw [ivs_snoc]; exact ownsRow_setCell_below hown' (by simp) _, by simp [go_sem, k0], by simp [go_sem, k1], by simp [go_sem, k2], by simp [go_sem, k3], by simp [go_sem, k4], by simp [go_sem, k5], by simp [go_sem, k6], ?_, by simpa using hsz⟩
  refine bl_set ?_ (by omega) _
  exact (hB.alloc hB.size o).grown hg (by omega) (fun q hq => by have := (ho.lt q hq).1; omega)

theorem pow_digits : val (noughts 8 ++ [1]) = 340282366920938463463374607431768211456 := by decide
theorem pow_dg : Dg (noughts 8 ++ [1]) := by unfold Dg; decide
theorem pow_tr : Tr (noughts 8 ++ [1]) := by unfold Tr; right; decide

set_option maxHeartbeats 1600000 in
set_option maxRecDepth 100000 in
theorem power_eight (w : World) :
    Calls Tryd.prog 52 #[.int .i64 8] w fun e w' => ∃ z, e = .returned z ∧ Bg w' z 340282366920938463463374607431768211456 ∧ Below w.heap.size w w' := by
  obtain ⟨i0, hi, hz0, hz1, hz2⟩ := info_parts info_int
  go_enter Tryd.func52, Tryd.ntmps52
  go_wp2
  go_loopw [4] (fun i wr => ∃ (k : Nat) (ao : Option Addr) (cap : Nat), k ≤ 8 ∧ i = .int .i64 k ∧ Pw w wr ao k cap (noughts k)) (fun i _ => 8 - (intOf i).toNat)
  case atStart =>
    refine ⟨0, none, 0, Nat.zero_le _, rfl, World.ownsRow_nil _ _ _ _, ?_, ?_, ?_, ?_, ?_, ?_, ?_, ?_, ?_⟩
    · simp
    · simp
    · exact keepc (W := w.alloc _) (bl_alloc (Below.refl _ _) _) (new0' w _ _ _)
    · exact keepc (W := w.alloc _) (bl_alloc (Below.refl _ _) _) (new1' w _ _ _)
    · exact keepf (W := w.alloc _) (bl_alloc (Below.refl _ _) _) (newlt' _ _) (newf' w _ _ _ _)
    · exact keepf (W := w.alloc _) (bl_alloc (Below.refl _ _) _) (newlt' _ _) (newf' w _ _ _ _)
    · simp
    · exact bl_alloc (bl_alloc (Below.refl _ _) _) _
    · simp
  case round =>
    obtain ⟨k, ao, cap, hk, rfl, hP⟩ := hrel
    have HP := hid1 hP
    obtain ⟨ho, c0, c1, r0, r1, f0, f1, f2, hB, hz⟩ := hP
    by_cases hlt : k < 8
    · go_wp2_with (first
        | (at_builtin; refine wpList_append_own _ rfl _ _ 42 rfl (w.heap.size + 2) 3 i0 (.int .i64 0) 1 8 und_ints hi hz0 hz1 hz2 rfl (by decide) _ _ _ rfl (ho.alloc _) ⟨wr.heap.size, 0, none⟩ 1 1 [.int .i64 0] rfl rfl (cell_one_new _ _ _) (fun x hx => by simp at hx; subst hx; rfl) (by unfold maxLen; omega) (by omega) (by simp; omega) ?_; intro v' w3 hown' hgrow3 hnil3; obtain ⟨ao', cap', rfl, q1, q2, -, q3⟩ := HP.out.append hown' hgrow3; have Q3 := hid1 q3; clear q3 hnil3))
      exact ⟨⟨k + 1, ao', cap', by omega, by go_num, by rw [noughts_snoc]; exact Q3.out⟩, by simp [intOf]; omega⟩
    · have hk8 : k = 8 := by omega
      subst hk8
      go_wp2_with (first
        | (at_builtin; refine wpList_append_own _ rfl _ _ 42 rfl (w.heap.size + 2) 3 i0 (.int .i64 0) 1 8 und_ints hi hz0 hz1 hz2 rfl (by decide) _ _ _ rfl (ho.alloc _) ⟨wr.heap.size, 0, none⟩ 1 1 [.int .i64 1] rfl rfl (cell_one_new _ _ _) (fun x hx => by simp at hx; subst hx; rfl) (by unfold maxLen; omega) (by omega) (by simp; omega) ?_; intro v' w3 hown' hgrow3 hnil3; obtain ⟨ao', cap', rfl, q1, q2, ⟨q4, q5, q6, q7, q8⟩, q3⟩ := HP.out.append hown' hgrow3; have Q3 := hid1 q3; clear q3 hnil3))
      simp [bodyPost, results, Tryd.results52, go_sem, q5, q6]
      obtain ⟨o', -, -, e2, -, -, -, -, hB', -⟩ := Q3.out
      exact big_ret ⟨_, noughts 8 ++ [1], by simp, Rd.own o', pow_dg, pow_tr, by rw [pow_digits]; rfl⟩ hB' (Nat.le_refl _) ⟨_, e2⟩ _ _
