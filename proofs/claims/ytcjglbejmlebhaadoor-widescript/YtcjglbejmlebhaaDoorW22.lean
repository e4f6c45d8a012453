import Derived.Test.YtcjglbejmlebhaaDoorW21
namespace Go.Proofs.YtcjglbejmlebhaaDoor
open Go.RowKit Go.Shelf

def top (a b : List Int) : Nat := max a.length b.length
theorem cry_none {a b : List Int} : cry a b (top a b + 1) = cry a b (top a b) / 65536 := by
  have h1 : ¬ top a b < a.length := by unfold top; omega
  have h2 : ¬ top a b < b.length := by unfold top; omega
  simp only [cry, dat_out h1, dat_out h2, Int.add_zero]
theorem plus_val {a b : List Int} {k : Nat} (h1 : a.length ≤ k) (h2 : b.length ≤ k) (h3 : cry a b k = 0) : val (prow a b k) = val a + val b := by
  have h := prow_val a b k
  rw [List.take_of_length_le h1, List.take_of_length_le h2, h3] at h
  omega

set_option maxHeartbeats 1600000 in
set_option maxRecDepth 100000 in
theorem plus_digits (a b : List Int) (va vb : Value) (w : World) (ra : Rd w va a) (rb : Rd w vb b) (ha : Dg a) (hb : Dg b) (la : a.length ≤ 1048576) (lb : b.length ≤ 1048576) :
    Calls Tryd.prog 74 #[va, vb] w fun e w' => ∃ v, e = .returned v ∧ ∃ ds, w'.ownsRow w.heap.size 3 1 v ds.length (ivs ds) ∧ Dg ds ∧ val ds = val a + val b ∧ ds.length ≤ top a b + 1 ∧ Below w.heap.size w w' := by
  obtain ⟨i0, hi, hz0, hz1, hz2⟩ := info_parts info_int
  obtain ⟨ao, ca, rfl, rda⟩ := ra.parts
  obtain ⟨bo, cb, rfl, rdb⟩ := rb.parts
  have HA := hid1 ha
  have HB := hid1 hb
  have RA := hid1 rda
  have RB := hid1 rdb
  have ht1 : a.length ≤ top a b := by unfold top; omega
  have ht2 : b.length ≤ top a b := by unfold top; omega
  have ht3 : top a b ≤ 1048576 := by unfold top; omega
  have HC := hid1 (cry_none (a := a) (b := b))
  have htl : ∀ k : Nat, a.length ≤ k → b.length ≤ k → top a b ≤ k := fun k h1 h2 => by unfold top; omega
  have HT := hid1 htl
  clear ha hb rda rdb ra rb htl
  go_enter Tryd.func74, Tryd.ntmps74
  go_wp2
  go_loopw [5, 6, 7] (fun v o i wr => ∃ (k : Nat), k ≤ top a b + 1 ∧ (k = top a b + 1 → cry a b k = 0) ∧ o = .int .i64 (cry a b k) ∧ i = .int .i64 k ∧ wr.ownsRow w.heap.size 3 1 v k (ivs (prow a b k)) ∧ Below w.heap.size w wr)
    (fun _ _ i _ => top a b + 1 - (intOf i).toNat)
  case atStart => exact ⟨0, Nat.zero_le _, fun _ => rfl, rfl, rfl, World.ownsRow_nil _ _ _ _, Below.refl _ _⟩
  case round =>
    obtain ⟨k, hk, hlast, rfl, rfl, hown, hnx⟩ := hrel
    have hsize := hnx.size
    have hnext : k + 1 = top a b + 1 → cry a b (k + 1) = 0 := by
      intro h
      have h' : k = top a b := by omega
      rw [h', HC.out]
      have := cry_bd HA.out HB.out (top a b)
      omega
    have HX := hid1 hnext
    clear hnext
    by_cases hgo : k < a.length ∨ k < b.length ∨ 0 < cry a b k
    · have hk1 : k < top a b + 1 := by
        rcases hgo with h | h | h
        · omega
        · omega
        · rcases Nat.lt_or_ge k (top a b + 1) with h' | h'
          · exact h'
          · have := hlast (by omega); omega
      obtain ⟨d1, d2⟩ := dat_bd HA.out k
      obtain ⟨d3, d4⟩ := dat_bd HB.out k
      obtain ⟨o1, o2⟩ := cry_bd HA.out HB.out k
      have e1 : prow a b (k + 1) = prow a b k ++ [(cry a b k + dat a k + dat b k) % 65536] := rfl
      have e2 : cry a b (k + 1) = (cry a b k + dat a k + dat b k) / 65536 := rfl
      clear hlast
      generalize cry a b k = o at *
      by_cases hla : k < a.length
      · obtain ⟨g, rfl, c1⟩ := RA.out k hla
        have c1 := keepc hnx c1
        generalize dat a k = x at *
        clear hgo
        by_cases hlb : k < b.length
        · obtain ⟨g', rfl, c2⟩ := RB.out k hlb
          have c2 := keepc hnx c2
          generalize dat b k = y at *
          have H3 := hid1 e2
          have H4 := hid1 e1
          clear e1 e2
          go_wp2_with (first
          | (at_builtin; refine wpList_append_own _ rfl _ _ 42 rfl w.heap.size 3 i0 (.int .i64 0) 1 8 und_ints hi hz0 hz1 hz2 rfl (by decide) _ _ _ rfl (hown.alloc _) ⟨wr.heap.size, 0, none⟩ 1 1 [.int .i64 ((o + x + y) % 65536)] rfl rfl (cell_one_new _ _ _) (fun x hx => by simp at hx; subst hx; rfl) (by unfold maxLen; omega) (by omega) (by simp; omega) ?_; intro v' w3 hown' hgrow3 hnil3))
          exact ⟨⟨k + 1, by omega, HX.out, by rw [H3.out], by go_num, by rw [H4.out, ivs_snoc]; exact hown', (hnx.alloc hsize _).grown hgrow3 (by simp; omega) (fun q hq => (hown.lt q hq).1)⟩, by simp [intOf]; omega⟩
        · rw [dat_out hlb, Int.add_zero] at e1 e2
          have H3 := hid1 e2
          have H4 := hid1 e1
          clear e1 e2
          go_wp2_with (first
          | (at_builtin; refine wpList_append_own _ rfl _ _ 42 rfl w.heap.size 3 i0 (.int .i64 0) 1 8 und_ints hi hz0 hz1 hz2 rfl (by decide) _ _ _ rfl (hown.alloc _) ⟨wr.heap.size, 0, none⟩ 1 1 [.int .i64 ((o + x) % 65536)] rfl rfl (cell_one_new _ _ _) (fun x hx => by simp at hx; subst hx; rfl) (by unfold maxLen; omega) (by omega) (by simp; omega) ?_; intro v' w3 hown' hgrow3 hnil3))
          exact ⟨⟨k + 1, by omega, HX.out, by rw [H3.out], by go_num, by rw [H4.out, ivs_snoc]; exact hown', (hnx.alloc hsize _).grown hgrow3 (by simp; omega) (fun q hq => (hown.lt q hq).1)⟩, by simp [intOf]; omega⟩
      · rw [dat_out hla, Int.add_zero] at e1 e2
        by_cases hlb : k < b.length
        · obtain ⟨g', rfl, c2⟩ := RB.out k hlb
          have c2 := keepc hnx c2
          generalize dat b k = y at *
          clear hgo
          have H3 := hid1 e2
          have H4 := hid1 e1
          clear e1 e2
          go_wp2_with (first
          | (at_builtin; refine wpList_append_own _ rfl _ _ 42 rfl w.heap.size 3 i0 (.int .i64 0) 1 8 und_ints hi hz0 hz1 hz2 rfl (by decide) _ _ _ rfl (hown.alloc _) ⟨wr.heap.size, 0, none⟩ 1 1 [.int .i64 ((o + y) % 65536)] rfl rfl (cell_one_new _ _ _) (fun x hx => by simp at hx; subst hx; rfl) (by unfold maxLen; omega) (by omega) (by simp; omega) ?_; intro v' w3 hown' hgrow3 hnil3))
          exact ⟨⟨k + 1, by omega, HX.out, by rw [H3.out], by go_num, by rw [H4.out, ivs_snoc]; exact hown', (hnx.alloc hsize _).grown hgrow3 (by simp; omega) (fun q hq => (hown.lt q hq).1)⟩, by simp [intOf]; omega⟩
        · rw [dat_out hlb, Int.add_zero] at e1 e2
          have ho : 0 < o := by omega
          clear hgo
          have H3 := hid1 e2
          have H4 := hid1 e1
          clear e1 e2
          go_wp2_with (first
          | (at_builtin; refine wpList_append_own _ rfl _ _ 42 rfl w.heap.size 3 i0 (.int .i64 0) 1 8 und_ints hi hz0 hz1 hz2 rfl (by decide) _ _ _ rfl (hown.alloc _) ⟨wr.heap.size, 0, none⟩ 1 1 [.int .i64 ((o) % 65536)] rfl rfl (cell_one_new _ _ _) (fun x hx => by simp at hx; subst hx; rfl) (by unfold maxLen; omega) (by omega) (by simp; omega) ?_; intro v' w3 hown' hgrow3 hnil3))
          exact ⟨⟨k + 1, by omega, HX.out, by rw [H3.out], by go_num, by rw [H4.out, ivs_snoc]; exact hown', (hnx.alloc hsize _).grown hgrow3 (by simp; omega) (fun q hq => (hown.lt q hq).1)⟩, by simp [intOf]; omega⟩
    · have h1 : ¬ k < a.length := fun h => hgo (.inl h)
      have h2 : ¬ k < b.length := fun h => hgo (.inr (.inl h))
      have h3 : ¬ 0 < cry a b k := fun h => hgo (.inr (.inr h))
      have h4 := (cry_bd HA.out HB.out k).1
      have h5 : cry a b k = 0 := by omega
      have H5 := hid1 (plus_val (Nat.le_of_not_lt h1) (Nat.le_of_not_lt h2) h5)
      clear hgo h4 h5 hlast
      generalize cry a b k = o at *
      go_wp2
      go_ret
      exact ⟨_, rfl, prow a b k, by rw [prow_len]; exact hown, prow_dg a b k, H5.out, by rw [prow_len]; exact hk, hnx⟩
