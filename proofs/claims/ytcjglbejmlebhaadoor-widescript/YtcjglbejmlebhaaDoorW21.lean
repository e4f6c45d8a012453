import Derived.Test.YtcjglbejmlebhaaDoorM12
namespace Go.Proofs.YtcjglbejmlebhaaDoor
open Go.RowKit Go.Shelf

/-- The slice v reads, in this world, as these digits. -/
def Rd (w : World) (v : Value) (ds : List Int) : Prop :=
  (v = .slice none 0 0 ∧ ds = []) ∨ ∃ g cap, v = .slice (some ⟨g, 0, none⟩) ds.length cap ∧ ds.length ≤ cap ∧ cap ≤ maxLen ∧ g < w.heap.size ∧ ∀ k d, ds[k]? = some d → w.cell? ⟨g, k, none⟩ = some (.int .i64 d)
theorem Rd.below {w w' : World} {v : Value} {ds : List Int} (h : Rd w v ds) (hb : Below w.heap.size w w') : Rd w' v ds := by
  rcases h with h | ⟨g, cap, h1, h2, h3, h4, h5⟩
  · exact .inl h
  · exact .inr ⟨g, cap, h1, h2, h3, Nat.lt_of_lt_of_le h4 hb.size, fun k d hk => keepc hb (h5 k d hk)⟩
theorem Rd.own {w : World} {base : Nat} {v : Value} {n : Nat} {ds : List Int} (h : w.ownsRow base 3 1 v n (ivs ds)) : Rd w v ds := by
  have hl : ds.length = n := by have := h.1; simpa [ivs_len] using this
  rcases h.2 with ⟨h1, h2⟩ | ⟨g, cap, cur, h1, _, h3, h4, h5, h6, h7⟩
  · subst h2; exact .inl ⟨h1, List.eq_nil_of_length_eq_zero hl⟩
  · subst hl
    refine .inr ⟨g, cap, h1, h4, h5, ?_, ?_⟩
    · exact (Array.getElem?_eq_some_iff.1 h3).1
    · intro k d hk
      have hkl : k < ds.length := (List.getElem?_eq_some_iff.1 hk).1
      have e1 : (ivs ds)[k]? = some (.int .i64 d) := by simp [ivs, hk]
      rw [← h7, Nat.mul_one] at e1
      rw [List.getElem?_take_of_lt hkl] at e1
      simp at e1
      simp [World.cell?, h3, e1]
/-- Its length and its parts, for the walk: the value as a slice with its own letters. -/
theorem Rd.parts {w : World} {v : Value} {ds : List Int} (h : Rd w v ds) : ∃ (ao : Option Addr) (cap : Nat), v = .slice ao ds.length cap ∧ ∀ k, k < ds.length → ∃ g, ao = some ⟨g, 0, none⟩ ∧ w.cell? ⟨g, k, none⟩ = some (.int .i64 (dat ds k)) := by
  rcases h with ⟨h1, h2⟩ | ⟨g, cap, h1, h2, h3, h4, h5⟩
  · subst h2; exact ⟨none, 0, h1, fun k hk => absurd hk (by simp)⟩
  · exact ⟨some ⟨g, 0, none⟩, cap, h1, fun k hk => ⟨g, rfl, h5 k _ (dat_of hk)⟩⟩
/-- A place's cell, as an address and its offset. -/
theorem Rd.block {w : World} {v : Value} {ds : List Int} (h : Rd w v ds) (h0 : 0 < ds.length) : ∃ g cap, v = .slice (some ⟨g, 0, none⟩) ds.length cap ∧ g < w.heap.size ∧ ∀ k, k < ds.length → w.cell? ⟨g, k, none⟩ = some (.int .i64 (dat ds k)) := by
  rcases h with ⟨h1, h2⟩ | ⟨g, cap, h1, h2, h3, h4, h5⟩
  · subst h2; simp at h0
  · exact ⟨g, cap, h1, h4, fun k hk => h5 k _ (dat_of hk)⟩

set_option maxHeartbeats 1600000 in
set_option maxRecDepth 100000 in
theorem minus_any (a b : List Int) (va vb : Value) (w : World) (ra : Rd w va a) (rb : Rd w vb b) (ha : Dg a) (hb : Dg b) (la : a.length ≤ 1048576) :
    Calls Tryd.prog 76 #[va, vb] w fun e w' => ∃ v, e = .returned v ∧ w'.ownsRow w.heap.size 3 1 v a.length (ivs (mrow a b a.length)) ∧ Below w.heap.size w w' := by
  obtain ⟨i0, hi, hz0, hz1, hz2⟩ := info_parts info_int
  obtain ⟨ao, ca, rfl, rda⟩ := ra.parts
  obtain ⟨bo, cb, rfl, rdb⟩ := rb.parts
  have HA := hid1 ha
  have HB := hid1 hb
  have RA := hid1 rda
  have RB := hid1 rdb
  clear ha hb rda rdb ra rb
  go_enter Tryd.func76, Tryd.ntmps76
  go_wp2
  go_loopw [5, 6, 7] (fun v o i wr => ∃ (k : Nat), k ≤ a.length ∧ o = .int .i64 (owe a b k) ∧ i = .int .i64 k ∧ wr.ownsRow w.heap.size 3 1 v k (ivs (mrow a b k)) ∧ Below w.heap.size w wr)
    (fun _ _ i _ => a.length - (intOf i).toNat)
  case atStart => exact ⟨0, Nat.zero_le _, rfl, rfl, World.ownsRow_nil _ _ _ _, Below.refl _ _⟩
  case round =>
    obtain ⟨k, hk, rfl, rfl, hown, hnx⟩ := hrel
    have hsize := hnx.size
    by_cases hlt : k < a.length
    · obtain ⟨g, rfl, c1⟩ := RA.out k hlt
      have c1 := keepc hnx c1
      obtain ⟨d1, d2⟩ := dat_bd HA.out k
      obtain ⟨d3, d4⟩ := dat_bd HB.out k
      have ho := owe_bd a b k
      have e1 : mrow a b (k + 1) = mrow a b k ++ [dat a k - owe a b k - dat b k + 65536 * owe a b (k + 1)] := rfl
      have e2 : owe a b (k + 1) = if dat a k - owe a b k - dat b k < 0 then 1 else 0 := rfl
      generalize owe a b k = o at *
      generalize dat a k = x at *
      by_cases hlb : k < b.length
      · obtain ⟨g', rfl, c2⟩ := RB.out k hlb
        have c2 := keepc hnx c2
        generalize dat b k = y at *
        by_cases ht : x - o - y < 0
        · have e3 : owe a b (k + 1) = 1 := by rw [e2, if_pos ht]
          have e4 : mrow a b (k + 1) = mrow a b k ++ [x - o - y + 65536] := by rw [e1, e3]; congr 2 <;> omega
          have H3 := hid1 e3
          have H4 := hid1 e4
          clear e1 e2 e3 e4
          go_wp2_with (first
          | (at_builtin; refine wpList_append_own _ rfl _ _ 42 rfl w.heap.size 3 i0 (.int .i64 0) 1 8 und_ints hi hz0 hz1 hz2 rfl (by decide) _ _ _ rfl (hown.alloc _) ⟨wr.heap.size, 0, none⟩ 1 1 [.int .i64 (x - o - y + 65536)] rfl rfl (cell_one_new _ _ _) (fun x hx => by simp at hx; subst hx; rfl) (by unfold maxLen; omega) (by omega) (by simp; omega) ?_; intro v' w3 hown' hgrow3 hnil3))
          exact ⟨⟨k + 1, by omega, by rw [H3.out], by go_num, by rw [H4.out, ivs_snoc]; exact hown', (hnx.alloc hsize _).grown hgrow3 (by simp; omega) (fun q hq => (hown.lt q hq).1)⟩, by simp [intOf]; omega⟩
        · have e3 : owe a b (k + 1) = 0 := by rw [e2, if_neg ht]
          have e4 : mrow a b (k + 1) = mrow a b k ++ [x - o - y] := by rw [e1, e3]; congr 2 <;> omega
          have H3 := hid1 e3
          have H4 := hid1 e4
          clear e1 e2 e3 e4
          go_wp2_with (first
          | (at_builtin; refine wpList_append_own _ rfl _ _ 42 rfl w.heap.size 3 i0 (.int .i64 0) 1 8 und_ints hi hz0 hz1 hz2 rfl (by decide) _ _ _ rfl (hown.alloc _) ⟨wr.heap.size, 0, none⟩ 1 1 [.int .i64 (x - o - y)] rfl rfl (cell_one_new _ _ _) (fun x hx => by simp at hx; subst hx; rfl) (by unfold maxLen; omega) (by omega) (by simp; omega) ?_; intro v' w3 hown' hgrow3 hnil3))
          exact ⟨⟨k + 1, by omega, by rw [H3.out], by go_num, by rw [H4.out, ivs_snoc]; exact hown', (hnx.alloc hsize _).grown hgrow3 (by simp; omega) (fun q hq => (hown.lt q hq).1)⟩, by simp [intOf]; omega⟩
      · rw [dat_out hlb] at e1 e2
        by_cases ht : x - o < 0
        · have e3 : owe a b (k + 1) = 1 := by rw [e2, if_pos (by omega)]
          have e4 : mrow a b (k + 1) = mrow a b k ++ [x - o + 65536] := by rw [e1, e3]; congr 2 <;> omega
          have H3 := hid1 e3
          have H4 := hid1 e4
          clear e1 e2 e3 e4
          go_wp2_with (first
          | (at_builtin; refine wpList_append_own _ rfl _ _ 42 rfl w.heap.size 3 i0 (.int .i64 0) 1 8 und_ints hi hz0 hz1 hz2 rfl (by decide) _ _ _ rfl (hown.alloc _) ⟨wr.heap.size, 0, none⟩ 1 1 [.int .i64 (x - o + 65536)] rfl rfl (cell_one_new _ _ _) (fun x hx => by simp at hx; subst hx; rfl) (by unfold maxLen; omega) (by omega) (by simp; omega) ?_; intro v' w3 hown' hgrow3 hnil3))
          exact ⟨⟨k + 1, by omega, by rw [H3.out], by go_num, by rw [H4.out, ivs_snoc]; exact hown', (hnx.alloc hsize _).grown hgrow3 (by simp; omega) (fun q hq => (hown.lt q hq).1)⟩, by simp [intOf]; omega⟩
        · have e3 : owe a b (k + 1) = 0 := by rw [e2, if_neg (by omega)]
          have e4 : mrow a b (k + 1) = mrow a b k ++ [x - o] := by rw [e1, e3]; congr 2 <;> omega
          have H3 := hid1 e3
          have H4 := hid1 e4
          clear e1 e2 e3 e4
          go_wp2_with (first
          | (at_builtin; refine wpList_append_own _ rfl _ _ 42 rfl w.heap.size 3 i0 (.int .i64 0) 1 8 und_ints hi hz0 hz1 hz2 rfl (by decide) _ _ _ rfl (hown.alloc _) ⟨wr.heap.size, 0, none⟩ 1 1 [.int .i64 (x - o)] rfl rfl (cell_one_new _ _ _) (fun x hx => by simp at hx; subst hx; rfl) (by unfold maxLen; omega) (by omega) (by simp; omega) ?_; intro v' w3 hown' hgrow3 hnil3))
          exact ⟨⟨k + 1, by omega, by rw [H3.out], by go_num, by rw [H4.out, ivs_snoc]; exact hown', (hnx.alloc hsize _).grown hgrow3 (by simp; omega) (fun q hq => (hown.lt q hq).1)⟩, by simp [intOf]; omega⟩
    · have hk4 : k = a.length := by omega
      subst hk4
      go_wp2
      go_ret
      exact ⟨_, rfl, hown, hnx⟩
