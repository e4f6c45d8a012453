import Derived.Test.YtcjglbejmlebhaaDoorW24
namespace Go.Proofs.YtcjglbejmlebhaaDoor
open Go.RowKit Go.Shelf

/-- The value x is the number n in this world: its sign, its digits, none too many. -/
def Bg (w : World) (x : Value) (n : Int) : Prop :=
  ∃ v ds, x = .agg #[.bool (decide (n < 0)), v] ∧ Rd w v ds ∧ Dg ds ∧ Tr ds ∧ val ds = (n.natAbs : Int)
theorem Bg.below {w w' : World} {x : Value} {n : Int} (h : Bg w x n) (hb : Below w.heap.size w w') : Bg w' x n := by
  obtain ⟨v, ds, h1, h2, h3, h4, h5⟩ := h
  exact ⟨v, ds, h1, h2.below hb, h3, h4, h5⟩
theorem val_zero {ds : List Int} (hd : Dg ds) (ht : Tr ds) : val ds = 0 ↔ ds = [] := by
  constructor
  · intro h
    rcases Nat.eq_zero_or_pos ds.length with h0 | h0
    · exact List.eq_nil_of_length_eq_zero h0
    · have h1 : Dg ([] : List Int) := fun _ h => by simp at h
      have := cmp_len h1 hd ht h0
      simp only [val] at this
      omega
  · intro h; rw [h]; rfl
/-- A number that is small has few digits. -/
theorem len_le {ds : List Int} (hd : Dg ds) (ht : Tr ds) {k : Nat} (h : val ds < 65536 ^ k) : ds.length ≤ k := by
  rcases Nat.lt_or_ge k ds.length with h1 | h1
  · exfalso
    rcases ht with rfl | h2
    · simp at h1
    · have h3 := dat_bd hd (ds.length - 1)
      have h4 := val_take ds (ds.length - 1)
      rw [show ds.length - 1 + 1 = ds.length by omega, List.take_length] at h4
      have h5 := val_nonneg (take_dg hd (ds.length - 1))
      have h6 : (65536 : Int) ^ (ds.length - 1) * 1 ≤ 65536 ^ (ds.length - 1) * dat ds (ds.length - 1) := Int.mul_le_mul_of_nonneg_left (by omega) (Int.le_of_lt (pow_pos' _))
      have h7 : (65536 : Int) ^ k ≤ 65536 ^ (ds.length - 1) := pow_le_pow' (by omega)
      omega
  · exact h1
/-- What trim hands out is the number. -/
theorem trim_bg {w : World} {v : Value} {ds : List Int} {s : Bool} {n : Int} (r : Rd w v (trimL ds)) (hd : Dg ds) (hv : val ds = (n.natAbs : Int)) (hs : 0 < n → s = false) (hs' : n < 0 → s = true) : Bg w (bv (s && !(trimL ds).isEmpty) v) n := by
  have h1 := trimL_dg hd
  have h2 := trimL_tr ds
  have h3 : val (trimL ds) = (n.natAbs : Int) := by rw [trimL_val, hv]
  refine ⟨v, trimL ds, ?_, r, h1, h2, h3⟩
  have h4 := val_zero h1 h2
  rcases Int.lt_trichotomy n 0 with h | h | h
  · have h5 : ¬ trimL ds = [] := fun e => by have := h4.2 e; omega
    have h6 : (trimL ds).isEmpty = false := by simpa using h5
    simp [bv, hs' h, h6, h]
  · have h5 : trimL ds = [] := h4.1 (by rw [h3, h]; rfl)
    simp [bv, h5, h]
  · have h5 := hs h
    simp [bv, h5]; omega

theorem trim_num (n : Int) (s : Bool) (v : Value) (ds : List Int) (w : World) (r : Rd w v ds) (hd : Dg ds) (hv : val ds = (n.natAbs : Int)) (hs : 0 < n → s = false) (hs' : n < 0 → s = true) :
    Calls Tryd.prog 51 #[.agg #[.bool s, v]] w fun e w' => ∃ x b ao m cap, e = .returned x ∧ x = .agg #[.bool b, .slice ao m cap] ∧ Bg w' x n ∧ Below w.heap.size w w' := by
  refine (trim_any s v ds w r).mono ?_
  rintro e w' ⟨v', rfl, r', hb⟩
  obtain ⟨ao, cap, rfl, _⟩ := r'.parts
  exact ⟨_, _, ao, _, cap, rfl, rfl, trim_bg r' hd hv hs hs', hb⟩

theorem Rd.set {w : World} {v x : Value} {ds : List Int} {b o : Nat} (h : Rd w v ds) (hb : ∃ s, w.cell? ⟨b, 0, none⟩ = some (.bool s)) : Rd (w.setCell ⟨b, o, none⟩ x) v ds := by
  rcases h with h | ⟨g, cap, h1, h2, h3, h4, h5⟩
  · exact .inl h
  · refine .inr ⟨g, cap, h1, h2, h3, by simpa using h4, fun k d hk => ?_⟩
    have hne : g ≠ b := by
      intro e
      obtain ⟨s, hs⟩ := hb
      have h0 : 0 < ds.length := Nat.lt_of_le_of_lt (Nat.zero_le k) (List.getElem?_eq_some_iff.1 hk).1
      have := h5 0 _ (dat_of h0)
      rw [e, hs] at this
      simp at this
    have := h5 k d hk
    have hne' : ¬ b = g := fun e => hne e.symm
    first | (simp [go_sem, this]; done) | simp [go_sem, hne', this]
theorem Bg.set {w : World} {x y : Value} {n : Int} {b o : Nat} (h : Bg w x n) (hb : ∃ s, w.cell? ⟨b, 0, none⟩ = some (.bool s)) : Bg (w.setCell ⟨b, o, none⟩ y) x n := by
  obtain ⟨v, ds, h1, h2, h3, h4, h5⟩ := h
  exact ⟨v, ds, h1, h2.set hb, h3, h4, h5⟩

/-- The answer's two cells are written, and the number stands. -/
theorem big_ret {w w1 : World} {b : Nat} {y : Value} {n : Int} (h : Bg w1 y n) (hB : Below w.heap.size w w1) (hb : w.heap.size ≤ b) (c : ∃ s, w1.cell? ⟨b, 0, none⟩ = some (.bool s)) (s' : Bool) (v' : Value) :
    Bg ((w1.setCell ⟨b, 0, none⟩ (.bool s')).setCell ⟨b, 1, none⟩ v') y n ∧ Below w.heap.size w ((w1.setCell ⟨b, 0, none⟩ (.bool s')).setCell ⟨b, 1, none⟩ v') := by
  refine ⟨(h.set c).set ?_, bl_set (bl_set hB hb _) hb _⟩
  obtain ⟨s, c⟩ := c
  exact ⟨s', by simp [go_sem, c]⟩

set_option maxHeartbeats 1600000 in
set_option maxRecDepth 100000 in
theorem rneg_any (n : Int) (x : Value) (w : World) (h : Bg w x n) :
    Calls Tryd.prog 36 #[x] w fun e w' => ∃ y, e = .returned y ∧ Bg w' y (-n) ∧ Below w.heap.size w w' := by
  obtain ⟨v, ds, rfl, h2, h3, h4, h5⟩ := h
  obtain ⟨ao, cap, rfl, _⟩ := h2.parts
  have H2 := hid1 h2
  have H3 := hid1 h3
  have H5 := hid1 h5
  clear h2 h3 h4 h5
  go_enter Tryd.func36, Tryd.ntmps36
  go_wp2_with fail
  refine (trim_num (-n) (!decide (n < 0)) _ ds _ (H2.out.below (bl_alloc (bl_alloc (Below.refl _ _) _) _)) H3.out (by rw [H5.out]; omega) (by simp) (by simp; omega)).mono ?_
  rintro e w1 ⟨y, b, ao', m, cap', rfl, rfl, hy, hb1⟩
  have HY := hid1 hy
  clear hy
  have c2 := keepc hb1 (new0' (w.alloc (.cells #[.bool (decide (n < 0)), .slice ao ds.length cap] 44)) (.bool false) (.slice none 0 0) 44)
  have c3 := keepc hb1 (new1' (w.alloc (.cells #[.bool (decide (n < 0)), .slice ao ds.length cap] 44)) (.bool false) (.slice none 0 0) 44)
  have f2 := keepf hb1 (newlt' _ _) (newf' (w.alloc (.cells #[.bool (decide (n < 0)), .slice ao ds.length cap] 44)) (.bool false) (.slice none 0 0) 44 0)
  have f3 := keepf hb1 (newlt' _ _) (newf' (w.alloc (.cells #[.bool (decide (n < 0)), .slice ao ds.length cap] 44)) (.bool false) (.slice none 0 0) 44 1)
  have hB : Hid (Below w.heap.size w w1) := hid1 (bl_step (bl_alloc (bl_alloc (Below.refl _ _) _) _) hb1)
  have hz := hb1.size
  simp at hz c2 c3 f2 f3
  clear hb1
  go_wp2
  simp [bodyPost, results, Tryd.results36, go_sem, c2, c3]
  exact big_ret HY.out hB.out (by omega) ⟨_, c2⟩ _ _
