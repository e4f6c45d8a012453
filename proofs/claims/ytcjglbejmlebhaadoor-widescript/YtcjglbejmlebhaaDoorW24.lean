import Derived.Test.YtcjglbejmlebhaaDoorW23
namespace Go.Proofs.YtcjglbejmlebhaaDoor
open Go.RowKit Go.Shelf

theorem pow_pos' (k : Nat) : (0 : Int) < 65536 ^ k := Int.pow_pos (by decide)
theorem pow_le_pow' {m n : Nat} (h : m ≤ n) : (65536 : Int) ^ m ≤ 65536 ^ n := by
  obtain ⟨d, rfl⟩ := Nat.exists_eq_add_of_le h
  rw [Int.pow_add]
  have h1 := pow_pos' m
  have h2 := pow_pos' d
  have h3 : (65536 : Int) ^ m * 1 ≤ 65536 ^ m * 65536 ^ d := Int.mul_le_mul_of_nonneg_left (by omega) (Int.le_of_lt h1)
  rwa [Int.mul_one] at h3
theorem take_dg {ds : List Int} (h : Dg ds) (k : Nat) : Dg (ds.take k) := fun d hd => h d (List.mem_of_mem_take hd)
theorem take_lt {ds : List Int} (h : Dg ds) {k : Nat} (hk : k ≤ ds.length) : val (ds.take k) < 65536 ^ k := by
  have := val_lt (take_dg h k)
  rwa [List.length_take, Nat.min_eq_left hk] at this
/-- Digits that differ at place i and agree above. -/
theorem cmp_at {a b : List Int} (ha : Dg a) (hb : Dg b) {i : Nat} (hia : i ≤ a.length) (hlt : dat a i < dat b i) : val (a.take (i + 1)) < val (b.take (i + 1)) := by
  rw [val_take, val_take]
  have h1 := take_lt ha hia
  have h2 := val_nonneg (take_dg hb i)
  have h3 : (65536 : Int) ^ i * (dat a i + 1) ≤ 65536 ^ i * dat b i := Int.mul_le_mul_of_nonneg_left (by omega) (Int.le_of_lt (pow_pos' i))
  rw [Int.mul_add, Int.mul_one] at h3
  omega
theorem cmp_above {a b : List Int} : ∀ (n i : Nat), (∀ j, i ≤ j → j < i + n → dat a j = dat b j) → val (a.take (i + n)) - val (b.take (i + n)) = val (a.take i) - val (b.take i)
  | 0, i, _ => rfl
  | n + 1, i, h => by
    have e := cmp_above n i fun j h1 h2 => h j h1 (by omega)
    have e1 := h (i + n) (by omega) (by omega)
    rw [← Nat.add_assoc, val_take, val_take, e1]
    omega
theorem cmp_len {a b : List Int} (ha : Dg a) (hb : Dg b) (tb : Tr b) (h : a.length < b.length) : val a < val b := by
  have h1 := val_lt ha
  have h2 : dat b (b.length - 1) ≠ 0 := by
    rcases tb with rfl | h'
    · simp at h
    · exact h'
  have h3 := dat_bd hb (b.length - 1)
  have h4 := val_take b (b.length - 1)
  rw [show b.length - 1 + 1 = b.length by omega, List.take_length] at h4
  have h5 := val_nonneg (take_dg hb (b.length - 1))
  have h6 : (65536 : Int) ^ (b.length - 1) * 1 ≤ 65536 ^ (b.length - 1) * dat b (b.length - 1) := Int.mul_le_mul_of_nonneg_left (by omega) (Int.le_of_lt (pow_pos' _))
  have h7 : (65536 : Int) ^ a.length ≤ 65536 ^ (b.length - 1) := pow_le_pow' (by omega)
  omega

set_option maxHeartbeats 1600000 in
set_option maxRecDepth 100000 in
theorem compare_any (a b : List Int) (va vb : Value) (w : World) (ra : Rd w va a) (rb : Rd w vb b) (ha : Dg a) (hb : Dg b) (ta : Tr a) (tb : Tr b) (la : a.length ≤ 1048576) (lb : b.length ≤ 1048576) :
    Calls Tryd.prog 75 #[va, vb] w fun e w' => ∃ r, e = .returned (.int .i64 r) ∧ (0 ≤ r ↔ val b ≤ val a) ∧ Below w.heap.size w w' := by
  obtain ⟨ao, ca, rfl, rda⟩ := ra.parts
  obtain ⟨bo, cb, rfl, rdb⟩ := rb.parts
  have HA := hid1 ha
  have HB := hid1 hb
  have RA := hid1 rda
  have RB := hid1 rdb
  have TA := hid1 ta
  have TB := hid1 tb
  clear ha hb rda rdb ra rb ta tb
  by_cases hle : a.length = b.length
  · go_enter Tryd.func75, Tryd.ntmps75
    go_wp2
    go_loopw [5] (fun i wr => ∃ (k : Nat), k ≤ a.length ∧ i = .int .i64 (k - 1) ∧ val a - val b = val (a.take k) - val (b.take k) ∧ Below w.heap.size w wr) (fun i _ => (intOf i + 1).toNat)
    case atStart => exact ⟨a.length, Nat.le_refl _, by first | rfl | rw [hle], by rw [List.take_length, List.take_of_length_le (by omega)], Below.refl _ _⟩
    case round =>
      obtain ⟨k, hk, rfl, hv, hnx⟩ := hrel
      have HV := hid1 hv
      clear hv
      cases k with
      | zero =>
        go_wp2
        go_ret
        have e := HV.out
        simp [val] at e
        exact ⟨_, rfl, by omega, hnx⟩
      | succ j =>
        obtain ⟨g, rfl, c1⟩ := RA.out j (by omega)
        obtain ⟨g', rfl, c2⟩ := RB.out j (by omega)
        have c1 := keepc hnx c1
        have c2 := keepc hnx c2
        have e0 : ((j + 1 : Nat) : Int) - 1 = (j : Int) := by omega
        rw [e0]
        by_cases he : dat a j = dat b j
        · rw [he] at c1
          have H1 : Hid (val a - val b = val (a.take j) - val (b.take j)) := hid1 (by rw [HV.out, val_take, val_take, he]; omega)
          generalize dat b j = x at *
          have h1 : (j : Int) < a.length := by omega
          have h2 : (j : Int) < b.length := by omega
          go_wp2
          go_quiet (fail)
          go_wp2
          exact ⟨⟨j, by omega, by go_num, H1.out, by repeat (first | exact hnx | refine Below.drew ?_ | refine bl_drewN ?_ _)⟩, by simp [intOf]⟩
        · have H1 : Hid (0 ≤ dat a j - dat b j ↔ val b ≤ val a) := hid1 (by
            have e := HV.out
            rcases (show dat a j < dat b j ∨ dat b j < dat a j by omega) with h | h
            · have := cmp_at HA.out HB.out (by omega) h; omega
            · have := cmp_at HB.out HA.out (by omega) h; omega)
          obtain ⟨d1, d2⟩ := dat_bd HA.out j
          obtain ⟨d3, d4⟩ := dat_bd HB.out j
          generalize dat b j = x at *
          generalize dat a j = y at *
          have h1 : (j : Int) < a.length := by omega
          have h2 : (j : Int) < b.length := by omega
          go_wp2
          go_quiet (fail)
          go_wp2
          go_quiet (fail)
          go_wp2
          go_ret
          exact ⟨_, rfl, H1.out, by repeat (first | exact hnx | refine Below.drew ?_ | refine bl_drewN ?_ _)⟩
  · go_enter Tryd.func75, Tryd.ntmps75
    go_wp2
    go_ret
    refine ⟨_, rfl, ?_, Below.refl _ _⟩
    rcases (show a.length < b.length ∨ b.length < a.length by omega) with h | h
    · have := cmp_len HA.out HB.out TB.out h; omega
    · have := cmp_len HB.out HA.out TA.out h; omega
