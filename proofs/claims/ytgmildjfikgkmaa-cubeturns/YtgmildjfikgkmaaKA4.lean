/- BOTH Turns, of every row. -/
import Derived.Test.YtgmildjfikgkmaaKA3
namespace Go.Proofs.Ytgmildjfikgkmaa
open Go.RowKit Go.Shelf

/-- What is answered: shape, words, the number that they make. -/
def tS (n : Int) (m N : Nat) : Int × Int × Int × Nat × Nat := if tuE n m N = 0 then (1, 1, n, m, N) else (0, 0, 0, 0, 0)
theorem tuE_zero {n : Int} {m N : Nat} (h : tuE n m N = 0) : ∃ k : Nat, n = k ∧ (1 ≤ k ∧ k ≤ 4096) ∧ m = nw k ∧ N < 2 ^ k := by
  unfold tuE at h
  by_cases h0 : chk n m N = 0
  · rw [if_pos h0] at h
    obtain ⟨k, rfl, h1, h2, h3⟩ := chk_zero h0
    by_cases h4 : (k : Int) < 1 ∨ 4096 < (k : Int)
    · rw [if_pos h4] at h; omega
    · exact ⟨k, rfl, by omega, h2, h3⟩
  · rw [if_neg h0] at h; exact absurd h h0
theorem rturn_bad (n : Int) (ao : Option Addr) (m cap N : Nat) (w : World) (rd : Wr w ao m N) (k : tuE n m N ≠ 0) :
    Calls Try.prog 25 #[rv n ao m cap] w fun e w' => e = .returned (.tuple #[cuv 0 0 0 none 0 0, .int .i64 (tuE n m N)]) ∧ Below w.heap.size w w' := by
  by_cases h1 : n < 0
  · have e : tuE n m N = 1 := by unfold tuE chk; rw [if_pos h1]; rfl
    rw [e]; exact rturn_small n ao m cap w 1 (.inl ⟨h1, rfl⟩)
  by_cases h2 : 16777216 < n
  · have e : tuE n m N = 2 := by unfold tuE chk; rw [if_neg h1, if_pos h2]; rfl
    rw [e]; exact rturn_small n ao m cap w 2 (.inr ⟨h2, rfl⟩)
  obtain ⟨n, rfl⟩ := Int.eq_ofNat_of_zero_le (Int.not_lt.1 h1)
  have h3 : n ≤ 16777216 := by omega
  by_cases h4 : m = nw n
  · by_cases h5 : N < 2 ^ n
    · have e0 : chk n m N = 0 := by rw [h4]; exact chk_ok h3 h5
      have ho : n < 1 ∨ 4096 < n := by
        unfold tuE at k
        rw [if_pos e0] at k
        by_cases hq : (n : Int) < 1 ∨ 4096 < (n : Int)
        · omega
        · rw [if_neg hq] at k; exact absurd rfl k
      have e : tuE n m N = 30 := by unfold tuE; rw [if_pos e0, if_pos (by omega)]
      rw [e]; exact rturn_shape n ao m cap w h3 h4 ho (fun W hb => lw_of h4 h5 (rd.below hb))
    · have h0 : 0 < n := by
        rcases Nat.eq_zero_or_pos n with z | z
        · subst z
          have := rd.1
          rw [h4] at this
          exact absurd this h5
        · exact z
      have hr : n % 64 ≠ 0 := by
        intro hr
        have e1 : 64 * nw n = n := by unfold nw; omega
        have := rd.1
        rw [h4, e1] at this
        exact h5 this
      have ec : chk n m N = 20 := by
        unfold chk
        rw [if_neg h1, if_neg h2, Int.toNat_natCast, if_neg (fun q => q h4), if_neg h5]
      have e : tuE n m N = 20 := by unfold tuE; rw [ec, if_neg (by decide)]
      rw [e]
      have hm0 : 0 < m := by rw [h4]; unfold nw; omega
      obtain ⟨g, o, rfl, _⟩ := rd.2 0 hm0
      exact rturn_bit n g o m cap N w h3 h0 h4 hr h5 rd
  · have ec : chk n m N = 20 := by
      unfold chk
      rw [if_neg h1, if_neg h2, Int.toNat_natCast, if_pos h4]
    have e : tuE n m N = 20 := by unfold tuE; rw [ec, if_neg (by decide)]
    rw [e]; exact rturn_len n ao m cap w h3 h4
theorem turn_all (n : Int) (ao : Option Addr) (m cap N : Nat) (w : World) (hm : m ≤ 9223372036854775807) (rd : Wr w ao m N) (h v c : Int) (k P : Nat) (E : Int) (hE : tuE n m N = E) (hS : tS n m N = (h, v, c, k, P)) :
    Calls Try.prog 11 #[rv n ao m cap] w fun e w' => ∃ bo K, e = .returned (.tuple #[cuv h v c bo k K, .int .i64 E]) ∧ Wr w' bo k P ∧ Below w.heap.size w w' := by
  subst hE
  unfold tS at hS
  by_cases h0 : tuE n m N = 0
  · rw [if_pos h0] at hS
    cases hS
    obtain ⟨q, rfl, hq, e1, e2⟩ := tuE_zero h0
    have hm0 : 0 < m := by rw [e1]; unfold nw; omega
    obtain ⟨g, o, rfl, _⟩ := rd.2 0 hm0
    refine (turn_ok q g o m cap N w hq e1 e2 rd).mono ?_
    rintro e w' ⟨G, K, rfl, _, _, _, _, wr, hb⟩
    exact ⟨_, _, by rw [h0], wr, hb⟩
  · rw [if_neg h0] at hS
    cases hS
    refine (turn_bad n ao m cap N w hm rd h0).mono ?_
    rintro e w' ⟨rfl, hb⟩
    exact ⟨_, _, rfl, Wr.nil _ _, hb⟩
theorem rturn_all (n : Int) (ao : Option Addr) (m cap N : Nat) (w : World) (rd : Wr w ao m N) (h v c : Int) (k P : Nat) (E : Int) (hE : tuE n m N = E) (hS : tS n m N = (h, v, c, k, P)) :
    Calls Try.prog 25 #[rv n ao m cap] w fun e w' => ∃ bo K, e = .returned (.tuple #[cuv h v c bo k K, .int .i64 E]) ∧ Wr w' bo k P ∧ Below w.heap.size w w' := by
  subst hE
  unfold tS at hS
  by_cases h0 : tuE n m N = 0
  · rw [if_pos h0] at hS
    cases hS
    obtain ⟨q, rfl, hq, e1, e2⟩ := tuE_zero h0
    have hm0 : 0 < m := by rw [e1]; unfold nw; omega
    obtain ⟨g, o, rfl, _⟩ := rd.2 0 hm0
    refine (rturn_ok q g o m cap N w (by omega) hq e1 e2 rd).mono ?_
    rintro e w' ⟨G, K, rfl, _, _, _, wr, hb⟩
    exact ⟨_, _, by rw [h0], wr, hb⟩
  · rw [if_neg h0] at hS
    cases hS
    refine (rturn_bad n ao m cap N w rd h0).mono ?_
    rintro e w' ⟨rfl, hb⟩
    exact ⟨_, _, rfl, Wr.nil _ _, hb⟩
theorem tS_le {n : Int} {m N : Nat} {h v c : Int} {k P : Nat} (hm : m ≤ 9223372036854775807) (hS : tS n m N = (h, v, c, k, P)) : k ≤ 9223372036854775807 := by
  unfold tS at hS
  split at hS <;> cases hS <;> omega
end Go.Proofs.Ytgmildjfikgkmaa
