/- PLACES OF A PATCH, AS NUMBERS: plain mathematics. -/
import Derived.Test.YtohkiknhjcibgaaEW3
namespace Go.Proofs.Ytohkiknhjcibgaa
open Go.RowKit

theorem place_at {d k j : Nat} (hd : 0 < d) : (k * d ≤ j ∧ j < k * d + d) ↔ j / d = k := by
  constructor
  · rintro ⟨h1, h2⟩
    refine Nat.div_eq_of_lt_le h1 ?_
    rw [Nat.succ_mul]; exact h2
  · rintro rfl
    have := Nat.div_add_mod j d
    have h2 := Nat.mod_lt j hd
    rw [Nat.mul_comm] at this
    omega
theorem js_put {d P k x j : Nat} {Pf : Nat → Nat} (hd : 0 < d) (hP : ∀ p, p < P → Pf p < 2 ^ (64 * d)) (hx : x < 2 ^ (64 * d)) (hj : j < P * d) :
    (if k * d ≤ j ∧ j < k * d + d then wf x (j - k * d) else wf (js (64 * d) Pf P) j) = wf (js (64 * d) (fun p => if p = k then x else Pf p) P) j := by
  unfold wf
  rw [js_wd (P := fun p => if p = k then x else Pf p) (fun p hp => by split; exact hx; exact hP p hp) hj]
  by_cases e : j / d = k
  · rw [if_pos ((place_at hd).2 e), if_pos e]
    have := Nat.div_add_mod j d
    rw [Nat.mul_comm] at this
    rw [show j - k * d = j % d by rw [← e]; omega]
  · rw [if_neg (fun h => e ((place_at hd).1 h)), if_neg e, js_wd hP hj]
theorem js_bound {d P : Nat} {Pf : Nat → Nat} (hP : ∀ p, p < P → Pf p < 2 ^ (64 * d)) : js (64 * d) Pf P < 2 ^ (64 * (P * d)) := by
  have := js_lt (s := 64 * d) (P := Pf) (n := P) hP
  rwa [show P * (64 * d) = 64 * (P * d) by rw [Nat.mul_left_comm]] at this
theorem js_none (s : Nat) : ∀ n, js s (fun _ => 0) n = 0
  | 0 => rfl
  | n + 1 => by rw [js_succ, js_none s n]; simp
/-- All channels' bits. -/
abbrev ful (C : Nat) : Nat := nt C 0
theorem ful_lt (C : Nat) : ful C < 2 ^ C := by unfold ful nt; have := Nat.two_pow_pos C; omega
theorem ful_words (C : Nat) : ful C < 2 ^ (64 * nw C) := Nat.lt_of_lt_of_le (ful_lt C) (Nat.pow_le_pow_right (by decide) (nw_le C))
end Go.Proofs.Ytohkiknhjcibgaa
