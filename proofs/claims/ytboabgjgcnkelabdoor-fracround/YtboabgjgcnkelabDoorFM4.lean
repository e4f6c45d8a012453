/-
  FRACTIONS WRITTEN AND READ: plain mathematics. No Go in sight.
-/
import Derived.Test.YtboabgjgcnkelabDoorFM3
import Derived.Lib.ParseIntB
import Derived.Lib.Bytealg
import Derived.Lib.ItoaMem
namespace Go.Proofs.YtboabgjgcnkelabDoor
open Go.Lib

theorem pu_app (M : Nat) (r : List UInt8) : ∀ (l : List UInt8) (acc a : Nat), parseUintM M acc l = .ok a → parseUintM M acc (l ++ r) = parseUintM M a r
  | [], acc, a, h => by simp [parseUintM] at h; subst h; rfl
  | c :: l, acc, a, h => by
    rw [List.cons_append]
    unfold parseUintM at h
    conv => lhs; unfold parseUintM
    split at h
    · rename_i h1
      rw [if_pos h1]
      split at h
      · cases h
      · rename_i h2
        rw [if_neg h2]
        split at h
        · cases h
        · rename_i h3
          rw [if_neg h3]
          exact pu_app M r l _ a h
    · cases h
theorem dig_nat {k : Nat} (h : k < 10) : (UInt8.ofNat (48 + k)).toNat = 48 + k := by
  rw [UInt8.toNat_ofNat']; omega
theorem pu_one {M a k : Nat} (hk : k < 10) (h1 : a < 1844674407370955162) (h2 : a * 10 + k ≤ M) : parseUintM M a [UInt8.ofNat (48 + k)] = .ok (a * 10 + k) := by
  unfold parseUintM
  rw [dig_nat hk, if_pos (by omega), if_neg (by omega), if_neg (by omega)]
  have : 48 + k - 48 = k := by omega
  rw [this]
  rfl
theorem pu_dec (M : Nat) : ∀ u : Nat, u ≤ M → u < 1844674407370955162 → parseUintM M 0 (decDigits u) = .ok u := by
  intro u
  induction u using Nat.strongRecOn with
  | _ u ih =>
    intro h1 h2
    rw [decDigits]
    split
    · rename_i h
      have := pu_one (M := M) (a := 0) (k := u) h (by omega) (by omega)
      simpa using this
    · rename_i h
      rw [pu_app M _ _ _ _ (ih (u / 10) (by omega) (by omega) (by omega))]
      rw [pu_one (by omega) (by omega) (by omega)]
      congr 1; omega
theorem dec_dig : ∀ (u : Nat), ∀ c ∈ decDigits u, 48 ≤ c.toNat ∧ c.toNat ≤ 57 := by
  intro u
  induction u using Nat.strongRecOn with
  | _ u ih =>
    intro c hc
    rw [decDigits] at hc
    split at hc
    · rename_i h
      rw [List.mem_singleton] at hc
      subst hc
      rw [dig_nat h]; omega
    · rename_i h
      rw [List.mem_append] at hc
      rcases hc with hc | hc
      · exact ih (u / 10) (by omega) c hc
      · rw [List.mem_singleton] at hc
        subst hc
        rw [dig_nat (by omega)]; omega
theorem dec_cons (u : Nat) : ∃ c r, decDigits u = c :: r ∧ 48 ≤ c.toNat ∧ c.toNat ≤ 57 := by
  have hd := dec_dig u
  cases e : decDigits u with
  | nil =>
    exfalso
    rw [decDigits] at e
    split at e
    · cases e
    · simp at e
  | cons c r => exact ⟨c, r, rfl, hd c (by rw [e]; simp)⟩
theorem pb_dec (u : Nat) (h : u < 2147483648) : parseUintB 64 (decDigits u) = .ok u := by
  unfold parseUintB
  obtain ⟨c, r, e, _⟩ := dec_cons u
  rw [if_neg (by rw [e]; simp)]
  exact pu_dec _ u (by omega) (by omega)
theorem parse_itoa {n : Int} (h1 : -2147483647 ≤ n) (h2 : n ≤ 2147483647) : parseIntB 64 (itoa n) = .ok n := by
  unfold itoa
  split
  · rename_i h
    have hp := pb_dec n.natAbs (by omega)
    simp only [parseIntB]
    rw [if_pos (by decide), hp]
    have e : (45 : UInt8).toNat = 45 := rfl
    simp only [e]
    rw [if_neg (by simp), if_neg (by omega)]
    simp
    omega
  · rename_i h
    have hp := pb_dec n.toNat (by omega)
    obtain ⟨c, r, e, c1, c2⟩ := dec_cons n.toNat
    rw [e] at hp ⊢
    simp only [parseIntB]
    rw [if_neg (by omega), hp]
    have hc : ¬ c.toNat = 45 := by omega
    simp only [hc]
    rw [if_neg (by omega), if_neg (by simp)]
    simp
    omega
theorem itoa_stroke (n : Int) : (47 : UInt8) ∉ itoa n := by
  unfold itoa
  split
  · intro h
    rw [List.mem_cons] at h
    rcases h with h | h
    · cases h
    · have := dec_dig _ _ h
      have e : (47 : UInt8).toNat = 47 := rfl
      omega
  · intro h
    have := dec_dig _ _ h
    have e : (47 : UInt8).toNat = 47 := rfl
    omega
theorem index_cases (c : UInt8) : ∀ l : List UInt8, (indexByte l c = -1 ∧ c ∉ l) ∨ ∃ a b, l = a ++ c :: b ∧ c ∉ a ∧ indexByte l c = (a.length : Int)
  | [] => Or.inl ⟨rfl, by simp⟩
  | x :: l => by
    unfold indexByte
    by_cases h : x = c
    · subst h
      right
      exact ⟨[], l, rfl, by simp, by simp⟩
    · have hx : (x == c) = false := by simpa using h
      rw [hx]
      rcases index_cases c l with ⟨h1, h2⟩ | ⟨a, b, h1, h2, h3⟩
      · left
        rw [h1]
        refine ⟨by simp, ?_⟩
        rw [List.mem_cons]
        rintro (e | e)
        · exact h e.symm
        · exact h2 e
      · right
        refine ⟨x :: a, b, by rw [h1]; rfl, ?_, ?_⟩
        · rw [List.mem_cons]
          rintro (e | e)
          · exact h e.symm
          · exact h2 e
        · rw [h3]
          have : ((a.length : Int) == -1) = false := by simp <;> omega
          simp [this]
/-- A text in its two parts. -/
def Sp (l a b : List UInt8) : Prop := ((47 : UInt8) ∉ l ∧ a = l ∧ b = [49]) ∨ (l = a ++ 47 :: b ∧ (47 : UInt8) ∉ a)
theorem split_uniq {c : UInt8} : ∀ {a a' b b' : List UInt8}, c ∉ a → c ∉ a' → a ++ c :: b = a' ++ c :: b' → a = a' ∧ b = b'
  | [], [], b, b', _, _, h => by simp at h; exact ⟨rfl, h⟩
  | [], y :: a', b, b', _, h2, h => by
    simp at h
    exact absurd (by rw [h.1]; simp) h2
  | x :: a, [], b, b', h1, _, h => by
    simp at h
    exact absurd (by rw [← h.1]; simp) h1
  | x :: a, y :: a', b, b', h1, h2, h => by
    simp at h
    have := split_uniq (c := c) (a := a) (a' := a') (b := b) (b' := b') (fun k => h1 (by simp [k])) (fun k => h2 (by simp [k])) h.2
    exact ⟨by rw [h.1, this.1], this.2⟩
theorem sp_uniq {l a b a' b' : List UInt8} (h : Sp l a b) (k : Sp l a' b') : a = a' ∧ b = b' := by
  rcases h with ⟨h1, rfl, rfl⟩ | ⟨h1, h2⟩
  · rcases k with ⟨_, rfl, rfl⟩ | ⟨k1, _⟩
    · exact ⟨rfl, rfl⟩
    · exact absurd (by rw [k1]; simp) h1
  · rcases k with ⟨k1, _, _⟩ | ⟨k1, k2⟩
    · exact absurd (by rw [h1]; simp) k1
    · exact split_uniq h2 k2 (h1 ▸ k1)
end Go.Proofs.YtboabgjgcnkelabDoor
