/- A ROW OF BITS WHEREVER ITS WORDS BEGIN; bits.Check; tally, fits. -/
import Derived.Test.YtlgjoepeibodkaaGreatBW6
import Derived.Test.YtlgjoepeibodkaaGreatDM1
namespace Go.Proofs.YtlgjoepeibodkaaGreat
open Go.RowKit

/-- A row of bits: what it says, where its words lie, the number that they make. -/
structure Bt where
  n : Int
  ao : Option Addr
  m : Nat
  cap : Nat
  N : Nat
abbrev Bt.v (b : Bt) : Value := .agg #[.int .i64 b.n, .slice b.ao b.m b.cap]
/-- Its words lie in this memory. -/
def Rw (w : World) (b : Bt) : Prop := b.N < 2 ^ (64 * b.m) ∧ b.m ≤ 9223372036854775807 ∧ ∀ k, k < b.m → ∃ g o, b.ao = some ⟨g, o, none⟩ ∧ w.cell? ⟨g, o + k, none⟩ = some (wf b.N k)
theorem Rw.below {w w' : World} {b : Bt} (h : Rw w b) (hb : Below w.heap.size w w') : Rw w' b :=
  ⟨h.1, h.2.1, fun k hk => by obtain ⟨g, o, e, c⟩ := h.2.2 k hk; exact ⟨g, o, e, keepc hb c⟩⟩
theorem Rw.row {w : World} {g n N : Nat} (h : w.rowIs g 131 (nw n) (wf N)) (hN : N < 2 ^ n) (h1 : n ≤ 16777216) : Rw w ⟨n, some ⟨g, 0, none⟩, nw n, nw n, N⟩ :=
  ⟨lt_nw hN, by have := nw_bd h1; show nw n ≤ _; omega, fun _ hk => ⟨g, 0, rfl, by rw [Nat.zero_add]; exact h.cell hk⟩⟩
/-- What bits.Check tells of it. -/
abbrev Bt.chk (b : Bt) : Int := Go.Proofs.YtlgjoepeibodkaaGreat.chk b.n b.m b.N
theorem chk_zero {n : Int} {m N : Nat} (h : chk n m N = 0) : ∃ k : Nat, n = k ∧ k ≤ 16777216 ∧ m = nw k ∧ N < 2 ^ k := by
  unfold chk at h
  by_cases h1 : n < 0
  · rw [if_pos h1] at h; omega
  rw [if_neg h1] at h
  by_cases h2 : 16777216 < n
  · rw [if_pos h2] at h; omega
  rw [if_neg h2] at h
  by_cases h3 : m ≠ nw n.toNat
  · rw [if_pos h3] at h; omega
  rw [if_neg h3] at h
  by_cases h4 : N < 2 ^ n.toNat
  · exact ⟨n.toNat, by omega, by omega, by simpa using h3, h4⟩
  · rw [if_neg h4] at h; omega

/-- Does fits hold? -/
def ftB (n : Int) (m N : Nat) (len : Int) : Bool := decide (chk n m N = 0 ∧ n = len)
end Go.Proofs.YtlgjoepeibodkaaGreat
