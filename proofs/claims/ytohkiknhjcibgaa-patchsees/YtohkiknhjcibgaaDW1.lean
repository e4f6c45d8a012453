/- A ROW OF BITS WHEREVER ITS WORDS BEGIN; bits.Check; tally, fits. -/
import Derived.Test.YtohkiknhjcibgaaBW6
import Derived.Test.YtohkiknhjcibgaaDM1
namespace Go.Proofs.Ytohkiknhjcibgaa
open Go.RowKit

/-- A row of bits: what it says, where its words lie, the number that they make. -/
structure Bt where
  n : Int
  ao : Option Addr
  m : Nat
  cap : Nat
  N : Nat
abbrev Bt.v (b : Bt) : Value := .agg #[.int .i64 b.n, .slice b.ao b.m b.cap]
/-- Its words lie in this memory. -/
def Rw (w : World) (b : Bt) : Prop := b.N < 2 ^ (64 * b.m) ∧ b.m ≤ 9223372036854775807 ∧ ∀ k, k < b.m → ∃ g o, b.ao = some ⟨g, o, none⟩ ∧ w.cell? ⟨g, o + k, none⟩ = some (wf b.N k)
theorem Rw.below {w w' : World} {b : Bt} (h : Rw w b) (hb : Below w.heap.size w w') : Rw w' b :=
  ⟨h.1, h.2.1, fun k hk => by obtain ⟨g, o, e, c⟩ := h.2.2 k hk; exact ⟨g, o, e, keepc hb c⟩⟩
theorem Rw.row {w : World} {g n N : Nat} (h : w.rowIs g 41 (nw n) (wf N)) (hN : N < 2 ^ n) (h1 : n ≤ 16777216) : Rw w ⟨n, some ⟨g, 0, none⟩, nw n, nw n, N⟩ :=
  ⟨lt_nw hN, by have := nw_bd h1; show nw n ≤ _; omega, fun _ hk => ⟨g, 0, rfl, by rw [Nat.zero_add]; exact h.cell hk⟩⟩
/-- What bits.Check tells of it. -/
abbrev Bt.chk (b : Bt) : Int := Go.Proofs.Ytohkiknhjcibgaa.chk b.n b.m b.N
theorem chk_zero {n : Int} {m N : Nat} (h : chk n m N = 0) : ∃ k : Nat, n = k ∧ k ≤ 16777216 ∧ m = nw k ∧ N < 2 ^ k := by
  unfold chk at h
  by_cases h1 : n < 0
  · rw [if_pos h1] at h; omega
  rw [if_neg h1] at h
  by_cases h2 : 16777216 < n
  · rw [if_pos h2] at h; omega
  rw [if_neg h2] at h
  by_cases h3 : m ≠ nw n.toNat
  · rw [if_pos h3] at h; omega
  rw [if_neg h3] at h
  by_cases h4 : N < 2 ^ n.toNat
  · exact ⟨n.toNat, by omega, by omega, by simpa using h3, h4⟩
  · rw [if_neg h4] at h; omega

set_option maxHeartbeats 800000 in
set_option maxRecDepth 100000 in
theorem checko_any (n : Int) (ao : Option Addr) (m cap N : Nat) (w : World) (h : Rw w ⟨n, ao, m, cap, N⟩) :
    Calls Try.prog 42 #[rv n ao m cap] w fun e w' => e = .returned (.int .i64 (chk n m N)) ∧ Below w.heap.size w w' := by
  by_cases h1 : n < 0
  · have e : chk n m N = 1 := by unfold chk; rw [if_pos h1]
    rw [e]; clear e
    go_enter Try.func42, Try.ntmps42
    go_wp2
    go_ret
    exact ⟨rfl, bl_alloc (Below.refl _ _) _⟩
  by_cases h2 : 16777216 < n
  · have e : chk n m N = 2 := by unfold chk; rw [if_neg h1, if_pos h2]
    rw [e]; clear e
    go_enter Try.func42, Try.ntmps42
    go_wp2
    go_ret
    exact ⟨rfl, bl_alloc (Below.refl _ _) _⟩
  obtain ⟨n, rfl⟩ := Int.eq_ofNat_of_zero_le (Int.not_lt.1 h1)
  have h3 : n ≤ 16777216 := by omega
  have hb := nw_bd h3
  clear h1 h2
  obtain ⟨hN, hm, hr⟩ := h
  dsimp only at hN hm hr
  by_cases h4 : m = nw n
  · subst h4
    by_cases h0 : n = 0
    · subst h0
      have e : chk (0 : Nat) (nw 0) N = 0 := by
        have : N < 1 := by simpa [nw] using hN
        simp [chk, this]
      rw [e]
      clear e hN hm hr
      go_enter Try.func42, Try.ntmps42
      go_wp2
      go_quiet ((go_at_call 55; exact Calls.quiet_of_same (wordsFor_any _ (by omega) _)))
      go_wp2
      go_quiet ((go_at_call 34; exact Calls.quiet_of_same (tail_none _ (by omega) _)))
      go_wp2
      go_ret
      exact ⟨rfl, bl_drewN (bl_drewN (bl_alloc (Below.refl _ _) _) _) _⟩
    · obtain ⟨g, o, rfl, c⟩ := hr (nw n - 1) (by unfold nw; omega)
      have hd := behind_none (n := n) (by omega) hN
      have hl := wd_lt N (nw n - 1)
      have ht := tl_lt n
      have HE := hid1 (andNot_u64 _ _ hl ht)
      unfold wf at c
      have e : chk n (nw n) N = if wd N (nw n - 1) &&& (18446744073709551615 - tl n) = 0 then 0 else 20 := by
        simp [chk, hd]
        omega
      rw [e]
      clear e hd hr hN
      obtain ⟨L, hL⟩ : ∃ L, nw n = L + 1 := ⟨nw n - 1, by unfold nw; omega⟩
      have hw : IntKind.i64.wrap ((nw n : Int) - 1) = (L : Int) := by rw [IntKind.wrap_i64]; omega
      have hlt : L < nw n := by omega
      have e0 : nw n - 1 = L := by omega
      rw [e0] at c HE hl ⊢
      clear e0 hL
      generalize wd N L = x at *
      have hn0 : 0 < n := by omega
      have T := hid1 (tail_pos n hn0 (by omega))
      generalize tl n = y at *
      have c' := keepc (bl_alloc (Below.refl _ w) (.cells #[.int .i64 n, .slice (some ⟨g, o, none⟩) (nw n) cap] 44)) c
      by_cases hz : x &&& (18446744073709551615 - y) = 0
      · rw [if_pos hz]
        have e1 : bits .andNot .u64 (x : Int) (y : Int) = 0 := by rw [HE.out, hz]; rfl
        clear hz
        go_enter Try.func42, Try.ntmps42
        go_wp2
        go_quiet ((go_at_call 55; exact Calls.quiet_of_same (wordsFor_any _ (by omega) _)))
        go_wp2
        go_quiet ((go_at_call 34; refine (T.out _).mono ?_; rintro e w1 ⟨rfl, rfl⟩; exact ⟨rfl, _, rfl⟩))
        go_wp2
        go_ret
        exact ⟨rfl, bl_drewN (bl_drewN (bl_alloc (Below.refl _ _) _) _) _⟩
      · rw [if_neg hz]
        have e1 : (bits .andNot .u64 (x : Int) (y : Int) != 0) = true := by rw [HE.out]; simpa using hz
        clear hz
        go_enter Try.func42, Try.ntmps42
        go_wp2
        go_quiet ((go_at_call 55; exact Calls.quiet_of_same (wordsFor_any _ (by omega) _)))
        go_wp2
        go_quiet ((go_at_call 34; refine (T.out _).mono ?_; rintro e w1 ⟨rfl, rfl⟩; exact ⟨rfl, _, rfl⟩))
        go_wp2
        go_ret
        exact ⟨rfl, bl_drewN (bl_drewN (bl_alloc (Below.refl _ _) _) _) _⟩
  · have e : chk n m N = 20 := by simp [chk, h4]; omega
    rw [e]
    clear e hr hN
    go_enter Try.func42, Try.ntmps42
    go_wp2
    go_quiet ((go_at_call 55; exact Calls.quiet_of_same (wordsFor_any _ (by omega) _)))
    go_wp2
    go_ret
    exact ⟨rfl, bl_drewN (bl_alloc (Below.refl _ _) _) _⟩

/-- Does fits hold? -/
def ftB (n : Int) (m N : Nat) (len : Int) : Bool := decide (chk n m N = 0 ∧ n = len)
set_option maxRecDepth 100000 in
theorem fits_any (n : Int) (ao : Option Addr) (m cap N : Nat) (len : Int) (w : World) (h : Rw w ⟨n, ao, m, cap, N⟩) :
    Calls Try.prog 43 #[rv n ao m cap, .int .i64 len] w fun e w' => e = .returned (.bool (ftB n m N len)) ∧ Below w.heap.size w w' := by
  have HR := hid1 h
  clear h
  have e : ftB n m N len = (decide (chk n m N = 0) && decide (n = len)) := by simp [ftB]
  by_cases hz : chk n m N = 0
  · rw [e, decide_eq_true hz, Bool.true_and]
    clear e
    go_enter Try.func43, Try.ntmps43
    go_wp2_with fail
    refine (checko_any n ao m cap N _ (HR.out.below (bl_alloc (Below.refl _ _) _))).mono ?_
    rintro e w1 ⟨rfl, hb⟩
    rw [hz]
    have c0 := keepc hb (new0 w (.int .i64 n) (.slice ao m cap) 44)
    go_wp2_with fail
    go_ret
    refine ⟨?_, bl_step (bl_alloc (Below.refl _ _) _) hb⟩
    congr 1
  · have hz' : (chk n m N == 0) = false := by simpa using hz
    rw [e, decide_eq_false hz, Bool.false_and]
    clear e
    go_enter Try.func43, Try.ntmps43
    go_wp2_with fail
    refine (checko_any n ao m cap N _ (HR.out.below (bl_alloc (Below.refl _ _) _))).mono ?_
    rintro e w1 ⟨rfl, hb⟩
    generalize chk n m N = q at *
    have hz'' : ¬ q = 0 := hz
    go_wp2_with fail
    go_ret
    exact ⟨rfl, bl_step (bl_alloc (Below.refl _ _) _) hb⟩
end Go.Proofs.Ytohkiknhjcibgaa
