/- Check, maskEnd. -/
import Derived.Test.YtohkiknhjcibgaaBW2
namespace Go.Proofs.Ytohkiknhjcibgaa
open Go.RowKit

/-- What Check tells. -/
def chk (n : Int) (m N : Nat) : Int := if n < 0 then 1 else if 16777216 < n then 2 else if m ≠ nw n.toNat then 20 else if N < 2 ^ n.toNat then 0 else 20
theorem andNot_u64 (a b : Nat) (ha : a < 18446744073709551616) (hb : b < 18446744073709551616) : bits .andNot .u64 (a : Int) (b : Int) = ((a &&& (18446744073709551615 - b) : Nat) : Int) := by
  have := u64_andNot (a : Int) (b : Int) (by omega) (by omega) (by omega) (by omega); simpa using this

set_option maxHeartbeats 800000 in
set_option maxRecDepth 100000 in
theorem check_any (n : Int) (ao : Option Addr) (m cap N : Nat) (w : World) (hm : m ≤ 9223372036854775807) (h : Rd w ao m N) :
    Calls Try.prog 42 #[rv n ao m cap] w fun e w' => e = .returned (.int .i64 (chk n m N)) ∧ Below w.heap.size w w' := by
  by_cases h1 : n < 0
  · have e : chk n m N = 1 := by unfold chk; rw [if_pos h1]
    rw [e]; clear e
    go_enter Try.func42, Try.ntmps42
    go_wp2
    go_ret
    exact ⟨rfl, bl_alloc (Below.refl _ _) _⟩
  by_cases h2 : 16777216 < n
  · have e : chk n m N = 2 := by unfold chk; rw [if_neg h1, if_pos h2]
    rw [e]; clear e
    go_enter Try.func42, Try.ntmps42
    go_wp2
    go_ret
    exact ⟨rfl, bl_alloc (Below.refl _ _) _⟩
  obtain ⟨n, rfl⟩ := Int.eq_ofNat_of_zero_le (Int.not_lt.1 h1)
  have h3 : n ≤ 16777216 := by omega
  have hb := nw_bd h3
  clear h1 h2
  by_cases h4 : m = nw n
  · subst h4
    by_cases h0 : n = 0
    · subst h0
      have e : chk (0 : Nat) (nw 0) N = 0 := by
        have : N < 1 := by simpa [nw] using h.1
        simp [chk, this]
      rw [e]
      clear e h
      go_enter Try.func42, Try.ntmps42
      go_wp2
      go_quiet ((go_at_call 55; exact Calls.quiet_of_same (wordsFor_any _ (by omega) _)))
      go_wp2
      go_quiet ((go_at_call 34; exact Calls.quiet_of_same (tail_none _ (by omega) _)))
      go_wp2
      go_ret
      exact ⟨rfl, bl_drewN (bl_drewN (bl_alloc (Below.refl _ _) _) _) _⟩
    · obtain ⟨hN, hr⟩ := h
      obtain ⟨g, rfl, hc⟩ := hr (by unfold nw; omega)
      have c := hc (nw n - 1) (by unfold nw; omega)
      have hd := behind_none (n := n) (by omega) hN
      have hl := wd_lt N (nw n - 1)
      have ht := tl_lt n
      have HE := hid1 (andNot_u64 _ _ hl ht)
      unfold wf at c
      have e : chk n (nw n) N = if wd N (nw n - 1) &&& (18446744073709551615 - tl n) = 0 then 0 else 20 := by
        simp [chk, hd]
        omega
      rw [e]
      clear e hd hc hr
      obtain ⟨L, hL⟩ : ∃ L, nw n = L + 1 := ⟨nw n - 1, by unfold nw; omega⟩
      have hw : IntKind.i64.wrap ((nw n : Int) - 1) = (L : Int) := by rw [IntKind.wrap_i64]; omega
      have hlt : L < nw n := by omega
      have e0 : nw n - 1 = L := by omega
      rw [e0] at c HE hl ⊢
      clear e0 hL
      generalize wd N L = x at *
      have hn0 : 0 < n := by omega
      have T := hid1 (tail_pos n hn0 (by omega))
      generalize tl n = y at *
      have c' := keepc (bl_alloc (Below.refl _ w) (.cells #[.int .i64 n, .slice (some ⟨g, 0, none⟩) (nw n) cap] 44)) c
      by_cases hz : x &&& (18446744073709551615 - y) = 0
      · rw [if_pos hz]
        have e1 : bits .andNot .u64 (x : Int) (y : Int) = 0 := by rw [HE.out, hz]; rfl
        clear hz
        go_enter Try.func42, Try.ntmps42
        go_wp2
        go_quiet ((go_at_call 55; exact Calls.quiet_of_same (wordsFor_any _ (by omega) _)))
        go_wp2
        go_quiet ((go_at_call 34; refine (T.out _).mono ?_; rintro e w1 ⟨rfl, rfl⟩; exact ⟨rfl, _, rfl⟩))
        go_wp2
        go_ret
        exact ⟨rfl, bl_drewN (bl_drewN (bl_alloc (Below.refl _ _) _) _) _⟩
      · rw [if_neg hz]
        have e1 : (bits .andNot .u64 (x : Int) (y : Int) != 0) = true := by rw [HE.out]; simpa using hz
        clear hz
        go_enter Try.func42, Try.ntmps42
        go_wp2
        go_quiet ((go_at_call 55; exact Calls.quiet_of_same (wordsFor_any _ (by omega) _)))
        go_wp2
        go_quiet ((go_at_call 34; refine (T.out _).mono ?_; rintro e w1 ⟨rfl, rfl⟩; exact ⟨rfl, _, rfl⟩))
        go_wp2
        go_ret
        exact ⟨rfl, bl_drewN (bl_drewN (bl_alloc (Below.refl _ _) _) _) _⟩
  · have e : chk n m N = 20 := by simp [chk, h4]; omega
    rw [e]
    clear e h
    go_enter Try.func42, Try.ntmps42
    go_wp2
    go_quiet ((go_at_call 55; exact Calls.quiet_of_same (wordsFor_any _ (by omega) _)))
    go_wp2
    go_ret
    exact ⟨rfl, bl_drewN (bl_alloc (Below.refl _ _) _) _⟩
end Go.Proofs.Ytohkiknhjcibgaa
