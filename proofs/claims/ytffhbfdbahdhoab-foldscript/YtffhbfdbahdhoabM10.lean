/-
  PLAIN MATHEMATICS: what is written is read back, what is read is written so.
-/
import Derived.Test.YtffhbfdbahdhoabM9
namespace Go.Proofs.Ytffhbfdbahdhoab.Wd
open Go.RowKit

theorem digit_nat {x : Nat} (h : x < 10) : (UInt8.ofNat (48 + x)).toNat = 48 + x := by
  rw [UInt8.toNat_ofNat']; omega
theorem digit_is {x : Nat} (h : x < 10) : isDig (UInt8.ofNat (48 + x)) = true := by
  have := digit_nat h
  simp only [isDig, this, decide_eq_true_eq]; omega
theorem dec_all (m : Nat) : ∀ c ∈ Lib.decDigits m, isDig c = true := by
  induction m using Nat.strongRecOn with
  | _ m ih =>
    by_cases h : m < 10
    · rw [Lib.decDigits_one h]; intro c hc
      rw [List.mem_singleton.1 hc]; exact digit_is h
    · rw [dec_step h]; intro c hc
      rcases List.mem_append.1 hc with hc | hc
      · exact ih (m / 10) (by omega) c hc
      · rw [List.mem_singleton.1 hc]; exact digit_is (by omega)
theorem dec_val (m : Nat) : valD 0 (Lib.decDigits m) = m := by
  induction m using Nat.strongRecOn with
  | _ m ih =>
    by_cases h : m < 10
    · rw [Lib.decDigits_one h]
      simp only [valD, digit_nat h]; omega
    · rw [dec_step h, valD_append, ih (m / 10) (by omega)]
      simp only [valD, digit_nat (show m % 10 < 10 by omega)]; omega
theorem dec_ne (m : Nat) : Lib.decDigits m ≠ [] := by
  intro h; have := dec_len_pos m; rw [h] at this; simp at this
theorem dec_head {m : Nat} (h1 : 1 ≤ m) : ∃ c r, Lib.decDigits m = c :: r ∧ c ≠ 48 := by
  induction m using Nat.strongRecOn with
  | _ m ih =>
    by_cases h : m < 10
    · refine ⟨_, _, Lib.decDigits_one h, ?_⟩
      intro e
      have := digit_nat h
      rw [e] at this
      have e2 : (48 : UInt8).toNat = 48 := rfl
      omega
    · obtain ⟨c, r, e, hc⟩ := ih (m / 10) (by omega) (by omega)
      exact ⟨c, r ++ [UInt8.ofNat (48 + m % 10)], by rw [dec_step h, e]; rfl, hc⟩
theorem dec_wr (m : Nat) : isWr (Lib.decDigits m) = true := by
  have ha := dec_all m
  by_cases h : m = 0
  · subst h; rw [Lib.decDigits_one (by decide)]; decide
  · obtain ⟨c, r, e, hc⟩ := dec_head (show 1 ≤ m by omega)
    rw [e] at ha ⊢
    simp only [isWr, Bool.and_eq_true, List.all_eq_true]
    exact ⟨by simp [hc], ha⟩
theorem dec_bd' {l : List UInt8} {c : UInt8} {r : List UInt8} (h : ∀ x ∈ l, isDig x = true) (e : l = c :: r) : isDig c = true := h c (by rw [e]; exact List.mem_cons_self ..)
theorem dec_no_sign (m : Nat) : cutNeg (Lib.decDigits m) = false := by
  obtain ⟨c, r, e⟩ := List.exists_cons_of_ne_nil (dec_ne m)
  have h := dec_bd' (dec_all m) e
  rw [e]; simp only [cutNeg]
  rw [beq_eq_false_iff_ne]; intro e2
  rw [e2] at h
  exact absurd h (by decide)
theorem dec_not_nought {m : Nat} (h : 1 ≤ m) : (Lib.decDigits m == [48]) = false := by
  obtain ⟨c, r, e, hc⟩ := dec_head h
  rw [e, beq_eq_false_iff_ne]; intro e2
  exact hc (List.cons.inj e2).1
/-- What is written is read back. -/
theorem read_show {n : Int} (hn : Rng n) : readV (showL n) = n ∧ readE (showL n) = 0 := by
  have key : ∀ (l : List UInt8) (neg : Bool) (m : Nat), cutRest l = Lib.decDigits m → cutNeg l = neg → sgB (m : Int) neg = n → (neg = true → 1 ≤ m) → readV l = n ∧ readE l = 0 := by
    intro l neg m h1 h2 h3 h4
    have hok : readOk l = true := by
      unfold readOk
      rw [h1, h2, dec_wr]
      cases neg
      · rfl
      · rw [dec_not_nought (h4 rfl)]; rfl
    obtain ⟨e1, e2⟩ := read_good hok
    rw [e1, e2, h1, h2, dec_val, h3]
    exact ⟨fitV_ok hn, errV_ok hn⟩
  by_cases h : n < 0
  · rw [show_neg h]
    refine key _ true (absN n).toNat rfl rfl ?_ ?_
    · unfold absN; rw [if_pos h]; unfold sgB; simp; omega
    · intro _; unfold absN; rw [if_pos h]; omega
  · rw [show_pos h]
    refine key _ false (absN n).toNat ?_ (dec_no_sign _) ?_ (fun h => by cases h)
    · unfold cutRest; rw [dec_no_sign]; rfl
    · unfold absN; rw [if_neg h]; unfold sgB; simp; omega
/-- A written text is the text of its number. -/
theorem wr_dec : ∀ (k : Nat) (d : List UInt8), d.length = k + 1 → isWr d = true → Lib.decDigits (valD 0 d).toNat = d
  | 0, d, hl, hw => by
    match d, hl with
    | [c], _ =>
      have hc := dig_bd (isWr_all hw c (List.mem_singleton.2 rfl))
      have e : valD 0 [c] = ((c.toNat - 48 : Nat) : Int) := by simp only [valD]; omega
      rw [e, Int.toNat_natCast, Lib.decDigits_one (by omega)]
      have e2 : 48 + (c.toNat - 48) = c.toNat := by omega
      rw [e2, UInt8.ofNat_toNat]
  | k + 1, d, hl, hw => by
    obtain ⟨d', c, rfl⟩ : ∃ d' c, d = d' ++ [c] := ⟨d.dropLast, d.getLast (by intro e; rw [e] at hl; simp at hl), (List.dropLast_concat_getLast _).symm⟩
    have hl' : d'.length = k + 1 := by simpa using hl
    have ha := isWr_all hw
    have hc := dig_bd (ha c (by simp))
    have ha' : ∀ x ∈ d', isDig x = true := fun x hx => ha x (List.mem_append_left _ hx)
    match d', hl', ha', hw with
    | a :: r, hl', ha', hw =>
      have h48 : a ≠ 48 := by
        intro e; subst e
        simp [isWr] at hw
      have hw' : isWr (a :: r) = true := by
        simp only [isWr, Bool.and_eq_true, List.all_eq_true]
        exact ⟨by simp [h48], ha'⟩
      have ih := wr_dec k (a :: r) hl' hw'
      have hb := (valD_bd (a :: r) ha').1
      have h1 : 1 ≤ valD 0 (a :: r) := by
        have h2 := valD_mono (n := 0 * 10 + ((a.toNat : Int) - 48)) r (fun x hx => ha' x (List.mem_cons_of_mem _ hx))
        have h3 := dig_bd (ha' a (List.mem_cons_self ..))
        have h4 : a.toNat ≠ 48 := fun e => h48 (UInt8.toNat.inj e)
        have p1 : 1 ≤ ((10 ^ r.length : Nat) : Int) := by have : 0 < 10 ^ r.length := Nat.pow_pos (by decide); omega
        have h5 : (0 * 10 + ((a.toNat : Int) - 48)) * 1 ≤ (0 * 10 + ((a.toNat : Int) - 48)) * ((10 ^ r.length : Nat) : Int) := Int.mul_le_mul_of_nonneg_left p1 (by omega)
        show 1 ≤ valD (0 * 10 + ((a.toNat : Int) - 48)) r
        omega
      have e : valD 0 (a :: r ++ [c]) = valD 0 (a :: r) * 10 + ((c.toNat : Int) - 48) := by rw [valD_append]; rfl
      rw [e]
      generalize valD 0 (a :: r) = v at *
      obtain ⟨v, rfl⟩ := Int.eq_ofNat_of_zero_le hb
      rw [Int.toNat_natCast] at ih
      have e2 : ((v : Int) * 10 + ((c.toNat : Int) - 48)).toNat = v * 10 + (c.toNat - 48) := by omega
      rw [e2, dec_step (by omega)]
      have e3 : (v * 10 + (c.toNat - 48)) / 10 = v := by omega
      have e4 : 48 + (v * 10 + (c.toNat - 48)) % 10 = c.toNat := by omega
      rw [e3, e4, ih, UInt8.ofNat_toNat]
/-- What is read is written so. -/
theorem show_read {l : List UInt8} (h : readE l = 0) : Rng (readV l) ∧ showL (readV l) = l := by
  by_cases hok : readOk l = true
  · obtain ⟨e1, e2⟩ := read_good hok
    rw [e2] at h
    have hR : Rng (sgB (valD 0 (cutRest l)) (cutNeg l)) := by
      refine Classical.not_not.1 fun hR => ?_
      rw [errV_no hR] at h
      exact absurd h (by decide)
    rw [e1, fitV_ok hR]
    refine ⟨hR, ?_⟩
    have hw : isWr (cutRest l) = true := by unfold readOk at hok; rw [Bool.and_eq_true] at hok; exact hok.1
    have hn : (cutNeg l && (cutRest l == [48])) = false := by unfold readOk at hok; rw [Bool.and_eq_true, Bool.not_eq_true'] at hok; exact hok.2
    have hne : cutRest l ≠ [] := by intro e; rw [e] at hw; exact absurd hw (by decide)
    have hl0 : (cutRest l).length ≠ 0 := by simpa using hne
    obtain ⟨k, hk⟩ : ∃ k, (cutRest l).length = k + 1 := ⟨(cutRest l).length - 1, by omega⟩
    have hd := wr_dec k _ hk hw
    have hb := (valD_bd _ (isWr_all hw)).1
    cases hg : cutNeg l
    · have hcr : cutRest l = l := by unfold cutRest; rw [hg]; rfl
      show showL (valD 0 (cutRest l)) = l
      rw [show_pos (by omega)]
      unfold absN; rw [if_neg (by omega), hd, hcr]
    · rw [hg] at hn
      have hz : (cutRest l == [48]) = false := by simpa using hn
      have hpos : valD 0 (cutRest l) ≠ 0 := by
        intro e
        rw [e] at hd
        have : cutRest l = [48] := by rw [← hd]; exact Lib.decDigits_one (by decide)
        rw [this] at hz; exact absurd hz (by decide)
      have hlt : -(valD 0 (cutRest l)) < 0 := by omega
      have hl : l = 45 :: cutRest l := by
        match l, hg with
        | c :: r, hg =>
          have hc : c = 45 := by simpa [cutNeg] using hg
          subst hc
          have : cutRest (45 :: r) = r := rfl
          rw [this]
      show showL (-(valD 0 (cutRest l))) = l
      rw [show_neg hlt]
      unfold absN; rw [if_pos hlt, Int.neg_neg, hd]
      exact hl.symm
  · have hb := read_bad (show readOk l = false by simpa using hok)
    rw [hb.2] at h; exact absurd h (by decide)
theorem read_err {l : List UInt8} (h : readE l ≠ 0) : (readE l = 1 ∨ readE l = 10) ∧ readV l = 0 := by
  by_cases hok : readOk l = true
  · obtain ⟨e1, e2⟩ := read_good hok
    by_cases hR : Rng (sgB (valD 0 (cutRest l)) (cutNeg l))
    · rw [e2, errV_ok hR] at h; exact absurd rfl h
    · rw [e1, e2, errV_no hR, fitV_no hR]; exact ⟨.inr rfl, rfl⟩
  · have hb := read_bad (show readOk l = false by simpa using hok)
    rw [hb.1, hb.2]; exact ⟨.inl rfl, rfl⟩
end Go.Proofs.Ytffhbfdbahdhoab.Wd
