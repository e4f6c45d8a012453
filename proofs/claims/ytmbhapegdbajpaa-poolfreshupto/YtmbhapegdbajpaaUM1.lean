/- WHAT A WINDOW SEES, JOINED BY OR AND BY AND: plain mathematics. -/
import Derived.Test.YtmbhapegdbajpaaKM1
namespace Go.Proofs.Ytmbhapegdbajpaa

/-- Two numbers joined: by and (al), or by or. -/
def jo (al : Bool) (A B : Nat) : Nat := if al then A &&& B else A ||| B
def bj (al a b : Bool) : Bool := if al then a && b else a || b
theorem jo_bit (al : Bool) (A B i : Nat) : (jo al A B).testBit i = bj al (A.testBit i) (B.testBit i) := by
  cases al <;> simp [jo, bj]
theorem wd_jo (al : Bool) (A B k : Nat) : wd (jo al A B) k = jo al (wd A k) (wd B k) := by
  cases al
  · exact wd_or A B k
  · exact wd_and A B k
theorem jo_lt {al : Bool} {A B n : Nat} (hA : A < 2 ^ n) (hB : B < 2 ^ n) : jo al A B < 2 ^ n := by
  cases al
  · exact Nat.or_lt_two_pow hA hB
  · exact Nat.lt_of_le_of_lt Nat.and_le_left hA
/-- All, or one, of n. -/
def qs (al : Bool) (f : Nat → Bool) : Nat → Bool
  | 0 => al
  | n + 1 => bj al (qs al f n) (f n)
theorem qs_one (al : Bool) (f : Nat → Bool) : qs al f 1 = f 0 := by cases al <;> simp [qs, bj]
theorem qs_true (f : Nat → Bool) : ∀ n, qs true f n = true ↔ ∀ i, i < n → f i = true
  | 0 => by simp [qs]
  | n + 1 => by
    simp only [qs, bj, if_true, Bool.and_eq_true]
    rw [qs_true f n]
    constructor
    · rintro ⟨h1, h2⟩ i hi
      by_cases e : i = n
      · subst e; exact h2
      · exact h1 i (by omega)
    · intro h
      exact ⟨fun i hi => h i (by omega), h n (by omega)⟩
theorem qs_false (f : Nat → Bool) : ∀ n, qs false f n = true ↔ ∃ i, i < n ∧ f i = true
  | 0 => by simp [qs]
  | n + 1 => by
    simp only [qs, bj, Bool.or_eq_true, Bool.false_eq_true, if_false]
    rw [qs_false f n]
    constructor
    · rintro (⟨i, h1, h2⟩ | h)
      · exact ⟨i, by omega, h2⟩
      · exact ⟨n, by omega, h⟩
    · rintro ⟨i, h1, h2⟩
      by_cases e : i = n
      · subst e; exact .inr h2
      · exact .inl ⟨i, by omega, h2⟩
theorem qs_congr {al : Bool} {f g : Nat → Bool} : ∀ n, (∀ i, i < n → f i = g i) → qs al f n = qs al g n
  | 0, _ => rfl
  | n + 1, h => by simp only [qs]; rw [qs_congr n (fun i hi => h i (by omega)), h n (by omega)]
/-- Runs of s words joined: those from a on, and n more. -/
def jr (al : Bool) (N s a : Nat) : Nat → Nat
  | 0 => pl N s a
  | n + 1 => jo al (jr al N s a n) (pl N s (a + (n + 1)))
theorem jr_lt (al : Bool) (N s a : Nat) : ∀ n, jr al N s a n < 2 ^ (64 * s)
  | 0 => pl_lt _ _ _
  | n + 1 => jo_lt (jr_lt al N s a n) (pl_lt _ _ _)
theorem jr_bit (al : Bool) (N s a b : Nat) (hb : b < 64 * s) : ∀ n, (jr al N s a n).testBit b = qs al (fun i => N.testBit (64 * ((a + i) * s) + b)) (n + 1)
  | 0 => by rw [qs_one]; show (pl N s a).testBit b = _; rw [pl_bit]; simp [hb]
  | n + 1 => by
    show (jo al (jr al N s a n) (pl N s (a + (n + 1)))).testBit b = bj al (qs al _ (n + 1)) _
    rw [jo_bit, jr_bit al N s a b hb n, pl_bit]
    simp [hb]
/-- A run, word by word, while it is joined on. -/
def jw (al : Bool) (N s a n i k : Nat) : Nat := if k < i then wd (jr al N s a (n + 1)) k else wd (jr al N s a n) k
theorem jw_zero (al : Bool) (N s a n k : Nat) : jw al N s a n 0 k = wd (jr al N s a n) k := by simp [jw]
theorem jw_all {al : Bool} {N s a n k : Nat} (hk : k < s) : jw al N s a n s k = wd (jr al N s a (n + 1)) k := by simp [jw, hk]
theorem jw_lt (al : Bool) (N s a n i k : Nat) : jw al N s a n i k < 18446744073709551616 := by unfold jw; split <;> exact wd_lt _ _
theorem jw_step {al : Bool} {N s a n i : Nat} (hi : i < s) (j : Nat) : (if j = i then jo al (jw al N s a n i i) (wd N ((a + (n + 1)) * s + i)) else jw al N s a n i j) = jw al N s a n (i + 1) j := by
  by_cases e : j = i
  · subst e
    rw [if_pos rfl]
    unfold jw
    rw [if_neg (Nat.lt_irrefl _), if_pos (Nat.lt_succ_self _)]
    show _ = wd (jo al (jr al N s a n) (pl N s (a + (n + 1)))) j
    rw [wd_jo, pl_wd hi]
  · rw [if_neg e]
    unfold jw
    by_cases h : j < i
    · rw [if_pos h, if_pos (by omega)]
    · rw [if_neg h, if_neg (by omega)]
/-- What a window sees at a place, joined: its rows first, then its columns. -/
def jp (al : Bool) (N V d R S sy sx y x : Nat) : Nat := jr al (jr al N (V * d) (y * sy) (R - 1)) d (x * sx) (S - 1)
theorem jp_lt (al : Bool) (N V d R S sy sx y x : Nat) : jp al N V d R S sy sx y x < 2 ^ (64 * d) := jr_lt _ _ _ _ _
/-- A bit of a place of V places a row. -/
def pbt (N V d y x b : Nat) : Bool := N.testBit (64 * ((y * V + x) * d) + b)
theorem jp_bit {al : Bool} {N V d R S sy sx y x b : Nat} (hb : b < 64 * d) (hR : 0 < R) (hS : 0 < S) (hx : x * sx + S ≤ V) :
    (jp al N V d R S sy sx y x).testBit b = qs al (fun j => qs al (fun i => pbt N V d (y * sy + i) (x * sx + j) b) R) S := by
  unfold jp
  rw [jr_bit _ _ _ _ _ hb, Nat.sub_add_cancel hS]
  refine qs_congr _ fun j hj => ?_
  have h1 : (x * sx + j + 1) * d ≤ V * d := Nat.mul_le_mul_right _ (by omega)
  rw [Nat.succ_mul] at h1
  rw [jr_bit _ _ _ _ _ (by omega), Nat.sub_add_cancel hR]
  refine qs_congr _ fun i hi => ?_
  unfold pbt
  congr 1
  rw [Nat.add_mul ((y * sy + i) * V), Nat.mul_assoc (y * sy + i)]
  omega
/-- All places of what the window gives. -/
def poN (al : Bool) (N V d R S sy sx OW P : Nat) : Nat := js (64 * d) (fun p => jp al N V d R S sy sx (p / OW) (p % OW)) P
theorem poN_lt (al : Bool) (N V d R S sy sx OW P : Nat) : poN al N V d R S sy sx OW P < 2 ^ (64 * (P * d)) := by
  have := js_lt (s := 64 * d) (P := fun p => jp al N V d R S sy sx (p / OW) (p % OW)) (n := P) (fun i _ => jp_lt _ _ _ _ _ _ _ _ _ _)
  rwa [show P * (64 * d) = 64 * (P * d) by rw [Nat.mul_left_comm]] at this
theorem poN_pl {al : Bool} {N V d R S sy sx OW P p : Nat} (hp : p < P) : pl (poN al N V d R S sy sx OW P) d p = jp al N V d R S sy sx (p / OW) (p % OW) :=
  js_pl (fun _ _ => jp_lt _ _ _ _ _ _ _ _ _ _) hp
theorem at_div {OW y x : Nat} (hx : x < OW) : (y * OW + x) / OW = y ∧ (y * OW + x) % OW = x := by
  have h0 : 0 < OW := by omega
  constructor
  · rw [Nat.mul_comm, Nat.mul_add_div h0, Nat.div_eq_of_lt hx]; omega
  · rw [Nat.mul_comm, Nat.mul_add_mod, Nat.mod_eq_of_lt hx]
theorem poN_bit {al : Bool} {N V d R S sy sx OH OW y x b : Nat} (hb : b < 64 * d) (hR : 0 < R) (hS : 0 < S) (hy : y < OH) (hx : x < OW) (hV : x * sx + S ≤ V) :
    pbt (poN al N V d R S sy sx OW (OH * OW)) OW d y x b = qs al (fun j => qs al (fun i => pbt N V d (y * sy + i) (x * sx + j) b) R) S := by
  have hp : y * OW + x < OH * OW := by
    have : (y + 1) * OW ≤ OH * OW := Nat.mul_le_mul_right _ hy
    rw [Nat.succ_mul] at this; omega
  have e := pl_bit (poN al N V d R S sy sx OW (OH * OW)) d (y * OW + x) b
  rw [poN_pl hp, (at_div hx).1, (at_div hx).2, jp_bit hb hR hS hV] at e
  simp only [hb, decide_true, Bool.true_and] at e
  exact e.symm
/-- Nothing behind the channels. -/
theorem jr_lt2 {al : Bool} {N s a c : Nat} : ∀ n, (∀ i, i ≤ n → pl N s (a + i) < 2 ^ c) → jr al N s a n < 2 ^ c
  | 0, h => h 0 (Nat.le_refl _)
  | n + 1, h => jo_lt (jr_lt2 n fun i hi => h i (by omega)) (h (n + 1) (Nat.le_refl _))
theorem jp_c {al : Bool} {N V d R S sy sx y x c H : Nat} (hN : ∀ p, p < H * V → pl N d p < 2 ^ c) (hR : 0 < R) (hS : 0 < S) (hy : y * sy + R ≤ H) (hx : x * sx + S ≤ V) : jp al N V d R S sy sx y x < 2 ^ c := by
  refine Nat.lt_pow_two_of_testBit _ fun b hb => ?_
  by_cases h : b < 64 * d
  · rw [jp_bit h hR hS hx]
    have hz : ∀ j, j < S → ∀ i, i < R → pbt N V d (y * sy + i) (x * sx + j) b = false := by
      intro j hj i hi
      have hp : (y * sy + i) * V + (x * sx + j) < H * V := by
        have : (y * sy + i + 1) * V ≤ H * V := Nat.mul_le_mul_right _ (by omega)
        rw [Nat.succ_mul] at this; omega
      have e := pl_bit N d ((y * sy + i) * V + (x * sx + j)) b
      rw [bit_above (hN _ hp) hb] at e
      simpa [h, pbt] using e.symm
    rw [Bool.eq_false_iff]
    intro hq
    cases al
    · obtain ⟨j, hj, hq⟩ := (qs_false _ _).1 hq
      obtain ⟨i, hi, hq⟩ := (qs_false _ _).1 hq
      rw [hz j hj i hi] at hq; cases hq
    · have hq := (qs_true _ _).1 ((qs_true _ _).1 hq 0 hS) 0 hR
      rw [hz 0 hS 0 hR] at hq; cases hq
  · exact bit_above (jp_lt _ _ _ _ _ _ _ _ _ _) (by omega)
end Go.Proofs.Ytmbhapegdbajpaa
