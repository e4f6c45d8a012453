/- THE SUM OF BYTES (CRC-32): plain mathematics. -/
import Derived.Test.YtbpglkhgggokcaaDoorProg
namespace Go.Proofs.YtbpglkhgggokcaaDoor

/-- One bit is taken in. -/
def cs1 (r : Nat) : Nat := if r % 2 = 1 then r / 2 ^^^ 3988292384 else r / 2
theorem cs1_lt {r : Nat} (h : r < 4294967296) : cs1 r < 4294967296 := by
  unfold cs1
  by_cases e : r % 2 = 1
  · rw [if_pos e]
    exact Nat.xor_lt_two_pow (n := 32) (by omega) (by decide)
  · rw [if_neg e]; omega
theorem cs1_xor (a b : Nat) : cs1 (a ^^^ b) = cs1 a ^^^ cs1 b := by
  have hd : (a ^^^ b) / 2 = a / 2 ^^^ b / 2 := Nat.xor_div_two
  have hm : (a ^^^ b) % 2 = 1 ↔ ¬ (a % 2 = 1 ↔ b % 2 = 1) := Nat.xor_mod_two_eq_one
  have xs : ∀ x y p : Nat, (x ^^^ p) ^^^ (y ^^^ p) = x ^^^ y := fun x y p => by
    rw [Nat.xor_comm y p, Nat.xor_assoc, ← Nat.xor_assoc p p y, Nat.xor_self, Nat.zero_xor]
  unfold cs1
  by_cases ha : a % 2 = 1 <;> by_cases hb : b % 2 = 1
  · rw [if_pos ha, if_pos hb, if_neg (fun k => (hm.1 k) ⟨fun _ => hb, fun _ => ha⟩), hd, xs]
  · rw [if_pos ha, if_neg hb, if_pos (hm.2 fun k => hb (k.1 ha)), hd, Nat.xor_assoc, Nat.xor_assoc, Nat.xor_comm (b / 2)]
  · rw [if_neg ha, if_pos hb, if_pos (hm.2 fun k => ha (k.2 hb)), hd, Nat.xor_assoc]
  · rw [if_neg ha, if_neg hb, if_neg (fun k => (hm.1 k) ⟨fun x => absurd x ha, fun x => absurd x hb⟩), hd]
theorem cs1_zero {r : Nat} (h : r < 4294967296) (e : cs1 r = 0) : r = 0 := by
  unfold cs1 at e
  by_cases o : r % 2 = 1
  · rw [if_pos o] at e
    have e2 : r / 2 = 3988292384 := by
      have h2 : (r / 2 ^^^ 3988292384) ^^^ 3988292384 = 0 ^^^ 3988292384 := by rw [e]
      rw [Nat.xor_assoc, Nat.xor_self, Nat.xor_zero, Nat.zero_xor] at h2
      exact h2
    omega
  · rw [if_neg o] at e; omega
/-- n bits. -/
def csn : Nat → Nat → Nat
  | 0, r => r
  | n + 1, r => csn n (cs1 r)
theorem csn_lt {r : Nat} (n : Nat) (h : r < 4294967296) : csn n r < 4294967296 := by
  induction n generalizing r with
  | zero => exact h
  | succ n ih => exact ih (cs1_lt h)
theorem csn_xor (n a b : Nat) : csn n (a ^^^ b) = csn n a ^^^ csn n b := by
  induction n generalizing a b with
  | zero => rfl
  | succ n ih => simp only [csn, cs1_xor, ih]
theorem csn_zero {r : Nat} (n : Nat) (h : r < 4294967296) (e : csn n r = 0) : r = 0 := by
  induction n generalizing r with
  | zero => exact e
  | succ n ih => exact cs1_zero h (ih (cs1_lt h) e)
theorem csn_add (m n r : Nat) : csn (m + n) r = csn n (csn m r) := by
  induction m generalizing r with
  | zero => simp [csn]
  | succ m ih => rw [show m + 1 + n = (m + n) + 1 by omega]; simp only [csn]; exact ih _
theorem csn_even (n q : Nat) : csn n (2 ^ n * q) = q := by
  induction n with
  | zero => simp [csn]
  | succ n ih =>
    have e : cs1 (2 ^ (n + 1) * q) = 2 ^ n * q := by
      have h2 : 2 ^ (n + 1) * q = 2 * (2 ^ n * q) := by rw [Nat.pow_succ, Nat.mul_comm (2 ^ n) 2, Nat.mul_assoc]
      unfold cs1
      rw [h2, if_neg (by omega)]
      omega
    simp only [csn, e, ih]
theorem xor_low {n q i : Nat} (h : i < 2 ^ n) : 2 ^ n * q + i = 2 ^ n * q ^^^ i := by
  refine Nat.eq_of_testBit_eq fun j => ?_
  rw [Nat.testBit_two_pow_mul_add q h j, Nat.testBit_xor, Nat.testBit_two_pow_mul]
  by_cases hj : j < n
  · rw [if_pos hj]
    simp [show ¬ n ≤ j by omega]
  · rw [if_neg hj]
    have h1 : i.testBit j = false := Nat.testBit_lt_two_pow (Nat.lt_of_lt_of_le h (Nat.pow_le_pow_right (by decide) (by omega)))
    simp [h1, show n ≤ j by omega]
/-- n bits at once, by a table of 2^n numbers. -/
theorem csn_table (n r : Nat) : csn n r = r / 2 ^ n ^^^ csn n (r % 2 ^ n) := by
  have h2 : r % 2 ^ n < 2 ^ n := Nat.mod_lt _ (Nat.pow_pos (by decide))
  have h3 := Nat.div_add_mod r (2 ^ n)
  rw [xor_low h2] at h3
  have h4 : csn n r = csn n (2 ^ n * (r / 2 ^ n) ^^^ r % 2 ^ n) := by rw [h3]
  rw [h4, csn_xor, csn_even]
/-- A byte is taken in. -/
def cb (r b : Nat) : Nat := csn 8 (r ^^^ b)
/-- Bytes are taken in. -/
def cr (r : Nat) (l : List Nat) : Nat := l.foldl cb r
/-- The sum of bytes. -/
def crc (l : List Nat) : Nat := 4294967295 - cr 4294967295 l
theorem cb_lt {r b : Nat} (h : r < 4294967296) (hb : b < 4294967296) : cb r b < 4294967296 := csn_lt 8 (Nat.xor_lt_two_pow (n := 32) h hb)
theorem cr_app (r : Nat) (l m : List Nat) : cr r (l ++ m) = cr (cr r l) m := List.foldl_append
theorem cr_cons (r b : Nat) (l : List Nat) : cr r (b :: l) = cr (cb r b) l := rfl
theorem cr_lt {r : Nat} {l : List Nat} (h : r < 4294967296) (hl : ∀ b ∈ l, b < 256) : cr r l < 4294967296 := by
  induction l generalizing r with
  | nil => exact h
  | cons b l ih => exact ih (cb_lt h (by have := hl b (List.mem_cons_self ..); omega)) fun x hx => hl x (List.mem_cons_of_mem _ hx)
/-- Half a byte twice, by a table of sixteen. -/
theorem cb_half (r b : Nat) : cb r b = csn 4 (csn 4 (r ^^^ b)) := csn_add 4 4 _
theorem csn4_table (r : Nat) : csn 4 r = r / 16 ^^^ csn 4 (r % 16) := csn_table 4 r
theorem cb_table (r b : Nat) : cb r b = (r ^^^ b) / 256 ^^^ csn 8 ((r ^^^ b) % 256) := csn_table 8 _
theorem cb_xor (r s a b : Nat) : cb (r ^^^ s) (a ^^^ b) = cb r a ^^^ cb s b := by
  unfold cb
  rw [← csn_xor]
  congr 1
  rw [Nat.xor_assoc, Nat.xor_assoc, ← Nat.xor_assoc s a b, Nat.xor_comm s a, Nat.xor_assoc a s b]
/-- THE SUM IS LINEAR: registers and bytes, of two rows of one length. -/
theorem cr_xor : ∀ (l m : List Nat) (r s : Nat), l.length = m.length → cr (r ^^^ s) (List.zipWith (· ^^^ ·) l m) = cr r l ^^^ cr s m
  | [], [], r, s, _ => rfl
  | a :: l, b :: m, r, s, h => by
    simp only [List.zipWith_cons_cons, cr_cons, cb_xor]
    exact cr_xor l m _ _ (by simpa using h)
/-- What differs in the register differs to the end. -/
theorem cr_inj {r s : Nat} (hr : r < 4294967296) (hs : s < 4294967296) : ∀ (l : List Nat), (∀ b ∈ l, b < 256) → cr r l = cr s l → r = s
  | [], _, h => h
  | b :: l, hl, h => by
    have hb : b < 4294967296 := by have := hl b (List.mem_cons_self ..); omega
    have h1 := cr_inj (cb_lt hr hb) (cb_lt hs hb) l (fun x hx => hl x (List.mem_cons_of_mem _ hx)) h
    have h2 : cb r b ^^^ cb s b = 0 := by rw [h1, Nat.xor_self]
    rw [← cb_xor, Nat.xor_self] at h2
    unfold cb at h2
    rw [Nat.xor_zero] at h2
    have h3 := csn_zero 8 (Nat.xor_lt_two_pow (n := 32) hr hs) h2
    have h4 : (r ^^^ s) ^^^ s = 0 ^^^ s := by rw [h3]
    rw [Nat.xor_assoc, Nat.xor_self, Nat.xor_zero, Nat.zero_xor] at h4
    exact h4
theorem cb_inj {r a b : Nat} (ha : a < 256) (hb : b < 256) (h : cb r a = cb r b) : a = b := by
  have h2 : cb r a ^^^ cb r b = 0 := by rw [h, Nat.xor_self]
  rw [← cb_xor, Nat.xor_self] at h2
  unfold cb at h2
  rw [Nat.zero_xor] at h2
  have h3 := csn_zero 8 (Nat.xor_lt_two_pow (n := 32) (show a < 2 ^ 32 by omega) (show b < 2 ^ 32 by omega)) h2
  have h4 : (a ^^^ b) ^^^ b = 0 ^^^ b := by rw [h3]
  rw [Nat.xor_assoc, Nat.xor_self, Nat.xor_zero, Nat.zero_xor] at h4
  exact h4
theorem crc_eq {l m : List Nat} (hl : ∀ b ∈ l, b < 256) (hm : ∀ b ∈ m, b < 256) (h : crc l = crc m) : cr 4294967295 l = cr 4294967295 m := by
  have h1 := cr_lt (r := 4294967295) (by decide) hl
  have h2 := cr_lt (r := 4294967295) (by decide) hm
  unfold crc at h
  omega
/-- ONE BYTE THAT IS ANOTHER ONE is told. -/
theorem crc_byte {l m : List Nat} {a b : Nat} (hl : ∀ x ∈ l, x < 256) (hm : ∀ x ∈ m, x < 256) (ha : a < 256) (hb : b < 256) (h : crc (l ++ a :: m) = crc (l ++ b :: m)) : a = b := by
  have ok : ∀ c, c < 256 → ∀ x ∈ l ++ c :: m, x < 256 := fun c hc x hx => by
    rcases List.mem_append.1 hx with hx | hx
    · exact hl x hx
    · rcases List.mem_cons.1 hx with rfl | hx
      · exact hc
      · exact hm x hx
  have h1 := crc_eq (ok a ha) (ok b hb) h
  rw [cr_app, cr_app, cr_cons, cr_cons] at h1
  have hr := cr_lt (r := 4294967295) (by decide) hl
  exact cb_inj ha hb (cr_inj (cb_lt hr (by omega)) (cb_lt hr (by omega)) m hm h1)
/-- No byte is what it makes of an empty register. -/
theorem cb_free : ∀ d, d < 256 → d ≠ 0 → cb 0 d ≠ d := by decide +kernel
/-- TWO NEIGHBOURS EXCHANGED are told. -/
theorem crc_swap {l m : List Nat} {a b : Nat} (hl : ∀ x ∈ l, x < 256) (hm : ∀ x ∈ m, x < 256) (ha : a < 256) (hb : b < 256) (h : crc (l ++ a :: b :: m) = crc (l ++ b :: a :: m)) : a = b := by
  have ok : ∀ c d, c < 256 → d < 256 → ∀ x ∈ l ++ c :: d :: m, x < 256 := fun c d hc hd x hx => by
    rcases List.mem_append.1 hx with hx | hx
    · exact hl x hx
    · rcases List.mem_cons.1 hx with rfl | hx
      · exact hc
      · rcases List.mem_cons.1 hx with rfl | hx
        · exact hd
        · exact hm x hx
  have h1 := crc_eq (ok a b ha hb) (ok b a hb ha) h
  rw [cr_app, cr_app, cr_cons, cr_cons, cr_cons, cr_cons] at h1
  have hr := cr_lt (r := 4294967295) (by decide) hl
  have h2 := cr_inj (cb_lt (cb_lt hr (by omega)) (by omega)) (cb_lt (cb_lt hr (by omega)) (by omega)) m hm h1
  have h3 : cb (cb (cr 4294967295 l) a) b ^^^ cb (cb (cr 4294967295 l) b) a = 0 := by rw [h2, Nat.xor_self]
  rw [← cb_xor, ← cb_xor, Nat.xor_self] at h3
  have hd : a ^^^ b < 256 := Nat.xor_lt_two_pow (n := 8) ha hb
  rw [Nat.xor_comm b a] at h3
  generalize hg : a ^^^ b = d at h3 hd
  have h4 : cb 0 d ^^^ d = 0 := by
    have h5 : cb 0 d < 4294967296 := cb_lt (by decide) (by omega)
    exact csn_zero 8 (Nat.xor_lt_two_pow (n := 32) h5 (show d < 2 ^ 32 by omega)) h3
  have h6 : cb 0 d = d := by
    have h7 : (cb 0 d ^^^ d) ^^^ d = 0 ^^^ d := by rw [h4]
    rw [Nat.xor_assoc, Nat.xor_self, Nat.xor_zero, Nat.zero_xor] at h7
    exact h7
  have h8 : d = 0 := Classical.byContradiction fun hn => cb_free d hd hn h6
  rw [h8] at hg
  have h9 : (a ^^^ b) ^^^ b = 0 ^^^ b := by rw [hg]
  rw [Nat.xor_assoc, Nat.xor_self, Nat.xor_zero, Nat.zero_xor] at h9
  exact h9
theorem not_xor {x : Nat} (h : x < 4294967296) : 4294967295 - x = x ^^^ 4294967295 := by
  have h1 : x ^^^ 4294967295 < 4294967296 := Nat.xor_lt_two_pow (n := 32) h (by decide)
  refine Nat.eq_of_testBit_eq fun j => ?_
  rw [Nat.testBit_xor]
  have e : (4294967295 : Nat) = 2 ^ 32 - 1 := by decide
  rw [e, show 2 ^ 32 - 1 - x = 2 ^ 32 - (x + 1) by omega, Nat.testBit_two_pow_sub_succ h, Nat.testBit_two_pow_sub_one]
  by_cases hj : j < 32
  · simp [hj]
  · have h2 : x.testBit j = false := Nat.testBit_lt_two_pow (Nat.lt_of_lt_of_le h (by rw [show 4294967296 = 2 ^ 32 by decide]; exact Nat.pow_le_pow_right (by decide) (by omega)))
    simp [hj, h2]
/-- BITS THAT ARE TURNED turn the sum alike, whatever the rest. -/
theorem crc_turn {l m : List Nat} (hl : ∀ b ∈ l, b < 256) (hm : ∀ b ∈ m, b < 256) (h : l.length = m.length) :
    crc l ^^^ crc m = cr 0 (List.zipWith (· ^^^ ·) l m) := by
  have h1 := cr_lt (r := 4294967295) (by decide) hl
  have h2 := cr_lt (r := 4294967295) (by decide) hm
  unfold crc
  rw [not_xor h1, not_xor h2]
  have e := cr_xor l m 4294967295 4294967295 h
  rw [Nat.xor_self] at e
  rw [e, Nat.xor_comm (cr 4294967295 m), Nat.xor_assoc, ← Nat.xor_assoc 4294967295 4294967295, Nat.xor_self, Nat.zero_xor]
end Go.Proofs.YtbpglkhgggokcaaDoor
