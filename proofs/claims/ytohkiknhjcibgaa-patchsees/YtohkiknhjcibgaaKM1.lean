/- PLACES OF A PACKED TENSOR, AS NUMBERS: plain mathematics. -/
import Derived.Test.YtohkiknhjcibgaaBM7
namespace Go.Proofs.Ytohkiknhjcibgaa

/-- The words of the i-th place of d words each. -/
def pl (N d i : Nat) : Nat := N / 2 ^ (64 * (i * d)) % 2 ^ (64 * d)
theorem pl_lt (N d i : Nat) : pl N d i < 2 ^ (64 * d) := Nat.mod_lt _ (Nat.two_pow_pos _)
theorem pl_bit (N d i b : Nat) : (pl N d i).testBit b = (decide (b < 64 * d) && N.testBit (64 * (i * d) + b)) := by
  unfold pl
  rw [Nat.testBit_mod_two_pow, Nat.testBit_div_two_pow]
  congr 2; omega
theorem pl_wd {N d i k : Nat} (hk : k < d) : wd (pl N d i) k = wd N (i * d + k) := by
  refine wd_ext (wd_lt _ _) (wd_lt _ _) fun j hj => ?_
  rw [wd_bit, wd_bit, pl_bit]
  have h1 : 64 * k + j < 64 * d := by omega
  have h2 : 64 * (i * d) + (64 * k + j) = 64 * (i * d + k) + j := by omega
  simp [h1, h2]
/-- Numbers of s bits each, behind one another. -/
def js (s : Nat) (P : Nat → Nat) (n : Nat) : Nat := jn (fun _ => s) P n
theorem off_const (s : Nat) : ∀ n, off (fun _ => s) n = n * s
  | 0 => by simp [off]
  | n + 1 => by simp only [off]; rw [off_const s n, Nat.succ_mul]
theorem js_succ (s : Nat) (P : Nat → Nat) (n : Nat) : js s P (n + 1) = js s P n ||| P n * 2 ^ (n * s) := by
  unfold js; simp only [jn]; rw [off_const]
theorem js_lt {s : Nat} {P : Nat → Nat} {n : Nat} (h : ∀ i, i < n → P i < 2 ^ s) : js s P n < 2 ^ (n * s) := by
  have := jn_lt (n := fun _ => s) (N := P) n h
  rwa [off_const] at this
theorem js_congr {s : Nat} {P R : Nat → Nat} : ∀ n, (∀ i, i < n → P i = R i) → js s P n = js s R n
  | 0, _ => rfl
  | n + 1, h => by rw [js_succ, js_succ, js_congr n (fun i hi => h i (by omega)), h n (by omega)]
theorem js_bit {s : Nat} (hs : 0 < s) {P : Nat → Nat} : ∀ n, (∀ i, i < n → P i < 2 ^ s) → ∀ j, (js s P n).testBit j = (decide (j < n * s) && (P (j / s)).testBit (j % s))
  | 0, _, j => by simp [js, jn]
  | n + 1, h, j => by
    rw [js_succ, Nat.testBit_or, js_bit hs n (fun i hi => h i (by omega)) j, mul_bit]
    have e3 : (n + 1) * s = n * s + s := Nat.succ_mul _ _
    by_cases h1 : j < n * s
    · have h2 : ¬ n * s ≤ j := by omega
      have h3 : j < (n + 1) * s := by omega
      simp [h1, h2, h3]
    · have h2 : n * s ≤ j := by omega
      by_cases h3 : j < (n + 1) * s
      · have hq : j / s = n := by
          refine Nat.div_eq_of_lt_le ?_ ?_ <;> omega
        have hr : j % s = j - n * s := by
          have := Nat.mod_add_div j s
          rw [hq, Nat.mul_comm s n] at this
          omega
        simp [h1, h2, h3, hq, hr]
      · rw [bit_above (h n (by omega)) (i := j - n * s) (by omega)]
        simp [h1, h3]
theorem js_pl {d n i : Nat} {P : Nat → Nat} (h : ∀ i, i < n → P i < 2 ^ (64 * d)) (hi : i < n) : pl (js (64 * d) P n) d i = P i := by
  refine Nat.eq_of_testBit_eq fun b => ?_
  rw [pl_bit]
  by_cases hb : b < 64 * d
  · have hd : 0 < 64 * d := by omega
    have e0 : 64 * (i * d) = i * (64 * d) := by rw [Nat.mul_left_comm]
    have e1 : 64 * (i * d) + b < n * (64 * d) := by
      have : (i + 1) * (64 * d) ≤ n * (64 * d) := Nat.mul_le_mul_right _ hi
      rw [Nat.succ_mul] at this
      omega
    have hq : (64 * (i * d) + b) / (64 * d) = i := by
      rw [e0, Nat.mul_comm i, Nat.mul_add_div hd, Nat.div_eq_of_lt hb]; omega
    have hr : (64 * (i * d) + b) % (64 * d) = b := by
      rw [e0, Nat.mul_comm i, Nat.mul_add_mod, Nat.mod_eq_of_lt hb]
    rw [js_bit hd n h, hq, hr]
    simp [hb, e1]
  · rw [bit_above (h i hi) (i := b) (by omega)]
    simp [hb]
theorem pl_js {N d n : Nat} (hN : N < 2 ^ (64 * (n * d))) : js (64 * d) (pl N d) n = N := by
  have hlt : js (64 * d) (pl N d) n < 2 ^ (64 * (n * d)) := by
    have := js_lt (s := 64 * d) (P := pl N d) (n := n) (fun i _ => pl_lt N d i)
    rwa [show n * (64 * d) = 64 * (n * d) by rw [Nat.mul_left_comm]] at this
  by_cases hd : 0 < 64 * d
  · refine Nat.eq_of_testBit_eq fun j => ?_
    rw [js_bit hd n (fun i _ => pl_lt N d i), pl_bit]
    have e1 : 64 * (j / (64 * d) * d) + j % (64 * d) = j := by
      have := Nat.mod_add_div j (64 * d)
      have e : 64 * (j / (64 * d) * d) = 64 * d * (j / (64 * d)) := by rw [Nat.mul_assoc, Nat.mul_comm d]
      omega
    have e2 : j % (64 * d) < 64 * d := Nat.mod_lt _ hd
    by_cases h1 : j < n * (64 * d)
    · simp [h1, e1, e2]
    · rw [bit_above hN (i := j) (by rw [Nat.mul_left_comm]; omega)]
      simp [h1]
  · have : d = 0 := by omega
    subst this
    have e : (2 : Nat) ^ (64 * (n * 0)) = 1 := by simp
    rw [e] at hN hlt
    omega
/-- A word of numbers behind one another, d words each. -/
theorem js_wd {d n k : Nat} {P : Nat → Nat} (h : ∀ i, i < n → P i < 2 ^ (64 * d)) (hk : k < n * d) : wd (js (64 * d) P n) k = wd (P (k / d)) (k % d) := by
  have hd : 0 < d := by
    rcases Nat.eq_zero_or_pos d with e | e
    · subst e; simp at hk
    · exact e
  have hi : k / d < n := Nat.div_lt_of_lt_mul (by rwa [Nat.mul_comm])
  have e := pl_wd (N := js (64 * d) P n) (i := k / d) (Nat.mod_lt k hd)
  rw [js_pl h hi] at e
  rw [e]
  congr 1
  rw [Nat.mul_comm]
  exact (Nat.div_add_mod k d).symm
theorem ia_drop (l : List Int) (a k : Nat) : ia (l.drop a) k = ia l (a + k) := by
  unfold ia; simp [List.getD_eq_getElem?_getD]
theorem pk_same {l r : List Int} {n : Nat} (h : ∀ k, k < n → ia l k = ia r k) : pk l n = pk r n := by
  refine Nat.eq_of_testBit_eq fun i => ?_
  rw [pk_bit, pk_bit]
  by_cases hi : i < n
  · rw [h i hi]
  · simp [hi]
/-- The places of a list of values, c values each. -/
def sp (l : List Int) (c i : Nat) : Nat := pk (l.drop (i * c)) c
theorem sp_lt (l : List Int) (c i : Nat) : sp l c i < 2 ^ c := pk_lt _ _
theorem sp_bit (l : List Int) (c i b : Nat) : (sp l c i).testBit b = (decide (b < c) && decide (0 < ia l (i * c + b))) := by
  unfold sp; rw [pk_bit, ia_drop]
/-- All values, one behind the other. -/
theorem sp_js {l : List Int} {c n : Nat} (hc : 0 < c) : js c (sp l c) n = pk l (n * c) := by
  refine Nat.eq_of_testBit_eq fun j => ?_
  rw [js_bit hc n (fun i _ => sp_lt l c i), sp_bit, pk_bit]
  have e1 : j / c * c + j % c = j := by rw [Nat.mul_comm]; exact Nat.div_add_mod j c
  simp [e1, Nat.mod_lt j hc]
theorem nw64 (c : Nat) : c ≤ 64 * nw c := nw_le c
end Go.Proofs.Ytohkiknhjcibgaa
