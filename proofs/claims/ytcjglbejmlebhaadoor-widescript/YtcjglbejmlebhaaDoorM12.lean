import Derived.Test.YtcjglbejmlebhaaDoorW20
namespace Go.Proofs.YtcjglbejmlebhaaDoor
open Go.RowKit Go.Shelf

/-- The worth of digits in base 65536, the lowest first. -/
def val : List Int → Int
  | [] => 0
  | d :: r => d + 65536 * val r
def dat (ds : List Int) (k : Nat) : Int := (ds[k]?).getD 0
def Dg (ds : List Int) : Prop := ∀ d ∈ ds, 0 ≤ d ∧ d < 65536
theorem val_app : ∀ (a b : List Int), val (a ++ b) = val a + 65536 ^ a.length * val b
  | [], b => by simp [val]
  | d :: r, b => by
    simp only [List.cons_append, val, val_app r b, List.length_cons, Int.pow_succ]
    generalize (65536 : Int) ^ r.length = p
    generalize val r = x
    generalize val b = y
    rw [Int.mul_add, Int.mul_comm p 65536, Int.mul_assoc]; omega
theorem val_take (ds : List Int) (k : Nat) : val (ds.take (k + 1)) = val (ds.take k) + 65536 ^ k * dat ds k := by
  by_cases h : k < ds.length
  · rw [List.take_succ_eq_append_getElem h, val_app]
    simp [val, dat, h, Nat.min_eq_left (Nat.le_of_lt h)]
  · rw [List.take_of_length_le (by omega), List.take_of_length_le (by omega)]
    simp [dat, List.getElem?_eq_none (Nat.le_of_not_lt h)]
theorem dat_bd {ds : List Int} (h : Dg ds) (k : Nat) : 0 ≤ dat ds k ∧ dat ds k < 65536 := by
  by_cases hk : k < ds.length
  · simp only [dat, List.getElem?_eq_getElem hk, Option.getD_some]; exact h _ (List.getElem_mem _)
  · simp [dat, List.getElem?_eq_none (Nat.le_of_not_lt hk)]
theorem dat_of {ds : List Int} {k : Nat} (h : k < ds.length) : ds[k]? = some (dat ds k) := by simp [dat, h]
theorem dat_out {ds : List Int} {k : Nat} (h : ¬ k < ds.length) : dat ds k = 0 := by simp [dat, List.getElem?_eq_none (Nat.le_of_not_lt h)]
theorem Dg.snoc {ds : List Int} {d : Int} (h : Dg ds) (h1 : 0 ≤ d ∧ d < 65536) : Dg (ds ++ [d]) := by
  intro x hx
  rcases List.mem_append.1 hx with hx | hx
  · exact h x hx
  · simp at hx; subst hx; exact h1

/-- The carry ahead of place k, and the digits up to it. -/
def cry (a b : List Int) : Nat → Int
  | 0 => 0
  | k + 1 => (cry a b k + dat a k + dat b k) / 65536
def prow (a b : List Int) : Nat → List Int
  | 0 => []
  | k + 1 => prow a b k ++ [(cry a b k + dat a k + dat b k) % 65536]
theorem prow_len (a b : List Int) : ∀ k, (prow a b k).length = k
  | 0 => rfl
  | k + 1 => by simp [prow, prow_len a b k]
theorem cry_bd {a b : List Int} (ha : Dg a) (hb : Dg b) : ∀ k, 0 ≤ cry a b k ∧ cry a b k ≤ 1
  | 0 => by simp [cry]
  | k + 1 => by
    have := cry_bd ha hb k; have := dat_bd ha k; have := dat_bd hb k
    simp only [cry]; omega
theorem prow_dg (a b : List Int) : ∀ k, Dg (prow a b k)
  | 0 => fun _ h => by simp [prow] at h
  | k + 1 => (prow_dg a b k).snoc (by omega)
theorem prow_val (a b : List Int) : ∀ k, val (prow a b k) + 65536 ^ k * cry a b k = val (a.take k) + val (b.take k)
  | 0 => by simp [prow, cry, val]
  | k + 1 => by
    have ih := prow_val a b k
    rw [val_take, val_take]
    simp only [prow, cry, val_app, prow_len, val, Int.pow_succ]
    generalize hs : cry a b k + dat a k + dat b k = s
    generalize (65536 : Int) ^ k = p at *
    have e : s % 65536 + 65536 * (s / 65536) = s := Int.emod_add_mul_ediv s 65536
    have e2 : p * (s % 65536) + p * 65536 * (s / 65536) = p * s := by
      rw [Int.mul_assoc, ← Int.mul_add, e]
    have e3 : p * s = p * cry a b k + p * dat a k + p * dat b k := by rw [← hs, Int.mul_add, Int.mul_add]
    have e4 : s % 65536 + 65536 * 0 = s % 65536 := by omega
    rw [e4]; omega

/-- The digits of one taken from the other: what is owed ahead of place k. -/
def owe (a b : List Int) : Nat → Int
  | 0 => 0
  | k + 1 => if dat a k - owe a b k - dat b k < 0 then 1 else 0
def mrow (a b : List Int) : Nat → List Int
  | 0 => []
  | k + 1 => mrow a b k ++ [dat a k - owe a b k - dat b k + 65536 * owe a b (k + 1)]
theorem mrow_len (a b : List Int) : ∀ k, (mrow a b k).length = k
  | 0 => rfl
  | k + 1 => by simp [mrow, mrow_len a b k]
theorem owe_bd (a b : List Int) (k : Nat) : owe a b k = 0 ∨ owe a b k = 1 := by
  cases k with
  | zero => exact .inl rfl
  | succ k => simp only [owe]; split <;> simp
theorem mrow_dg {a b : List Int} (ha : Dg a) (hb : Dg b) : ∀ k, Dg (mrow a b k)
  | 0 => fun _ h => by simp [mrow] at h
  | k + 1 => by
    refine (mrow_dg ha hb k).snoc ?_
    have := dat_bd ha k; have := dat_bd hb k; have := owe_bd a b k
    simp only [owe]; split <;> omega
theorem mrow_val (a b : List Int) : ∀ k, val (mrow a b k) + val (b.take k) = val (a.take k) + 65536 ^ k * owe a b k
  | 0 => by simp [mrow, owe, val]
  | k + 1 => by
    have ih := mrow_val a b k
    rw [val_take, val_take]
    rw [show mrow a b (k + 1) = mrow a b k ++ [dat a k - owe a b k - dat b k + 65536 * owe a b (k + 1)] from rfl]
    simp only [val_app, mrow_len, val, Int.pow_succ]
    generalize owe a b (k + 1) = o
    generalize (65536 : Int) ^ k = p at *
    have e : p * (dat a k - owe a b k - dat b k + 65536 * o + 65536 * 0) = p * dat a k - p * owe a b k - p * dat b k + p * 65536 * o := by
      rw [Int.mul_zero, Int.add_zero, Int.mul_add, Int.mul_sub, Int.mul_sub, Int.mul_assoc]
    omega
theorem val_nonneg : ∀ {ds : List Int}, Dg ds → 0 ≤ val ds
  | [], _ => Int.le_refl 0
  | d :: r, h => by
    have h1 := h d (by simp)
    have h2 := val_nonneg (ds := r) fun x hx => h x (by simp [hx])
    simp only [val]; omega
theorem val_lt : ∀ {ds : List Int}, Dg ds → val ds < 65536 ^ ds.length
  | [], _ => by simp [val]
  | d :: r, h => by
    have h1 := h d (by simp)
    have h2 := val_lt (ds := r) fun x hx => h x (by simp [hx])
    simp only [val, List.length_cons, Int.pow_succ]; omega
/-- Where the greater is the one that is taken from, nothing is owed at the end. -/
theorem owe_end {a b : List Int} (ha : Dg a) (hb : Dg b) (hle : val b ≤ val a) (hl : b.length ≤ a.length) : owe a b a.length = 0 ∧ val (mrow a b a.length) = val a - val b := by
  have h := mrow_val a b a.length
  rw [List.take_length, List.take_of_length_le hl] at h
  have h1 := val_lt (mrow_dg ha hb a.length)
  rw [mrow_len] at h1
  have h2 := val_nonneg (mrow_dg ha hb a.length)
  rcases owe_bd a b a.length with e | e
  · rw [e] at h ⊢; exact ⟨rfl, by omega⟩
  · rw [e] at h; omega
