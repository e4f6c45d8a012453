/- WHAT A WINDOW SEES AT A PLACE: plain mathematics. -/
import Derived.Test.YtohkiknhjcibgaaEM1
namespace Go.Proofs.Ytohkiknhjcibgaa
open Go.RowKit

/-- The p-th place of the window (s columns) lies within the tensor, the window's first row and column being y0 and x0. -/
def Ins (H V : Nat) (y0 x0 : Int) (s p : Nat) : Prop := (0 ≤ y0 + (p / s : Nat) ∧ y0 + (p / s : Nat) < H) ∧ (0 ≤ x0 + (p % s : Nat) ∧ x0 + (p % s : Nat) < V)
instance (H V : Nat) (y0 x0 : Int) (s p : Nat) : Decidable (Ins H V y0 x0 s p) := by unfold Ins; infer_instance
/-- Which place of the tensor it is. -/
def ixP (V : Nat) (y0 x0 : Int) (s p : Nat) : Nat := (y0 + (p / s : Nat)).toNat * V + (x0 + (p % s : Nat)).toNat
theorem ixP_lt {H V : Nat} {y0 x0 : Int} {s p : Nat} (h : Ins H V y0 x0 s p) : ixP V y0 x0 s p < H * V := by
  obtain ⟨⟨h1, h2⟩, h3, h4⟩ := h
  unfold ixP
  have a : (y0 + (p / s : Nat)).toNat + 1 ≤ H := by omega
  have b := Nat.mul_le_mul_right V a
  rw [Nat.succ_mul] at b
  have c : (x0 + (p % s : Nat)).toNat < V := by omega
  omega
/-- A place of a patch: the tensor's, or the border's. -/
def plP (H V d N : Nat) (y0 x0 : Int) (s xs p : Nat) : Nat := if Ins H V y0 x0 s p then pl N d (ixP V y0 x0 s p) else xs
def mkP (H V C : Nat) (y0 x0 : Int) (s xm p : Nat) : Nat := if Ins H V y0 x0 s p then ful C else xm
/-- Those that are laid ahead of row a, column c. -/
def Dn (s a c p : Nat) : Prop := p / s < a ∨ (p / s = a ∧ p % s < c)
instance (s a c p : Nat) : Decidable (Dn s a c p) := by unfold Dn; infer_instance
/-- A patch under way: X where it is laid. -/
def unP (H V : Nat) (y0 x0 : Int) (s a c : Nat) (X : Nat → Nat) (xs p : Nat) : Nat := if Ins H V y0 x0 s p ∧ Dn s a c p then X p else xs
section
variable {H V : Nat} {y0 x0 : Int} {s : Nat} {X : Nat → Nat} {xs : Nat}
theorem unP_start {fa fc : Nat} (ha : (fa : Int) = max 0 (-y0)) (hc : (fc : Int) = max 0 (-x0)) (p : Nat) : unP H V y0 x0 s fa fc X xs p = xs := by
  unfold unP
  rw [if_neg]
  unfold Ins Dn
  generalize p / s = A
  generalize p % s = B
  rintro ⟨⟨⟨h1, _⟩, h3, _⟩, h | ⟨_, h⟩⟩ <;> omega
theorem unP_step {a c : Nat} (hs : 0 < s) (hc : c < s) (hi : Ins H V y0 x0 s (a * s + c)) (p : Nat) : unP H V y0 x0 s a (c + 1) X xs p = if p = a * s + c then X p else unP H V y0 x0 s a c X xs p := by
  have e1 : (a * s + c) / s = a := by rw [Nat.mul_comm, Nat.mul_add_div hs, Nat.div_eq_of_lt hc]; omega
  have e2 : (a * s + c) % s = c := by rw [Nat.mul_comm, Nat.mul_add_mod, Nat.mod_eq_of_lt hc]
  by_cases e : p = a * s + c
  · rw [if_pos e]
    unfold unP
    rw [if_pos ⟨by rw [e]; exact hi, by rw [e]; right; exact ⟨e1, by omega⟩⟩]
  · rw [if_neg e]
    unfold unP
    have hne : ¬ (p / s = a ∧ p % s = c) := fun ⟨q1, q2⟩ => e (by have := Nat.div_add_mod p s; rw [q1, q2, Nat.mul_comm] at this; exact this.symm)
    have : Dn s a (c + 1) p ↔ Dn s a c p := by unfold Dn; omega
    simp only [this]
theorem unP_row {a c fc : Nat} {ec : Int} (hec : ec = min (s : Int) (V - x0)) (hc : ec ≤ c) (hfc : (fc : Int) = max 0 (-x0)) (hs : 0 < s) (p : Nat) : unP H V y0 x0 s a c X xs p = unP H V y0 x0 s (a + 1) fc X xs p := by
  unfold unP
  have h2 := Nat.mod_lt p hs
  by_cases hi : Ins H V y0 x0 s p
  · have : Dn s a c p ↔ Dn s (a + 1) fc p := by
      obtain ⟨_, h3, h4⟩ := hi
      unfold Dn
      constructor
      · rintro (h | ⟨h, _⟩) <;> left <;> omega
      · rintro (h | ⟨_, h⟩)
        · by_cases e : p / s = a
          · right; exact ⟨e, by omega⟩
          · left; omega
        · omega
    simp only [this]
  · simp only [hi, false_and]
theorem unP_end {a fc R : Nat} {ea : Int} (hea : ea = min (R : Int) (H - y0)) (ha : ea ≤ a) {p : Nat} (hp : p < R * s) : unP H V y0 x0 s a fc X xs p = if Ins H V y0 x0 s p then X p else xs := by
  unfold unP
  have hr : p / s < R := Nat.div_lt_of_lt_mul (by rwa [Nat.mul_comm])
  by_cases hi : Ins H V y0 x0 s p
  · rw [if_pos hi, if_pos ⟨hi, by obtain ⟨⟨h1, h2⟩, _⟩ := hi; left; omega⟩]
  · rw [if_neg hi, if_neg (fun h => hi h.1)]
end
theorem ins_at {H V : Nat} {y0 x0 : Int} {s a c R : Nat} {ea ec : Int} (hs : 0 < s) (ha0 : max 0 (-y0) ≤ (a : Int)) (hc0 : max 0 (-x0) ≤ (c : Int)) (hea : ea = min (R : Int) (H - y0)) (hec : ec = min (s : Int) (V - x0)) (ha : (a : Int) < ea) (hc : (c : Int) < ec) :
    c < s ∧ a < R ∧ Ins H V y0 x0 s (a * s + c) ∧ ((ixP V y0 x0 s (a * s + c) : Nat) : Int) = (y0 + a) * V + x0 + c := by
  have hcs : c < s := by omega
  have e1 : (a * s + c) / s = a := by rw [Nat.mul_comm, Nat.mul_add_div hs, Nat.div_eq_of_lt hcs]; omega
  have e2 : (a * s + c) % s = c := by rw [Nat.mul_comm, Nat.mul_add_mod, Nat.mod_eq_of_lt hcs]
  refine ⟨hcs, by omega, ?_, ?_⟩
  · unfold Ins; rw [e1, e2]; omega
  · unfold ixP; rw [e1, e2]
    push_cast
    rw [Int.toNat_of_nonneg (by omega), Int.toNat_of_nonneg (by omega)]
    omega
end Go.Proofs.Ytohkiknhjcibgaa
