import Derived.Test.YtcjglbejmlebhaaDoorW35
namespace Go.Proofs.YtcjglbejmlebhaaDoor
open Go.RowKit Go.Shelf

theorem drop_dg {ds : List Int} (h : Dg ds) (k : Nat) : Dg (ds.drop k) := fun d hd => h d (List.mem_of_mem_drop hd)
theorem drop_lt {ds : List Int} (h : Dg ds) (hl : ds.length ≤ 16) (k : Nat) : val (ds.drop k) < 65536 ^ 16 := by
  have h1 := val_lt (drop_dg h k)
  have h2 : (65536 : Int) ^ (ds.drop k).length ≤ 65536 ^ 16 := pow_le_pow' (by simp; omega)
  exact Int.lt_of_lt_of_le h1 h2
/-- Quotient and rest of two numbers that are not below 0. -/
theorem rparts_any (m n : Int) (x y : Value) (w : World) (hx : Bg w x m) (hy : Bg w y n) (m0 : 0 ≤ m) (n0 : 0 < n) (hm : (m.natAbs : Int) < 65536 ^ 16) (hn : (n.natAbs : Int) < 65536 ^ 16) :
    Calls Tryd.prog 62 #[x, y] w fun e w' => ∃ q r, e = .returned (.tuple #[q, r]) ∧ Bg w' q (m / n) ∧ Bg w' r (m % n) ∧ Below w.heap.size w w' := by
  obtain ⟨va, a, rfl, ra, da, ta, ea⟩ := hx
  obtain ⟨vb, b, rfl, rb, db, tb, eb⟩ := hy
  obtain ⟨ao, ca, rfl, _⟩ := ra.parts
  obtain ⟨bo, cb, rfl, _⟩ := rb.parts
  have la : a.length ≤ 16 := len_le da ta (by rw [ea]; exact hm)
  have lb : b.length ≤ 16 := len_le db tb (by rw [eb]; exact hn)
  have e1 : val a = m := by rw [ea]; omega
  have e2 : val b = n := by rw [eb]; omega
  have h := parts_any a b (decide (m < 0)) (decide (n < 0)) ao bo ca cb n _ w ra rb da db tb e2 n0 la lb rfl (by rw [eb] at e2; exact Int.lt_of_le_of_lt (Int.le_of_eq e2.symm) hn) (drop_lt da la)
  rw [e1] at h
  exact h
end Go.Proofs.YtcjglbejmlebhaaDoor
