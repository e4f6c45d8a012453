/- SHAPES: ONE SIDE, WINDOW OF THE PROGRAM, WALKED. -/
import Derived.Test.YtfboegdibohciaaSW2
namespace Go.Proofs.Ytfboegdibohciaa.Sg
open Go.RowKit

abbrev win (r s sy sx t l b q : Int) : Value := .agg #[.int .i64 r, .int .i64 s, .int .i64 sy, .int .i64 sx, .int .i64 t, .int .i64 l, .int .i64 b, .int .i64 q]
abbrev sid (n bf af wi st : Int) : Value := .agg #[.int .i64 n, .int .i64 bf, .int .i64 af, .int .i64 wi, .int .i64 st]
/-- A window's eight cells. -/
def Wn (W : World) (g o : Nat) (r s sy sx t l b q : Int) : Prop :=
  W.cell? ⟨g, o, none⟩ = some (.int .i64 r) ∧ W.cell? ⟨g, o + 1, none⟩ = some (.int .i64 s) ∧ W.cell? ⟨g, o + 2, none⟩ = some (.int .i64 sy) ∧ W.cell? ⟨g, o + 3, none⟩ = some (.int .i64 sx) ∧
  W.cell? ⟨g, o + 4, none⟩ = some (.int .i64 t) ∧ W.cell? ⟨g, o + 5, none⟩ = some (.int .i64 l) ∧ W.cell? ⟨g, o + 6, none⟩ = some (.int .i64 b) ∧ W.cell? ⟨g, o + 7, none⟩ = some (.int .i64 q)
theorem Wn.keep {W w' : World} {g o : Nat} {r s sy sx t l b q : Int} (k : Wn W g o r s sy sx t l b q) (hb : Below W.heap.size W w') : Wn w' g o r s sy sx t l b q :=
  ⟨keepc hb k.1, keepc hb k.2.1, keepc hb k.2.2.1, keepc hb k.2.2.2.1, keepc hb k.2.2.2.2.1, keepc hb k.2.2.2.2.2.1, keepc hb k.2.2.2.2.2.2.1, keepc hb k.2.2.2.2.2.2.2⟩
theorem wn_new (W : World) (r s sy sx t l b q : Int) (T : TypeId) : Wn (W.alloc (.cells #[.int .i64 r, .int .i64 s, .int .i64 sy, .int .i64 sx, .int .i64 t, .int .i64 l, .int .i64 b, .int .i64 q] T)) W.heap.size 0 r s sy sx t l b q := by
  refine ⟨?_, ?_, ?_, ?_, ?_, ?_, ?_, ?_⟩ <;> simp [go_sem]
def SideOk (bf af wi st : Int) : Prop := (1 ≤ wi ∧ wi ≤ 15) ∧ (1 ≤ st ∧ st ≤ 15) ∧ (0 ≤ bf ∧ bf ≤ 14) ∧ (0 ≤ af ∧ af ≤ 14)
instance (a b c d : Int) : Decidable (SideOk a b c d) := by unfold SideOk; infer_instance
def mn2 (x y : Int) : Int := if y < x then y else x
def mx2 (x y : Int) : Int := if x < y then y else x
theorem mn2_is (x y : Int) : mn2 x y ≤ x ∧ mn2 x y ≤ y ∧ (mn2 x y = x ∨ mn2 x y = y) := by unfold mn2; split <;> omega
theorem mx2_is (x y : Int) : x ≤ mx2 x y ∧ y ≤ mx2 x y ∧ (mx2 x y = x ∨ mx2 x y = y) := by unfold mx2; split <;> omega
def stN (n bf af wi st : Int) : Int := if bf + n + af < wi then 0 else (bf + n + af - wi) / st + 1
theorem st_div (room st : Int) (h : 1 ≤ st) : (if room < 0 then 0 else room / st + 1) = mx2 0 (room + st) / st := by
  unfold mx2
  by_cases hr : room < 0
  · rw [if_pos hr]
    by_cases h2 : (0 : Int) < room + st
    · rw [if_pos h2, Int.ediv_eq_zero_of_lt (by omega) (by omega)]
    · rw [if_neg h2]; simp
  · rw [if_neg hr, if_pos (by omega)]
    rw [Int.add_ediv_of_dvd_right (Int.dvd_refl st), Int.ediv_self (by omega)]
theorem stN_is (n bf af wi st : Int) (h : 1 ≤ st) : stN n bf af wi st = mx2 0 (bf + n + af - wi + st) / st := by
  rw [← st_div _ _ h]
  unfold stN
  by_cases k : bf + n + af < wi
  · rw [if_pos k, if_pos (by omega)]
  · rw [if_neg k, if_neg (by omega)]
theorem stN_b (n bf af wi st : Int) (hn : 1 ≤ n ∧ n ≤ 4096) (hs : SideOk bf af wi st) : 0 ≤ stN n bf af wi st ∧ stN n bf af wi st ≤ 4124 := by
  obtain ⟨h1, h2, h3, h4⟩ := hs
  unfold stN
  split
  · omega
  · have a1 : 0 ≤ (bf + n + af - wi) / st := Int.ediv_nonneg (by omega) (by omega)
    have a2 : (bf + n + af - wi) / st ≤ bf + n + af - wi := Int.ediv_le_self _ (by omega)
    omega
def WOk (r s sy sx t l b q : Int) : Prop := SideOk t b r sy ∧ SideOk l q s sx
instance (r s sy sx t l b q : Int) : Decidable (WOk r s sy sx t l b q) := by unfold WOk; infer_instance
def wiE (r s sy sx t l b q : Int) : Int := if WOk r s sy sx t l b q then 0 else 56
end Go.Proofs.Ytfboegdibohciaa.Sg
