import Derived.Test.YtmbhapegdbajpaaBW11
import Derived.ProofKit
import Derived.OpenShut
import Derived.ChangeOld
import Derived.SizedLaws
import Derived.Test.YtmbhapegdbajpaaBW12
import Derived.ChangeSlices
import Derived.Test.YtmbhapegdbajpaaSW2
import Derived.Test.YtmbhapegdbajpaaSW3
import Derived.Deep.Slices
import Derived.Test.YtmbhapegdbajpaaKW7
import Derived.Deep.DeepAppendWide
import Derived.Laws.AppendOwnNone
import Derived.Laws.OwnMore
import Derived.Test.YtmbhapegdbajpaaBM7
import Derived.Test.YtmbhapegdbajpaaBW6
import Derived.Test.YtmbhapegdbajpaaUW5
import Derived.Test.YtmbhapegdbajpaaRows
import Derived.Test.YtmbhapegdbajpaaUM2
import Derived.Test.YtmbhapegdbajpaaKW4
import Derived.Test.YtmbhapegdbajpaaSW5
import Derived.Test.YtmbhapegdbajpaaSW6
import Derived.Deep.RegionHeld3
/- WHAT EVERY ROW OF THIS SEAT WANTS. -/
namespace Go.Proofs.Ytmbhapegdbajpaa
open Go.ChangeShapes Go.WideShapes Go.ChangeAt Go.RowKit

theorem own : ownKnob Try.prog.godebug = none := by kernel_rfl
theorem laidOut : laidOutB Try.prog = true := by kernel_rfl
theorem i64_of_wf {x : Int} (h : (Lit.int .i64 x).wf = true) : -9223372036854775808 ≤ x ∧ x ≤ 9223372036854775807 := by
  simp [Lit.wf, IntKind.min, IntKind.max, IntKind.signed, IntKind.bits] at h
  exact ⟨by omega, by omega⟩
end Go.Proofs.Ytmbhapegdbajpaa
/- PARAMETERS THAT ARE LISTS OF SMALL NUMBERS. -/
namespace Go.Proofs.Ytmbhapegdbajpaa
open Go.ChangeShapes Go.WideShapes Go.ChangeAt Go.RowKit
set_option maxRecDepth 100000

theorem reach_is : reachBytes = 140737488351232 := by decide
end Go.Proofs.Ytmbhapegdbajpaa
/- PARAMETERS THAT ARE A SHAPE, A WINDOW. -/
namespace Go.Proofs.Ytmbhapegdbajpaa
open Go.ChangeShapes Go.WideShapes Go.ChangeAt Go.RowKit
set_option maxRecDepth 100000

theorem fldF {H : Type} {enc : TypeId × Value → H} {P : Program} {w : World} {base : Nat} {sp : Nat → Bool} {held : Bool} {t : TypeId} {fs : Array Field} {fuel : Nat} {cs : List Value} {x : DataW H × List MemPlace}
    (ht : P.underlying t = some (.struct fs)) (h : DataW.trod enc P w base sp held fuel t cs = some x) (i : Nat) (f : Field) (hi : fs[i]? = some f) :
    ∃ n y, DataW.trod enc P w base sp held n f.type ((cs.drop f.offset).take (P.cellsOf f.type)) = some y := by
  obtain ⟨xs, n, _, _, _, hxl, hf⟩ := DataW.trod_struct ht h
  have g := hf i f hi
  have hlt : i < xs.length := by
    rw [hxl]
    exact (Array.getElem?_eq_some_iff.1 hi).1
  rw [List.getElem?_eq_getElem hlt] at g
  exact ⟨n, _, g⟩
theorem fldIF {H : Type} {enc : TypeId × Value → H} {P : Program} {w : World} {base : Nat} {sp : Nat → Bool} {held : Bool} {t : TypeId} {fs : Array Field} {fuel : Nat} {cs : List Value} {x : DataW H × List MemPlace}
    (ht : P.underlying t = some (.struct fs)) (h : DataW.trod enc P w base sp held fuel t cs = some x) (i : Nat) (f : Field) (hi : fs[i]? = some f) (hu : P.underlying f.type = some (.int .i64)) (hc : P.cellsOf f.type = 1) :
    ∃ z : Int, (cs.drop f.offset).take 1 = [.int .i64 z] := by
  obtain ⟨n, y, g⟩ := fldF ht h i f hi
  rw [hc] at g
  obtain ⟨z, e, _⟩ := DataW.trod_int hu g
  exact ⟨z, e⟩
theorem cells_intF : Try.prog.cellsOf 3 = 1 := by kernel_rfl
theorem cells_shpF : Try.prog.cellsOf 32 = 3 := by kernel_rfl
theorem cells_winF : Try.prog.cellsOf 24 = 8 := by kernel_rfl
theorem len3F {l : List Value} (h : l.length = 3) : ∃ a b c, l = [a, b, c] := by
  match l, h with
  | [a, b, c], _ => exact ⟨a, b, c, rfl⟩
theorem len8F {l : List Value} (h : l.length = 8) : ∃ a b c d e f g i, l = [a, b, c, d, e, f, g, i] := by
  match l, h with
  | [a, b, c, d, e, f, g, i], _ => exact ⟨a, b, c, d, e, f, g, i, rfl⟩
set_option maxRecDepth 100000 in
theorem shape_cellsF {H : Type} {enc : TypeId × Value → H} {w : World} {base : Nat} {sp : Nat → Bool} {held : Bool} {fuel : Nat} {cs : List Value} {x : DataW H × List MemPlace}
    (h : DataW.trod enc Try.prog w base sp held fuel 32 cs = some x) : ∃ a b c : Int, cs = [.int .i64 a, .int .i64 b, .int .i64 c] := by
  have hl : cs.length = 3 := by
    obtain ⟨_, _, _, _, hlen, _, _⟩ := DataW.trod_struct Try.underlying32 h
    exact hlen.trans cells_shpF
  obtain ⟨z0, e0⟩ := fldIF Try.underlying32 h 0 _ rfl Try.underlying3 cells_intF
  obtain ⟨z1, e1⟩ := fldIF Try.underlying32 h 1 _ rfl Try.underlying3 cells_intF
  obtain ⟨z2, e2⟩ := fldIF Try.underlying32 h 2 _ rfl Try.underlying3 cells_intF
  obtain ⟨a, b, c, rfl⟩ := len3F hl
  simp at e0 e1 e2
  subst e0 e1 e2
  exact ⟨z0, z1, z2, rfl⟩
set_option maxRecDepth 100000 in
theorem win_cellsF {H : Type} {enc : TypeId × Value → H} {w : World} {base : Nat} {sp : Nat → Bool} {held : Bool} {fuel : Nat} {cs : List Value} {x : DataW H × List MemPlace}
    (h : DataW.trod enc Try.prog w base sp held fuel 24 cs = some x) :
    ∃ r s sy sx t l b q : Int, cs = [.int .i64 r, .int .i64 s, .int .i64 sy, .int .i64 sx, .int .i64 t, .int .i64 l, .int .i64 b, .int .i64 q] := by
  have hl : cs.length = 8 := by
    obtain ⟨_, _, _, _, hlen, _, _⟩ := DataW.trod_struct Try.underlying24 h
    exact hlen.trans cells_winF
  obtain ⟨z0, e0⟩ := fldIF Try.underlying24 h 0 _ rfl Try.underlying3 cells_intF
  obtain ⟨z1, e1⟩ := fldIF Try.underlying24 h 1 _ rfl Try.underlying3 cells_intF
  obtain ⟨z2, e2⟩ := fldIF Try.underlying24 h 2 _ rfl Try.underlying3 cells_intF
  obtain ⟨z3, e3⟩ := fldIF Try.underlying24 h 3 _ rfl Try.underlying3 cells_intF
  obtain ⟨z4, e4⟩ := fldIF Try.underlying24 h 4 _ rfl Try.underlying3 cells_intF
  obtain ⟨z5, e5⟩ := fldIF Try.underlying24 h 5 _ rfl Try.underlying3 cells_intF
  obtain ⟨z6, e6⟩ := fldIF Try.underlying24 h 6 _ rfl Try.underlying3 cells_intF
  obtain ⟨z7, e7⟩ := fldIF Try.underlying24 h 7 _ rfl Try.underlying3 cells_intF
  obtain ⟨a, b, c, d, e, f, g, i, rfl⟩ := len8F hl
  simp at e0 e1 e2 e3 e4 e5 e6 e7
  subst e0 e1 e2 e3 e4 e5 e6 e7
  exact ⟨z0, z1, z2, z3, z4, z5, z6, z7, rfl⟩
theorem open_shape {H : Type} {enc : TypeId × Value → H} {W : World} {base : Nat} {v : Value} {d : DataW H} {p : List MemPlace}
    (hv : Value.okWide Try.prog W .any base 32 v) (h : DataW.Trod enc Try.prog W 0 (fun _ => true) true 32 v d p) : ∃ a b c : Int, v = Sg.shp a b c := by
  obtain ⟨cs, rfl, _⟩ := okWide_struct Try.underlying32 hv
  obtain ⟨fuel, hf⟩ := h
  obtain ⟨a, b, c, e⟩ := shape_cellsF hf
  refine ⟨a, b, c, ?_⟩
  simp [Value.cells] at e
  obtain ⟨l⟩ := cs
  simp at e
  subst e
  rfl
theorem open_win {H : Type} {enc : TypeId × Value → H} {W : World} {base : Nat} {v : Value} {d : DataW H} {p : List MemPlace}
    (hv : Value.okWide Try.prog W .any base 24 v) (h : DataW.Trod enc Try.prog W 0 (fun _ => true) true 24 v d p) : ∃ r s sy sx t l b q : Int, v = Sg.win r s sy sx t l b q := by
  obtain ⟨cs, rfl, _⟩ := okWide_struct Try.underlying24 hv
  obtain ⟨fuel, hf⟩ := h
  obtain ⟨r, s, sy, sx, t, l, b, q, e⟩ := win_cellsF hf
  refine ⟨r, s, sy, sx, t, l, b, q, ?_⟩
  simp [Value.cells] at e
  obtain ⟨l⟩ := cs
  simp at e
  subst e
  rfl
end Go.Proofs.Ytmbhapegdbajpaa
/- PACKAGE cube: a list's copy; At, Turn. -/
namespace Go.Proofs.Ytmbhapegdbajpaa
open Go.RowKit Go.Shelf

/-- The words of a number, as a list. -/
def wl (N m : Nat) : List Value := (List.range m).map (wf N)
theorem wl_len (N m : Nat) : (wl N m).length = m := by simp [wl]
theorem wl_get {N m j : Nat} {u : Value} (h : (wl N m)[j]? = some u) : j < m ∧ u = wf N j := by
  unfold wl at h
  rw [List.getElem?_map] at h
  by_cases hj : j < m
  · rw [List.getElem?_range hj] at h
    simp at h
    exact ⟨hj, h.symm⟩
  · rw [List.getElem?_eq_none (by simpa using hj)] at h
    cases h
theorem wl_at {N m j : Nat} (h : j < m) : (wl N m)[j]? = some (wf N j) := by
  unfold wl
  rw [List.getElem?_map, List.getElem?_range h]; rfl
end Go.Proofs.Ytmbhapegdbajpaa
/- ONE BIT IN A LONG ROW: plain mathematics. -/
namespace Go.Proofs.Ytmbhapegdbajpaa

theorem one_list (n k : Nat) (h : k < n) : ∃ l : List Int, l.length = n ∧ ∀ i, ia l i = if i = k then 1 else 0 := by
  refine ⟨(List.replicate n 0).set k 1, by simp, fun i => ?_⟩
  unfold ia
  rw [List.getD_eq_getElem?_getD, List.getElem?_set]
  by_cases e : k = i
  · subst e
    simp [h]
  · rw [if_neg e, if_neg (fun e' => e e'.symm), List.getElem?_replicate]
    split <;> rfl
/-- Just the bit k is set. -/
def Only (A k : Nat) : Prop := ∀ i, A.testBit i = decide (i = k)
theorem only_pk {l : List Int} {k Z : Nat} (h : ∀ i, ia l i = if i = k then 1 else 0) (hk : k < Z) : Only (pk l Z) k := by
  intro i
  rw [pk_bit, h i]
  by_cases e : i = k
  · subst e; simp [hk]
  · simp [e]
theorem only_pc {A k : Nat} (h : Only A k) : ∀ n, pc A n = if k < n then 1 else 0
  | 0 => rfl
  | n + 1 => by
    simp only [pc]
    rw [only_pc h n, h n]
    by_cases e : n = k
    · subst e; simp
    · by_cases h2 : k < n
      · rw [if_pos h2, if_pos (by omega)]; simp [e]
      · rw [if_neg h2, if_neg (by omega)]; simp [e]
theorem only_sl {A k a b : Nat} (h : Only A k) (ha : a ≤ k) (hb : k < b) : sl A a b = 2 ^ (k - a) := by
  refine Nat.eq_of_testBit_eq fun i => ?_
  rw [sl_bit, h, Nat.testBit_two_pow]
  by_cases e : k - a = i
  · have e1 : i < b - a := by omega
    have e2 : a + i = k := by omega
    simp [e, e1, e2]
  · have e2 : ¬ a + i = k := by omega
    simp [e, e2]
def three {α : Type} (a b c : α) : Nat → α := fun j => if j = 0 then a else if j = 1 then b else c
theorem off_three (Z : Nat) : off (three 0 Z 0) 3 = Z := by
  show ((0 + 0) + Z) + 0 = Z
  omega
theorem jn_three (Z A : Nat) : jn (three 0 Z 0) (three 0 A 0) 3 = A := by
  show ((0 ||| 0 * 2 ^ 0) ||| A * 2 ^ (0 + 0)) ||| 0 * 2 ^ ((0 + 0) + Z) = A
  rw [Nat.zero_mul, Nat.zero_mul, Nat.or_zero, Nat.or_zero, Nat.zero_or, Nat.add_zero, Nat.pow_zero, Nat.mul_one]
end Go.Proofs.Ytmbhapegdbajpaa
/- ROWS OF TRUTH VALUES: plain mathematics. -/
namespace Go.Proofs.Ytmbhapegdbajpaa

/-- The number of these truth values. -/
def bn (f : Nat → Bool) : Nat → Nat
  | 0 => 0
  | k + 1 => bn f k ||| (if f k then 2 ^ k else 0)
theorem bn_bit (f : Nat → Bool) : ∀ k i, (bn f k).testBit i = (decide (i < k) && f i)
  | 0, i => by simp [bn]
  | k + 1, i => by
    simp only [bn, Nat.testBit_or, bn_bit f k i]
    by_cases e : k = i
    · subst e
      cases h : f k <;> simp
    · have h1 : (i < k + 1) ↔ i < k := by omega
      cases h : f k
      · simp [h1]
      · simp [h1, e]
theorem bn_lt (f : Nat → Bool) (k : Nat) : bn f k < 2 ^ k := by
  refine Nat.lt_pow_two_of_testBit _ fun i hi => ?_
  rw [bn_bit]
  have : ¬ i < k := by omega
  simp [this]
theorem bn_wd (f : Nat → Bool) (i k : Nat) : wd (bn f (i + 1)) k = if k = i / 64 then wd (bn f i) k ||| (if f i then 2 ^ (i % 64) else 0) else wd (bn f i) k := by
  simp only [bn]
  rw [wd_or]
  cases h : f i
  · simp [wd_zero]
  · rw [if_pos rfl, if_pos rfl, wd_bit1]
    by_cases e : k = i / 64
    · rw [if_pos e, if_pos e]
    · rw [if_neg e, if_neg e]; simp
/-- The word that is being filled has no bit from there on. -/
theorem bn_free (f : Nat → Bool) (i : Nat) : wd (bn f i) (i / 64) < 2 ^ (i % 64) := by
  refine Nat.lt_pow_two_of_testBit _ fun j hj => ?_
  rw [wd_bit, bn_bit]
  by_cases h : j < 64
  · have : ¬ 64 * (i / 64) + j < i := by omega
    simp [this]
  · simp [h]
theorem add_or {x r : Nat} (h : x < 2 ^ r) : x + 2 ^ r = x ||| 2 ^ r := by
  have := Nat.two_pow_add_eq_or_of_lt h 1
  rw [Nat.mul_one] at this
  rw [Nat.add_comm, this, Nat.or_comm]
theorem bn_of (N n : Nat) (h : N < 2 ^ n) : bn (fun i => N.testBit i) n = N := by
  refine Nat.eq_of_testBit_eq fun i => ?_
  rw [bn_bit]
  by_cases hi : i < n
  · simp [hi]
  · rw [bit_above h (by omega)]; simp
theorem bn_ext {f : Nat → Bool} {N n : Nat} (hN : N < 2 ^ n) (h : ∀ i, i < n → f i = N.testBit i) : bn f n = N := by
  refine Nat.eq_of_testBit_eq fun i => ?_
  rw [bn_bit]
  by_cases hi : i < n
  · simp [hi, h i hi]
  · rw [bit_above hN (by omega)]; simp [hi]
/-- No bit from n on, below m. -/
theorem lt_of_none {N n m : Nat} (hN : N < 2 ^ m) (h : ∀ i, n ≤ i → i < m → N.testBit i = false) : N < 2 ^ n := by
  refine Nat.lt_pow_two_of_testBit _ fun i hi => ?_
  by_cases h2 : i < m
  · exact h i hi h2
  · exact bit_above hN (by omega)
theorem not_lt_of_bit {N n i : Nat} (hi : n ≤ i) (h : N.testBit i = true) : ¬ N < 2 ^ n := fun h2 => by
  rw [bit_above h2 hi] at h; exact absurd h (by decide)
theorem bit_mod (N q r : Nat) (hr : r < 64) : wd N q / 2 ^ r % 2 = (N.testBit (64 * q + r)).toNat := by
  have h := wd_bit N q r
  simp only [hr, decide_true, Bool.true_and] at h
  rw [← h, Nat.testBit_eq_decide_div_mod_eq]
  rcases Nat.mod_two_eq_zero_or_one (wd N q / 2 ^ r) with e | e <;> simp [e]
end Go.Proofs.Ytmbhapegdbajpaa
/- SUMS BY COUNTING BITS: plain mathematics. -/
namespace Go.Proofs.Ytmbhapegdbajpaa

/-- One place: 1 where both agree, -1 where not, 0 where it does not count. -/
def tm (c a b : Bool) : Int := if c then (if a == b then 1 else -1) else 0
/-- The sum over the places below n. -/
def tq (C A B : Nat) : Nat → Int
  | 0 => 0
  | n + 1 => tq C A B n + tm (C.testBit n) (A.testBit n) (B.testBit n)
theorem tq_congr {C A B C' A' B' : Nat} : ∀ n, (∀ i, i < n → C.testBit i = C'.testBit i ∧ A.testBit i = A'.testBit i ∧ B.testBit i = B'.testBit i) → tq C A B n = tq C' A' B' n
  | 0, _ => rfl
  | n + 1, h => by
    obtain ⟨h1, h2, h3⟩ := h n (by omega)
    simp only [tq]; rw [tq_congr n (fun i hi => h i (by omega)), h1, h2, h3]
theorem tq_add (C A B a : Nat) : ∀ b, tq C A B (a + b) = tq C A B a + tq (C / 2 ^ a) (A / 2 ^ a) (B / 2 ^ a) b
  | 0 => by simp [tq]
  | b + 1 => by
    have e : a + (b + 1) = (a + b) + 1 := rfl
    rw [e]; simp only [tq]
    rw [tq_add C A B a b, Nat.testBit_div_two_pow, Nat.testBit_div_two_pow, Nat.testBit_div_two_pow, Nat.add_comm b a]; omega
theorem tq_word (C A B k : Nat) : tq C A B (64 * (k + 1)) = tq C A B (64 * k) + tq (wd C k) (wd A k) (wd B k) 64 := by
  rw [show 64 * (k + 1) = 64 * k + 64 by omega, tq_add]
  congr 1
  refine tq_congr 64 fun i hi => ?_
  simp only [wd_bit, Nat.testBit_div_two_pow, hi, decide_true, Bool.true_and]
  rw [Nat.add_comm i]
  exact ⟨rfl, rfl, rfl⟩
theorem tq_above {C n : Nat} (h : C < 2 ^ n) (A B : Nat) {m : Nat} (hm : n ≤ m) : tq C A B m = tq C A B n := by
  obtain ⟨d, rfl⟩ : ∃ d, m = n + d := ⟨m - n, by omega⟩
  clear hm
  induction d with
  | zero => rfl
  | succ d ih =>
    rw [show n + (d + 1) = (n + d) + 1 by omega]
    simp only [tq]
    rw [ih, bit_above h (by omega)]
    simp [tm]
theorem tm_bd (c a b : Bool) : -1 ≤ tm c a b ∧ tm c a b ≤ 1 := by cases c <;> cases a <;> cases b <;> decide
theorem tq_bd (C A B : Nat) : ∀ n : Nat, -(n : Int) ≤ tq C A B n ∧ tq C A B n ≤ n
  | 0 => by simp [tq]
  | n + 1 => by
    have := tq_bd C A B n
    have := tm_bd (C.testBit n) (A.testBit n) (B.testBit n)
    simp only [tq]; omega
theorem tq_pc {C A B G : Nat} : ∀ n, (∀ i, i < n → G.testBit i = (C.testBit i && (A.testBit i == B.testBit i))) → 2 * (pc G n : Int) - pc C n = tq C A B n
  | 0, _ => rfl
  | n + 1, h => by
    have ih := tq_pc n (fun i hi => h i (by omega))
    simp only [pc, tq]
    rw [h n (by omega), ← ih]
    cases C.testBit n <;> cases A.testBit n <;> cases B.testBit n <;> simp [tm] <;> omega
/-- The word of the places that agree. -/
def agr (c a b : Nat) : Nat := c &&& (18446744073709551615 - (a ^^^ b))
theorem agr_lt {c : Nat} (h : c < 18446744073709551616) (a b : Nat) : agr c a b < 18446744073709551616 := and_lt64 h
theorem agr_bit {c a b i : Nat} (ha : a < 18446744073709551616) (hb : b < 18446744073709551616) (hi : i < 64) : (agr c a b).testBit i = (c.testBit i && (a.testBit i == b.testBit i)) := by
  have hx := xor_lt64 ha hb
  have e : 18446744073709551615 - (a ^^^ b) = 2 ^ 64 - ((a ^^^ b) + 1) := by rw [← two64]; omega
  unfold agr
  rw [Nat.testBit_and, e, Nat.testBit_two_pow_sub_succ (by rw [← two64]; exact hx), Nat.testBit_xor]
  simp only [hi, decide_true, Bool.true_and]
  cases c.testBit i <;> cases a.testBit i <;> cases b.testBit i <;> rfl
theorem agr_pc {c a b : Nat} (ha : a < 18446744073709551616) (hb : b < 18446744073709551616) : 2 * (pc (agr c a b) 64 : Int) - pc c 64 = tq c a b 64 :=
  tq_pc 64 fun _ hi => agr_bit ha hb hi

/-- A weight: of the sign S, where M counts. -/
def wt (S M i : Nat) : Int := if M.testBit i then (if S.testBit i then 1 else -1) else 0
/-- The sum of f below n. -/
def sm (f : Nat → Int) : Nat → Int
  | 0 => 0
  | n + 1 => sm f n + f n
theorem sm_congr {f g : Nat → Int} : ∀ n, (∀ i, i < n → f i = g i) → sm f n = sm g n
  | 0, _ => rfl
  | n + 1, h => by simp only [sm]; rw [sm_congr n (fun i hi => h i (by omega)), h n (by omega)]
theorem sm_add (f g : Nat → Int) : ∀ n, sm (fun i => f i + g i) n = sm f n + sm g n
  | 0 => rfl
  | n + 1 => by simp only [sm]; rw [sm_add f g n]; omega
theorem sm_mul (c : Int) (f : Nat → Int) : ∀ n, sm (fun i => c * f i) n = c * sm f n
  | 0 => by simp [sm]
  | n + 1 => by simp only [sm]; rw [sm_mul c f n, Int.mul_add]
theorem sm_bd {f : Nat → Int} {K : Int} : ∀ n : Nat, (∀ i, i < n → -K ≤ f i ∧ f i ≤ K) → -(n * K) ≤ sm f n ∧ sm f n ≤ n * K
  | 0, _ => by simp [sm]
  | n + 1, h => by
    have := sm_bd (K := K) n (fun i hi => h i (by omega))
    have := h n (by omega)
    have e : ((n + 1 : Nat) : Int) * K = n * K + K := by rw [Int.natCast_add, Int.add_mul]; simp
    simp only [sm]; rw [e]; omega
/-- Signs, by places. -/
def xs1 (X i : Nat) : Int := if X.testBit i then 1 else -1
theorem tq_signs (S M X : Nat) : ∀ n, tq M S X n = sm (fun i => wt S M i * xs1 X i) n
  | 0 => rfl
  | n + 1 => by
    simp only [tq, sm]; rw [tq_signs S M X n]
    congr 1
    unfold tm wt xs1
    cases M.testBit n <;> cases S.testBit n <;> cases X.testBit n <;> rfl
theorem tq_some (S M S' M' : Nat) : ∀ n, tq (M &&& M') S S' n = sm (fun i => wt S M i * wt S' M' i) n
  | 0 => rfl
  | n + 1 => by
    simp only [tq, sm]; rw [tq_some S M S' M' n]
    congr 1
    unfold tm wt
    rw [Nat.testBit_and]
    cases M.testBit n <;> cases S.testBit n <;> cases M'.testBit n <;> cases S'.testBit n <;> rfl
/-- Over one plane. -/
theorem tq_plane (S M P : Nat) : ∀ n, tq (M &&& P) S P n = sm (fun i => wt S M i * (P.testBit i).toNat) n
  | 0 => rfl
  | n + 1 => by
    simp only [tq, sm]; rw [tq_plane S M P n]
    congr 1
    unfold tm wt
    rw [Nat.testBit_and]
    cases M.testBit n <;> cases S.testBit n <;> cases P.testBit n <;> rfl
/-- What a bit of plane p weighs. -/
def pw (p : Nat) : Int := if p = 7 then -128 else 2 ^ p
/-- The sum over the planes below q. -/
def npl (S M : Nat) (P : Nat → Nat) (n : Nat) : Nat → Int
  | 0 => 0
  | q + 1 => npl S M P n q + pw q * tq (M &&& P q) S (P q) n
/-- The number that the planes below q have at a place. -/
def nat8 (P : Nat → Nat) (i : Nat) : Nat → Int
  | 0 => 0
  | q + 1 => nat8 P i q + pw q * ((P q).testBit i).toNat
theorem npl_is (S M : Nat) (P : Nat → Nat) (n : Nat) : ∀ q, npl S M P n q = sm (fun i => wt S M i * nat8 P i q) n
  | 0 => by
    simp only [npl, nat8]
    rw [sm_congr (g := fun _ => 0) n (fun i _ => by simp)]
    have := sm_mul 0 (fun _ => 0) n
    simp at this; exact this.symm
  | q + 1 => by
    simp only [npl, nat8]
    rw [npl_is S M P n q, tq_plane, ← sm_mul, ← sm_add]
    refine sm_congr n fun i _ => ?_
    rw [Int.mul_add]
    congr 1
    rw [← Int.mul_assoc, Int.mul_comm (pw q), Int.mul_assoc]
end Go.Proofs.Ytmbhapegdbajpaa
/- A ROW OF BITS WHEREVER ITS WORDS BEGIN; bits.Check; tally, fits. -/
namespace Go.Proofs.Ytmbhapegdbajpaa
open Go.RowKit

/-- A row of bits: what it says, where its words lie, the number that they make. -/
structure Bt where
  n : Int
  ao : Option Addr
  m : Nat
  cap : Nat
  N : Nat
abbrev Bt.v (b : Bt) : Value := .agg #[.int .i64 b.n, .slice b.ao b.m b.cap]
/-- Its words lie in this memory. -/
def Rw (w : World) (b : Bt) : Prop := b.N < 2 ^ (64 * b.m) ∧ b.m ≤ 9223372036854775807 ∧ ∀ k, k < b.m → ∃ g o, b.ao = some ⟨g, o, none⟩ ∧ w.cell? ⟨g, o + k, none⟩ = some (wf b.N k)
theorem Rw.below {w w' : World} {b : Bt} (h : Rw w b) (hb : Below w.heap.size w w') : Rw w' b :=
  ⟨h.1, h.2.1, fun k hk => by obtain ⟨g, o, e, c⟩ := h.2.2 k hk; exact ⟨g, o, e, keepc hb c⟩⟩
theorem Rw.row {w : World} {g n N : Nat} (h : w.rowIs g 47 (nw n) (wf N)) (hN : N < 2 ^ n) (h1 : n ≤ 16777216) : Rw w ⟨n, some ⟨g, 0, none⟩, nw n, nw n, N⟩ :=
  ⟨lt_nw hN, by have := nw_bd h1; show nw n ≤ _; omega, fun _ hk => ⟨g, 0, rfl, by rw [Nat.zero_add]; exact h.cell hk⟩⟩
/-- What bits.Check tells of it. -/
abbrev Bt.chk (b : Bt) : Int := Go.Proofs.Ytmbhapegdbajpaa.chk b.n b.m b.N
theorem chk_zero {n : Int} {m N : Nat} (h : chk n m N = 0) : ∃ k : Nat, n = k ∧ k ≤ 16777216 ∧ m = nw k ∧ N < 2 ^ k := by
  unfold chk at h
  by_cases h1 : n < 0
  · rw [if_pos h1] at h; omega
  rw [if_neg h1] at h
  by_cases h2 : 16777216 < n
  · rw [if_pos h2] at h; omega
  rw [if_neg h2] at h
  by_cases h3 : m ≠ nw n.toNat
  · rw [if_pos h3] at h; omega
  rw [if_neg h3] at h
  by_cases h4 : N < 2 ^ n.toNat
  · exact ⟨n.toNat, by omega, by omega, by simpa using h3, h4⟩
  · rw [if_neg h4] at h; omega

/-- Does fits hold? -/
def ftB (n : Int) (m N : Nat) (len : Int) : Bool := decide (chk n m N = 0 ∧ n = len)
end Go.Proofs.Ytmbhapegdbajpaa
/- PACKAGE cube: Turn, At. -/
namespace Go.Proofs.Ytmbhapegdbajpaa
open Go.RowKit Go.Shelf

theorem Wr.rw {w : World} {ao : Option Addr} {m N : Nat} (h : Wr w ao m N) (hm : m ≤ 9223372036854775807) (n : Int) (cap : Nat) : Rw w ⟨n, ao, m, cap, N⟩ := ⟨h.1, hm, h.2⟩
theorem wr_put {w : World} {G m N b : Nat} (h : Wr w (some ⟨G, 0, none⟩) m N) (hb : G ≠ b) (k : Nat) (u : Value) : Wr (w.setCell ⟨b, k, none⟩ u) (some ⟨G, 0, none⟩) m N :=
  ⟨h.1, fun j hj => by
    obtain ⟨g, o, e, c⟩ := h.2 j hj
    cases e
    refine ⟨G, 0, rfl, ?_⟩
    exact (((But.refl b w).set u).cell hb c)⟩
theorem own_put {w : World} {base e G m K b : Nat} {xs : List Value} (h : w.ownsRow base e 1 (.slice (some ⟨G, 0, none⟩) m K) m xs) (hb : G ≠ b) (k : Nat) (u : Value) : (w.setCell ⟨b, k, none⟩ u).ownsRow base e 1 (.slice (some ⟨G, 0, none⟩) m K) m xs :=
  by
  refine ⟨h.1, ?_⟩
  rcases h.2 with q | ⟨g, cap, cur, h1, h2, h3, h4⟩
  · exact .inl q
  · refine .inr ⟨g, cap, cur, h1, h2, ?_, h4⟩
    have e : G = g := by cases h1; rfl
    subst e
    exact (((But.refl b w).set (o := k) u).block G (Array.getElem?_eq_some_iff.1 h3).1 hb).trans h3
theorem own_base {w : World} {base base' e m : Nat} {v : Value} {xs : List Value} (h : w.ownsRow base e 1 v m xs) (hb : base' ≤ base) : w.ownsRow base' e 1 v m xs := by
  refine ⟨h.1, ?_⟩
  rcases h.2 with k | ⟨g, cap, cur, h1, h2, h3⟩
  · exact .inl k
  · exact .inr ⟨g, cap, cur, h1, Nat.le_trans hb h2, h3⟩
/-- What Turn tells of a row. -/
def tuE (n : Int) (m N : Nat) : Int := if chk n m N = 0 then (if n < 1 ∨ 4096 < n then 30 else 0) else chk n m N
end Go.Proofs.Ytmbhapegdbajpaa
/- PACKAGE cube: At. -/
namespace Go.Proofs.Ytmbhapegdbajpaa
open Go.RowKit Go.Shelf

/-- What At tells. -/
def atE (h v c y x : Int) (m N : Nat) : Int := if cuk h v c m N = 0 then Sg.ixE h v c y x 0 else cuk h v c m N
end Go.Proofs.Ytmbhapegdbajpaa
/- THE LAWS' OWN WORDS: the same words, values, rows, cubes. -/
namespace Go.Proofs.Ytmbhapegdbajpaa
open Go.RowKit Go.Shelf

set_option maxHeartbeats 1600000 in
set_option maxRecDepth 100000 in
theorem words_same (m N : Nat) (ao bo : Option Addr) (ca cb : Nat) (w : World) (hm : m ≤ 9223372036854775807) (ra : Wr w ao m N) (rb : Wr w bo m N) :
    Calls Try.prog 16 #[.slice ao m ca, .slice bo m cb] w fun e w' => e = .returned (.bool true) ∧ Below w.heap.size w w' := by
  have HA := hid1 ra
  have HB := hid1 rb
  clear ra rb
  go_enter Try.func16, Try.ntmps16
  go_wp2
  go_loopw [5] (fun i wr => ∃ k : Nat, k ≤ m ∧ i = .int .i64 k ∧ Below w.heap.size w wr) (fun i _ => m - (intOf i).toNat)
  case atStart => exact ⟨0, Nat.zero_le _, rfl, Below.refl _ _⟩
  case round =>
    obtain ⟨k, hk, rfl, hnx⟩ := hrel
    by_cases hlt : k < m
    · obtain ⟨ga, oa, rfl, a1⟩ := (HA.out.below hnx).2 k hlt
      obtain ⟨gb, ob, rfl, b1⟩ := (HB.out.below hnx).2 k hlt
      unfold wf at a1 b1
      have ik : (k : Int) < (m : Nat) := by omega
      have ik0 : (0 : Int) ≤ (k : Int) := by omega
      go_wp2_with fail
      go_quiet (fail)
      go_wp2_with fail
      exact ⟨⟨k + 1, by omega, by go_num, bl_drewN hnx _⟩, by simp [intOf]; omega⟩
    · have hkN : k = m := by omega
      subst hkN
      go_wp2_with fail
      go_ret
      exact ⟨rfl, hnx⟩
set_option maxHeartbeats 1600000 in
set_option maxRecDepth 100000 in
theorem cubes_same (h v c : Int) (m N : Nat) (ao bo : Option Addr) (ca cb : Nat) (w : World) (hm : m ≤ 9223372036854775807) (ra : Wr w ao m N) (rb : Wr w bo m N) :
    Calls Try.prog 14 #[cuv h v c ao m ca, cuv h v c bo m cb] w fun e w' => e = .returned (.bool true) ∧ Below w.heap.size w w' := by
  have HA := hid1 ra
  have HB := hid1 rb
  clear ra rb
  go_enter Try.func14, Try.ntmps14
  go_wp2_with fail
  refine gen_calls (fun W => Below w.heap.size w W) (bl_alloc (bl_alloc (Below.refl _ _) _) _) ?_
  rintro W B0
  refine (words_same m N ao bo ca cb W hm (HA.out.below B0) (HB.out.below B0)).mono ?_
  rintro e w1 ⟨rfl, hb⟩
  go_wp2_with fail
  go_ret
  exact ⟨rfl, bl_step B0 hb⟩
end Go.Proofs.Ytmbhapegdbajpaa
/- PACKAGE pool, the laws: begun. -/
namespace Go.Proofs.Ytmbhapegdbajpaa
open Go.RowKit Go.Shelf

def bN : Nat := 2135987035920910082395021706169552114602704522356652769947041607822219725780640550022962086936577
theorem wr_litN (w : World) (t : TypeId) : Wr (w.alloc (.cells #[.int .u64 1, .int .u64 0, .int .u64 0, .int .u64 0, .int .u64 0, .int .u64 1] t)) (some ⟨w.heap.size, 0, none⟩) 6 bN := by
  refine ⟨by decide +kernel, fun k hk => ⟨w.heap.size, 0, rfl, ?_⟩⟩
  rcases k with _ | _ | _ | _ | _ | _ | k
  · show World.cell? _ ⟨w.heap.size, 0, none⟩ = some (.int .u64 1)
    simp [go_sem]
  · show World.cell? _ ⟨w.heap.size, 1, none⟩ = some (.int .u64 0)
    simp [go_sem]
  · show World.cell? _ ⟨w.heap.size, 2, none⟩ = some (.int .u64 0)
    simp [go_sem]
  · show World.cell? _ ⟨w.heap.size, 3, none⟩ = some (.int .u64 0)
    simp [go_sem]
  · show World.cell? _ ⟨w.heap.size, 4, none⟩ = some (.int .u64 0)
    simp [go_sem]
  · unfold wf
    rw [show wd bN 5 = 1 by decide +kernel]
    show World.cell? _ ⟨w.heap.size, 5, none⟩ = some (.int .u64 1)
    simp [go_sem]
  · omega
theorem wr_lit11 (w : World) (t : TypeId) : Wr (w.alloc (.cells #[.int .u64 1, .int .u64 1] t)) (some ⟨w.heap.size, 0, none⟩) 2 18446744073709551617 := by
  refine ⟨by decide, fun k hk => ⟨w.heap.size, 0, rfl, ?_⟩⟩
  rcases k with _ | _ | k
  · show World.cell? _ ⟨w.heap.size, 0, none⟩ = some (.int .u64 1)
    simp [go_sem]
  · show World.cell? _ ⟨w.heap.size, 1, none⟩ = some (.int .u64 1)
    simp [go_sem]
  · omega
theorem wr_lit00 (w : World) (t : TypeId) : Wr (w.alloc (.cells #[.int .u64 0, .int .u64 0] t)) (some ⟨w.heap.size, 0, none⟩) 2 0 := by
  refine ⟨by decide, fun k hk => ⟨w.heap.size, 0, rfl, ?_⟩⟩
  rcases k with _ | _ | k
  · show World.cell? _ ⟨w.heap.size, 0, none⟩ = some (.int .u64 0)
    simp [go_sem]
  · show World.cell? _ ⟨w.heap.size, 1, none⟩ = some (.int .u64 0)
    simp [go_sem]
  · omega
theorem bgn_start (w : World) : Wr (((w.alloc (.cells #[.int .u64 1, .int .u64 0, .int .u64 0, .int .u64 0, .int .u64 0, .int .u64 1] 47)).alloc (.cells #[.int .i64 2, .int .i64 3, .int .i64 1, .slice (some ⟨w.heap.size, 0, none⟩) 6 6] 35)).alloc (.cells #[.int .i64 2, .int .i64 2, .int .i64 1, .int .i64 1, .int .i64 0, .int .i64 0, .int .i64 0, .int .i64 0] 24)) (some ⟨w.heap.size, 0, none⟩) 6 bN ∧
    (((w.alloc (.cells #[.int .u64 1, .int .u64 0, .int .u64 0, .int .u64 0, .int .u64 0, .int .u64 1] 47)).alloc (.cells #[.int .i64 2, .int .i64 3, .int .i64 1, .slice (some ⟨w.heap.size, 0, none⟩) 6 6] 35)).alloc (.cells #[.int .i64 2, .int .i64 2, .int .i64 1, .int .i64 1, .int .i64 0, .int .i64 0, .int .i64 0, .int .i64 0] 24)).rowIs (w.heap.size + 1) 35 4 (cf 2 3 1 (some ⟨w.heap.size, 0, none⟩) 6 6) ∧
    Sg.Wn (((w.alloc (.cells #[.int .u64 1, .int .u64 0, .int .u64 0, .int .u64 0, .int .u64 0, .int .u64 1] 47)).alloc (.cells #[.int .i64 2, .int .i64 3, .int .i64 1, .slice (some ⟨w.heap.size, 0, none⟩) 6 6] 35)).alloc (.cells #[.int .i64 2, .int .i64 2, .int .i64 1, .int .i64 1, .int .i64 0, .int .i64 0, .int .i64 0, .int .i64 0] 24)) (w.heap.size + 2) 0 2 2 1 1 0 0 0 0 := by
  refine ⟨((wr_litN w _).below (bl_alloc (Below.refl _ _) _)).below (bl_alloc (Below.refl _ _) _), ?_, ?_⟩
  · have := cu_new (w.alloc (.cells #[.int .u64 1, .int .u64 0, .int .u64 0, .int .u64 0, .int .u64 0, .int .u64 1] 47)) 2 3 1 (some ⟨w.heap.size, 0, none⟩) 6 6 35
    rw [World.size_alloc] at this
    exact this.alloc _
  · have := Sg.wn_new ((w.alloc (.cells #[.int .u64 1, .int .u64 0, .int .u64 0, .int .u64 0, .int .u64 0, .int .u64 1] 47)).alloc (.cells #[.int .i64 2, .int .i64 3, .int .i64 1, .slice (some ⟨w.heap.size, 0, none⟩) 6 6] 35)) 2 2 1 1 0 0 0 0 24
    rw [World.size_alloc, World.size_alloc] at this
    exact this
theorem pg_lit : Pg 2 3 1 2 2 1 1 6 bN := ⟨by decide, by decide, by decide, by decide, by decide, by decide, by decide, by decide, by decide, by decide, by decide, by decide +kernel⟩
theorem po_lit1 : poN false bN 3 (nw 1) 2 2 1 1 2 (1 * 2) = 18446744073709551617 := by decide +kernel
theorem po_lit2 : poN true bN 3 (nw 1) 2 2 1 1 2 (1 * 2) = 0 := by decide +kernel
set_option maxHeartbeats 1600000 in
set_option maxRecDepth 100000 in
theorem ubegun_any (w : World) : Calls Try.prog 4 #[] w fun e w' => e = .returned (.bool true) ∧ Below w.heap.size w w' := by
  have HX := hid1 (fun g W r => max_ok 2 3 1 2 2 1 1 g 0 6 6 bN 1 2 2 W pg_lit (by decide) (by decide) (by decide) (by decide) (by decide) r)
  have HN := hid1 (fun g W r => min_ok 2 3 1 2 2 1 1 g 0 6 6 bN 1 2 2 W pg_lit (by decide) (by decide) (by decide) (by decide) (by decide) r)
  rw [po_lit1] at HX
  rw [po_lit2] at HN
  simp only [show ((1 : Nat) : Int) = 1 from rfl, show ((2 : Nat) : Int) = 2 from rfl, show ((3 : Nat) : Int) = 3 from rfl] at HX HN
  go_enter Try.func4, Try.ntmps4
  go_wp2_with fail
  have S0 := hid1 (bgn_start w)
  refine gen_calls (fun W => W.rowIs (w.heap.size + 1) 35 4 (cf 2 3 1 (some ⟨w.heap.size, 0, none⟩) 6 6) ∧ Sg.Wn W (w.heap.size + 2) 0 2 2 1 1 0 0 0 0 ∧ Wr W (some ⟨w.heap.size, 0, none⟩) 6 bN ∧ Below w.heap.size w W) ⟨S0.out.2.1, S0.out.2.2, S0.out.1, bl_alloc (bl_alloc (bl_alloc (Below.refl _ _) _) _) _⟩ ?_
  rintro W ⟨q1, q2, r0, B1⟩
  refine (HX.out _ W r0).mono ?_
  rintro e w1 ⟨G1, rfl, hG1, row, hb⟩
  replace q1 := keepr hb q1
  replace q2 := q2.keep hb
  replace r0 := r0.below hb
  have B2 := bl_step B1 hb
  clear hb B1
  have r1 := Wr.row row (show (18446744073709551617 : Nat) < 2 ^ (64 * 2) by decide)
  clear row HX hG1
  have e0 := cf0 q1
  have e1 := cf1 q1
  have e2 := cf2 q1
  have e3 := cf3 q1
  have q2' := q2
  obtain ⟨n0, n1, n2, n3, n4, n5, n6, n7⟩ := q2'
  simp only [Nat.zero_add] at n1 n2 n3 n4 n5 n6 n7
  have l1 := q1.lt
  have l2 := lt_of_cell n0
  go_wp2_with fail
  refine gen_calls (fun W => W.rowIs (w.heap.size + 1) 35 4 (cf 2 3 1 (some ⟨w.heap.size, 0, none⟩) 6 6) ∧ Sg.Wn W (w.heap.size + 2) 0 2 2 1 1 0 0 0 0 ∧ Wr W (some ⟨w.heap.size, 0, none⟩) 6 bN ∧ Wr W (some ⟨G1, 0, none⟩) 2 18446744073709551617 ∧ W.rowIs (w1.heap.size) 35 4 (cf 1 2 1 (some ⟨G1, 0, none⟩) 2 2) ∧ Below w.heap.size w W) ⟨q1.alloc _, q2.keep (bl_alloc (Below.refl _ _) _), r0.below (bl_alloc (Below.refl _ _) _), r1.below (bl_alloc (Below.refl _ _) _), cu_new _ _ _ _ _ _ _ _, bl_alloc B2 _⟩ ?_
  clear q1 q2 r0 r1 B2 e0 e1 e2 e3 n0 n1 n2 n3 n4 n5 n6 n7 l1 l2
  rintro W2 ⟨q1, q2, r0, r1, q3, B3⟩
  refine (HN.out _ W2 r0).mono ?_
  rintro e w2 ⟨G2, rfl, hG2, row, hb⟩
  replace q1 := keepr hb q1
  replace q2 := q2.keep hb
  replace r0 := r0.below hb
  replace r1 := r1.below hb
  replace q3 := keepr hb q3
  have B4 := bl_step B3 hb
  clear hb B3
  have r2 := Wr.row row (show (0 : Nat) < 2 ^ (64 * 2) by decide)
  clear row HN hG2
  clear q1 q2 r0
  have e0 := cf0 q3
  have e1 := cf1 q3
  have e2 := cf2 q3
  have e3 := cf3 q3
  have l3 := q3.lt
  go_wp2_with fail
  refine gen_calls (fun W => W.rowIs w2.heap.size 35 4 (cf 1 2 1 (some ⟨G2, 0, none⟩) 2 2) ∧ W.rowIs (w2.heap.size + 1) 32 3 (hf 1 2 1) ∧ Wr W (some ⟨G1, 0, none⟩) 2 18446744073709551617 ∧ Wr W (some ⟨G2, 0, none⟩) 2 0 ∧ Wr W (some ⟨w2.heap.size + 2, 0, none⟩) 2 18446744073709551617 ∧ Below w.heap.size w W) ⟨((cu_new w2 _ _ _ _ _ _ _).alloc _).alloc _, ?_, ((r1.below (bl_alloc (Below.refl _ _) _)).below (bl_alloc (Below.refl _ _) _)).below (bl_alloc (Below.refl _ _) _), ((r2.below (bl_alloc (Below.refl _ _) _)).below (bl_alloc (Below.refl _ _) _)).below (bl_alloc (Below.refl _ _) _), ?_, bl_alloc (bl_alloc (bl_alloc B4 _) _) _⟩ ?_
  · have := hf_new (w2.alloc (.cells #[.int .i64 1, .int .i64 2, .int .i64 1, .slice (some ⟨G2, 0, none⟩) 2 2] 35)) 1 2 1 32
    rw [World.size_alloc] at this
    exact this.alloc _
  · have := wr_lit11 ((w2.alloc (.cells #[.int .i64 1, .int .i64 2, .int .i64 1, .slice (some ⟨G2, 0, none⟩) 2 2] 35)).alloc (.cells #[.int .i64 1, .int .i64 2, .int .i64 1] 32)) 47
    rw [World.size_alloc, World.size_alloc] at this
    exact this
  clear q3 r1 r2 B4 e0 e1 e2 e3 l3
  rintro W3 ⟨q5, q7, r1, r2, r3, B9⟩
  refine (cubes_same 1 2 1 2 18446744073709551617 _ _ _ _ W3 (by decide) r1 r3).mono ?_
  rintro e w3 ⟨rfl, hb⟩
  replace q5 := keepr hb q5
  replace q7 := keepr hb q7
  replace r2 := r2.below hb
  have B10 := bl_step B9 hb
  clear hb B9 r1 r3
  have e0 := cf0 q5
  have e1 := cf1 q5
  have e2 := cf2 q5
  have e3 := cf3 q5
  have s0 := hf0 q7
  have s1 := hf1 q7
  have s2 := hf2 q7
  go_wp2_with fail
  refine gen_calls (fun W => Wr W (some ⟨G2, 0, none⟩) 2 0 ∧ Wr W (some ⟨w3.heap.size, 0, none⟩) 2 0 ∧ Below w.heap.size w W) ⟨r2.below (bl_alloc (Below.refl _ _) _), wr_lit00 _ _, bl_alloc B10 _⟩ ?_
  clear r2 B10 q5 q7 e0 e1 e2 e3 s0 s1 s2
  rintro W4 ⟨r2, r3, B11⟩
  refine (cubes_same 1 2 1 2 0 _ _ _ _ W4 (by decide) r2 r3).mono ?_
  rintro e w4 ⟨rfl, hb⟩
  have B12 := bl_step B11 hb
  clear hb B11
  go_wp2_with fail
  go_ret
  exact ⟨rfl, B12⟩
end Go.Proofs.Ytmbhapegdbajpaa
/- PARAMETERS THAT ARE A CUBE, LISTS OF CUBES, LISTS OF WINDOWS (plain rows). -/
namespace Go.Proofs.Ytmbhapegdbajpaa
open Go.ChangeShapes Go.WideShapes Go.ChangeAt Go.RowKit
set_option maxRecDepth 100000

theorem max_is : maxLen = 9223372036854775807 := by decide
theorem add_at (b o n : Nat) : Addr.add ⟨b, o, none⟩ n = ⟨b, o + n, none⟩ := by
  unfold Addr.add
  by_cases h : n = 0
  · subst h; rfl
  · rw [if_neg h]
theorem u64_of_wf {x : Int} (h : (Lit.int .u64 x).wf = true) : 0 ≤ x ∧ x < 18446744073709551616 := by
  simp [Lit.wf, IntKind.min, IntKind.max, IntKind.signed, IntKind.bits] at h
  exact ⟨by omega, by omega⟩
theorem cells_u64 : Try.prog.cellsOf 47 = 1 := by kernel_rfl
theorem cells_intU : Try.prog.cellsOf 3 = 1 := by kernel_rfl
theorem cells_us : Try.prog.cellsOf 33 = 1 := by kernel_rfl
theorem bytes_u64 : Try.prog.bytesOf 47 = 8 := by kernel_rfl
theorem num_gen (B : Nat) (hB : 0 < B) (f : Nat → Nat) : ∀ m, (∀ k, k < m → f k < B) → ∃ N, N < B ^ m ∧ ∀ k, k < m → N / B ^ k % B = f k
  | 0, _ => ⟨0, by simp, fun k hk => absurd hk (by omega)⟩
  | m + 1, h => by
    obtain ⟨N, h1, h2⟩ := num_gen B hB f m fun k hk => h k (by omega)
    have hm := h m (by omega)
    have hp : 0 < B ^ m := Nat.pow_pos hB
    refine ⟨N + B ^ m * f m, ?_, fun k hk => ?_⟩
    · have h3 : B ^ m * (f m + 1) ≤ B ^ m * B := Nat.mul_le_mul_left _ (by omega)
      rw [Nat.mul_add, Nat.mul_one] at h3
      rw [Nat.pow_succ]
      omega
    · by_cases hkm : k = m
      · subst hkm
        rw [Nat.add_mul_div_left _ _ hp, Nat.div_eq_of_lt h1, Nat.zero_add, Nat.mod_eq_of_lt hm]
      · have hlt : k < m := by omega
        obtain ⟨q, rfl⟩ : ∃ q, m = k + (q + 1) := ⟨m - k - 1, by omega⟩
        have e : B ^ (k + (q + 1)) * f (k + (q + 1)) = B ^ k * (B * (B ^ q * f (k + (q + 1)))) := by
          rw [Nat.pow_add, Nat.pow_succ, Nat.mul_comm (B ^ q) B]
          simp only [Nat.mul_assoc]
        rw [e, Nat.add_mul_div_left _ _ (Nat.pow_pos hB), Nat.add_mul_mod_self_left]
        exact h2 k hlt
theorem num_of (f : Nat → Nat) (m : Nat) (h : ∀ k, k < m → f k < 18446744073709551616) : ∃ N, N < 2 ^ (64 * m) ∧ ∀ k, k < m → wd N k = f k := by
  obtain ⟨N, h1, h2⟩ := num_gen (2 ^ 64) (Nat.pow_pos (by decide)) f m (by rw [← two64]; exact h)
  refine ⟨N, by rw [Nat.pow_mul]; exact h1, fun k hk => ?_⟩
  have h3 := h2 k hk
  rw [← Nat.pow_mul, ← two64] at h3
  exact h3
theorem weightsAll_mem {H : Type} {P : Program} {e : TypeId} : ∀ {l : List (DataW H)} {d : DataW H}, d ∈ l → ∀ n ∈ d.weights P e, n ∈ DataW.weightsAll P e l
  | x :: l, d, hd, n, hn => by
    rw [DataW.weightsAll, List.mem_append]
    rcases List.mem_cons.mp hd with rfl | h
    · exact Or.inl hn
    · exact Or.inr (weightsAll_mem h n hn)
theorem open_list {H : Type} {enc : TypeId × Value → H} {W : World} {base : Nat} {t e : TypeId} {N : Nat} {v : Value} {d : DataW H} {p : List MemPlace} (ht : Try.prog.underlying t = some (.slice e)) (hN : Try.prog.cellsOf e = N) (hpos : 0 < N)
    (hv : Value.okWide Try.prog W .any base t v) (h : DataW.Trod enc Try.prog W 0 (fun _ => true) true t v d p) :
    ∃ (ao : Option Addr) (m cap : Nat), v = .slice ao m cap ∧ m ≤ 9223372036854775807 ∧ ∀ k, k < m → ∃ (g o n : Nat) (cs : List Value) (y : DataW H × List MemPlace), ao = some ⟨g, o, none⟩ ∧ DataW.trod enc Try.prog W 0 (fun _ => true) true n e cs = some y ∧ cs.length = N ∧
      ∀ j, j < N → W.cell? ⟨g, o + k * N + j, none⟩ = cs[j]? := by
  obtain ⟨a0, len, cap, rfl⟩ := okWide_slice ht hv
  obtain ⟨fuel, hf⟩ := h
  rcases Deep.open_slice ht hf with ⟨hc, hx⟩ | ⟨a, len', cap', mm, n, D, Pl, hc, _, hl, hm, hmm, hx, hcell⟩
  · simp [Value.cells] at hc
    obtain ⟨rfl, rfl, rfl⟩ := hc
    exact ⟨none, 0, 0, rfl, by omega, fun k hk => absurd hk (by omega)⟩
  · simp [Value.cells] at hc
    obtain ⟨rfl, rfl, rfl⟩ := hc
    simp only [if_true] at hmm
    refine ⟨some a, len, cap, rfl, by have := max_is; omega, fun k hk => ?_⟩
    obtain ⟨b, o, s⟩ := a
    obtain rfl : s = none := by
      obtain ⟨cs0, h0, _⟩ := hcell 0 (by omega)
      rw [hN] at h0
      obtain ⟨_, hlen, hc0⟩ := World.cells?_some h0
      have e0 := hc0 0 hpos
      rw [Deep.add_add, List.getElem?_eq_getElem (by omega)] at e0
      have := World.cell?_spot e0
      simpa [Addr.add] using this
    obtain ⟨cs, h1, h2⟩ := hcell k (by omega)
    rw [hN] at h1
    obtain ⟨_, hlen, hc1⟩ := World.cells?_some h1
    refine ⟨b, o, n, cs, _, rfl, h2, hlen, fun j hj => ?_⟩
    have := hc1 j hj
    rw [Deep.add_add, add_at, ← Nat.add_assoc] at this
    exact this
section
variable {H : Type} {enc : TypeId × Value → H} {W : World} {fuel : Nat} {cs : List Value} {x : DataW H × List MemPlace}
theorem open_words (h : DataW.trod enc Try.prog W 0 (fun _ => true) true fuel 33 cs = some x) :
    ∃ (ao : Option Addr) (m cap N : Nat), cs = [.slice ao m cap] ∧ m ≤ cap ∧ cap ≤ 9223372036854775807 ∧ N < 2 ^ (64 * m) ∧ ∀ k, k < m → ∃ g o, ao = some ⟨g, o, none⟩ ∧ W.cell? ⟨g, o + k, none⟩ = some (wf N k) := by
  rcases open_ints und_u64s Try.underlying47 cells_u64 h with ⟨hc, hx⟩ | ⟨a, len, cap, zs, hc, _, hl, hm, hzl, hx, hcell, hwf⟩
  · exact ⟨none, 0, 0, 0, hc, by omega, by omega, by simp, fun k hk => absurd hk (by omega)⟩
  · simp only [if_true] at hzl
    have hmx := max_is
    have hr : ∀ k, k < len → 0 ≤ zs.getD k 0 ∧ zs.getD k 0 < 18446744073709551616 := fun k hk => by
      have hk2 : k < zs.length := by omega
      have e : zs.getD k 0 = zs[k] := by simp [List.getD, hk2]
      rw [e]
      exact u64_of_wf (hwf _ (List.getElem_mem hk2))
    obtain ⟨N, hN, hNk⟩ := num_of (fun k => (zs.getD k 0).toNat) len fun k hk => by have := hr k hk; omega
    obtain ⟨b, o, s⟩ := a
    have at_ : ∀ k, k < len → s = none ∧ W.cell? ⟨b, o + k, none⟩ = some (wf N k) := fun k hk => by
      have c := hcell k (by omega)
      have c0 := hcell 0 (by omega)
      have hs := World.cell?_spot c0
      simp [Addr.add] at hs
      subst hs
      rw [add_at] at c
      refine ⟨rfl, ?_⟩
      rw [c]
      unfold wf
      rw [hNk k hk]
      have := hr k hk
      congr 2
      omega
    refine ⟨some ⟨b, o, s⟩, len, cap, N, hc, hl, by omega, hN, fun k hk => ?_⟩
    obtain ⟨rfl, c⟩ := at_ k hk
    exact ⟨b, o, rfl, c⟩
theorem fldZ {t : TypeId} {fs : Array Field} (ht : Try.prog.underlying t = some (.struct fs)) (h : DataW.trod enc Try.prog W 0 (fun _ => true) true fuel t cs = some x) (hz : ∀ n ∈ x.1.weights Try.prog t, n ≤ reachBytes) (i : Nat) (f : Field) (hi : fs[i]? = some f) :
    ∃ n y, DataW.trod enc Try.prog W 0 (fun _ => true) true n f.type ((cs.drop f.offset).take (Try.prog.cellsOf f.type)) = some y ∧ ∀ m ∈ y.1.weights Try.prog f.type, m ≤ reachBytes := by
  obtain ⟨xs, n, _, ex, _, hxl, hf⟩ := DataW.trod_struct ht h
  have g := hf i f hi
  have hlt : i < xs.length := by
    rw [hxl]
    exact (Array.getElem?_eq_some_iff.1 hi).1
  rw [List.getElem?_eq_getElem hlt] at g
  refine ⟨n, _, g, fun m hm => hz m ?_⟩
  rw [ex]
  simp only [DataW.weights, ht]
  refine DataW.weights_mem_each (j := i) (t := f.type) (d := xs[i].1) ?_ ?_ _ hm
  · simp [hi]
  · rw [List.getElem?_map, List.getElem?_eq_getElem hlt]
    rfl
theorem open_wordsZ (h : DataW.trod enc Try.prog W 0 (fun _ => true) true fuel 33 cs = some x) (hz : ∀ n ∈ x.1.weights Try.prog 33, n ≤ reachBytes) :
    ∃ (ao : Option Addr) (m cap N : Nat), cs = [.slice ao m cap] ∧ (m ≤ cap ∧ cap ≤ 9223372036854775807) ∧ m ≤ 17592186043904 ∧ N < 2 ^ (64 * m) ∧ ∀ k, k < m → ∃ g o, ao = some ⟨g, o, none⟩ ∧ W.cell? ⟨g, o + k, none⟩ = some (wf N k) := by
  obtain ⟨ao, m, cap, N, e, h1, h2, h3, h4⟩ := open_words h
  refine ⟨ao, m, cap, N, e, ?_, ?_, h3, h4⟩
  · exact ⟨h1, h2⟩
  · rcases open_ints und_u64s Try.underlying47 cells_u64 h with ⟨hc, hx⟩ | ⟨a, len, cap', zs, hc, _, hl, hm, hzl, hx, _⟩
    · rw [e] at hc
      simp at hc
      omega
    · rw [e] at hc
      simp at hc
      simp only [if_true] at hzl
      have w1 := hz ((lits (H := H) .u64 (zs.take len)).length + (lits (H := H) .u64 (zs.drop len)).length |>.mul 8) (by
        rw [hx]
        simp only [DataW.weights, und_u64s, bytes_u64]
        exact List.mem_cons_self)
      rw [reach_is] at w1
      have e1 : (lits (H := H) .u64 (zs.take len)).length + (lits (H := H) .u64 (zs.drop len)).length = zs.length := by simp [lits]; omega
      rw [e1] at w1
      have w2 : zs.length * 8 ≤ 140737488351232 := w1
      omega
theorem cells_cube : Try.prog.cellsOf 35 = 4 := by kernel_rfl
theorem open_cubeZ (h : DataW.trod enc Try.prog W 0 (fun _ => true) true fuel 35 cs = some x) (hz : ∀ n ∈ x.1.weights Try.prog 35, n ≤ reachBytes) :
    ∃ (h v c : Int) (ao : Option Addr) (m cap N : Nat), cs = [.int .i64 h, .int .i64 v, .int .i64 c, .slice ao m cap] ∧ Wr W ao m N ∧ m ≤ 17592186043904 ∧ m ≤ cap ∧ cap ≤ 9223372036854775807 := by
  have hl : cs.length = 4 := by
    obtain ⟨_, _, _, _, hlen, _, _⟩ := DataW.trod_struct Try.underlying35 h
    exact hlen.trans cells_cube
  obtain ⟨_, y0, t0, _⟩ := fldZ Try.underlying35 h hz 0 _ rfl
  obtain ⟨_, y1, t1, z1⟩ := fldZ Try.underlying35 h hz 1 _ rfl
  replace t0 : DataW.trod enc Try.prog W 0 (fun _ => true) true _ 32 ((cs.drop 0).take (Try.prog.cellsOf 32)) = some y0 := t0
  replace t1 : DataW.trod enc Try.prog W 0 (fun _ => true) true _ 33 ((cs.drop 3).take (Try.prog.cellsOf 33)) = some y1 := t1
  rw [cells_shpF] at t0
  rw [cells_us] at t1
  obtain ⟨hh, v, c, e0⟩ := shape_cellsF t0
  obtain ⟨ao, m, cap, N, e1, h1, h2, h3, h4⟩ := open_wordsZ t1 z1
  match cs, hl with
  | [a, b, d, f], _ =>
    simp at e0 e1
    obtain ⟨rfl, rfl, rfl⟩ := e0
    subst e1
    exact ⟨hh, v, c, ao, m, cap, N, rfl, ⟨h3, h4⟩, h2, h1⟩
end
/-- A list of cubes that came in. -/
def LqU (W : World) (ao : Option Addr) (m : Nat) : Prop := ∀ j, j < m → ∃ (g o : Nat) (h v c : Int) (xo : Option Addr) (n xc N : Nat), ao = some ⟨g, o, none⟩ ∧ (W.cell? ⟨g, o + j * 4, none⟩ = some (.int .i64 h) ∧ W.cell? ⟨g, o + j * 4 + 1, none⟩ = some (.int .i64 v) ∧ W.cell? ⟨g, o + j * 4 + 2, none⟩ = some (.int .i64 c) ∧ W.cell? ⟨g, o + j * 4 + 3, none⟩ = some (.slice xo n xc)) ∧ Wr W xo n N ∧ n ≤ 17592186043904 ∧ n ≤ xc ∧ xc ≤ 9223372036854775807
theorem und_cubesU : Try.prog.underlying 22 = some (.slice 35) := by kernel_rfl
theorem open_cubess {H : Type} {enc : TypeId × Value → H} {W : World} {base : Nat} {v : Value} {d : DataW H} {p : List MemPlace}
    (hv : Value.okWide Try.prog W .any base 22 v) (h : DataW.Trod enc Try.prog W 0 (fun _ => true) true 22 v d p) (hz : ∀ n ∈ d.weights Try.prog 22, n ≤ reachBytes) :
    ∃ (ao : Option Addr) (m cap : Nat), v = .slice ao m cap ∧ m ≤ 9223372036854775807 ∧ LqU W ao m := by
  obtain ⟨a0, len, cap, rfl⟩ := okWide_slice und_cubesU hv
  obtain ⟨fuel, hf⟩ := h
  rcases Deep.open_slice und_cubesU hf with ⟨hc, hx⟩ | ⟨a, len', cap', mm, n, D, Pl, hc, _, hl, hm, hmm, hx, hcell⟩
  · simp [Value.cells] at hc
    obtain ⟨rfl, rfl, rfl⟩ := hc
    exact ⟨none, 0, 0, rfl, by simp, fun j hj => absurd hj (by simp)⟩
  · simp [Value.cells] at hc
    obtain ⟨rfl, rfl, rfl⟩ := hc
    simp only [if_true] at hmm
    have hmx := max_is
    have hd : d = .slice ((List.range len).map D) ((List.range (mm - len)).map fun j => D (len + j)) := congrArg Prod.fst hx
    obtain ⟨b, o, s⟩ := a
    refine ⟨some ⟨b, o, s⟩, len, cap, rfl, by omega, fun j hj => ?_⟩
    obtain ⟨cs1, h1, h2⟩ := hcell j (by omega)
    rw [cells_cube] at h1
    obtain ⟨_, hlen, hc1⟩ := World.cells?_some h1
    have hzj : ∀ n ∈ (D j).weights Try.prog 35, n ≤ reachBytes := fun n hn => hz n (by
      rw [hd]
      simp only [DataW.weights, und_cubesU]
      refine List.mem_cons_of_mem _ (List.mem_append.mpr (Or.inl ?_))
      exact weightsAll_mem (List.mem_map.mpr ⟨j, List.mem_range.mpr hj, rfl⟩) n hn)
    obtain ⟨h, v, c, xo, m, xc, N, rfl, wr, hm', hx'⟩ := open_cubeZ h2 hzj
    have e0 := hc1 0 (by decide)
    have e1 := hc1 1 (by decide)
    have e2 := hc1 2 (by decide)
    have e3 := hc1 3 (by decide)
    rw [Deep.add_add] at e0 e1 e2 e3
    have hs : s = none := by
      obtain ⟨cs0, h0, _⟩ := hcell 0 (by omega)
      rw [cells_cube] at h0
      obtain ⟨_, hlen0, hc0⟩ := World.cells?_some h0
      have e2 := hc0 0 (by decide)
      rw [Deep.add_add, List.getElem?_eq_getElem (by omega)] at e2
      have := World.cell?_spot e2
      simpa [Addr.add] using this
    subst hs
    rw [add_at] at e0 e1 e2 e3
    exact ⟨b, o, h, v, c, xo, m, xc, N, rfl, ⟨by simpa using e0, by simpa [Nat.add_assoc] using e1, by simpa [Nat.add_assoc] using e2, by simpa [Nat.add_assoc] using e3⟩, wr, hm', hx'⟩
theorem open_cube {H : Type} {enc : TypeId × Value → H} {W : World} {base : Nat} {v : Value} {d : DataW H} {p : List MemPlace}
    (hv : Value.okWide Try.prog W .any base 35 v) (h : DataW.Trod enc Try.prog W 0 (fun _ => true) true 35 v d p) (hz : ∀ n ∈ d.weights Try.prog 35, n ≤ reachBytes) :
    ∃ (a b c : Int) (ao : Option Addr) (m cap N : Nat), v = cuv a b c ao m cap ∧ Wr W ao m N ∧ m ≤ 17592186043904 ∧ m ≤ cap ∧ cap ≤ 9223372036854775807 := by
  obtain ⟨cs, rfl, _⟩ := okWide_struct Try.underlying35 hv
  obtain ⟨fuel, hf⟩ := h
  obtain ⟨a, b, c, ao, m, cap, N, e, w1, w2, w3⟩ := open_cubeZ hf hz
  refine ⟨a, b, c, ao, m, cap, N, ?_, w1, w2, w3⟩
  simp [Value.cells] at e
  obtain ⟨l⟩ := cs
  simp at e
  subst e
  rfl
/-- A list of windows that came in. -/
def LwU (W : World) (ao : Option Addr) (m : Nat) : Prop := ∀ j, j < m → ∃ (g o : Nat) (r s sy sx t l b q : Int), ao = some ⟨g, o, none⟩ ∧ Sg.Wn W g (o + j * 8) r s sy sx t l b q
end Go.Proofs.Ytmbhapegdbajpaa
/- A LIST OF CUBES OF A BULK THAT IS BOUNDED. -/
namespace Go.Proofs.Ytmbhapegdbajpaa
open Go.ChangeShapes Go.WideShapes Go.ChangeAt Go.RowKit
set_option maxRecDepth 100000

theorem bk_pos {H : Type} (d : DataW H) : 0 < Rows.uptoBulk d := by
  rcases d with l | _ | _ | _ | _ | _ | _ | _
  · rcases l <;> simp [Rows.uptoBulk]
  all_goals simp [Rows.uptoBulk]
theorem bk_len {H : Type} : ∀ l : List (DataW H), l.length ≤ Rows.uptoBulkAll l
  | [] => by simp [Rows.uptoBulkAll]
  | d :: l => by
    have h1 := bk_pos d
    have h2 := bk_len l
    simp only [Rows.uptoBulkAll, List.length_cons]
    omega
theorem bk_mem {H : Type} {d : DataW H} : ∀ {l : List (DataW H)}, d ∈ l → Rows.uptoBulk d ≤ Rows.uptoBulkAll l
  | x :: l, h => by
    simp only [Rows.uptoBulkAll]
    rcases List.mem_cons.mp h with rfl | h
    · omega
    · have := bk_mem h; omega
section
variable {H : Type} {enc : TypeId × Value → H} {W : World} {fuel : Nat} {cs : List Value} {x : DataW H × List MemPlace}
theorem fldBk {t : TypeId} {fs : Array Field} (ht : Try.prog.underlying t = some (.struct fs)) (h : DataW.trod enc Try.prog W 0 (fun _ => true) true fuel t cs = some x) (hz : Rows.uptoBulk x.1 ≤ 1048576) (i : Nat) (f : Field) (hi : fs[i]? = some f) :
    ∃ n y, DataW.trod enc Try.prog W 0 (fun _ => true) true n f.type ((cs.drop f.offset).take (Try.prog.cellsOf f.type)) = some y ∧ Rows.uptoBulk y.1 ≤ 1048576 := by
  obtain ⟨xs, n, _, ex, _, hxl, hf⟩ := DataW.trod_struct ht h
  have g := hf i f hi
  have hlt : i < xs.length := by
    rw [hxl]
    exact (Array.getElem?_eq_some_iff.1 hi).1
  rw [List.getElem?_eq_getElem hlt] at g
  refine ⟨n, _, g, ?_⟩
  rw [ex] at hz
  have := bk_mem (d := xs[i].1) (l := xs.map fun x => x.fst) (List.mem_map.mpr ⟨_, List.getElem_mem hlt, rfl⟩)
  simp only [Rows.uptoBulk] at hz
  omega
theorem open_wordsB (h : DataW.trod enc Try.prog W 0 (fun _ => true) true fuel 33 cs = some x) (hz : Rows.uptoBulk x.1 ≤ 1048576) :
    ∃ (ao : Option Addr) (m cap N : Nat), cs = [.slice ao m cap] ∧ (m ≤ cap ∧ cap ≤ 9223372036854775807) ∧ m ≤ 17592186043904 ∧ N < 2 ^ (64 * m) ∧ ∀ k, k < m → ∃ g o, ao = some ⟨g, o, none⟩ ∧ W.cell? ⟨g, o + k, none⟩ = some (wf N k) := by
  obtain ⟨ao, m, cap, N, e, h1, h2, h3, h4⟩ := open_words h
  refine ⟨ao, m, cap, N, e, ⟨h1, h2⟩, ?_, h3, h4⟩
  rcases open_ints und_u64s Try.underlying47 cells_u64 h with ⟨hc, hx⟩ | ⟨a, len, cap', zs, hc, _, hl, hm, hzl, hx, _⟩
  · rw [e] at hc
    simp at hc
    omega
  · rw [e] at hc
    simp at hc
    simp only [if_true] at hzl
    rw [hx] at hz
    simp only [Rows.uptoBulk] at hz
    have w1 := bk_len (lits (H := H) .u64 (zs.take len))
    have e1 : (lits (H := H) .u64 (zs.take len)).length = len := by simp [lits]; omega
    omega
theorem open_cubeB (h : DataW.trod enc Try.prog W 0 (fun _ => true) true fuel 35 cs = some x) (hz : Rows.uptoBulk x.1 ≤ 1048576) :
    ∃ (h v c : Int) (ao : Option Addr) (m cap N : Nat), cs = [.int .i64 h, .int .i64 v, .int .i64 c, .slice ao m cap] ∧ Wr W ao m N ∧ m ≤ 17592186043904 ∧ m ≤ cap ∧ cap ≤ 9223372036854775807 := by
  have hl : cs.length = 4 := by
    obtain ⟨_, _, _, _, hlen, _, _⟩ := DataW.trod_struct Try.underlying35 h
    exact hlen.trans cells_cube
  obtain ⟨_, y0, t0, _⟩ := fldBk Try.underlying35 h hz 0 _ rfl
  obtain ⟨_, y1, t1, z1⟩ := fldBk Try.underlying35 h hz 1 _ rfl
  replace t0 : DataW.trod enc Try.prog W 0 (fun _ => true) true _ 32 ((cs.drop 0).take (Try.prog.cellsOf 32)) = some y0 := t0
  replace t1 : DataW.trod enc Try.prog W 0 (fun _ => true) true _ 33 ((cs.drop 3).take (Try.prog.cellsOf 33)) = some y1 := t1
  rw [cells_shpF] at t0
  rw [cells_us] at t1
  obtain ⟨hh, v, c, e0⟩ := shape_cellsF t0
  obtain ⟨ao, m, cap, N, e1, h1, h2, h3, h4⟩ := open_wordsB t1 z1
  match cs, hl with
  | [a, b, d, f], _ =>
    simp at e0 e1
    obtain ⟨rfl, rfl, rfl⟩ := e0
    subst e1
    exact ⟨hh, v, c, ao, m, cap, N, rfl, ⟨h3, h4⟩, h2, h1⟩
end
theorem open_cubessB {H : Type} {enc : TypeId × Value → H} {W : World} {base : Nat} {v : Value} {d : DataW H} {p : List MemPlace}
    (hv : Value.okWide Try.prog W .any base 22 v) (h : DataW.Trod enc Try.prog W 0 (fun _ => true) true 22 v d p) (hz : Rows.uptoBulk d ≤ 1048576) :
    ∃ (ao : Option Addr) (m cap : Nat), v = .slice ao m cap ∧ m ≤ 1048576 ∧ LqU W ao m := by
  obtain ⟨a0, len, cap, rfl⟩ := okWide_slice und_cubesU hv
  obtain ⟨fuel, hf⟩ := h
  rcases Deep.open_slice und_cubesU hf with ⟨hc, hx⟩ | ⟨a, len', cap', mm, n, D, Pl, hc, _, hl, hm, hmm, hx, hcell⟩
  · simp [Value.cells] at hc
    obtain ⟨rfl, rfl, rfl⟩ := hc
    exact ⟨none, 0, 0, rfl, by simp, fun j hj => absurd hj (by simp)⟩
  · simp [Value.cells] at hc
    obtain ⟨rfl, rfl, rfl⟩ := hc
    simp only [if_true] at hmm
    have hmx := max_is
    have hd : d = .slice ((List.range len).map D) ((List.range (mm - len)).map fun j => D (len + j)) := congrArg Prod.fst hx
    rw [hd] at hz
    simp only [Rows.uptoBulk] at hz
    have hlen1 : len ≤ 1048576 := by
      have := bk_len ((List.range len).map D)
      simp only [List.length_map, List.length_range] at this
      omega
    obtain ⟨b, o, s⟩ := a
    refine ⟨some ⟨b, o, s⟩, len, cap, rfl, hlen1, fun j hj => ?_⟩
    obtain ⟨cs1, h1, h2⟩ := hcell j (by omega)
    rw [cells_cube] at h1
    obtain ⟨_, hlen, hc1⟩ := World.cells?_some h1
    have hzj : Rows.uptoBulk (D j) ≤ 1048576 := by
      have := bk_mem (d := D j) (l := (List.range len).map D) (List.mem_map.mpr ⟨j, List.mem_range.mpr hj, rfl⟩)
      omega
    obtain ⟨h, v, c, xo, m, xc, N, rfl, wr, hm', hx'⟩ := open_cubeB h2 hzj
    have e0 := hc1 0 (by decide)
    have e1 := hc1 1 (by decide)
    have e2 := hc1 2 (by decide)
    have e3 := hc1 3 (by decide)
    rw [Deep.add_add] at e0 e1 e2 e3
    have hs : s = none := by
      obtain ⟨cs0, h0, _⟩ := hcell 0 (by omega)
      rw [cells_cube] at h0
      obtain ⟨_, hlen0, hc0⟩ := World.cells?_some h0
      have e2 := hc0 0 (by decide)
      rw [Deep.add_add, List.getElem?_eq_getElem (by omega)] at e2
      have := World.cell?_spot e2
      simpa [Addr.add] using this
    subst hs
    rw [add_at] at e0 e1 e2 e3
    exact ⟨b, o, h, v, c, xo, m, xc, N, rfl, ⟨by simpa using e0, by simpa [Nat.add_assoc] using e1, by simpa [Nat.add_assoc] using e2, by simpa [Nat.add_assoc] using e3⟩, wr, hm', hx'⟩
end Go.Proofs.Ytmbhapegdbajpaa
/- PoolTwice: what is asked of a window with the steps 1. -/
namespace Go.Proofs.Ytmbhapegdbajpaa
open Go.RowKit Go.Shelf

/-- A window's cells, as a row. -/
def wnf (r s sy sx t l b q : Int) : Nat → Value := fun k => if k = 0 then .int .i64 r else if k = 1 then .int .i64 s else if k = 2 then .int .i64 sy else if k = 3 then .int .i64 sx else if k = 4 then .int .i64 t else if k = 5 then .int .i64 l else if k = 6 then .int .i64 b else .int .i64 q
theorem wnf_new (w : World) (r s sy sx t l b q : Int) (T : TypeId) : (w.alloc (.cells #[.int .i64 r, .int .i64 s, .int .i64 sy, .int .i64 sx, .int .i64 t, .int .i64 l, .int .i64 b, .int .i64 q] T)).rowIs w.heap.size T 8 (wnf r s sy sx t l b q) := by
  refine ⟨_, World.alloc_heap_new _ _, rfl, fun k hk => ?_⟩
  rcases k with _ | _ | _ | _ | _ | _ | _ | _ | k
  all_goals first | rfl | omega
theorem wnf_wn {w : World} {g T : Nat} {r s sy sx t l b q : Int} (h : w.rowIs g T 8 (wnf r s sy sx t l b q)) : Sg.Wn w g 0 r s sy sx t l b q :=
  ⟨h.cell (i := 0) (by omega), h.cell (i := 1) (by omega), h.cell (i := 2) (by omega), h.cell (i := 3) (by omega), h.cell (i := 4) (by omega), h.cell (i := 5) (by omega), h.cell (i := 6) (by omega), h.cell (i := 7) (by omega)⟩
theorem wnf_set {w : World} {g T : Nat} {r s sy sx t l b q : Int} (h : w.rowIs g T 8 (wnf r s sy sx t l b q)) (r' s' sy' sx' t' l' b' q' : Int) :
    ((((((((w.setCell ⟨g, 0, none⟩ (.int .i64 r')).setCell ⟨g, 1, none⟩ (.int .i64 s')).setCell ⟨g, 2, none⟩ (.int .i64 sy')).setCell ⟨g, 3, none⟩ (.int .i64 sx')).setCell ⟨g, 4, none⟩ (.int .i64 t')).setCell ⟨g, 5, none⟩ (.int .i64 l')).setCell ⟨g, 6, none⟩ (.int .i64 b')).setCell ⟨g, 7, none⟩ (.int .i64 q')).rowIs g T 8 (wnf r' s' sy' sx' t' l' b' q') :=
  ((((((((h.set 0 _).set 1 _).set 2 _).set 3 _).set 4 _).set 5 _).set 6 _).set 7 _).congr fun k hk => by
    rcases k with _ | _ | _ | _ | _ | _ | _ | _ | k
    all_goals first | rfl | (simp [wnf]; done) | omega
/-- A cube that may be. -/
structure Qb (H V C m N : Nat) : Prop where
  hH : 1 ≤ H ∧ H ≤ 4096
  hV : 1 ≤ V ∧ V ≤ 4096
  hC : 1 ≤ C ∧ C ≤ 4096
  ck : Sg.chk H V C = 0
  hm : m = H * V * nw C
  pk : Pok (H * V) C N
theorem Qb.pos {H V C m N : Nat} (h : Qb H V C m N) : 0 < m := by
  have d0 : 0 < nw C := by unfold nw; have := h.hC; omega
  rw [h.hm]; exact Nat.mul_pos (Nat.mul_pos h.hH.1 h.hV.1) d0
theorem Qb.pg {H V C m N R S y x : Nat} (h : Qb H V C m N) (hR : 1 ≤ R ∧ R ≤ 15) (hS : 1 ≤ S ∧ S ≤ 15) (hy : 1 ≤ y ∧ y ≤ 15) (hx : 1 ≤ x ∧ x ≤ 15) (f : R ≤ H ∧ S ≤ V) : Pg H V C R S y x m N := ⟨h.hH, h.hV, h.hC, hR, hS, hy, hx, f.1, f.2, h.ck, h.hm, h.pk⟩
theorem Qb.le {H V C m N : Nat} (h : Qb H V C m N) : m ≤ 1073741824 := by rw [h.hm]; exact (wo_bd h.hH.2 h.hV.2 h.hC.2).2
/-- What is answered. -/
def Po (al : Bool) (H V C N R S y x : Nat) (E h v c : Int) (M X : Nat) : Prop :=
  ((R ≤ H ∧ S ≤ V) ∧ E = 0 ∧ h = (oS H R y : Nat) ∧ v = (oS V S x : Nat) ∧ c = C ∧ M = oS H R y * oS V S x * nw C ∧ X = poN al N V (nw C) R S y x (oS V S x) (oS H R y * oS V S x)) ∨ (¬ (R ≤ H ∧ S ≤ V) ∧ E = 32 ∧ h = 0 ∧ v = 0 ∧ c = 0 ∧ M = 0 ∧ X = 0)
theorem Po.same {al al' : Bool} {H V C N N' R S y x : Nat} {E h v c E' h' v' c' : Int} {M X M' X' : Nat} (p : Po al H V C N R S y x E h v c M X) (q : Po al' H V C N' R S y x E' h' v' c' M' X') : E = E' ∧ h = h' ∧ v = v' ∧ c = c' ∧ M = M' := by
  rcases p with ⟨f, p1, p2, p3, p4, p5, -⟩ | ⟨f, p1, p2, p3, p4, p5, -⟩ <;> rcases q with ⟨f', q1, q2, q3, q4, q5, -⟩ | ⟨f', q1, q2, q3, q4, q5, -⟩
  · exact ⟨by omega, by omega, by omega, by omega, by omega⟩
  · exact absurd f f'
  · exact absurd f' f
  · exact ⟨by omega, by omega, by omega, by omega, by omega⟩
theorem Qb.next {al : Bool} {H V C m N R S y x M X : Nat} (h : Qb H V C m N) (hR : 1 ≤ R ∧ R ≤ 15) (hS : 1 ≤ S ∧ S ≤ 15) (hy : 1 ≤ y ∧ y ≤ 15) (hx : 1 ≤ x ∧ x ≤ 15) (f : R ≤ H ∧ S ≤ V) (hM : M = oS H R y * oS V S x * nw C) (hX : X = poN al N V (nw C) R S y x (oS V S x) (oS H R y * oS V S x)) : Qb (oS H R y) (oS V S x) C M X := by
  have pg := h.pg hR hS hy hx f
  exact ⟨⟨oS_pos _ _ _, Nat.le_trans (oS_le f.1 hR.1) h.hH.2⟩, ⟨oS_pos _ _ _, Nat.le_trans (oS_le f.2 hS.1) h.hV.2⟩, h.hC, pg.chk, hM, by rw [hX]; exact pg.pok⟩
theorem Po.twice {al : Bool} {H V C N N1 Rw Sw Rv Sv : Nat} {E h v c E' h' v' c' : Int} {M X M' X' : Nat} (a1 : 1 ≤ Rw) (a2 : 1 ≤ Sw) (a3 : 1 ≤ Rv) (a4 : 1 ≤ Sv) (f : Rw ≤ H ∧ Sw ≤ V) (hN : N1 = poN al N V (nw C) Rw Sw 1 1 (oS V Sw 1) (oS H Rw 1 * oS V Sw 1))
    (p : Po al (oS H Rw 1) (oS V Sw 1) C N1 Rv Sv 1 1 E h v c M X) (q : Po al H V C N (Rv + Rw - 1) (Sv + Sw - 1) 1 1 E' h' v' c' M' X') : E = E' ∧ h = h' ∧ v = v' ∧ c = c' ∧ M = M' ∧ X = X' := by
  have o1 := oS_one f.1
  have o2 := oS_one f.2
  rcases p with ⟨g, p1, p2, p3, p4, p5, p6⟩ | ⟨g, p1, p2, p3, p4, p5, p6⟩ <;> rcases q with ⟨g', q1, q2, q3, q4, q5, q6⟩ | ⟨g', q1, q2, q3, q4, q5, q6⟩
  · have o3 := oS_one g.1
    have o4 := oS_one g.2
    have o5 := oS_one g'.1
    have o6 := oS_one g'.2
    have e1 : oS (oS H Rw 1) Rv 1 = oS H (Rv + Rw - 1) 1 := by omega
    have e2 : oS (oS V Sw 1) Sv 1 = oS V (Sv + Sw - 1) 1 := by omega
    refine ⟨by omega, by omega, by omega, by omega, by rw [p5, q5, e1, e2], ?_⟩
    rw [p6, q6, hN, po_twice a1 a2 a3 a4 o2 o3 o4, e1, e2]
  · exfalso; apply g'; omega
  · exfalso; apply g; omega
  · exact ⟨by omega, by omega, by omega, by omega, by omega, by omega⟩
theorem Po.one {al : Bool} {H V C m N : Nat} (hq : Qb H V C m N) (hN : N < 2 ^ (64 * m)) {E h v c : Int} {M X : Nat} (p : Po al H V C N 1 1 1 1 E h v c M X) : E = 0 ∧ h = H ∧ v = V ∧ c = C ∧ m = M ∧ N = X := by
  have hH := hq.hH
  have hV := hq.hV
  rcases p with ⟨f, p1, p2, p3, p4, p5, p6⟩ | ⟨f, -⟩
  · have o1 := oS_one f.1
    have o2 := oS_one f.2
    have e1 : oS H 1 1 = H := by omega
    have e2 : oS V 1 1 = V := by omega
    rw [e1, e2] at p6
    rw [hq.hm] at hN
    refine ⟨p1, by omega, by omega, p4, by rw [p5, e1, e2, hq.hm], ?_⟩
    rw [p6]; exact (po_one hN).symm
  · exfalso; apply f; omega
theorem po32 {H V C m N R S y x : Nat} (h : Qb H V C m N) (hR : 1 ≤ R ∧ R ≤ 15) (hS : 1 ≤ S ∧ S ≤ 15) (hy : 1 ≤ y ∧ y ≤ 15) (hx : 1 ≤ x ∧ x ≤ 15) (f : ¬ (R ≤ H ∧ S ≤ V)) : poE H V C m N R S y x 0 0 0 0 = 32 := by
  unfold poE
  rw [cuk_of h.ck h.hm h.pk, if_neg (by omega), if_neg (fun k => k.elim (fun k => k (wok_of hR hS hy hx)) (by omega)), sl_of h.ck h.hC hR hS hy hx, if_neg f]
theorem Po.le {al : Bool} {H V C m N R S y x : Nat} {E h v c : Int} {M X : Nat} (hq : Qb H V C m N) (hR : 1 ≤ R ∧ R ≤ 15) (hS : 1 ≤ S ∧ S ≤ 15) (hy : 1 ≤ y ∧ y ≤ 15) (hx : 1 ≤ x ∧ x ≤ 15) (p : Po al H V C N R S y x E h v c M X) : M ≤ 9223372036854775807 := by
  rcases p with ⟨f, -, -, -, -, p5, p6⟩ | ⟨-, -, -, -, -, p5, -⟩
  · have := (hq.next hR hS hy hx f p5 p6).le
    omega
  · omega
theorem Wr.some {w : World} {ao : Option Addr} {m N : Nat} (h : Wr w ao m N) (hm : 0 < m) : ∃ g o, ao = some ⟨g, o, none⟩ := by
  obtain ⟨g, o, e, _⟩ := h.2 0 hm
  exact ⟨g, o, e⟩
theorem Wr.nil (w : World) : Wr w none 0 0 := ⟨by decide, fun k hk => absurd hk (Nat.not_lt_zero _)⟩
theorem max_two {H V C m N R S y x : Nat} (ao : Option Addr) (cap : Nat) (w : World) (h : Qb H V C m N) (hR : 1 ≤ R ∧ R ≤ 15) (hS : 1 ≤ S ∧ S ≤ 15) (hy : 1 ≤ y ∧ y ≤ 15) (hx : 1 ≤ x ∧ x ≤ 15) (hmc : m ≤ cap) (hcap : cap ≤ 9223372036854775807) (rd : Wr w ao m N) :
    Calls Try.prog 12 #[cuv H V C ao m cap, Sg.win R S y x 0 0 0 0] w fun e w' => ∃ E h' v' c' M X bo, e = .returned (.tuple #[cuv h' v' c' bo M M, .int .i64 E]) ∧ Po false H V C N R S y x E h' v' c' M X ∧ Wr w' bo M X ∧ Below w.heap.size w w' := by
  obtain ⟨g, o, rfl⟩ := rd.some h.pos
  by_cases f : R ≤ H ∧ S ≤ V
  · have pg := h.pg hR hS hy hx f
    refine (max_ok H V C R S y x g o m cap N _ _ _ w pg rfl rfl rfl hmc hcap rd).mono ?_
    rintro e w1 ⟨G, rfl, _, row, hb⟩
    exact ⟨_, _, _, _, _, _, _, rfl, .inl ⟨f, rfl, rfl, rfl, rfl, rfl, rfl⟩, Wr.row row (poN_lt _ _ _ _ _ _ _ _ _ _), hb⟩
  · have e0 := po32 h hR hS hy hx f
    refine (max_bad H V C (some ⟨g, o, none⟩) m cap N R S y x 0 0 0 0 w hmc hcap rd (by rw [e0]; decide)).mono ?_
    rintro e w1 ⟨rfl, hb⟩
    exact ⟨_, _, _, _, _, _, _, rfl, .inr ⟨f, e0, rfl, rfl, rfl, rfl, rfl⟩, Wr.nil _, hb⟩
theorem min_two {H V C m N R S y x : Nat} (ao : Option Addr) (cap : Nat) (w : World) (h : Qb H V C m N) (hR : 1 ≤ R ∧ R ≤ 15) (hS : 1 ≤ S ∧ S ≤ 15) (hy : 1 ≤ y ∧ y ≤ 15) (hx : 1 ≤ x ∧ x ≤ 15) (hmc : m ≤ cap) (hcap : cap ≤ 9223372036854775807) (rd : Wr w ao m N) :
    Calls Try.prog 13 #[cuv H V C ao m cap, Sg.win R S y x 0 0 0 0] w fun e w' => ∃ E h' v' c' M X bo, e = .returned (.tuple #[cuv h' v' c' bo M M, .int .i64 E]) ∧ Po true H V C N R S y x E h' v' c' M X ∧ Wr w' bo M X ∧ Below w.heap.size w w' := by
  obtain ⟨g, o, rfl⟩ := rd.some h.pos
  by_cases f : R ≤ H ∧ S ≤ V
  · have pg := h.pg hR hS hy hx f
    refine (min_ok H V C R S y x g o m cap N _ _ _ w pg rfl rfl rfl hmc hcap rd).mono ?_
    rintro e w1 ⟨G, rfl, _, row, hb⟩
    exact ⟨_, _, _, _, _, _, _, rfl, .inl ⟨f, rfl, rfl, rfl, rfl, rfl, rfl⟩, Wr.row row (poN_lt _ _ _ _ _ _ _ _ _ _), hb⟩
  · have e0 := po32 h hR hS hy hx f
    refine (min_bad H V C (some ⟨g, o, none⟩) m cap N R S y x 0 0 0 0 w hmc hcap rd (by rw [e0]; decide)).mono ?_
    rintro e w1 ⟨rfl, hb⟩
    exact ⟨_, _, _, _, _, _, _, rfl, .inr ⟨f, e0, rfl, rfl, rfl, rfl, rfl⟩, Wr.nil _, hb⟩
end Go.Proofs.Ytmbhapegdbajpaa
/- ALL TURNED ABOUT: plain mathematics. -/
namespace Go.Proofs.Ytmbhapegdbajpaa

/-- All elements turned. -/
def tN (N C P : Nat) : Nat := js (64 * nw C) (fun p => nt C (pl N (nw C) p)) P
theorem nt_words (C x : Nat) : nt C x < 2 ^ (64 * nw C) := Nat.lt_of_lt_of_le (nt_lt C x) (pow_mono (nw_le C))
theorem tN_lt (N C P : Nat) : tN N C P < 2 ^ (64 * (P * nw C)) := by
  have := js_lt (s := 64 * nw C) (P := fun p => nt C (pl N (nw C) p)) (n := P) (fun i _ => nt_words C _)
  rwa [show P * (64 * nw C) = 64 * (P * nw C) by rw [Nat.mul_left_comm]] at this
theorem tN_pl {N C P p : Nat} (hp : p < P) : pl (tN N C P) (nw C) p = nt C (pl N (nw C) p) := js_pl (fun _ _ => nt_words C _) hp
theorem tN_pok (N C P : Nat) : Pok P C (tN N C P) := fun i hi => by rw [tN_pl hi]; exact nt_lt C _
theorem pbt_pl {N V d y x b : Nat} (hb : b < 64 * d) : pbt N V d y x b = (pl N d (y * V + x)).testBit b := by
  rw [pl_bit]; simp [hb, pbt]
theorem po_turn {al : Bool} {N H V C R S y x OH OW : Nat} (hN : Pok (H * V) C N) (hR : 0 < R) (hS : 0 < S) (fy : ∀ p, p < OH → p * y + R ≤ H) (fx : ∀ p, p < OW → p * x + S ≤ V) :
    poN (!al) (tN N C (H * V)) V (nw C) R S y x OW (OH * OW) = tN (poN al N V (nw C) R S y x OW (OH * OW)) C (OH * OW) := by
  refine js_congr _ fun p hp => ?_
  rw [poN_pl hp]
  have h0 : 0 < OW := by
    rcases Nat.eq_zero_or_pos OW with e | e
    · subst e; simp at hp
    · exact e
  have hy := fy _ (Nat.div_lt_of_lt_mul (by rwa [Nat.mul_comm] : p < OW * OH))
  have hx := fx _ (Nat.mod_lt p h0)
  have hin : jp al N V (nw C) R S y x (p / OW) (p % OW) < 2 ^ C := jp_c hN hR hS hy hx
  have hin2 : jp (!al) (tN N C (H * V)) V (nw C) R S y x (p / OW) (p % OW) < 2 ^ C := jp_c (tN_pok N C (H * V)) hR hS hy hx
  refine Nat.eq_of_testBit_eq fun b => ?_
  rw [nt_bit hin]
  by_cases hb : b < C
  · have hb2 : b < 64 * nw C := Nat.lt_of_lt_of_le hb (nw_le C)
    rw [jp_bit hb2 hR hS hx, jp_bit hb2 hR hS hx, ← qs_not]
    simp only [hb, decide_true, Bool.true_and]
    refine qs_congr _ fun j hj => ?_
    rw [← qs_not]
    refine qs_congr _ fun i hi => ?_
    have hq : (p / OW * y + i) * V + (p % OW * x + j) < H * V := by
      have : (p / OW * y + i + 1) * V ≤ H * V := Nat.mul_le_mul_right _ (by omega)
      rw [Nat.succ_mul] at this; omega
    rw [pbt_pl hb2, pbt_pl hb2, tN_pl hq, nt_bit (hN _ hq)]
    simp [hb]
  · rw [bit_above hin2 (by omega)]
    simp [hb]
/-- What is unpacked, turned and packed again. -/
def tL (N C n : Nat) : List Int := (List.range n).map fun j => -(uv N C j)
theorem tL_len (N C n : Nat) : (tL N C n).length = n := by simp [tL]
theorem tL_at {N C n j : Nat} (h : j < n) : ia (tL N C n) j = -(uv N C j) := by
  unfold ia tL
  rw [List.getD_eq_getElem?_getD, List.getElem?_map, List.getElem?_range h]
  rfl
theorem uv_pm (N C j : Nat) : uv N C j = 1 ∨ uv N C j = -1 := by
  unfold uv sg
  split
  · exact .inl rfl
  · exact .inr rfl
theorem tL_pack {N C P : Nat} (hC : 0 < C) (hN : Pok P C N) : js (64 * nw C) (sp (tL N C (P * C)) C) P = tN N C P := by
  refine js_congr _ fun p hp => Nat.eq_of_testBit_eq fun b => ?_
  rw [sp_bit, nt_bit (hN p hp)]
  by_cases hb : b < C
  · have hj : p * C + b < P * C := by
      have := Nat.mul_le_mul_right C (show p + 1 ≤ P from hp)
      rw [Nat.succ_mul] at this
      omega
    rw [tL_at hj]
    have e1 : (p * C + b) / C = p := by rw [Nat.mul_comm, Nat.mul_add_div hC, Nat.div_eq_of_lt hb]; omega
    have e2 : (p * C + b) % C = b := by rw [Nat.mul_comm, Nat.mul_add_mod, Nat.mod_eq_of_lt hb]
    unfold uv sg
    rw [e1, e2]
    cases (pl N (nw C) p).testBit b <;> simp [hb]
  · simp [hb]
end Go.Proofs.Ytmbhapegdbajpaa
/- PoolTurned: turned; any window. -/
namespace Go.Proofs.Ytmbhapegdbajpaa
open Go.RowKit Go.Shelf

/-- What a window is refused for, whatever the cube's elements. -/
def gE (H V C : Nat) (r s sy sx t l b q : Int) : Int := if ¬ Sg.WOk r s sy sx t l b q ∨ 0 < t ∨ 0 < l ∨ 0 < b ∨ 0 < q then 56 else Sg.slE H V C r s sy sx t l b q C
theorem poE_g {H V C m N : Nat} (h : Qb H V C m N) (r s sy sx t l b q : Int) : poE H V C m N r s sy sx t l b q = gE H V C r s sy sx t l b q := by
  unfold poE gE
  rw [if_neg (fun x => x (cuk_of h.ck h.hm h.pk))]
/-- Where nothing is refused. -/
theorem gE_zero {H V C m N : Nat} {r s sy sx t l b q : Int} (h : Qb H V C m N) (k : gE H V C r s sy sx t l b q = 0) : ∃ R S y x : Nat, r = R ∧ s = S ∧ sy = y ∧ sx = x ∧ t = 0 ∧ l = 0 ∧ b = 0 ∧ q = 0 ∧ (1 ≤ R ∧ R ≤ 15) ∧ (1 ≤ S ∧ S ≤ 15) ∧ (1 ≤ y ∧ y ≤ 15) ∧ (1 ≤ x ∧ x ≤ 15) ∧ R ≤ H ∧ S ≤ V := by
  rw [← poE_g h] at k
  obtain ⟨H', V', C', R, S, y, x, e1, e2, e3, rfl, rfl, rfl, rfl, rfl, rfl, rfl, rfl, pg⟩ := poE_zero k
  obtain rfl : H = H' := by omega
  obtain rfl : V = V' := by omega
  obtain rfl : C = C' := by omega
  exact ⟨R, S, y, x, rfl, rfl, rfl, rfl, rfl, rfl, rfl, rfl, pg.hR, pg.hS, pg.hy, pg.hx, pg.fH, pg.fV⟩
/-- A list under way: i of its values are turned. -/
def tf (N C i : Nat) : Nat → Value := fun j => .int .i8 (if j < i then -(uv N C j) else uv N C j)
theorem tf_step {N C i : Nat} (j : Nat) : (if j = i then .int .i8 (-(uv N C i)) else tf N C i j) = tf N C (i + 1) j := by
  unfold tf
  by_cases e : j = i
  · subst e
    rw [if_pos rfl, if_pos (Nat.lt_succ_self _)]
  · rw [if_neg e]
    by_cases h : j < i
    · rw [if_pos h, if_pos (by omega)]
    · rw [if_neg h, if_neg (by omega)]
theorem neg_i8 {x : Int} (h : x = 1 ∨ x = -1) : IntKind.i8.wrap (-x) = -x := by
  rcases h with rfl | rfl <;> decide
theorem turned_start (w : World) (h v c : Int) (ao : Option Addr) (m cap : Nat) : ∃ W, (w.alloc (.cells #[.int .i64 h, .int .i64 v, .int .i64 c, .slice ao m cap] 35)).alloc (.cells #[.int .i64 0, .int .i64 0, .int .i64 0, .slice none 0 0] 35) = W ∧ W.heap.size = w.heap.size + 2 ∧ Below w.heap.size w W ∧ W.rowIs w.heap.size 35 4 (cf h v c ao m cap) ∧ W.rowIs (w.heap.size + 1) 35 4 (cf 0 0 0 none 0 0) := by
  refine ⟨_, rfl, by simp, bl_alloc (bl_alloc (Below.refl _ _) _) _, (cu_new w _ _ _ _ _ _ _).alloc _, ?_⟩
  have := cu_new (w.alloc (.cells #[.int .i64 h, .int .i64 v, .int .i64 c, .slice ao m cap] 35)) 0 0 0 none 0 0 35
  rw [World.size_alloc] at this
  exact this
theorem elN_pos {h v c : Int} (k : Sg.chk h v c = 0) : ((0 : Nat) : Int) ≠ Sg.elN h v c := by
  obtain ⟨H, V, C, rfl, rfl, rfl, hH, hV, hC, _⟩ := chk_nat k
  rw [elN_nat k]
  have : 0 < H * V * C := Nat.mul_pos (Nat.mul_pos hH.1 hV.1) hC.1
  omega
theorem max_gen {H V C m N : Nat} (ao : Option Addr) (cap : Nat) (r s sy sx t l b q : Int) (w : World) (h : Qb H V C m N) (hmc : m ≤ cap) (hcap : cap ≤ 9223372036854775807) (rd : Wr w ao m N) (k : gE H V C r s sy sx t l b q ≠ 0) :
    Calls Try.prog 12 #[cuv H V C ao m cap, Sg.win r s sy sx t l b q] w fun e w' => e = .returned (.tuple #[cuv 0 0 0 none 0 0, .int .i64 (gE H V C r s sy sx t l b q)]) ∧ Below w.heap.size w w' := by
  have := max_bad H V C ao m cap N r s sy sx t l b q w hmc hcap rd (by rw [poE_g h]; exact k)
  rwa [poE_g h] at this
theorem min_gen {H V C m N : Nat} (ao : Option Addr) (cap : Nat) (r s sy sx t l b q : Int) (w : World) (h : Qb H V C m N) (hmc : m ≤ cap) (hcap : cap ≤ 9223372036854775807) (rd : Wr w ao m N) (k : gE H V C r s sy sx t l b q ≠ 0) :
    Calls Try.prog 13 #[cuv H V C ao m cap, Sg.win r s sy sx t l b q] w fun e w' => e = .returned (.tuple #[cuv 0 0 0 none 0 0, .int .i64 (gE H V C r s sy sx t l b q)]) ∧ Below w.heap.size w w' := by
  have := min_bad H V C ao m cap N r s sy sx t l b q w hmc hcap rd (by rw [poE_g h]; exact k)
  rwa [poE_g h] at this
/-- Where nothing is refused: the cube. -/
theorem max_fit {H V C m N R S y x OH OW M : Nat} (ao : Option Addr) (cap : Nat) (w : World) (pg : Pg H V C R S y x m N) (hm : 0 < m) (eH : oS H R y = OH) (eW : oS V S x = OW) (eM : OH * OW * nw C = M) (hmc : m ≤ cap) (hcap : cap ≤ 9223372036854775807) (rd : Wr w ao m N) :
    Calls Try.prog 12 #[cuv H V C ao m cap, Sg.win R S y x 0 0 0 0] w fun e w' => ∃ bo, e = .returned (.tuple #[cuv OH OW C bo M M, .int .i64 0]) ∧ Wr w' bo M (poN false N V (nw C) R S y x OW (OH * OW)) ∧ Below w.heap.size w w' := by
  obtain ⟨g, o, rfl⟩ := rd.some hm
  refine (max_ok H V C R S y x g o m cap N OH OW M w pg eH eW eM hmc hcap rd).mono ?_
  rintro e w1 ⟨G, rfl, _, row, hb⟩
  exact ⟨_, rfl, Wr.row row (by rw [← eM]; exact poN_lt _ _ _ _ _ _ _ _ _ _), hb⟩
theorem min_fit {H V C m N R S y x OH OW M : Nat} (ao : Option Addr) (cap : Nat) (w : World) (pg : Pg H V C R S y x m N) (hm : 0 < m) (eH : oS H R y = OH) (eW : oS V S x = OW) (eM : OH * OW * nw C = M) (hmc : m ≤ cap) (hcap : cap ≤ 9223372036854775807) (rd : Wr w ao m N) :
    Calls Try.prog 13 #[cuv H V C ao m cap, Sg.win R S y x 0 0 0 0] w fun e w' => ∃ bo, e = .returned (.tuple #[cuv OH OW C bo M M, .int .i64 0]) ∧ Wr w' bo M (poN true N V (nw C) R S y x OW (OH * OW)) ∧ Below w.heap.size w w' := by
  obtain ⟨g, o, rfl⟩ := rd.some hm
  refine (min_ok H V C R S y x g o m cap N OH OW M w pg eH eW eM hmc hcap rd).mono ?_
  rintro e w1 ⟨G, rfl, _, row, hb⟩
  exact ⟨_, rfl, Wr.row row (by rw [← eM]; exact poN_lt _ _ _ _ _ _ _ _ _ _), hb⟩
theorem Pg.qb {H V C R S y x m N : Nat} (h : Pg H V C R S y x m N) : Qb H V C m N := ⟨h.hH, h.hV, h.hC, h.ck, h.hm, h.pk⟩
end Go.Proofs.Ytmbhapegdbajpaa
/- GREATER: plain mathematics. -/
namespace Go.Proofs.Ytmbhapegdbajpaa

/-- A list's cube, as a number. -/
def cU (l : List Int) (C P : Nat) : Nat := js (64 * nw C) (sp l C) P
theorem sp_words (l : List Int) (C i : Nat) : sp l C i < 2 ^ (64 * nw C) := Nat.lt_of_lt_of_le (sp_lt l C i) (pow_mono (nw_le C))
theorem cU_lt (l : List Int) (C P : Nat) : cU l C P < 2 ^ (64 * (P * nw C)) := by
  have := js_lt (s := 64 * nw C) (P := sp l C) (n := P) (fun i _ => sp_words l C i)
  rwa [show P * (64 * nw C) = 64 * (P * nw C) by rw [Nat.mul_left_comm]] at this
theorem cU_pl {l : List Int} {C P i : Nat} (hi : i < P) : pl (cU l C P) (nw C) i = sp l C i := js_pl (fun i _ => sp_words l C i) hi
theorem cU_pok (l : List Int) (C P : Nat) : Pok P C (cU l C P) := fun i hi => by rw [cU_pl hi]; exact sp_lt l C i
/-- An element's bit. -/
def eb (X C j : Nat) : Bool := (pl X (nw C) (j / C)).testBit (j % C)
theorem uv_eb (X C j : Nat) : uv X C j = if eb X C j = true then 1 else -1 := rfl
theorem uv_le {X Y C j : Nat} (h : eb X C j = true → eb Y C j = true) : uv X C j ≤ uv Y C j := by
  rw [uv_eb, uv_eb]
  cases h1 : eb X C j
  · cases h2 : eb Y C j <;> simp
  · rw [h h1]; simp
theorem uv_max {X Y Z C j : Nat} (h : eb Z C j = (eb X C j || eb Y C j)) : (if uv Y C j > uv X C j then uv Y C j else uv X C j) = uv Z C j := by
  rw [uv_eb, uv_eb, uv_eb, h]
  cases eb X C j <;> cases eb Y C j <;> simp
/-- What is seen at an element. -/
def se (al : Bool) (N V d R S y x OW C j : Nat) : Bool := qs al (fun jj => qs al (fun i => pbt N V d (j / C / OW * y + i) (j / C % OW * x + jj) (j % C)) R) S
theorem eb_po {al : Bool} {N V C R S y x OH OW j : Nat} (hC : 0 < C) (hR : 0 < R) (hS : 0 < S) (fx : ∀ p, p < OW → p * x + S ≤ V) (hj : j < OH * OW * C) :
    eb (poN al N V (nw C) R S y x OW (OH * OW)) C j = se al N V (nw C) R S y x OW C j := by
  have hp : j / C < OH * OW := Nat.div_lt_of_lt_mul (by rwa [Nat.mul_comm])
  have h0 : 0 < OW := by
    rcases Nat.eq_zero_or_pos OW with e | e
    · subst e; simp at hp
    · exact e
  have hb : j % C < 64 * nw C := Nat.lt_of_lt_of_le (Nat.mod_lt _ hC) (nw_le C)
  unfold eb se
  rw [poN_pl hp, jp_bit hb hR hS (fx _ (Nat.mod_lt _ h0))]
theorem qs_mono {al : Bool} {f g : Nat → Bool} {n : Nat} (h : ∀ i, i < n → f i = true → g i = true) (hq : qs al f n = true) : qs al g n = true := by
  cases al
  · obtain ⟨i, hi, hf⟩ := (qs_false _ _).1 hq
    exact (qs_false _ _).2 ⟨i, hi, h i hi hf⟩
  · exact (qs_true _ _).2 fun i hi => h i hi ((qs_true _ _).1 hq i hi)
theorem qs_all_one {f : Nat → Bool} {n : Nat} (hn : 0 < n) (h : qs true f n = true) : qs false f n = true := (qs_false _ _).2 ⟨0, hn, (qs_true _ _).1 h 0 hn⟩
theorem qs_or (f g : Nat → Bool) (n : Nat) : qs false (fun i => f i || g i) n = (qs false f n || qs false g n) := by
  refine beq_iff ?_
  rw [Bool.or_eq_true, qs_false, qs_false, qs_false]
  constructor
  · rintro ⟨i, hi, h⟩
    rw [Bool.or_eq_true] at h
    rcases h with h | h
    · exact .inl ⟨i, hi, h⟩
    · exact .inr ⟨i, hi, h⟩
  · rintro (⟨i, hi, h⟩ | ⟨i, hi, h⟩)
    · exact ⟨i, hi, by rw [h]; rfl⟩
    · exact ⟨i, hi, by rw [h]; simp⟩
theorem se_mono {al : Bool} {N N' V d R S y x OW C j : Nat} (h : ∀ i, i < R → ∀ k, k < S → pbt N V d (j / C / OW * y + i) (j / C % OW * x + k) (j % C) = true → pbt N' V d (j / C / OW * y + i) (j / C % OW * x + k) (j % C) = true) (hq : se al N V d R S y x OW C j = true) : se al N' V d R S y x OW C j = true := by
  unfold se at hq ⊢
  exact qs_mono (fun k hk => qs_mono fun i hi => h i hi k hk) hq
theorem se_all_one {N V d R S y x OW C j : Nat} (hR : 0 < R) (hS : 0 < S) (h : se true N V d R S y x OW C j = true) : se false N V d R S y x OW C j = true := by
  unfold se at h ⊢
  exact qs_all_one hS (qs_mono (fun k _ h => qs_all_one hR h) h)
theorem se_or {N N' N2 V d R S y x OW C j : Nat} (h : ∀ i, i < R → ∀ k, k < S → pbt N2 V d (j / C / OW * y + i) (j / C % OW * x + k) (j % C) = (pbt N V d (j / C / OW * y + i) (j / C % OW * x + k) (j % C) || pbt N' V d (j / C / OW * y + i) (j / C % OW * x + k) (j % C))) :
    se false N2 V d R S y x OW C j = (se false N V d R S y x OW C j || se false N' V d R S y x OW C j) := by
  unfold se
  rw [← qs_or]
  refine qs_congr _ fun k hk => ?_
  rw [← qs_or]
  exact qs_congr _ fun i hi => h i hi k hk
/-- The greater of two lists, value by value. -/
def gL (l m : List Int) (n : Nat) : List Int := (List.range n).map fun k => if ia m k > ia l k then ia m k else ia l k
theorem gL_len (l m : List Int) (n : Nat) : (gL l m n).length = n := by simp [gL]
theorem gL_at {l m : List Int} {n k : Nat} (h : k < n) : ia (gL l m n) k = if ia m k > ia l k then ia m k else ia l k := by
  unfold gL
  rw [show ia ((List.range n).map fun k => if ia m k > ia l k then ia m k else ia l k) k = ((List.range n).map fun k => if ia m k > ia l k then ia m k else ia l k).getD k 0 from rfl]
  rw [List.getD_eq_getElem?_getD, List.getElem?_map, List.getElem?_range h]
  rfl
theorem gL_snoc (l m : List Int) (n : Nat) : gL l m (n + 1) = gL l m n ++ [if ia m n > ia l n then ia m n else ia l n] := by
  unfold gL; rw [List.range_succ, List.map_append]; rfl
theorem cU_bit {l : List Int} {V C P yy xx b : Nat} (hp : yy * V + xx < P) (hb : b < C) : pbt (cU l C P) V (nw C) yy xx b = decide (0 < ia l ((yy * V + xx) * C + b)) := by
  rw [pbt_pl (Nat.lt_of_lt_of_le hb (nw_le C)), cU_pl hp, sp_bit]
  simp [hb]
theorem cU_gL {l m : List Int} {V C P yy xx b : Nat} (hp : yy * V + xx < P) (hb : b < C) : pbt (cU (gL l m (P * C)) C P) V (nw C) yy xx b = (pbt (cU l C P) V (nw C) yy xx b || pbt (cU m C P) V (nw C) yy xx b) := by
  rw [cU_bit hp hb, cU_bit hp hb, cU_bit hp hb]
  have hj : (yy * V + xx) * C + b < P * C := by
    have := Nat.mul_le_mul_right C (show yy * V + xx + 1 ≤ P from hp)
    rw [Nat.succ_mul] at this
    omega
  rw [gL_at hj]
  generalize ia l ((yy * V + xx) * C + b) = p
  generalize ia m ((yy * V + xx) * C + b) = q
  refine beq_iff ?_
  simp only [decide_eq_true_eq, Bool.or_eq_true]
  split <;> omega
end Go.Proofs.Ytmbhapegdbajpaa
/- begun: the calls whose answers the document fixes. -/
namespace Go.Proofs.Ytmbhapegdbajpaa
open Go.RowKit Go.Shelf

def bl6 : List Int := [1, -1, 1, 0, 5, -7]
theorem r8_lit (w : World) (t : TypeId) : R8 (w.alloc (.cells #[.int .i8 1, .int .i8 (-1), .int .i8 1, .int .i8 0, .int .i8 5, .int .i8 (-7)] t)) (some ⟨w.heap.size, 0, none⟩) bl6 := by
  intro k hk
  refine ⟨w.heap.size, 0, rfl, ?_⟩
  have hk' : k < 6 := hk
  rcases k with _ | _ | _ | _ | _ | _ | k
  all_goals first | omega | simp [go_sem, ia, bl6]
theorem rs_lit (w : World) (t : TypeId) : Rs (w.alloc (.cells #[.int .i8 1, .int .i8 (-1), .int .i8 1, .int .i8 (-1), .int .i8 1, .int .i8 (-1)] t)) (some ⟨w.heap.size, 0, none⟩) 6 (fun k => .int .i8 (uv 36893488147419103237 3 k)) := by
  intro k hk
  refine ⟨w.heap.size, 0, rfl, ?_⟩
  rcases k with _ | _ | _ | _ | _ | _ | k
  · show World.cell? _ ⟨w.heap.size, 0, none⟩ = some (.int .i8 (uv 36893488147419103237 3 0))
    rw [show uv 36893488147419103237 3 0 = 1 by decide]; simp [go_sem]
  · show World.cell? _ ⟨w.heap.size, 1, none⟩ = some (.int .i8 (uv 36893488147419103237 3 1))
    rw [show uv 36893488147419103237 3 1 = -1 by decide]; simp [go_sem]
  · show World.cell? _ ⟨w.heap.size, 2, none⟩ = some (.int .i8 (uv 36893488147419103237 3 2))
    rw [show uv 36893488147419103237 3 2 = 1 by decide]; simp [go_sem]
  · show World.cell? _ ⟨w.heap.size, 3, none⟩ = some (.int .i8 (uv 36893488147419103237 3 3))
    rw [show uv 36893488147419103237 3 3 = -1 by decide]; simp [go_sem]
  · show World.cell? _ ⟨w.heap.size, 4, none⟩ = some (.int .i8 (uv 36893488147419103237 3 4))
    rw [show uv 36893488147419103237 3 4 = 1 by decide]; simp [go_sem]
  · show World.cell? _ ⟨w.heap.size, 5, none⟩ = some (.int .i8 (uv 36893488147419103237 3 5))
    rw [show uv 36893488147419103237 3 5 = -1 by decide]; simp [go_sem]
  · omega
theorem wr_lit2 (w : World) (t : TypeId) : Wr (w.alloc (.cells #[.int .u64 5, .int .u64 2] t)) (some ⟨w.heap.size, 0, none⟩) 2 36893488147419103237 := by
  refine ⟨by decide, fun k hk => ⟨w.heap.size, 0, rfl, ?_⟩⟩
  rcases k with _ | _ | k
  · show World.cell? _ ⟨w.heap.size, 0, none⟩ = some (.int .u64 5)
    simp [go_sem]
  · show World.cell? _ ⟨w.heap.size, 1, none⟩ = some (.int .u64 2)
    simp [go_sem]
  · omega
theorem wr_lit1 (w : World) (t : TypeId) : Wr (w.alloc (.cells #[.int .u64 21] t)) (some ⟨w.heap.size, 0, none⟩) 1 21 := by
  refine ⟨by decide, fun k hk => ⟨w.heap.size, 0, rfl, ?_⟩⟩
  have : k = 0 := by omega
  subst this
  show World.cell? _ ⟨w.heap.size, 0, none⟩ = some (.int .u64 21)
  simp [go_sem]
theorem js_lit : js (64 * nw 3) (sp bl6 3) (1 * 2) = 36893488147419103237 := by decide
theorem fl_lit : js 3 (pl 36893488147419103237 (nw 3)) (1 * 2) = 21 := by decide
theorem chk_lit : Sg.chk (1 : Nat) (2 : Nat) (3 : Nat) = 0 := by decide
theorem pok_lit : Pok (1 * 2) 3 36893488147419103237 := by decide
theorem cuk_lit : cuk (1 : Nat) (2 : Nat) (3 : Nat) 2 36893488147419103237 = 0 := by decide
theorem Rs.row {w : World} {g m t : Nat} {f : Nat → Value} (h : w.rowIs g t m f) : Rs w (some ⟨g, 0, none⟩) m f := fun k hk => ⟨g, 0, rfl, by rw [Nat.zero_add]; exact h.cell hk⟩
end Go.Proofs.Ytmbhapegdbajpaa
/- THE LAWS' OWN WORDS: words with marks behind them. -/
namespace Go.Proofs.Ytmbhapegdbajpaa
open Go.RowKit Go.Shelf

/-- What Roomy makes: the words, and marks behind them. -/
def rmf (N n : Nat) : Nat → Value := fun k => if k < n then wf N k else .int .u64 ((43690 + k - n : Nat) : Int)
/-- .. as far as i. -/
def rmp (N n i : Nat) : Nat → Value := fun k => if k < i then rmf N n k else .int .u64 0
theorem rmp_step (N n i j : Nat) : (if j = i then rmf N n i else rmp N n i j) = rmp N n (i + 1) j := by
  unfold rmp
  by_cases h : j = i
  · subst h; rw [if_pos rfl, if_pos (by omega)]
  · rw [if_neg h]
    by_cases h2 : j < i
    · rw [if_pos h2, if_pos (by omega)]
    · rw [if_neg h2, if_neg (by omega)]
theorem mark_conv {k n : Nat} (h : n ≤ k) (hk : k ≤ 17592186044000) : IntKind.u64.wrap (IntKind.i64.wrap (IntKind.i64.wrap (43690 + (k : Int)) - (n : Int))) = ((43690 + k - n : Nat) : Int) := by
  rw [IntKind.wrap_i64, IntKind.wrap_i64, IntKind.wrap_u64]; omega
set_option maxHeartbeats 1600000 in
set_option maxRecDepth 100000 in
theorem roomy_any (n N : Nat) (ao : Option Addr) (ca : Nat) (w : World) (hn : n ≤ 17592186043904) (rd : Wr w ao n N) :
    Calls Try.prog 15 #[.slice ao n ca] w fun e w' => ∃ G, e = .returned (.slice (some ⟨G, 0, none⟩) n (n + 66)) ∧ w.heap.size ≤ G ∧ w'.rowIs G 47 (n + 66) (rmf N n) ∧ Below w.heap.size w w' := by
  obtain ⟨i0, hi, hz0, hz1, hz2⟩ := info_parts info_u64
  have RD := hid1 rd
  clear rd
  have r1 : IntKind.i64.wrap ((n : Int) + 66) = ((n + 66 : Nat) : Int) := by rw [IntKind.wrap_i64]; omega
  have r2 : (n : Int) + 66 = ((n + 66 : Nat) : Int) := by omega
  have HM := hid1 (fun k h hk => mark_conv (k := k) (n := n) h hk)
  obtain ⟨T, hT⟩ : ∃ T, n + 66 = T := ⟨_, rfl⟩
  rw [hT] at r1 r2 ⊢
  have hT1 : T = n + 66 := hT.symm
  have HT := hid1 hT1
  have hnT : n < T := by omega
  have hTb : T ≤ 17592186043970 := by omega
  clear hT hT1
  go_enter Try.func15, Try.ntmps15
  go_wp2_with (refine wpList_make_row _ rfl _ _ 33 rfl 47 i0 (.int .u64 0) und_u64s hi hz0 hz1 rfl .i64 .i64 T (by go_simp) (by go_simp) (by rw [hz2]; omega) (by omega) ?_)
  have hrow : (w.alloc (.cells (madeCells #[.int .u64 0] T) 47)).rowIs w.heap.size 47 T (rmp N n 0) := (World.rowIs_made w (.int .u64 0) T 47).congr fun k _ => by simp [rmp]
  go_loopw [5] (fun i wr => ∃ k : Nat, k ≤ T ∧ i = .int .i64 k ∧ wr.rowIs w.heap.size 47 T (rmp N n k) ∧ Below w.heap.size w wr) (fun i _ => T - (intOf i).toNat)
  case atStart => exact ⟨0, Nat.zero_le _, rfl, hrow, bl_alloc (Below.refl _ _) _⟩
  case round =>
    clear hrow
    obtain ⟨k, hk, rfl, hrow, hnx⟩ := hrel
    by_cases hlt : k < T
    · have ik : (k : Int) < (T : Nat) := by omega
      have ik0 : (0 : Int) ≤ (k : Int) := by omega
      have cw := hrow.cell hlt
      have fw := hrow.frozen k
      have HH := hid1 hrow
      clear hrow
      generalize rmp N n k k = old at cw
      obtain ⟨y, hy⟩ : ∃ y, IntKind.u64.wrap (IntKind.i64.wrap (IntKind.i64.wrap (43690 + (k : Int)) - (n : Int))) = y := ⟨_, rfl⟩
      have HYY := hid1 hy
      by_cases hkn : k < n
      · have ikn : (k : Int) < (n : Nat) := by omega
        obtain ⟨ga, oa, rfl, c8⟩ := (RD.out.below hnx).2 k hkn
        have lga : ga < w.heap.size := by
          obtain ⟨g', o', e, c⟩ := RD.out.2 k hkn
          cases e
          exact lt_of_cell c
        have nga : ga ≠ w.heap.size := by omega
        unfold wf at c8
        go_wp2_with fail
        refine ⟨⟨k + 1, by omega, by go_num, ((HH.out.set k _).set k _).congr fun j _ => ?_, bl_set (bl_set hnx (Nat.le_refl _) _) (Nat.le_refl _) _⟩, by simp [intOf]; omega⟩
        rw [← rmp_step]
        by_cases e : j = k
        · subst e; rw [if_pos rfl, if_pos rfl]; unfold rmf; rw [if_pos hkn]; rfl
        · rw [if_neg e, if_neg e, if_neg e]
      · have ikn : ¬ (k : Int) < (n : Nat) := by omega
        have HV := hid1 (HM.out k (by omega) (by omega))
        rw [hy] at HV
        go_wp2_with fail
        refine ⟨⟨k + 1, by omega, by go_num, (HH.out.set k _).congr fun j _ => ?_, bl_set hnx (Nat.le_refl _) _⟩, by simp [intOf]; omega⟩
        rw [← rmp_step]
        by_cases e : j = k
        · subst e; rw [if_pos rfl, if_pos rfl]; unfold rmf; rw [if_neg hkn]; congr 1; omega
        · rw [if_neg e, if_neg e]
    · have hkT : k = T := by omega
      subst hkT
      have HH : Hid (wr.rowIs w.heap.size 47 k (rmf N n)) := hid1 (hrow.congr fun j hj => by unfold rmp; rw [if_pos hj])
      have i3 : (n : Int) ≤ (k : Int) := by omega
      have i4 : (0 : Int) ≤ (n : Int) := by omega
      clear hrow
      go_wp2_with fail
      go_ret
      exact ⟨w.heap.size, rfl, Nat.le_refl _, HH.out, hnx⟩
theorem rm_wr {w : World} {G n N : Nat} (h : w.rowIs G 47 (n + 66) (rmf N n)) (hN : N < 2 ^ (64 * n)) : Wr w (some ⟨G, 0, none⟩) n N :=
  ⟨hN, fun k hk => ⟨G, 0, rfl, by rw [Nat.zero_add, h.cell (i := k) (by omega)]; unfold rmf; rw [if_pos hk]⟩⟩
set_option maxHeartbeats 1600000 in
set_option maxRecDepth 100000 in
theorem kept_true (n N G : Nat) (bo : Option Addr) (cb : Nat) (w : World) (hn : n ≤ 17592186043904) (row : w.rowIs G 47 (n + 66) (rmf N n)) (rb : Wr w bo n N) :
    Calls Try.prog 8 #[.slice (some ⟨G, 0, none⟩) n (n + 66), .slice bo n cb] w fun e w' => e = .returned (.bool true) ∧ Below w.heap.size w w' := by
  have HW := hid1 (words_same n N (some ⟨G, 0, none⟩) bo (n + 66) cb w (by omega) (rm_wr row rb.1) rb)
  have r1 : IntKind.i64.wrap ((n : Int) + 66) = ((n + 66 : Nat) : Int) := by rw [IntKind.wrap_i64]; omega
  have r2 : (n : Int) + 66 = ((n + 66 : Nat) : Int) := by omega
  have HM := hid1 (fun k h hk => mark_conv (k := k) (n := n) h hk)
  obtain ⟨T, hT⟩ : ∃ T, n + 66 = T := ⟨_, rfl⟩
  rw [hT] at r1 r2 row HW ⊢
  have hnT : n < T := by omega
  have hTb : T ≤ 17592186043970 := by omega
  have HR := hid1 row
  clear row rb hT
  have i1 : ¬ (T : Int) < (T : Int) := by omega
  have i2 : (0 : Int) ≤ (T : Int) := by omega
  have n1 : ¬ T = 0 := by omega
  go_enter Try.func8, Try.ntmps8
  go_wp2_with fail
  refine HW.out.mono ?_
  rintro e w1 ⟨rfl, B1⟩
  clear HW
  go_wp2_with fail
  go_loopw [7] (fun i wr => ∃ k : Nat, n ≤ k ∧ k ≤ T ∧ i = .int .i64 k ∧ Below w.heap.size w wr) (fun i _ => T - (intOf i).toNat)
  case atStart => exact ⟨n, Nat.le_refl _, by omega, rfl, B1⟩
  case round =>
    clear B1
    obtain ⟨k, hk0, hk, rfl, hnx⟩ := hrel
    by_cases hlt : k < T
    · have ik : (k : Int) < (T : Nat) := by omega
      have ik0 : (0 : Int) ≤ (k : Int) := by omega
      have c8 := (keepr hnx HR.out).cell hlt
      unfold rmf at c8
      rw [if_neg (by omega)] at c8
      have HV := HM.out k hk0 (by omega)
      have hv0 : ((43690 + k - n : Nat) : Int) = 43690 + (k : Int) - (n : Int) := by omega
      have HV' : IntKind.u64.wrap (IntKind.i64.wrap (IntKind.i64.wrap (43690 + (k : Int)) - (n : Int))) = 43690 + (k : Int) - (n : Int) := by rw [HV, hv0]
      rw [hv0] at c8
      clear HV
      go_wp2_with fail
      exact ⟨⟨k + 1, by omega, by omega, by go_num, hnx⟩, by simp [intOf]; omega⟩
    · have hkT : k = T := by omega
      subst hkT
      go_wp2_with fail
      go_ret
      exact ⟨rfl, hnx⟩
end Go.Proofs.Ytmbhapegdbajpaa
/- THE LAWS' OWN WORDS: values with marks behind them. -/
namespace Go.Proofs.Ytmbhapegdbajpaa
open Go.RowKit Go.Shelf

/-- What Roomy makes: the words, and marks behind them. -/
def rvf (N : Nat → Int) (n : Nat) : Nat → Value := fun k => if k < n then .int .i8 (N k) else .int .i8 ((60 + k - n : Nat) : Int)
/-- .. as far as i. -/
def rvp (N : Nat → Int) (n i : Nat) : Nat → Value := fun k => if k < i then rvf N n k else .int .i8 0
theorem rvp_step (N : Nat → Int) (n i j : Nat) : (if j = i then rvf N n i else rvp N n i j) = rvp N n (i + 1) j := by
  unfold rvp
  by_cases h : j = i
  · subst h; rw [if_pos rfl, if_pos (by omega)]
  · rw [if_neg h]
    by_cases h2 : j < i
    · rw [if_pos h2, if_pos (by omega)]
    · rw [if_neg h2, if_neg (by omega)]
theorem mark8 {k n : Nat} (h : n ≤ k) (hk : k < n + 66) (_hn : n ≤ 140737488351232) : IntKind.i8.wrap (IntKind.i64.wrap (IntKind.i64.wrap (60 + (k : Int)) - (n : Int))) = ((60 + k - n : Nat) : Int) := by
  have e : IntKind.i64.wrap (IntKind.i64.wrap (60 + (k : Int)) - (n : Int)) = ((60 + k - n : Nat) : Int) := by rw [IntKind.wrap_i64, IntKind.wrap_i64]; omega
  rw [e]
  obtain ⟨x, hx⟩ : ∃ x, 60 + k - n = x := ⟨_, rfl⟩
  have hx2 : x < 126 := by omega
  rw [hx]
  have hm : (x : Int) % 256 = x := by omega
  simp [IntKind.wrap, IntKind.bits, IntKind.signed, hm]
  omega
end Go.Proofs.Ytmbhapegdbajpaa
/- THE DOCUMENT'S OWN Turn. -/
namespace Go.Proofs.Ytmbhapegdbajpaa
open Go.RowKit Go.Shelf

/-- The last word, shifted down by what it holds, is 0 just if nothing is set behind. -/
theorem last_shr {n N : Nat} (h0 : 0 < n) (hr : n % 64 ≠ 0) (hN : N < 2 ^ (64 * nw n)) : wd N (nw n - 1) / 2 ^ (n % 64) = 0 ↔ N < 2 ^ n := by
  have hq : 64 * (nw n - 1) + n % 64 = n := by unfold nw; omega
  have hq2 : 64 * nw n = 64 * (nw n - 1) + 64 := by unfold nw; omega
  constructor
  · intro h
    refine Nat.lt_pow_two_of_testBit _ fun i hi => ?_
    by_cases hi2 : i < 64 * nw n
    · have hw : (wd N (nw n - 1)).testBit (i - 64 * (nw n - 1)) = false := by
        have hlt : wd N (nw n - 1) < 2 ^ (n % 64) := by
          rcases Nat.lt_or_ge (wd N (nw n - 1)) (2 ^ (n % 64)) with k | k
          · exact k
          · have := Nat.div_pos k (Nat.two_pow_pos _); omega
        exact bit_above hlt (by omega)
      rw [wd_bit] at hw
      have e1 : i - 64 * (nw n - 1) < 64 := by omega
      have e2 : 64 * (nw n - 1) + (i - 64 * (nw n - 1)) = i := by omega
      simpa [e1, e2] using hw
    · exact bit_above hN (by omega)
  · intro h
    refine Nat.div_eq_of_lt ?_
    refine Nat.lt_pow_two_of_testBit _ fun i hi => ?_
    rw [wd_bit, bit_above h (i := 64 * (nw n - 1) + i) (by omega)]
    simp
theorem chk_one_not {n : Int} (h : n < 1 ∨ 4096 < n) : Sg.chk 1 1 n ≠ 0 := by
  unfold Sg.chk
  rw [if_neg (fun k => by have := k.2.2; omega)]
  decide
/-- What the last word says, where nothing is set behind. -/
def Lw (W : World) (ao : Option Addr) (m n : Nat) : Prop := n % 64 = 0 ∨ (n % 64 ≠ 0 ∧ ∃ g o q x : Nat, ao = some ⟨g, o, none⟩ ∧ m = q + 1 ∧ W.cell? ⟨g, o + q, none⟩ = some (.int .u64 x) ∧ x / 2 ^ (n % 64) = 0)
theorem lw_of {W : World} {ao : Option Addr} {m n N : Nat} (em : m = nw n) (hN : N < 2 ^ n) (rd : Wr W ao m N) : Lw W ao m n := by
  by_cases hr : n % 64 = 0
  · exact .inl hr
  · have h0 : 0 < n := by omega
    have hm0 : 0 < m := by rw [em]; unfold nw; omega
    obtain ⟨g, o, e, c⟩ := rd.2 (m - 1) (by omega)
    refine .inr ⟨hr, g, o, m - 1, wd N (m - 1), e, by omega, c, ?_⟩
    rw [em]
    exact (last_shr h0 hr (lt_nw hN)).2 hN
end Go.Proofs.Ytmbhapegdbajpaa
/- THE DOCUMENT'S OWN Empty, Put. -/
namespace Go.Proofs.Ytmbhapegdbajpaa
open Go.RowKit Go.Shelf

/-- An element's bit. -/
def bp (V C y x k : Nat) : Nat := 64 * ((y * V + x) * nw C) + k
theorem bp_div {V C y x k : Nat} : bp V C y x k / 64 = (y * V + x) * nw C + k / 64 := by unfold bp; omega
theorem bp_mod {V C y x k : Nat} : bp V C y x k % 64 = k % 64 := by unfold bp; omega
theorem or_wd (N i k : Nat) : wd (N ||| 2 ^ i) k = if k = i / 64 then wd N k ||| 2 ^ (i % 64) else wd N k := by
  rw [wd_or, wd_bit1]
  by_cases h : k = i / 64
  · rw [if_pos h, if_pos h]
  · rw [if_neg h, if_neg h]; simp
theorem gen_world' {K : Act → World → Prop} {Q : Exit → Act → World → Prop} {a : Act} {W : World} (p : World → Prop) (hp : p W) (h : ∀ W', p W' → Exit.then K Q .normal a W') : Exit.then K Q .normal a W := h W hp
end Go.Proofs.Ytmbhapegdbajpaa
/- THE DOCUMENT'S OWN Pack. -/
namespace Go.Proofs.Ytmbhapegdbajpaa
open Go.RowKit Go.Shelf

/-- The words behind so many elements. -/
def qn (l : List Int) (C : Nat) : Nat → Nat
  | 0 => 0
  | i + 1 => qn l C i ||| (if 0 < ia l i then 2 ^ (64 * (i / C * nw C) + i % C) else 0)
theorem qn_bit (l : List Int) {C : Nat} (hC : 0 < C) (b : Nat) : ∀ i, (qn l C i).testBit b = (decide (b % (64 * nw C) < C) && (decide (b / (64 * nw C) * C + b % (64 * nw C) < i) && decide (0 < ia l (b / (64 * nw C) * C + b % (64 * nw C)))))
  | 0 => by simp [qn]
  | i + 1 => by
    have hd : 0 < 64 * nw C := by have : 0 < nw C := (by unfold nw; omega); omega
    have hCd := nw_le C
    have hmod := Nat.mod_lt i hC
    have hpos : 64 * (i / C * nw C) + i % C = b ↔ (b / (64 * nw C) = i / C ∧ b % (64 * nw C) = i % C) := by
      have e1 : 64 * (i / C * nw C) = 64 * nw C * (i / C) := by rw [Nat.mul_assoc, Nat.mul_comm (nw C)]
      constructor
      · rintro rfl
        have hlt : i % C < 64 * nw C := Nat.lt_of_lt_of_le hmod hCd
        rw [e1]
        constructor
        · rw [Nat.mul_add_div hd, Nat.div_eq_of_lt hlt, Nat.add_zero]
        · rw [Nat.mul_add_mod, Nat.mod_eq_of_lt hlt]
      · rintro ⟨h1, h2⟩
        have := Nat.div_add_mod b (64 * nw C)
        rw [h1, h2] at this
        omega
    have hidx : (b / (64 * nw C) = i / C ∧ b % (64 * nw C) = i % C) ↔ (b % (64 * nw C) < C ∧ b / (64 * nw C) * C + b % (64 * nw C) = i) := by
      generalize b / (64 * nw C) = q
      generalize b % (64 * nw C) = r
      constructor
      · rintro ⟨rfl, rfl⟩
        refine ⟨hmod, ?_⟩
        rw [Nat.mul_comm]; exact Nat.div_add_mod i C
      · rintro ⟨h1, rfl⟩
        rw [Nat.mul_comm q C]
        refine ⟨?_, ?_⟩
        · rw [Nat.mul_add_div hC, Nat.div_eq_of_lt h1, Nat.add_zero]
        · rw [Nat.mul_add_mod, Nat.mod_eq_of_lt h1]
    simp only [qn]
    rw [Nat.testBit_or, qn_bit l hC b i]
    generalize hq : b / (64 * nw C) * C + b % (64 * nw C) = e at *
    by_cases h0 : 0 < ia l i
    · rw [if_pos h0, Nat.testBit_two_pow]
      by_cases hb : 64 * (i / C * nw C) + i % C = b
      · obtain ⟨h1, h2⟩ := hidx.1 (hpos.1 hb)
        subst h2
        simp [hb, h1, h0]
      · have hne : ¬ (b % (64 * nw C) < C ∧ e = i) := fun k => hb (hpos.2 (hidx.2 k))
        by_cases h1 : b % (64 * nw C) < C
        · have h2 : ¬ e = i := fun k => hne ⟨h1, k⟩
          have : (e < i + 1) ↔ e < i := by omega
          simp [hb, h1, this]
        · simp [hb, h1]
    · rw [if_neg h0]
      by_cases h2 : e = i
      · subst h2; simp [h0]
      · have : (e < i + 1) ↔ e < i := by omega
        simp [this]
theorem qn_all (l : List Int) {C n : Nat} (hC : 0 < C) : qn l C (n * C) = js (64 * nw C) (sp l C) n := by
  have hd : 0 < 64 * nw C := by have : 0 < nw C := (by unfold nw; omega); omega
  refine Nat.eq_of_testBit_eq fun b => ?_
  rw [qn_bit l hC, js_bit hd n (fun i _ => Nat.lt_of_lt_of_le (sp_lt l C i) (pow_mono (nw_le C))), sp_bit]
  have hlt : b < n * (64 * nw C) ↔ b / (64 * nw C) < n := by rw [Nat.div_lt_iff_lt_mul hd]
  by_cases h1 : b % (64 * nw C) < C
  · have : (b / (64 * nw C) * C + b % (64 * nw C) < n * C) ↔ b < n * (64 * nw C) := by
      rw [hlt]
      generalize b / (64 * nw C) = q
      generalize b % (64 * nw C) = r at *
      constructor
      · intro h
        rcases Nat.lt_or_ge q n with k | k
        · exact k
        · have := Nat.mul_le_mul_right C k; omega
      · intro h
        have := Nat.mul_le_mul_right C h
        rw [Nat.succ_mul] at this
        omega
    simp [h1, this]
  · simp [h1]
end Go.Proofs.Ytmbhapegdbajpaa
/- COUNTING WHAT IS SEEN: plain mathematics. -/
namespace Go.Proofs.Ytmbhapegdbajpaa

/-- How many of the first n are so. -/
def ct (f : Nat → Bool) : Nat → Nat
  | 0 => 0
  | n + 1 => ct f n + (if f n = true then 1 else 0)
theorem ct_le (f : Nat → Bool) : ∀ n, ct f n ≤ n
  | 0 => Nat.le_refl _
  | n + 1 => by have := ct_le f n; unfold ct; split <;> omega
theorem ct_all (f : Nat → Bool) : ∀ n, ct f n = n ↔ ∀ i, i < n → f i = true
  | 0 => by simp [ct]
  | n + 1 => by
    have h1 := ct_le f n
    have h2 := ct_all f n
    unfold ct
    constructor
    · intro h i hi
      by_cases e : f n = true
      · rw [if_pos e] at h
        by_cases ei : i = n
        · subst ei; exact e
        · exact h2.1 (by omega) i (by omega)
      · rw [if_neg e] at h; omega
    · intro h
      rw [if_pos (h n (by omega)), h2.2 fun i hi => h i (by omega)]
theorem ct_pos (f : Nat → Bool) : ∀ n, 0 < ct f n ↔ ∃ i, i < n ∧ f i = true
  | 0 => by simp [ct]
  | n + 1 => by
    have h2 := ct_pos f n
    unfold ct
    constructor
    · intro h
      by_cases e : f n = true
      · exact ⟨n, by omega, e⟩
      · rw [if_neg e] at h
        obtain ⟨i, hi, hf⟩ := h2.1 (by omega)
        exact ⟨i, by omega, hf⟩
    · rintro ⟨i, hi, hf⟩
      by_cases ei : i = n
      · subst ei; rw [if_pos hf]; omega
      · have := h2.2 ⟨i, by omega, hf⟩
        omega
/-- What the document asks of an element, counted. -/
theorem se_ct {al : Bool} {N V d R S y x OW C j : Nat} (hR : 0 < R) (hS : 0 < S) :
    se al N V d R S y x OW C j = true ↔ ct (fun i => pbt N V d (j / C / OW * y + i / S) (j / C % OW * x + i % S) (j % C)) (R * S) = R * S ∨ (al = false ∧ 0 < ct (fun i => pbt N V d (j / C / OW * y + i / S) (j / C % OW * x + i % S) (j % C)) (R * S)) := by
  have hd : ∀ i, i < R * S → i / S < R ∧ i % S < S := fun i hi => ⟨Nat.div_lt_of_lt_mul (by rwa [Nat.mul_comm]), Nat.mod_lt _ hS⟩
  have hu : ∀ a b, a < R → b < S → a * S + b < R * S ∧ (a * S + b) / S = a ∧ (a * S + b) % S = b := fun a b ha hb => by
    have := Nat.mul_le_mul_right S (show a + 1 ≤ R from ha)
    rw [Nat.succ_mul] at this
    exact ⟨by omega, (at_div hb).1, (at_div hb).2⟩
  have hRS : 0 < R * S := Nat.mul_pos hR hS
  rw [ct_all, ct_pos]
  unfold se
  cases al
  · rw [qs_false]
    constructor
    · rintro ⟨b, hb, h⟩
      obtain ⟨a, ha, h⟩ := (qs_false _ _).1 h
      obtain ⟨h1, h2, h3⟩ := hu a b ha hb
      exact .inr ⟨rfl, a * S + b, h1, by rw [h2, h3]; exact h⟩
    · intro h
      have h' : ∃ i, i < R * S ∧ pbt N V d (j / C / OW * y + i / S) (j / C % OW * x + i % S) (j % C) = true := by
        rcases h with h | ⟨_, h⟩
        · exact ⟨0, hRS, h 0 hRS⟩
        · exact h
      obtain ⟨i, hi, h'⟩ := h'
      exact ⟨i % S, (hd i hi).2, (qs_false _ _).2 ⟨i / S, (hd i hi).1, h'⟩⟩
  · rw [qs_true]
    constructor
    · intro h
      exact .inl fun i hi => (qs_true _ _).1 (h (i % S) (hd i hi).2) (i / S) (hd i hi).1
    · rintro (h | ⟨h, _⟩)
      · intro b hb
        refine (qs_true _ _).2 fun a ha => ?_
        obtain ⟨h1, h2, h3⟩ := hu a b ha hb
        have := h _ h1
        rwa [h2, h3] at this
      · cases h
/-- Values as a list, and packed again. -/
def vU (X C k : Nat) : List Int := (List.range k).map fun j => uv X C j
theorem vU_at {X C k j : Nat} (h : j < k) : ia (vU X C k) j = uv X C j := by
  unfold vU
  rw [show ia ((List.range k).map fun j => uv X C j) j = ((List.range k).map fun j => uv X C j).getD j 0 from rfl]
  rw [List.getD_eq_getElem?_getD, List.getElem?_map, List.getElem?_range h]
  rfl
theorem uv_pos (X C j : Nat) : 0 < uv X C j ↔ eb X C j = true := by
  rw [uv_eb]
  cases eb X C j <;> simp
theorem vU_pack {X C P : Nat} (hX : X < 2 ^ (64 * (P * nw C))) (hp : Pok P C X) : js (64 * nw C) (sp (vU X C (P * C)) C) P = X := by
  rw [← pl_js hX]
  refine js_congr _ fun p hpp => Nat.eq_of_testBit_eq fun b => ?_
  rw [pl_js hX, sp_bit]
  by_cases hb : b < C
  · have hj : p * C + b < P * C := by
      have := Nat.mul_le_mul_right C (show p + 1 ≤ P from hpp)
      rw [Nat.succ_mul] at this
      omega
    rw [vU_at hj]
    have e := at_div (y := p) hb
    have h1 := uv_pos X C (p * C + b)
    unfold eb at h1
    rw [e.1, e.2] at h1
    refine beq_iff ?_
    simp only [hb, decide_true, Bool.true_and, decide_eq_true_eq]
    exact h1
  · rw [bit_above (hp p hpp) (by omega)]
    simp [hb]
end Go.Proofs.Ytmbhapegdbajpaa
