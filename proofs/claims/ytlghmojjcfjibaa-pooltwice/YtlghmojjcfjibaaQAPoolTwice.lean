import Derived.Test.YtlghmojjcfjibaaBW11
import Derived.ProofKit
import Derived.OpenShut
import Derived.ChangeOld
import Derived.SizedLaws
import Derived.Test.YtlghmojjcfjibaaBW12
import Derived.ChangeSlices
import Derived.Test.YtlghmojjcfjibaaSW2
import Derived.Test.YtlghmojjcfjibaaSW3
import Derived.Deep.Slices
import Derived.Test.YtlghmojjcfjibaaKW7
import Derived.Deep.DeepAppendWide
import Derived.Laws.AppendOwnNone
import Derived.Laws.OwnMore
import Derived.Test.YtlghmojjcfjibaaBM7
import Derived.Test.YtlghmojjcfjibaaBW6
/- WHAT EVERY ROW OF THIS SEAT WANTS. -/
namespace Go.Proofs.Ytlghmojjcfjibaa
open Go.ChangeShapes Go.WideShapes Go.ChangeAt Go.RowKit

theorem own : ownKnob Try.prog.godebug = none := by kernel_rfl
theorem laidOut : laidOutB Try.prog = true := by kernel_rfl
theorem i64_of_wf {x : Int} (h : (Lit.int .i64 x).wf = true) : -9223372036854775808 ≤ x ∧ x ≤ 9223372036854775807 := by
  simp [Lit.wf, IntKind.min, IntKind.max, IntKind.signed, IntKind.bits] at h
  exact ⟨by omega, by omega⟩
end Go.Proofs.Ytlghmojjcfjibaa
/- PARAMETERS THAT ARE LISTS OF SMALL NUMBERS. -/
namespace Go.Proofs.Ytlghmojjcfjibaa
open Go.ChangeShapes Go.WideShapes Go.ChangeAt Go.RowKit
set_option maxRecDepth 100000

theorem reach_is : reachBytes = 140737488351232 := by decide
theorem cells_i8 : Try.prog.cellsOf 86 = 1 := by kernel_rfl
theorem bytes_i8 : Try.prog.bytesOf 86 = 1 := by kernel_rfl
theorem open_i8 {H : Type} {enc : TypeId × Value → H} {W : World} {base : Nat} {v : Value} {d : DataW H} {p : List MemPlace}
    (hv : Value.okWide Try.prog W .any base 40 v) (h : DataW.Trod enc Try.prog W 0 (fun _ => true) true 40 v d p) :
    ∃ (ao : Option Addr) (l : List Int) (cap : Nat), v = .slice ao l.length cap ∧ l.length ≤ cap ∧ (ao = none → l.length = 0 ∧ cap = 0) ∧ R8 W ao l ∧
      ((d = .nil ∧ cap = 0) ∨ ∃ es sp, d = .slice es sp ∧ es.length + sp.length = cap) := by
  obtain ⟨a0, len, cap, rfl⟩ := okWide_slice und_i8s hv
  obtain ⟨fuel, hf⟩ := h
  rcases open_ints und_i8s Try.underlying86 cells_i8 hf with ⟨hc, hx⟩ | ⟨a, len', cap', zs, hc, _, hl, _, hz, hx, hcell, _⟩
  · simp [Value.cells] at hc
    obtain ⟨rfl, rfl, rfl⟩ := hc
    simp only [Prod.mk.injEq] at hx
    exact ⟨none, [], 0, rfl, Nat.le_refl _, fun _ => ⟨rfl, rfl⟩, fun k hk => absurd hk (by simp), .inl ⟨hx.1, rfl⟩⟩
  · simp [Value.cells] at hc
    obtain ⟨rfl, rfl, rfl⟩ := hc
    simp only [if_true] at hz
    simp only [Prod.mk.injEq] at hx
    have hlen : (zs.take len).length = len := by simp; omega
    refine ⟨some a, zs.take len, cap, by rw [hlen], by rw [hlen]; exact hl, fun e => (by cases e), ?_, .inr ⟨_, _, hx.1, by simp [lits]; omega⟩⟩
    intro k hk
    rw [hlen] at hk
    have c := hcell k (by omega)
    have c0 := hcell 0 (by omega)
    have hs := World.cell?_spot c0
    obtain ⟨b, o, s⟩ := a
    simp [Addr.add] at hs
    subst hs
    refine ⟨b, o, rfl, ?_⟩
    have e1 : ia (zs.take len) k = zs.getD k 0 := ia_take hk
    rw [e1, ← c]
    by_cases h0 : k = 0
    · subst h0; rfl
    · simp [Addr.add, h0]
end Go.Proofs.Ytlghmojjcfjibaa
/- PARAMETERS THAT ARE A SHAPE, A WINDOW. -/
namespace Go.Proofs.Ytlghmojjcfjibaa
open Go.ChangeShapes Go.WideShapes Go.ChangeAt Go.RowKit
set_option maxRecDepth 100000

theorem fldF {H : Type} {enc : TypeId × Value → H} {P : Program} {w : World} {base : Nat} {sp : Nat → Bool} {held : Bool} {t : TypeId} {fs : Array Field} {fuel : Nat} {cs : List Value} {x : DataW H × List MemPlace}
    (ht : P.underlying t = some (.struct fs)) (h : DataW.trod enc P w base sp held fuel t cs = some x) (i : Nat) (f : Field) (hi : fs[i]? = some f) :
    ∃ n y, DataW.trod enc P w base sp held n f.type ((cs.drop f.offset).take (P.cellsOf f.type)) = some y := by
  obtain ⟨xs, n, _, _, _, hxl, hf⟩ := DataW.trod_struct ht h
  have g := hf i f hi
  have hlt : i < xs.length := by
    rw [hxl]
    exact (Array.getElem?_eq_some_iff.1 hi).1
  rw [List.getElem?_eq_getElem hlt] at g
  exact ⟨n, _, g⟩
theorem fldIF {H : Type} {enc : TypeId × Value → H} {P : Program} {w : World} {base : Nat} {sp : Nat → Bool} {held : Bool} {t : TypeId} {fs : Array Field} {fuel : Nat} {cs : List Value} {x : DataW H × List MemPlace}
    (ht : P.underlying t = some (.struct fs)) (h : DataW.trod enc P w base sp held fuel t cs = some x) (i : Nat) (f : Field) (hi : fs[i]? = some f) (hu : P.underlying f.type = some (.int .i64)) (hc : P.cellsOf f.type = 1) :
    ∃ z : Int, (cs.drop f.offset).take 1 = [.int .i64 z] := by
  obtain ⟨n, y, g⟩ := fldF ht h i f hi
  rw [hc] at g
  obtain ⟨z, e, _⟩ := DataW.trod_int hu g
  exact ⟨z, e⟩
theorem cells_intF : Try.prog.cellsOf 3 = 1 := by kernel_rfl
theorem cells_shpF : Try.prog.cellsOf 23 = 3 := by kernel_rfl
theorem cells_winF : Try.prog.cellsOf 28 = 8 := by kernel_rfl
theorem len3F {l : List Value} (h : l.length = 3) : ∃ a b c, l = [a, b, c] := by
  match l, h with
  | [a, b, c], _ => exact ⟨a, b, c, rfl⟩
theorem len8F {l : List Value} (h : l.length = 8) : ∃ a b c d e f g i, l = [a, b, c, d, e, f, g, i] := by
  match l, h with
  | [a, b, c, d, e, f, g, i], _ => exact ⟨a, b, c, d, e, f, g, i, rfl⟩
set_option maxRecDepth 100000 in
theorem shape_cellsF {H : Type} {enc : TypeId × Value → H} {w : World} {base : Nat} {sp : Nat → Bool} {held : Bool} {fuel : Nat} {cs : List Value} {x : DataW H × List MemPlace}
    (h : DataW.trod enc Try.prog w base sp held fuel 23 cs = some x) : ∃ a b c : Int, cs = [.int .i64 a, .int .i64 b, .int .i64 c] := by
  have hl : cs.length = 3 := by
    obtain ⟨_, _, _, _, hlen, _, _⟩ := DataW.trod_struct Try.underlying23 h
    exact hlen.trans cells_shpF
  obtain ⟨z0, e0⟩ := fldIF Try.underlying23 h 0 _ rfl Try.underlying3 cells_intF
  obtain ⟨z1, e1⟩ := fldIF Try.underlying23 h 1 _ rfl Try.underlying3 cells_intF
  obtain ⟨z2, e2⟩ := fldIF Try.underlying23 h 2 _ rfl Try.underlying3 cells_intF
  obtain ⟨a, b, c, rfl⟩ := len3F hl
  simp at e0 e1 e2
  subst e0 e1 e2
  exact ⟨z0, z1, z2, rfl⟩
set_option maxRecDepth 100000 in
theorem win_cellsF {H : Type} {enc : TypeId × Value → H} {w : World} {base : Nat} {sp : Nat → Bool} {held : Bool} {fuel : Nat} {cs : List Value} {x : DataW H × List MemPlace}
    (h : DataW.trod enc Try.prog w base sp held fuel 28 cs = some x) :
    ∃ r s sy sx t l b q : Int, cs = [.int .i64 r, .int .i64 s, .int .i64 sy, .int .i64 sx, .int .i64 t, .int .i64 l, .int .i64 b, .int .i64 q] := by
  have hl : cs.length = 8 := by
    obtain ⟨_, _, _, _, hlen, _, _⟩ := DataW.trod_struct Try.underlying28 h
    exact hlen.trans cells_winF
  obtain ⟨z0, e0⟩ := fldIF Try.underlying28 h 0 _ rfl Try.underlying3 cells_intF
  obtain ⟨z1, e1⟩ := fldIF Try.underlying28 h 1 _ rfl Try.underlying3 cells_intF
  obtain ⟨z2, e2⟩ := fldIF Try.underlying28 h 2 _ rfl Try.underlying3 cells_intF
  obtain ⟨z3, e3⟩ := fldIF Try.underlying28 h 3 _ rfl Try.underlying3 cells_intF
  obtain ⟨z4, e4⟩ := fldIF Try.underlying28 h 4 _ rfl Try.underlying3 cells_intF
  obtain ⟨z5, e5⟩ := fldIF Try.underlying28 h 5 _ rfl Try.underlying3 cells_intF
  obtain ⟨z6, e6⟩ := fldIF Try.underlying28 h 6 _ rfl Try.underlying3 cells_intF
  obtain ⟨z7, e7⟩ := fldIF Try.underlying28 h 7 _ rfl Try.underlying3 cells_intF
  obtain ⟨a, b, c, d, e, f, g, i, rfl⟩ := len8F hl
  simp at e0 e1 e2 e3 e4 e5 e6 e7
  subst e0 e1 e2 e3 e4 e5 e6 e7
  exact ⟨z0, z1, z2, z3, z4, z5, z6, z7, rfl⟩
theorem open_shape {H : Type} {enc : TypeId × Value → H} {W : World} {base : Nat} {v : Value} {d : DataW H} {p : List MemPlace}
    (hv : Value.okWide Try.prog W .any base 23 v) (h : DataW.Trod enc Try.prog W 0 (fun _ => true) true 23 v d p) : ∃ a b c : Int, v = Sg.shp a b c := by
  obtain ⟨cs, rfl, _⟩ := okWide_struct Try.underlying23 hv
  obtain ⟨fuel, hf⟩ := h
  obtain ⟨a, b, c, e⟩ := shape_cellsF hf
  refine ⟨a, b, c, ?_⟩
  simp [Value.cells] at e
  obtain ⟨l⟩ := cs
  simp at e
  subst e
  rfl
theorem open_win {H : Type} {enc : TypeId × Value → H} {W : World} {base : Nat} {v : Value} {d : DataW H} {p : List MemPlace}
    (hv : Value.okWide Try.prog W .any base 28 v) (h : DataW.Trod enc Try.prog W 0 (fun _ => true) true 28 v d p) : ∃ r s sy sx t l b q : Int, v = Sg.win r s sy sx t l b q := by
  obtain ⟨cs, rfl, _⟩ := okWide_struct Try.underlying28 hv
  obtain ⟨fuel, hf⟩ := h
  obtain ⟨r, s, sy, sx, t, l, b, q, e⟩ := win_cellsF hf
  refine ⟨r, s, sy, sx, t, l, b, q, ?_⟩
  simp [Value.cells] at e
  obtain ⟨l⟩ := cs
  simp at e
  subst e
  rfl
end Go.Proofs.Ytlghmojjcfjibaa
/- PACKAGE cube: a list's copy; At, Turn. -/
namespace Go.Proofs.Ytlghmojjcfjibaa
open Go.RowKit Go.Shelf

/-- The words of a number, as a list. -/
def wl (N m : Nat) : List Value := (List.range m).map (wf N)
theorem wl_len (N m : Nat) : (wl N m).length = m := by simp [wl]
theorem wl_get {N m j : Nat} {u : Value} (h : (wl N m)[j]? = some u) : j < m ∧ u = wf N j := by
  unfold wl at h
  rw [List.getElem?_map] at h
  by_cases hj : j < m
  · rw [List.getElem?_range hj] at h
    simp at h
    exact ⟨hj, h.symm⟩
  · rw [List.getElem?_eq_none (by simpa using hj)] at h
    cases h
theorem wl_at {N m j : Nat} (h : j < m) : (wl N m)[j]? = some (wf N j) := by
  unfold wl
  rw [List.getElem?_map, List.getElem?_range h]; rfl
end Go.Proofs.Ytlghmojjcfjibaa
/- ONE BIT IN A LONG ROW: plain mathematics. -/
namespace Go.Proofs.Ytlghmojjcfjibaa

theorem one_list (n k : Nat) (h : k < n) : ∃ l : List Int, l.length = n ∧ ∀ i, ia l i = if i = k then 1 else 0 := by
  refine ⟨(List.replicate n 0).set k 1, by simp, fun i => ?_⟩
  unfold ia
  rw [List.getD_eq_getElem?_getD, List.getElem?_set]
  by_cases e : k = i
  · subst e
    simp [h]
  · rw [if_neg e, if_neg (fun e' => e e'.symm), List.getElem?_replicate]
    split <;> rfl
/-- Just the bit k is set. -/
def Only (A k : Nat) : Prop := ∀ i, A.testBit i = decide (i = k)
theorem only_pk {l : List Int} {k Z : Nat} (h : ∀ i, ia l i = if i = k then 1 else 0) (hk : k < Z) : Only (pk l Z) k := by
  intro i
  rw [pk_bit, h i]
  by_cases e : i = k
  · subst e; simp [hk]
  · simp [e]
theorem only_pc {A k : Nat} (h : Only A k) : ∀ n, pc A n = if k < n then 1 else 0
  | 0 => rfl
  | n + 1 => by
    simp only [pc]
    rw [only_pc h n, h n]
    by_cases e : n = k
    · subst e; simp
    · by_cases h2 : k < n
      · rw [if_pos h2, if_pos (by omega)]; simp [e]
      · rw [if_neg h2, if_neg (by omega)]; simp [e]
theorem only_sl {A k a b : Nat} (h : Only A k) (ha : a ≤ k) (hb : k < b) : sl A a b = 2 ^ (k - a) := by
  refine Nat.eq_of_testBit_eq fun i => ?_
  rw [sl_bit, h, Nat.testBit_two_pow]
  by_cases e : k - a = i
  · have e1 : i < b - a := by omega
    have e2 : a + i = k := by omega
    simp [e, e1, e2]
  · have e2 : ¬ a + i = k := by omega
    simp [e, e2]
def three {α : Type} (a b c : α) : Nat → α := fun j => if j = 0 then a else if j = 1 then b else c
theorem off_three (Z : Nat) : off (three 0 Z 0) 3 = Z := by
  show ((0 + 0) + Z) + 0 = Z
  omega
theorem jn_three (Z A : Nat) : jn (three 0 Z 0) (three 0 A 0) 3 = A := by
  show ((0 ||| 0 * 2 ^ 0) ||| A * 2 ^ (0 + 0)) ||| 0 * 2 ^ ((0 + 0) + Z) = A
  rw [Nat.zero_mul, Nat.zero_mul, Nat.or_zero, Nat.or_zero, Nat.zero_or, Nat.add_zero, Nat.pow_zero, Nat.mul_one]
end Go.Proofs.Ytlghmojjcfjibaa
/- ROWS OF TRUTH VALUES: plain mathematics. -/
namespace Go.Proofs.Ytlghmojjcfjibaa

/-- The number of these truth values. -/
def bn (f : Nat → Bool) : Nat → Nat
  | 0 => 0
  | k + 1 => bn f k ||| (if f k then 2 ^ k else 0)
theorem bn_bit (f : Nat → Bool) : ∀ k i, (bn f k).testBit i = (decide (i < k) && f i)
  | 0, i => by simp [bn]
  | k + 1, i => by
    simp only [bn, Nat.testBit_or, bn_bit f k i]
    by_cases e : k = i
    · subst e
      cases h : f k <;> simp
    · have h1 : (i < k + 1) ↔ i < k := by omega
      cases h : f k
      · simp [h1]
      · simp [h1, e]
theorem bn_lt (f : Nat → Bool) (k : Nat) : bn f k < 2 ^ k := by
  refine Nat.lt_pow_two_of_testBit _ fun i hi => ?_
  rw [bn_bit]
  have : ¬ i < k := by omega
  simp [this]
theorem bn_wd (f : Nat → Bool) (i k : Nat) : wd (bn f (i + 1)) k = if k = i / 64 then wd (bn f i) k ||| (if f i then 2 ^ (i % 64) else 0) else wd (bn f i) k := by
  simp only [bn]
  rw [wd_or]
  cases h : f i
  · simp [wd_zero]
  · rw [if_pos rfl, if_pos rfl, wd_bit1]
    by_cases e : k = i / 64
    · rw [if_pos e, if_pos e]
    · rw [if_neg e, if_neg e]; simp
/-- The word that is being filled has no bit from there on. -/
theorem bn_free (f : Nat → Bool) (i : Nat) : wd (bn f i) (i / 64) < 2 ^ (i % 64) := by
  refine Nat.lt_pow_two_of_testBit _ fun j hj => ?_
  rw [wd_bit, bn_bit]
  by_cases h : j < 64
  · have : ¬ 64 * (i / 64) + j < i := by omega
    simp [this]
  · simp [h]
theorem add_or {x r : Nat} (h : x < 2 ^ r) : x + 2 ^ r = x ||| 2 ^ r := by
  have := Nat.two_pow_add_eq_or_of_lt h 1
  rw [Nat.mul_one] at this
  rw [Nat.add_comm, this, Nat.or_comm]
theorem bn_of (N n : Nat) (h : N < 2 ^ n) : bn (fun i => N.testBit i) n = N := by
  refine Nat.eq_of_testBit_eq fun i => ?_
  rw [bn_bit]
  by_cases hi : i < n
  · simp [hi]
  · rw [bit_above h (by omega)]; simp
theorem bn_ext {f : Nat → Bool} {N n : Nat} (hN : N < 2 ^ n) (h : ∀ i, i < n → f i = N.testBit i) : bn f n = N := by
  refine Nat.eq_of_testBit_eq fun i => ?_
  rw [bn_bit]
  by_cases hi : i < n
  · simp [hi, h i hi]
  · rw [bit_above hN (by omega)]; simp [hi]
/-- No bit from n on, below m. -/
theorem lt_of_none {N n m : Nat} (hN : N < 2 ^ m) (h : ∀ i, n ≤ i → i < m → N.testBit i = false) : N < 2 ^ n := by
  refine Nat.lt_pow_two_of_testBit _ fun i hi => ?_
  by_cases h2 : i < m
  · exact h i hi h2
  · exact bit_above hN (by omega)
theorem not_lt_of_bit {N n i : Nat} (hi : n ≤ i) (h : N.testBit i = true) : ¬ N < 2 ^ n := fun h2 => by
  rw [bit_above h2 hi] at h; exact absurd h (by decide)
theorem bit_mod (N q r : Nat) (hr : r < 64) : wd N q / 2 ^ r % 2 = (N.testBit (64 * q + r)).toNat := by
  have h := wd_bit N q r
  simp only [hr, decide_true, Bool.true_and] at h
  rw [← h, Nat.testBit_eq_decide_div_mod_eq]
  rcases Nat.mod_two_eq_zero_or_one (wd N q / 2 ^ r) with e | e <;> simp [e]
end Go.Proofs.Ytlghmojjcfjibaa
/- SUMS BY COUNTING BITS: plain mathematics. -/
namespace Go.Proofs.Ytlghmojjcfjibaa

/-- One place: 1 where both agree, -1 where not, 0 where it does not count. -/
def tm (c a b : Bool) : Int := if c then (if a == b then 1 else -1) else 0
/-- The sum over the places below n. -/
def tq (C A B : Nat) : Nat → Int
  | 0 => 0
  | n + 1 => tq C A B n + tm (C.testBit n) (A.testBit n) (B.testBit n)
theorem tq_congr {C A B C' A' B' : Nat} : ∀ n, (∀ i, i < n → C.testBit i = C'.testBit i ∧ A.testBit i = A'.testBit i ∧ B.testBit i = B'.testBit i) → tq C A B n = tq C' A' B' n
  | 0, _ => rfl
  | n + 1, h => by
    obtain ⟨h1, h2, h3⟩ := h n (by omega)
    simp only [tq]; rw [tq_congr n (fun i hi => h i (by omega)), h1, h2, h3]
theorem tq_add (C A B a : Nat) : ∀ b, tq C A B (a + b) = tq C A B a + tq (C / 2 ^ a) (A / 2 ^ a) (B / 2 ^ a) b
  | 0 => by simp [tq]
  | b + 1 => by
    have e : a + (b + 1) = (a + b) + 1 := rfl
    rw [e]; simp only [tq]
    rw [tq_add C A B a b, Nat.testBit_div_two_pow, Nat.testBit_div_two_pow, Nat.testBit_div_two_pow, Nat.add_comm b a]; omega
theorem tq_word (C A B k : Nat) : tq C A B (64 * (k + 1)) = tq C A B (64 * k) + tq (wd C k) (wd A k) (wd B k) 64 := by
  rw [show 64 * (k + 1) = 64 * k + 64 by omega, tq_add]
  congr 1
  refine tq_congr 64 fun i hi => ?_
  simp only [wd_bit, Nat.testBit_div_two_pow, hi, decide_true, Bool.true_and]
  rw [Nat.add_comm i]
  exact ⟨rfl, rfl, rfl⟩
theorem tq_above {C n : Nat} (h : C < 2 ^ n) (A B : Nat) {m : Nat} (hm : n ≤ m) : tq C A B m = tq C A B n := by
  obtain ⟨d, rfl⟩ : ∃ d, m = n + d := ⟨m - n, by omega⟩
  clear hm
  induction d with
  | zero => rfl
  | succ d ih =>
    rw [show n + (d + 1) = (n + d) + 1 by omega]
    simp only [tq]
    rw [ih, bit_above h (by omega)]
    simp [tm]
theorem tm_bd (c a b : Bool) : -1 ≤ tm c a b ∧ tm c a b ≤ 1 := by cases c <;> cases a <;> cases b <;> decide
theorem tq_bd (C A B : Nat) : ∀ n : Nat, -(n : Int) ≤ tq C A B n ∧ tq C A B n ≤ n
  | 0 => by simp [tq]
  | n + 1 => by
    have := tq_bd C A B n
    have := tm_bd (C.testBit n) (A.testBit n) (B.testBit n)
    simp only [tq]; omega
theorem tq_pc {C A B G : Nat} : ∀ n, (∀ i, i < n → G.testBit i = (C.testBit i && (A.testBit i == B.testBit i))) → 2 * (pc G n : Int) - pc C n = tq C A B n
  | 0, _ => rfl
  | n + 1, h => by
    have ih := tq_pc n (fun i hi => h i (by omega))
    simp only [pc, tq]
    rw [h n (by omega), ← ih]
    cases C.testBit n <;> cases A.testBit n <;> cases B.testBit n <;> simp [tm] <;> omega
/-- The word of the places that agree. -/
def agr (c a b : Nat) : Nat := c &&& (18446744073709551615 - (a ^^^ b))
theorem agr_lt {c : Nat} (h : c < 18446744073709551616) (a b : Nat) : agr c a b < 18446744073709551616 := and_lt64 h
theorem agr_bit {c a b i : Nat} (ha : a < 18446744073709551616) (hb : b < 18446744073709551616) (hi : i < 64) : (agr c a b).testBit i = (c.testBit i && (a.testBit i == b.testBit i)) := by
  have hx := xor_lt64 ha hb
  have e : 18446744073709551615 - (a ^^^ b) = 2 ^ 64 - ((a ^^^ b) + 1) := by rw [← two64]; omega
  unfold agr
  rw [Nat.testBit_and, e, Nat.testBit_two_pow_sub_succ (by rw [← two64]; exact hx), Nat.testBit_xor]
  simp only [hi, decide_true, Bool.true_and]
  cases c.testBit i <;> cases a.testBit i <;> cases b.testBit i <;> rfl
theorem agr_pc {c a b : Nat} (ha : a < 18446744073709551616) (hb : b < 18446744073709551616) : 2 * (pc (agr c a b) 64 : Int) - pc c 64 = tq c a b 64 :=
  tq_pc 64 fun _ hi => agr_bit ha hb hi

/-- A weight: of the sign S, where M counts. -/
def wt (S M i : Nat) : Int := if M.testBit i then (if S.testBit i then 1 else -1) else 0
/-- The sum of f below n. -/
def sm (f : Nat → Int) : Nat → Int
  | 0 => 0
  | n + 1 => sm f n + f n
theorem sm_congr {f g : Nat → Int} : ∀ n, (∀ i, i < n → f i = g i) → sm f n = sm g n
  | 0, _ => rfl
  | n + 1, h => by simp only [sm]; rw [sm_congr n (fun i hi => h i (by omega)), h n (by omega)]
theorem sm_add (f g : Nat → Int) : ∀ n, sm (fun i => f i + g i) n = sm f n + sm g n
  | 0 => rfl
  | n + 1 => by simp only [sm]; rw [sm_add f g n]; omega
theorem sm_mul (c : Int) (f : Nat → Int) : ∀ n, sm (fun i => c * f i) n = c * sm f n
  | 0 => by simp [sm]
  | n + 1 => by simp only [sm]; rw [sm_mul c f n, Int.mul_add]
theorem sm_bd {f : Nat → Int} {K : Int} : ∀ n : Nat, (∀ i, i < n → -K ≤ f i ∧ f i ≤ K) → -(n * K) ≤ sm f n ∧ sm f n ≤ n * K
  | 0, _ => by simp [sm]
  | n + 1, h => by
    have := sm_bd (K := K) n (fun i hi => h i (by omega))
    have := h n (by omega)
    have e : ((n + 1 : Nat) : Int) * K = n * K + K := by rw [Int.natCast_add, Int.add_mul]; simp
    simp only [sm]; rw [e]; omega
/-- Signs, by places. -/
def xs1 (X i : Nat) : Int := if X.testBit i then 1 else -1
theorem tq_signs (S M X : Nat) : ∀ n, tq M S X n = sm (fun i => wt S M i * xs1 X i) n
  | 0 => rfl
  | n + 1 => by
    simp only [tq, sm]; rw [tq_signs S M X n]
    congr 1
    unfold tm wt xs1
    cases M.testBit n <;> cases S.testBit n <;> cases X.testBit n <;> rfl
theorem tq_some (S M S' M' : Nat) : ∀ n, tq (M &&& M') S S' n = sm (fun i => wt S M i * wt S' M' i) n
  | 0 => rfl
  | n + 1 => by
    simp only [tq, sm]; rw [tq_some S M S' M' n]
    congr 1
    unfold tm wt
    rw [Nat.testBit_and]
    cases M.testBit n <;> cases S.testBit n <;> cases M'.testBit n <;> cases S'.testBit n <;> rfl
/-- Over one plane. -/
theorem tq_plane (S M P : Nat) : ∀ n, tq (M &&& P) S P n = sm (fun i => wt S M i * (P.testBit i).toNat) n
  | 0 => rfl
  | n + 1 => by
    simp only [tq, sm]; rw [tq_plane S M P n]
    congr 1
    unfold tm wt
    rw [Nat.testBit_and]
    cases M.testBit n <;> cases S.testBit n <;> cases P.testBit n <;> rfl
/-- What a bit of plane p weighs. -/
def pw (p : Nat) : Int := if p = 7 then -128 else 2 ^ p
/-- The sum over the planes below q. -/
def npl (S M : Nat) (P : Nat → Nat) (n : Nat) : Nat → Int
  | 0 => 0
  | q + 1 => npl S M P n q + pw q * tq (M &&& P q) S (P q) n
/-- The number that the planes below q have at a place. -/
def nat8 (P : Nat → Nat) (i : Nat) : Nat → Int
  | 0 => 0
  | q + 1 => nat8 P i q + pw q * ((P q).testBit i).toNat
theorem npl_is (S M : Nat) (P : Nat → Nat) (n : Nat) : ∀ q, npl S M P n q = sm (fun i => wt S M i * nat8 P i q) n
  | 0 => by
    simp only [npl, nat8]
    rw [sm_congr (g := fun _ => 0) n (fun i _ => by simp)]
    have := sm_mul 0 (fun _ => 0) n
    simp at this; exact this.symm
  | q + 1 => by
    simp only [npl, nat8]
    rw [npl_is S M P n q, tq_plane, ← sm_mul, ← sm_add]
    refine sm_congr n fun i _ => ?_
    rw [Int.mul_add]
    congr 1
    rw [← Int.mul_assoc, Int.mul_comm (pw q), Int.mul_assoc]
end Go.Proofs.Ytlghmojjcfjibaa
/- A ROW OF BITS WHEREVER ITS WORDS BEGIN; bits.Check; tally, fits. -/
namespace Go.Proofs.Ytlghmojjcfjibaa
open Go.RowKit

/-- A row of bits: what it says, where its words lie, the number that they make. -/
structure Bt where
  n : Int
  ao : Option Addr
  m : Nat
  cap : Nat
  N : Nat
abbrev Bt.v (b : Bt) : Value := .agg #[.int .i64 b.n, .slice b.ao b.m b.cap]
/-- Its words lie in this memory. -/
def Rw (w : World) (b : Bt) : Prop := b.N < 2 ^ (64 * b.m) ∧ b.m ≤ 9223372036854775807 ∧ ∀ k, k < b.m → ∃ g o, b.ao = some ⟨g, o, none⟩ ∧ w.cell? ⟨g, o + k, none⟩ = some (wf b.N k)
theorem Rw.below {w w' : World} {b : Bt} (h : Rw w b) (hb : Below w.heap.size w w') : Rw w' b :=
  ⟨h.1, h.2.1, fun k hk => by obtain ⟨g, o, e, c⟩ := h.2.2 k hk; exact ⟨g, o, e, keepc hb c⟩⟩
theorem Rw.row {w : World} {g n N : Nat} (h : w.rowIs g 66 (nw n) (wf N)) (hN : N < 2 ^ n) (h1 : n ≤ 16777216) : Rw w ⟨n, some ⟨g, 0, none⟩, nw n, nw n, N⟩ :=
  ⟨lt_nw hN, by have := nw_bd h1; show nw n ≤ _; omega, fun _ hk => ⟨g, 0, rfl, by rw [Nat.zero_add]; exact h.cell hk⟩⟩
/-- What bits.Check tells of it. -/
abbrev Bt.chk (b : Bt) : Int := Go.Proofs.Ytlghmojjcfjibaa.chk b.n b.m b.N
theorem chk_zero {n : Int} {m N : Nat} (h : chk n m N = 0) : ∃ k : Nat, n = k ∧ k ≤ 16777216 ∧ m = nw k ∧ N < 2 ^ k := by
  unfold chk at h
  by_cases h1 : n < 0
  · rw [if_pos h1] at h; omega
  rw [if_neg h1] at h
  by_cases h2 : 16777216 < n
  · rw [if_pos h2] at h; omega
  rw [if_neg h2] at h
  by_cases h3 : m ≠ nw n.toNat
  · rw [if_pos h3] at h; omega
  rw [if_neg h3] at h
  by_cases h4 : N < 2 ^ n.toNat
  · exact ⟨n.toNat, by omega, by omega, by simpa using h3, h4⟩
  · rw [if_neg h4] at h; omega

/-- Does fits hold? -/
def ftB (n : Int) (m N : Nat) (len : Int) : Bool := decide (chk n m N = 0 ∧ n = len)
end Go.Proofs.Ytlghmojjcfjibaa
/- PACKAGE cube: Turn, At. -/
namespace Go.Proofs.Ytlghmojjcfjibaa
open Go.RowKit Go.Shelf

theorem Wr.rw {w : World} {ao : Option Addr} {m N : Nat} (h : Wr w ao m N) (hm : m ≤ 9223372036854775807) (n : Int) (cap : Nat) : Rw w ⟨n, ao, m, cap, N⟩ := ⟨h.1, hm, h.2⟩
theorem wr_put {w : World} {G m N b : Nat} (h : Wr w (some ⟨G, 0, none⟩) m N) (hb : G ≠ b) (k : Nat) (u : Value) : Wr (w.setCell ⟨b, k, none⟩ u) (some ⟨G, 0, none⟩) m N :=
  ⟨h.1, fun j hj => by
    obtain ⟨g, o, e, c⟩ := h.2 j hj
    cases e
    refine ⟨G, 0, rfl, ?_⟩
    exact (((But.refl b w).set u).cell hb c)⟩
theorem own_put {w : World} {base e G m K b : Nat} {xs : List Value} (h : w.ownsRow base e 1 (.slice (some ⟨G, 0, none⟩) m K) m xs) (hb : G ≠ b) (k : Nat) (u : Value) : (w.setCell ⟨b, k, none⟩ u).ownsRow base e 1 (.slice (some ⟨G, 0, none⟩) m K) m xs :=
  by
  refine ⟨h.1, ?_⟩
  rcases h.2 with q | ⟨g, cap, cur, h1, h2, h3, h4⟩
  · exact .inl q
  · refine .inr ⟨g, cap, cur, h1, h2, ?_, h4⟩
    have e : G = g := by cases h1; rfl
    subst e
    exact (((But.refl b w).set (o := k) u).block G (Array.getElem?_eq_some_iff.1 h3).1 hb).trans h3
theorem own_base {w : World} {base base' e m : Nat} {v : Value} {xs : List Value} (h : w.ownsRow base e 1 v m xs) (hb : base' ≤ base) : w.ownsRow base' e 1 v m xs := by
  refine ⟨h.1, ?_⟩
  rcases h.2 with k | ⟨g, cap, cur, h1, h2, h3⟩
  · exact .inl k
  · exact .inr ⟨g, cap, cur, h1, Nat.le_trans hb h2, h3⟩
/-- What Turn tells of a row. -/
def tuE (n : Int) (m N : Nat) : Int := if chk n m N = 0 then (if n < 1 ∨ 4096 < n then 30 else 0) else chk n m N
end Go.Proofs.Ytlghmojjcfjibaa
/- PACKAGE cube: At. -/
namespace Go.Proofs.Ytlghmojjcfjibaa
open Go.RowKit Go.Shelf

/-- What At tells. -/
def atE (h v c y x : Int) (m N : Nat) : Int := if cuk h v c m N = 0 then Sg.ixE h v c y x 0 else cuk h v c m N
end Go.Proofs.Ytlghmojjcfjibaa
/- THE LAWS' OWN WORDS: the same words, values, rows, cubes. -/
namespace Go.Proofs.Ytlghmojjcfjibaa
open Go.RowKit Go.Shelf

set_option maxHeartbeats 1600000 in
set_option maxRecDepth 100000 in
theorem words_same (m N : Nat) (ao bo : Option Addr) (ca cb : Nat) (w : World) (hm : m ≤ 9223372036854775807) (ra : Wr w ao m N) (rb : Wr w bo m N) :
    Calls Try.prog 42 #[.slice ao m ca, .slice bo m cb] w fun e w' => e = .returned (.bool true) ∧ Below w.heap.size w w' := by
  have HA := hid1 ra
  have HB := hid1 rb
  clear ra rb
  go_enter Try.func42, Try.ntmps42
  go_wp2
  go_loopw [5] (fun i wr => ∃ k : Nat, k ≤ m ∧ i = .int .i64 k ∧ Below w.heap.size w wr) (fun i _ => m - (intOf i).toNat)
  case atStart => exact ⟨0, Nat.zero_le _, rfl, Below.refl _ _⟩
  case round =>
    obtain ⟨k, hk, rfl, hnx⟩ := hrel
    by_cases hlt : k < m
    · obtain ⟨ga, oa, rfl, a1⟩ := (HA.out.below hnx).2 k hlt
      obtain ⟨gb, ob, rfl, b1⟩ := (HB.out.below hnx).2 k hlt
      unfold wf at a1 b1
      have ik : (k : Int) < (m : Nat) := by omega
      have ik0 : (0 : Int) ≤ (k : Int) := by omega
      go_wp2_with fail
      go_quiet (fail)
      go_wp2_with fail
      exact ⟨⟨k + 1, by omega, by go_num, bl_drewN hnx _⟩, by simp [intOf]; omega⟩
    · have hkN : k = m := by omega
      subst hkN
      go_wp2_with fail
      go_ret
      exact ⟨rfl, hnx⟩
set_option maxHeartbeats 1600000 in
set_option maxRecDepth 100000 in
theorem cubes_same (h v c : Int) (m N : Nat) (ao bo : Option Addr) (ca cb : Nat) (w : World) (hm : m ≤ 9223372036854775807) (ra : Wr w ao m N) (rb : Wr w bo m N) :
    Calls Try.prog 14 #[cuv h v c ao m ca, cuv h v c bo m cb] w fun e w' => e = .returned (.bool true) ∧ Below w.heap.size w w' := by
  have HA := hid1 ra
  have HB := hid1 rb
  clear ra rb
  go_enter Try.func14, Try.ntmps14
  go_wp2_with fail
  refine gen_calls (fun W => Below w.heap.size w W) (bl_alloc (bl_alloc (Below.refl _ _) _) _) ?_
  rintro W B0
  refine (words_same m N ao bo ca cb W hm (HA.out.below B0) (HB.out.below B0)).mono ?_
  rintro e w1 ⟨rfl, hb⟩
  go_wp2_with fail
  go_ret
  exact ⟨rfl, bl_step B0 hb⟩
end Go.Proofs.Ytlghmojjcfjibaa
