import Derived.Test.YtkodihmjjiadnaaRows
import Derived.Test.YtkodihmjjiadnaaOB1
import Derived.ProofKit
import Derived.OpenShut
import Derived.ChangeOld
import Derived.SizedLaws
import Derived.ChangeSlices
import Derived.Deep.Slices
import Derived.ChangeSame
import Derived.Test.YtkodihmjjiadnaaNP4
import Derived.Test.YtkodihmjjiadnaaSW3
import Derived.Test.YtkodihmjjiadnaaSW4
import Derived.Test.YtkodihmjjiadnaaNQ6
import Derived.Lib.QuietBelow
import Derived.BigQuiet
import Derived.Test.YtkodihmjjiadnaaNF1
import Derived.Deep.DrawnRows
import Derived.Test.YtkodihmjjiadnaaNQ7
import Derived.Test.YtkodihmjjiadnaaNQ8
import Derived.Deep.DeepCutAuto
import Derived.Test.YtkodihmjjiadnaaNP5
import Derived.Deep.RegionHeld3
import Derived.Test.YtkodihmjjiadnaaNP6
import Derived.Deep.AppendLies
import Derived.OwnWalk
import Derived.Deep.DeepAppendWide
import Derived.Laws.AppendOwnNone
import Derived.Laws.OwnMore
import Derived.Deep.Onto
/- WHAT EVERY ROW OF THE SEATS OF bound WANTS: bytes, numbers, a reach as parameters. -/
namespace Go.Proofs.Ytkodihmjjiadnaa
open Go.ChangeShapes Go.WideShapes Go.ChangeAt Go.RowKit
set_option maxRecDepth 100000

theorem own : ownKnob Try.prog.godebug = none := by kernel_rfl
theorem laidOut : laidOutB Try.prog = true := by kernel_rfl
theorem fldO {H : Type} {enc : TypeId × Value → H} {P : Program} {w : World} {base : Nat} {sp : Nat → Bool} {held : Bool} {t : TypeId} {fs : Array Field} {fuel : Nat} {cs : List Value} {x : DataW H × List MemPlace}
    (ht : P.underlying t = some (.struct fs)) (h : DataW.trod enc P w base sp held fuel t cs = some x) (i : Nat) (f : Field) (hi : fs[i]? = some f) (hu : P.underlying f.type = some (.int .i64)) (hc : P.cellsOf f.type = 1) :
    ∃ z : Int, (cs.drop f.offset).take 1 = [.int .i64 z] := by
  obtain ⟨xs, n, _, _, _, hxl, hf⟩ := DataW.trod_struct ht h
  have g := hf i f hi
  have hlt : i < xs.length := by
    rw [hxl]
    exact (Array.getElem?_eq_some_iff.1 hi).1
  rw [List.getElem?_eq_getElem hlt] at g
  have g' : DataW.trod enc P w base sp held n f.type ((cs.drop f.offset).take (P.cellsOf f.type)) = some _ := g
  rw [hc] at g'
  obtain ⟨z, e, _⟩ := DataW.trod_int hu g'
  exact ⟨z, e⟩
theorem cells_i64O : Try.prog.cellsOf 2 = 1 := by kernel_rfl
theorem cells_rchO : Try.prog.cellsOf 61 = 2 := by kernel_rfl
theorem len2O {l : List Value} (h : l.length = 2) : ∃ a b, l = [a, b] := by
  match l, h with
  | [a, b], _ => exact ⟨a, b, rfl⟩
theorem rch_cellsO {H : Type} {enc : TypeId × Value → H} {w : World} {base : Nat} {sp : Nat → Bool} {held : Bool} {fuel : Nat} {cs : List Value} {x : DataW H × List MemPlace}
    (h : DataW.trod enc Try.prog w base sp held fuel 61 cs = some x) : ∃ a b : Int, cs = [.int .i64 a, .int .i64 b] := by
  have hl : cs.length = 2 := by
    obtain ⟨_, _, _, _, hlen, _, _⟩ := DataW.trod_struct Try.underlying61 h
    exact hlen.trans cells_rchO
  obtain ⟨z0, e0⟩ := fldO Try.underlying61 h 0 _ rfl Try.underlying2 cells_i64O
  obtain ⟨z1, e1⟩ := fldO Try.underlying61 h 1 _ rfl Try.underlying2 cells_i64O
  obtain ⟨a, b, rfl⟩ := len2O hl
  simp at e0 e1
  subst e0 e1
  exact ⟨z0, z1, rfl⟩
theorem open_rch {H : Type} {enc : TypeId × Value → H} {W : World} {base : Nat} {v : Value} {d : DataW H} {p : List MemPlace}
    (hv : Value.okWide Try.prog W .any base 61 v) (h : DataW.Trod enc Try.prog W 0 (fun _ => true) true 61 v d p) : ∃ a b : Int, v = duo a b := by
  obtain ⟨cs, rfl, _⟩ := okWide_struct Try.underlying61 hv
  obtain ⟨fuel, hf⟩ := h
  obtain ⟨a, b, e⟩ := rch_cellsO hf
  refine ⟨a, b, ?_⟩
  simp [Value.cells] at e
  obtain ⟨l⟩ := cs
  simp at e
  subst e
  rfl
theorem add_atO (b o n : Nat) : Addr.add ⟨b, o, none⟩ n = ⟨b, o + n, none⟩ := by
  unfold Addr.add
  by_cases h : n = 0
  · subst h; rfl
  · rw [if_neg h]
theorem max_isO : maxLen = 9223372036854775807 := by decide
theorem u8_of_wfO {x : Int} (h : (Lit.int .u8 x).wf = true) : 0 ≤ x ∧ x < 256 := by
  simp [Lit.wf, IntKind.min, IntKind.max, IntKind.signed, IntKind.bits] at h
  exact ⟨by omega, by omega⟩
theorem cells_u8O : Try.prog.cellsOf 5 = 1 := by kernel_rfl
theorem und_u8sO : Try.prog.underlying 22 = some (.slice 5) := by kernel_rfl
theorem und_i64sO : Try.prog.underlying 43 = some (.slice 2) := by kernel_rfl
/-- A list of numbers of one kind. -/
theorem open_nums {H : Type} {enc : TypeId × Value → H} {W : World} {base : Nat} {t e : TypeId} {K : IntKind} {v : Value} {d : DataW H} {p : List MemPlace} (ht : Try.prog.underlying t = some (.slice e)) (he : Try.prog.underlying e = some (.int K)) (hN : Try.prog.cellsOf e = 1)
    (hv : Value.okWide Try.prog W .any base t v) (h : DataW.Trod enc Try.prog W 0 (fun _ => true) true t v d p) :
    ∃ (ao : Option Addr) (m cap : Nat) (f : Nat → Int), v = .slice ao m cap ∧ m ≤ cap ∧ cap ≤ 9223372036854775807 ∧ ∀ k, k < m → (Lit.int K (f k)).wf = true ∧ ∃ g o, ao = some ⟨g, o, none⟩ ∧ W.cell? ⟨g, o + k, none⟩ = some (.int K (f k)) := by
  obtain ⟨a0, len, cap, rfl⟩ := okWide_slice ht hv
  obtain ⟨fuel, hf⟩ := h
  rcases open_ints ht he hN hf with ⟨hc, hx⟩ | ⟨a, len', cap', zs, hc, _, hl, hm, hzl, hx, hcell, hwf⟩
  · simp [Value.cells] at hc
    obtain ⟨rfl, rfl, rfl⟩ := hc
    exact ⟨none, 0, 0, fun _ => 0, rfl, by omega, by omega, fun k hk => absurd hk (by omega)⟩
  · simp [Value.cells] at hc
    obtain ⟨rfl, rfl, rfl⟩ := hc
    simp only [if_true] at hzl
    have hmx := max_isO
    refine ⟨some a, len, cap, fun k => zs.getD k 0, rfl, by omega, by omega, fun k hk => ?_⟩
    obtain ⟨b, o, s⟩ := a
    have c := hcell k (by omega)
    have c0 := hcell 0 (by omega)
    have hs := World.cell?_spot c0
    simp [Addr.add] at hs
    subst hs
    rw [add_atO] at c
    have hk' : k < zs.length := by omega
    have e1 : zs.getD k 0 = zs[k] := by simp [List.getD, hk']
    refine ⟨?_, b, o, rfl, ?_⟩
    · dsimp only
      rw [e1]
      exact hwf zs[k] (List.getElem_mem hk')
    · exact c
theorem open_u8s {H : Type} {enc : TypeId × Value → H} {W : World} {base : Nat} {v : Value} {d : DataW H} {p : List MemPlace}
    (hv : Value.okWide Try.prog W .any base 22 v) (h : DataW.Trod enc Try.prog W 0 (fun _ => true) true 22 v d p) :
    ∃ (ao : Option Addr) (m cap : Nat) (f : Nat → Int), v = .slice ao m cap ∧ m ≤ cap ∧ cap ≤ 9223372036854775807 ∧ ∀ k, k < m → (0 ≤ f k ∧ f k < 256) ∧ ∃ g o, ao = some ⟨g, o, none⟩ ∧ W.cell? ⟨g, o + k, none⟩ = some (.int .u8 (f k)) := by
  obtain ⟨ao, m, cap, f, e, h1, h2, h3⟩ := open_nums und_u8sO Try.underlying5 cells_u8O hv h
  exact ⟨ao, m, cap, f, e, h1, h2, fun k hk => ⟨u8_of_wfO (h3 k hk).1, (h3 k hk).2⟩⟩
theorem open_i64x {H : Type} {enc : TypeId × Value → H} {W : World} {base : Nat} {v : Value} {d : DataW H} {p : List MemPlace}
    (hv : Value.okWide Try.prog W .any base 43 v) (h : DataW.Trod enc Try.prog W 0 (fun _ => true) true 43 v d p) :
    ∃ (ao : Option Addr) (m cap : Nat) (f : Nat → Int), v = .slice ao m cap ∧ m ≤ cap ∧ cap ≤ 9223372036854775807 ∧ ∀ k, k < m → ∃ g o, ao = some ⟨g, o, none⟩ ∧ W.cell? ⟨g, o + k, none⟩ = some (.int .i64 (f k)) := by
  obtain ⟨ao, m, cap, f, e, h1, h2, h3⟩ := open_nums und_i64sO Try.underlying2 cells_i64O hv h
  exact ⟨ao, m, cap, f, e, h1, h2, fun k hk => (h3 k hk).2⟩
end Go.Proofs.Ytkodihmjjiadnaa
/- Numbers of 64 bits as parameters. -/
namespace Go.Proofs.Ytkodihmjjiadnaa
open Go.ChangeShapes Go.WideShapes Go.ChangeAt Go.RowKit

theorem i64_of_wfO {x : Int} (h : (Lit.int .i64 x).wf = true) : -9223372036854775808 ≤ x ∧ x ≤ 9223372036854775807 := by
  simp [Lit.wf, IntKind.min, IntKind.max, IntKind.signed, IntKind.bits] at h
  exact ⟨by omega, by omega⟩
end Go.Proofs.Ytkodihmjjiadnaa
/- THE DOCUMENT'S NETWORKS: WHERE A LAYER STANDS. -/
namespace Go.Proofs.Ytkodihmjjiadnaa.Nn
open Go.RowKit

abbrev inv (at' : Int) (S : Sp) : Value := .agg #[.int .i64 at', .bool S.la, .int .i64 S.h, .int .i64 S.v, .int .i64 S.c, .int .i64 S.ah]
def Iv (W : World) (g : Nat) (at' : Int) (S : Sp) : Prop := W.cell? ⟨g, 0, none⟩ = some (.int .i64 at') ∧ W.cell? ⟨g, 1, none⟩ = some (.bool S.la) ∧ W.cell? ⟨g, 2, none⟩ = some (.int .i64 S.h) ∧ W.cell? ⟨g, 3, none⟩ = some (.int .i64 S.v) ∧ W.cell? ⟨g, 4, none⟩ = some (.int .i64 S.c) ∧ W.cell? ⟨g, 5, none⟩ = some (.int .i64 S.ah)
theorem Iv.keep {W w' : World} {g : Nat} {at' : Int} {S : Sp} (k : Iv W g at' S) (hb : Below W.heap.size W w') : Iv w' g at' S := by
  obtain ⟨c0, c1, c2, c3, c4, c5⟩ := k
  exact ⟨keepc hb c0, keepc hb c1, keepc hb c2, keepc hb c3, keepc hb c4, keepc hb c5⟩
theorem iv_new {W : World} {g : Nat} (hg : W.heap.size = g) (at' : Int) (S : Sp) (t : TypeId) : Iv (W.alloc (.cells #[.int .i64 at', .bool S.la, .int .i64 S.h, .int .i64 S.v, .int .i64 S.c, .int .i64 S.ah] t)) g at' S := by
  subst hg
  refine ⟨?_, ?_, ?_, ?_, ?_, ?_⟩ <;> simp [go_sem]
end Go.Proofs.Ytkodihmjjiadnaa.Nn
/- THE DOCUMENT'S NETWORKS: NAMES, KINDS, FAN-IN. -/
namespace Go.Proofs.Ytkodihmjjiadnaa.Nn
open Go.RowKit

def rkE (L : Ly) (S : Sp) : Int := if L.kd = 1 then (if S.la = true then 51 else ouE L) else if L.kd = 2 then (if ouE L = 0 then nwE L else 30) else if L.kd = 3 then (if S.fs = true then 51 else if S.la = true then 51 else owE L) else 51
theorem ouE_ok {L : Ly} (h1 : 1 ≤ L.k) (h2 : L.k ≤ 4096) : ouE L = 0 := if_pos ⟨h1, h2⟩
theorem ouE_no {L : Ly} (h : ¬ (1 ≤ L.k ∧ L.k ≤ 4096)) : ouE L = 30 := if_neg h
end Go.Proofs.Ytkodihmjjiadnaa.Nn
/- SHAPES: THE DOCUMENT'S OWN CHECK, ELEMS, WORDS, INDEX, WALKED. -/
namespace Go.Proofs.Ytkodihmjjiadnaa.Nn
open Go.RowKit

end Go.Proofs.Ytkodihmjjiadnaa.Nn
/- SHAPES: THE DOCUMENT'S OWN INDEX, PLACE, WINDOW, STEPS, WALKED. -/
namespace Go.Proofs.Ytkodihmjjiadnaa.Nn
open Go.RowKit

theorem div_is {a b q r : Int} (h : a = q * b + r) (h1 : 0 ≤ r) (h2 : r < b) : a / b = q ∧ a % b = r :=
  (Int.ediv_emod_unique (by omega)).2 ⟨by rw [h, Int.mul_comm q b]; omega, h1, h2⟩
theorem place_math {i j I m J v c : Int} (h1 : i = j * (v * c) + I) (h2 : I < v * c) (h3 : I = m * c + J) (h4 : 0 ≤ J) (h5 : J < c) (hm : 0 ≤ m) : i / c / v = j ∧ i / c % v = m ∧ i % c = J := by
  have a1 : i = (j * v + m) * c + J := by rw [h1, h3, Int.add_mul, Int.mul_assoc]; omega
  obtain ⟨q, r⟩ := div_is a1 h4 h5
  have hv : m < v := by
    apply Int.lt_of_mul_lt_mul_right (a := c) _ (by omega)
    omega
  obtain ⟨q2, r2⟩ := div_is (a := j * v + m) (b := v) (q := j) (r := m) rfl hm hv
  rw [q, r]
  exact ⟨q2, r2, rfl⟩
end Go.Proofs.Ytkodihmjjiadnaa.Nn
/- SHAPES: THE DOCUMENT'S OWN WINDOW, STEPS, WALKED. -/
namespace Go.Proofs.Ytkodihmjjiadnaa.Nn
open Go.RowKit

theorem stN_done {n bf af wi st j all : Int} (ha : all = n + bf + af) (h1 : 1 ≤ st) (h2 : j * st + wi > all) (h3 : j = 0 ∨ (1 ≤ j ∧ (j - 1) * st + wi ≤ all)) : stN n bf af wi st = j := by
  have e : bf + n + af = all := by omega
  unfold stN
  rw [e]
  rcases h3 with rfl | ⟨h4, h5⟩
  · rw [if_pos (by omega)]
  · have e2 : (j - 1) * st = j * st - st := by rw [Int.sub_mul, Int.one_mul]
    have k : 0 ≤ (j - 1) * st := Int.mul_nonneg (by omega) (by omega)
    rw [if_neg (by omega), (div_is (a := all - wi) (b := st) (q := j - 1) (r := all - wi - (j - 1) * st) (by omega) (by omega) (by omega)).1]
    omega
end Go.Proofs.Ytkodihmjjiadnaa.Nn
/- SHAPES: THE DOCUMENT'S OWN SLIDE, WALKED. -/
namespace Go.Proofs.Ytkodihmjjiadnaa.Nn
open Go.RowKit

theorem wi_id {x : Int} (h1 : -9223372036854775808 ≤ x) (h2 : x ≤ 9223372036854775807) : IntKind.i64.wrap x = x := by
  have := wr_id h1 h2
  first | exact this | (rw [IntKind.wrap_i64]; exact this) | (simp [IntKind.wrap, IntKind.signed, IntKind.bits]; omega)
end Go.Proofs.Ytkodihmjjiadnaa.Nn
/- THE DOCUMENT'S NETWORKS: WHAT COMES OUT OF A LAYER. -/
namespace Go.Proofs.Ytkodihmjjiadnaa.Nn
open Go.RowKit

def rbE (L : Ly) : Int := if ((L.kd = 3 ∧ ¬ Wz L) ∨ L.bd < -1 ∨ 1 < L.bd) ∨ (Wz L ∧ L.bd ≠ 0) then 56 else 0
def roE (L : Ly) (h v c : Int) : Int := if L.kd = 2 then 0 else if wiE L.r L.s L.sy L.sx L.t L.l L.b L.q ≠ 0 then wiE L.r L.s L.sy L.sx L.t L.l L.b L.q else if rbE L ≠ 0 then 56 else oE L h v c
def roV (L : Ly) (h v c : Int) : Value := if L.kd = 2 then sle 1 1 L.k 0 else if wiE L.r L.s L.sy L.sx L.t L.l L.b L.q ≠ 0 then sle 0 0 0 (wiE L.r L.s L.sy L.sx L.t L.l L.b L.q) else if rbE L ≠ 0 then sle 0 0 0 56 else sle (oH L h v c) (oV L h v c) (oC L h v c) (oE L h v c)
end Go.Proofs.Ytkodihmjjiadnaa.Nn
/- THE DOCUMENT'S NETWORKS: BORDERS, WHAT COMES OUT. -/
namespace Go.Proofs.Ytkodihmjjiadnaa.Nn
open Go.RowKit

theorem wz_yes {L : Ly} (h0 : (L.t == 0) = true) (h1 : (L.l == 0) = true) (h2 : (L.b == 0) = true) (h3 : (L.q == 0) = true) : Wz L := ⟨by simpa using h0, by simpa using h1, by simpa using h2, by simpa using h3⟩
theorem rb_bad {L : Ly} (h : ((L.kd = 3 ∧ ¬ Wz L) ∨ L.bd < -1 ∨ 1 < L.bd) ∨ (Wz L ∧ L.bd ≠ 0)) : rbE L = 56 := if_pos h
theorem rb_good {L : Ly} (h : ¬ (((L.kd = 3 ∧ ¬ Wz L) ∨ L.bd < -1 ∨ 1 < L.bd) ∨ (Wz L ∧ L.bd ≠ 0))) : rbE L = 0 := if_neg h
def roR (L : Ly) (S : Sp) : Value := if rbE L ≠ 0 then sle 0 0 0 56 else sle (oH L S.h S.v S.c) (oV L S.h S.v S.c) (oC L S.h S.v S.c) (oE L S.h S.v S.c)
theorem ror_bad {L : Ly} {S : Sp} (h : rbE L = 56) : roR L S = sle 0 0 0 56 := if_pos (by rw [h]; decide)
theorem ror_good {L : Ly} {S : Sp} (h : rbE L = 0) : roR L S = sle (oH L S.h S.v S.c) (oV L S.h S.v S.c) (oC L S.h S.v S.c) (oE L S.h S.v S.c) := if_neg (by rw [h]; decide)

end Go.Proofs.Ytkodihmjjiadnaa.Nn
/- THE DOCUMENT'S NETWORKS: WEIGHTS. -/
namespace Go.Proofs.Ytkodihmjjiadnaa.Nn
open Go.RowKit

def rwE (L : Ly) (S : Sp) : Int := if wkE L = 0 then (if wrE L S = 0 then wsE L S else 31) else 52
theorem rwE_kind {L : Ly} {S : Sp} (h : ¬ (L.wt = 1 ∨ L.wt = 2)) : rwE L S = 52 := by unfold rwE wkE; rw [if_neg h, if_neg (by decide)]
theorem rwE_room {L : Ly} {S : Sp} (h : L.wt = 1 ∨ L.wt = 2) (h2 : ¬ S.ah + wc L S.h S.v S.c ≤ 16777216) : rwE L S = 31 := by unfold rwE wkE wrE; rw [if_pos h, if_pos rfl, if_neg h2, if_neg (by decide)]
theorem rwE_rest {L : Ly} {S : Sp} (h : L.wt = 1 ∨ L.wt = 2) (h2 : S.ah + wc L S.h S.v S.c ≤ 16777216) : rwE L S = wsE L S := by unfold rwE wkE wrE; rw [if_pos h, if_pos rfl, if_pos h2, if_pos rfl]
end Go.Proofs.Ytkodihmjjiadnaa.Nn
/- THE DOCUMENT'S NORM. -/
namespace Go.Proofs.Ytkodihmjjiadnaa.Nn
open Go.RowKit
attribute [local go_sem ↓] Go.wp_at_zero Go.wp_at_succ

end Go.Proofs.Ytkodihmjjiadnaa.Nn
/- THE DOCUMENT'S NETWORKS: NORMS, BIASES, HOW FAR SUMS REACH. -/
namespace Go.Proofs.Ytkodihmjjiadnaa.Nn
open Go.RowKit

def rnE (L : Ly) (S : Sp) : Int := if S.la = true then (if (L.mb : Int) = L.k ∧ L.mn = 0 then reE L S else 54) else (if nmE L = 0 then reE L S else 53)

end Go.Proofs.Ytkodihmjjiadnaa.Nn
/- THE DOCUMENT'S NETWORKS: ONE LAYER. -/
namespace Go.Proofs.Ytkodihmjjiadnaa.Nn
open Go.RowKit

/-- What the document tells of a layer. -/
def rlE (L : Ly) (S : Sp) : Int := if rkE L S = 0 then (if roE L S.h S.v S.c = 0 then (if L.kd = 3 then 0 else if rwE L S = 0 then rnE L S else rwE L S) else roE L S.h S.v S.c) else rkE L S
theorem rb_conv {L : Ly} (hk : L.kd = 1) : rbE L = boE L := by
  unfold rbE boE
  by_cases hz : Wz L
  · by_cases hb : L.bd = 0
    · rw [if_neg (fun h => by rcases h with (⟨h, _⟩ | h | h) | ⟨_, h⟩ <;> omega), if_pos (.inr hb)]
    · rw [if_pos (.inr ⟨hz, hb⟩), if_neg (fun h => by rcases h with ⟨h, _⟩ | h; exact h hz; exact hb h)]
  · by_cases hb : L.bd < -1 ∨ 1 < L.bd
    · rw [if_pos (.inl (.inr hb)), if_neg (fun h => by rcases h with ⟨_, h⟩ | h <;> omega)]
    · rw [if_neg (fun h => by rcases h with (⟨h, _⟩ | h | h) | ⟨h, _⟩; omega; omega; omega; exact hz h)]
      by_cases h0 : L.bd = 0
      · rw [if_pos (.inr h0)]
      · rw [if_pos (.inl ⟨hz, by omega⟩)]
theorem rb_pool {L : Ly} (hk : L.kd = 3) (h0 : L.bd = 0) : rbE L = (if Wz L then 0 else 56) := by
  unfold rbE
  by_cases hz : Wz L
  · rw [if_pos hz, if_neg (fun h => by rcases h with (⟨_, h⟩ | h | h) | ⟨_, h⟩; exact h hz; omega; omega; exact h h0)]
  · rw [if_neg hz, if_pos (.inl (.inl ⟨hk, hz⟩))]
/-- Of ten answers the first that is not 0, part by part. -/
theorem frF_cons (n : Nat) (q : Nat → Int) : frF (n + 1) q = if q 0 = 0 then frF n (fun i => q (i + 1)) else q 0 := rfl
theorem frF_nil (q : Nat → Int) : frF 0 q = 0 := rfl
theorem ite0 {x y : Int} (h : x = 0) : (if x = 0 then y else x) = y := if_pos h
theorem ite1 {x y : Int} (h : ¬ x = 0) : (if x = 0 then y else x) = x := if_neg h
theorem two_of {c : Prop} [Decidable c] (x : Int) : (if c then 0 else x) = 0 ∨ (if c then 0 else x) = x := by by_cases h : c; exact .inl (if_pos h); exact .inr (if_neg h)
theorem chain_c (a b c d e f g h i : Int) (hc : c = 0 ∨ c = 56) (he : e = 0 ∨ e = 52) (hf : f = 0 ∨ f = 31) (hh : h = 0 ∨ h = 53) :
    (if a = 0 then (if (if b ≠ 0 then b else if c ≠ 0 then 56 else d) = 0 then (if (if e = 0 then (if f = 0 then g else 31) else 52) = 0 then (if h = 0 then i else 53) else (if e = 0 then (if f = 0 then g else 31) else 52)) else (if b ≠ 0 then b else if c ≠ 0 then 56 else d)) else a) =
    (if a = 0 then (if b = 0 then (if c = 0 then (if d = 0 then (if e = 0 then (if f = 0 then (if g = 0 then (if h = 0 then (if i = 0 then 0 else i) else h) else g) else f) else e) else d) else c) else b) else a) := by
  by_cases ha : a = 0
  · by_cases hb : b = 0
    · rcases hc with rfl | rfl
      · by_cases hd : d = 0
        · rcases he with rfl | rfl
          · rcases hf with rfl | rfl
            · by_cases hg : g = 0
              · rcases hh with rfl | rfl
                · by_cases hi : i = 0 <;> simp [ha, hb, hd, hg, hi]
                · simp [ha, hb, hd, hg]
              · simp [ha, hb, hd, hg]
            · simp [ha, hb, hd]
          · simp [ha, hb, hd]
        · simp [ha, hb, hd]
      · simp [ha, hb]
    · simp [ha, hb]
  · simp [ha]
theorem chain_d (a b e f g h i : Int) (ha : a = 0 ∨ a = 30) (he : e = 0 ∨ e = 52) (hf : f = 0 ∨ f = 31) :
    (if (if a = 0 then b else 30) = 0 then (if (if e = 0 then (if f = 0 then g else 31) else 52) = 0 then h else (if e = 0 then (if f = 0 then g else 31) else 52)) else (if a = 0 then b else 30)) =
    (if a = 0 then (if b = 0 then (if e = 0 then (if f = 0 then (if g = 0 then (if i = 0 then (if h = 0 then 0 else h) else h) else g) else f) else e) else b) else a) := by
  rcases ha with rfl | rfl
  · by_cases hb : b = 0
    · rcases he with rfl | rfl
      · rcases hf with rfl | rfl
        · by_cases hg : g = 0
          · by_cases hi : i = 0 <;> by_cases hh : h = 0 <;> simp [hb, hg, hi, hh]
          · simp [hb, hg]
        · simp [hb]
      · simp [hb]
    · simp [hb]
  · simp
theorem rl_conv {L : Ly} {S : Sp} (hk : L.kd = 1) : rlE L S = faE L S := by
  have hf : faE L S = frF 10 (qC L S) := by unfold faE; rw [if_pos hk]
  have e : frF 10 (qC L S) = (if (if S.la = true then (51 : Int) else 0) = 0 then (if ouE L = 0 then (if wiE L.r L.s L.sy L.sx L.t L.l L.b L.q = 0 then (if boE L = 0 then (if oE L S.h S.v S.c = 0 then (if wkE L = 0 then (if wrE L S = 0 then (if wsE L S = 0 then (if nmE L = 0 then (if reE L S = 0 then 0 else reE L S) else nmE L) else wsE L S) else wrE L S) else wkE L) else oE L S.h S.v S.c) else boE L) else wiE L.r L.s L.sy L.sx L.t L.l L.b L.q) else ouE L) else (if S.la = true then 51 else 0)) := rfl
  have hc : boE L = 0 ∨ boE L = 56 := by unfold boE; exact two_of 56
  have he : wkE L = 0 ∨ wkE L = 52 := by unfold wkE; exact two_of 52
  have hr : wrE L S = 0 ∨ wrE L S = 31 := by unfold wrE; exact two_of 31
  have hh : nmE L = 0 ∨ nmE L = 53 := by unfold nmE; exact two_of 53
  have key := chain_c (ouE L) (wiE L.r L.s L.sy L.sx L.t L.l L.b L.q) (boE L) (oE L S.h S.v S.c) (wkE L) (wrE L S) (wsE L S) (nmE L) (reE L S) hc he hr hh
  rw [hf, e]
  unfold rlE rkE roE rwE rnE
  rw [if_pos hk, rb_conv hk, if_neg (show ¬ L.kd = 2 by omega), if_neg (show ¬ L.kd = 3 by omega)]
  by_cases hl : S.la = true
  · simp [hl]
  · rw [if_neg hl, if_neg hl, if_neg hl, if_pos (rfl : (0 : Int) = 0)]
    exact key
theorem rl_dense {L : Ly} {S : Sp} (hk : L.kd = 2) : rlE L S = faE L S := by
  have hf : faE L S = frF 7 (qD L S) := by unfold faE; rw [if_neg (by omega), if_pos hk]
  have e : frF 7 (qD L S) = (if ouE L = 0 then (if nwE L = 0 then (if wkE L = 0 then (if wrE L S = 0 then (if wsE L S = 0 then (if enE L S = 0 then (if reE L S = 0 then 0 else reE L S) else enE L S) else wsE L S) else wrE L S) else wkE L) else nwE L) else ouE L) := rfl
  have ha : ouE L = 0 ∨ ouE L = 30 := by unfold ouE; exact two_of 30
  have he : wkE L = 0 ∨ wkE L = 52 := by unfold wkE; exact two_of 52
  have hr : wrE L S = 0 ∨ wrE L S = 31 := by unfold wrE; exact two_of 31
  have hn : nmE L = 0 ∨ nmE L = 53 := by unfold nmE; exact two_of 53
  rw [hf, e]
  unfold rlE rkE roE
  rw [if_neg (show ¬ L.kd = 1 by omega), if_pos hk, if_pos hk, if_pos rfl, if_neg (show ¬ L.kd = 3 by omega)]
  have hen : (if enE L S = 0 then (if reE L S = 0 then 0 else reE L S) else enE L S) = rnE L S := by
    unfold enE rnE
    by_cases hl : S.la = true
    · rw [if_pos hl, if_pos hl]
      by_cases h2 : (L.mb : Int) = L.k ∧ L.mn = 0
      · rw [if_pos h2, if_pos rfl]
        rw [if_pos h2]
        by_cases h3 : reE L S = 0
        · rw [if_pos h3, h3]
        · rw [if_neg h3]
      · rw [if_neg h2, if_neg (by decide), if_neg h2]
    · rw [if_neg hl, if_neg hl]
      rcases hn with h2 | h2
      · rw [if_pos h2, if_pos h2]
        by_cases h3 : reE L S = 0
        · rw [if_pos h3, h3]
        · rw [if_neg h3]
      · rw [h2, if_neg (by decide), if_neg (by decide)]
  rw [hen]
  unfold rwE
  generalize ouE L = a at *
  generalize nwE L = b at *
  generalize wkE L = c at *
  generalize wrE L S = d at *
  generalize wsE L S = g at *
  generalize rnE L S = h at *
  rcases ha with rfl | rfl
  · by_cases hb : b = 0
    · rcases he with rfl | rfl
      · rcases hr with rfl | rfl
        · by_cases hg : g = 0 <;> simp [hb, hg]
        · simp [hb]
      · simp [hb]
    · simp [hb]
  · simp
theorem rl_pool {L : Ly} {S : Sp} (hk : L.kd = 3) : rlE L S = faE L S := by
  have hf : faE L S = frF 6 (qP L S) := by unfold faE; rw [if_neg (by omega), if_neg (by omega), if_pos hk]
  have e : frF 6 (qP L S) = (if (if S.fs = true then (51 : Int) else 0) = 0 then (if (if S.la = true then (51 : Int) else 0) = 0 then (if owE L = 0 then (if wiE L.r L.s L.sy L.sx L.t L.l L.b L.q = 0 then (if (if Wz L then (0 : Int) else 56) = 0 then (if oE L S.h S.v S.c = 0 then 0 else oE L S.h S.v S.c) else (if Wz L then 0 else 56)) else wiE L.r L.s L.sy L.sx L.t L.l L.b L.q) else owE L) else (if S.la = true then 51 else 0)) else (if S.fs = true then 51 else 0)) := rfl
  rw [hf, e]
  unfold rlE rkE roE
  rw [if_neg (show ¬ L.kd = 1 by omega), if_neg (show ¬ L.kd = 2 by omega), if_pos hk, if_neg (show ¬ L.kd = 2 by omega), if_pos hk]
  by_cases h1 : S.fs = true
  · simp [h1]
  · by_cases h2 : S.la = true
    · simp [h1, h2]
    · rw [if_neg h1, if_neg h2, if_neg h1, if_neg h2, if_pos (rfl : (0 : Int) = 0), if_pos (rfl : (0 : Int) = 0)]
      by_cases h3 : owE L = 0
      · have hb : L.bd = 0 := by
          unfold owE at h3
          exact (zero_else (by decide) h3).1.2.2
        rw [rb_pool hk hb, h3]
        generalize wiE L.r L.s L.sy L.sx L.t L.l L.b L.q = x
        generalize oE L S.h S.v S.c = y
        by_cases hx : x = 0
        · by_cases hz : Wz L
          · by_cases hy : y = 0 <;> simp [hx, hz, hy]
          · simp [hx, hz]
        · simp [hx]
      · generalize owE L = x at *
        simp [h3]
theorem rl_any (L : Ly) (S : Sp) : rlE L S = faE L S := by
  by_cases h1 : L.kd = 1
  · exact rl_conv h1
  · by_cases h2 : L.kd = 2
    · exact rl_dense h2
    · by_cases h3 : L.kd = 3
      · exact rl_pool h3
      · unfold rlE rkE faE
        simp [h1, h2, h3]
end Go.Proofs.Ytkodihmjjiadnaa.Nn
/- THE DOCUMENT'S NETWORKS: ONE LAYER, WALKED. -/
namespace Go.Proofs.Ytkodihmjjiadnaa.Nn
open Go.RowKit

theorem roV_form (L : Ly) (h v c : Int) : ∃ x y z, roV L h v c = sle x y z (roE L h v c) ∧ (roE L h v c = 0 → x = oH L h v c ∧ y = oV L h v c ∧ z = oC L h v c) := by
  unfold roV roE
  by_cases hk : L.kd = 2
  · rw [if_pos hk, if_pos hk]
    exact ⟨1, 1, L.k, rfl, fun _ => ⟨(if_pos hk).symm, (if_pos hk).symm, (if_pos hk).symm⟩⟩
  · rw [if_neg hk, if_neg hk]
    by_cases hx : wiE L.r L.s L.sy L.sx L.t L.l L.b L.q ≠ 0
    · rw [if_pos hx, if_pos hx]
      exact ⟨0, 0, 0, rfl, fun h => absurd h hx⟩
    · rw [if_neg hx, if_neg hx]
      by_cases hb : rbE L ≠ 0
      · rw [if_pos hb, if_pos hb]
        exact ⟨0, 0, 0, rfl, fun h => by cases h⟩
      · rw [if_neg hb, if_neg hb]
        exact ⟨_, _, _, rfl, fun _ => ⟨rfl, rfl, rfl⟩⟩
theorem rk_ok {L : Ly} {S : Sp} (h : rkE L S = 0) (h3 : ¬ L.kd = 3) : (L.kd = 1 ∨ L.kd = 2) ∧ 0 ≤ L.k ∧ L.k ≤ 4096 := by
  unfold rkE at h
  by_cases h1 : L.kd = 1
  · rw [if_pos h1] at h
    by_cases hl : S.la = true
    · rw [if_pos hl] at h; cases h
    · rw [if_neg hl] at h; exact ⟨.inl h1, kok_out h⟩
  · rw [if_neg h1] at h
    by_cases h2 : L.kd = 2
    · rw [if_pos h2] at h
      by_cases ho : ouE L = 0
      · exact ⟨.inr h2, kok_out ho⟩
      · rw [if_neg ho] at h; cases h
    · rw [if_neg h2, if_neg h3] at h; cases h
theorem ro_fok {L : Ly} {h v c : Int} (hr : roE L h v c = 0) : Fok L := by
  unfold roE at hr
  by_cases h2 : L.kd = 2
  · exact .inl h2
  · rw [if_neg h2] at hr
    by_cases hx : wiE L.r L.s L.sy L.sx L.t L.l L.b L.q ≠ 0
    · rw [if_pos hx] at hr; exact absurd hr hx
    · exact fok_win (by simpa using hx)
end Go.Proofs.Ytkodihmjjiadnaa.Nn
/- THE DOCUMENT'S NETWORKS: THE STEP FROM LAYER TO LAYER. -/
namespace Go.Proofs.Ytkodihmjjiadnaa.Nn
open Go.RowKit

theorem kpL {U X : World} {bn gl o bi k ml cl : Nat} {L : Ly} {at' : Int} {S : Sp} (n4 : U.cell? ⟨bn, 4, none⟩ = some (.slice (some ⟨gl, o, none⟩) ml cl)) (hL : Lc U gl (o + k * 15) L) (hI : Iv U bi at' S) (hb : Below U.heap.size U X) : X.cell? ⟨bn, 4, none⟩ = some (.slice (some ⟨gl, o, none⟩) ml cl) ∧ X.cell? ⟨gl, o + k * 15, none⟩ = some (.int .i64 L.kd) ∧ X.cell? ⟨gl, o + k * 15 + 1, none⟩ = some (.int .i64 L.wt) ∧ X.cell? ⟨gl, o + k * 15 + 2, none⟩ = some (.int .i64 L.k) ∧ X.cell? ⟨gl, o + k * 15 + 3, none⟩ = some (.int .i64 L.r) ∧ X.cell? ⟨gl, o + k * 15 + 4, none⟩ = some (.int .i64 L.s) ∧ X.cell? ⟨gl, o + k * 15 + 5, none⟩ = some (.int .i64 L.sy) ∧ X.cell? ⟨gl, o + k * 15 + 6, none⟩ = some (.int .i64 L.sx) ∧ X.cell? ⟨gl, o + k * 15 + 7, none⟩ = some (.int .i64 L.t) ∧ X.cell? ⟨gl, o + k * 15 + 8, none⟩ = some (.int .i64 L.l) ∧ X.cell? ⟨gl, o + k * 15 + 9, none⟩ = some (.int .i64 L.b) ∧ X.cell? ⟨gl, o + k * 15 + 10, none⟩ = some (.int .i64 L.q) ∧ X.cell? ⟨gl, o + k * 15 + 11, none⟩ = some (.int .i64 L.bd) ∧ X.cell? ⟨gl, o + k * 15 + 12, none⟩ = some (.slice L.aw L.mw L.cw) ∧ X.cell? ⟨gl, o + k * 15 + 13, none⟩ = some (.slice L.an L.mn L.cn) ∧ X.cell? ⟨gl, o + k * 15 + 14, none⟩ = some (.slice L.ab L.mb L.cb) ∧ X.cell? ⟨bi, 0, none⟩ = some (.int .i64 at') ∧ X.cell? ⟨bi, 1, none⟩ = some (.bool S.la) ∧ X.cell? ⟨bi, 2, none⟩ = some (.int .i64 S.h) ∧ X.cell? ⟨bi, 3, none⟩ = some (.int .i64 S.v) ∧ X.cell? ⟨bi, 4, none⟩ = some (.int .i64 S.c) ∧ X.cell? ⟨bi, 5, none⟩ = some (.int .i64 S.ah) := by
  obtain ⟨c0, c1, c2, c3, c4, c5, c6, c7, c8, c9, c10, c11, c12, c13, c14⟩ := hL
  obtain ⟨i0, i1, i2, i3, i4, i5⟩ := hI
  exact ⟨keepc hb n4, keepc hb c0, keepc hb c1, keepc hb c2, keepc hb c3, keepc hb c4, keepc hb c5, keepc hb c6, keepc hb c7, keepc hb c8, keepc hb c9, keepc hb c10, keepc hb c11, keepc hb c12, keepc hb c13, keepc hb c14, keepc hb i0, keepc hb i1, keepc hb i2, keepc hb i3, keepc hb i4, keepc hb i5⟩
attribute [local go_sem ↓] Go.wp_at_zero Go.wp_at_succ
end Go.Proofs.Ytkodihmjjiadnaa.Nn
/- THE DOCUMENT'S NETWORKS: WALK. -/
namespace Go.Proofs.Ytkodihmjjiadnaa.Nn
open Go.RowKit

def ivf (at' : Int) (S : Sp) : Nat → Value
  | 0 => .int .i64 at'
  | 1 => .bool S.la
  | 2 => .int .i64 S.h
  | 3 => .int .i64 S.v
  | 4 => .int .i64 S.c
  | _ => .int .i64 S.ah
theorem ivf_new {W : World} {g : Nat} (hg : W.heap.size = g) (at' : Int) (S : Sp) (t : TypeId) : (W.alloc (.cells #[.int .i64 at', .bool S.la, .int .i64 S.h, .int .i64 S.v, .int .i64 S.c, .int .i64 S.ah] t)).rowIs g t 6 (ivf at' S) := by
  subst hg
  refine World.rowIs_alloc W _ t (ivf at' S) fun i hi => ?_
  have h6 : i < 6 := hi
  rcases (show i = 0 ∨ i = 1 ∨ i = 2 ∨ i = 3 ∨ i = 4 ∨ i = 5 by omega) with rfl | rfl | rfl | rfl | rfl | rfl <;> rfl
theorem ivf_iv {W : World} {g : Nat} {t : TypeId} {at' : Int} {S : Sp} (h : W.rowIs g t 6 (ivf at' S)) : Iv W g at' S := ⟨h.cell (i := 0) (by decide), h.cell (i := 1) (by decide), h.cell (i := 2) (by decide), h.cell (i := 3) (by decide), h.cell (i := 4) (by decide), h.cell (i := 5) (by decide)⟩
theorem ivf_head {W : World} {g : Nat} {t : TypeId} {a a' : Int} {S : Sp} {x : Bool} (h : W.rowIs g t 6 (ivf a ⟨S.h, S.v, S.c, S.ah, S.fs, x⟩)) : ((W.setCell ⟨g, 0, none⟩ (.int .i64 a')).setCell ⟨g, 1, none⟩ (.bool S.la)).rowIs g t 6 (ivf a' S) := by
  refine ((h.set 0 _).set 1 _).congr fun i hi => ?_
  rcases (show i = 0 ∨ i = 1 ∨ i = 2 ∨ i = 3 ∨ i = 4 ∨ i = 5 by omega) with rfl | rfl | rfl | rfl | rfl | rfl <;> rfl
/-- The shapes so far, as the list holds them. -/
def shL (N : Nt) : Nat → List Value
  | 0 => []
  | k + 1 => shL N k ++ [.int .i64 (sp N (k + 1)).h, .int .i64 (sp N (k + 1)).v, .int .i64 (sp N (k + 1)).c]
theorem shL_len (N : Nt) (k : Nat) : (shL N k).length = k * 3 := by
  induction k with
  | zero => rfl
  | succ k ih => unfold shL; rw [List.length_append, ih]; simp; omega
theorem shL_at (N : Nt) (m k : Nat) (hk : k < m) : (shL N m)[k * 3]? = some (.int .i64 (sp N (k + 1)).h) ∧ (shL N m)[k * 3 + 1]? = some (.int .i64 (sp N (k + 1)).v) ∧ (shL N m)[k * 3 + 2]? = some (.int .i64 (sp N (k + 1)).c) := by
  induction m with
  | zero => omega
  | succ m ih =>
    unfold shL
    have hl := shL_len N m
    by_cases h : k < m
    · have := ih h
      rw [List.getElem?_append_left (by omega), List.getElem?_append_left (by omega), List.getElem?_append_left (by omega)]
      exact this
    · obtain rfl : k = m := by omega
      rw [List.getElem?_append_right (by omega), List.getElem?_append_right (by omega), List.getElem?_append_right (by omega), hl]
      refine ⟨?_, ?_, ?_⟩
      · rw [show k * 3 - k * 3 = 0 by omega]; rfl
      · rw [show k * 3 + 1 - k * 3 = 1 by omega]; rfl
      · rw [show k * 3 + 2 - k * 3 = 2 by omega]; rfl
end Go.Proofs.Ytkodihmjjiadnaa.Nn
/- THE DOCUMENT'S NETWORKS: WALK, WALKED. -/
namespace Go.Proofs.Ytkodihmjjiadnaa.Nn
open Go.RowKit

theorem own_some' {w : World} {base n size cap : Nat} {e : TypeId} {ao : Option Addr} {xs : List Value} (h : w.ownsRow base e size (.slice ao n cap) n xs) (hn : 0 < n) : ∃ g, ao = some ⟨g, 0, none⟩ := by
  rcases h.2 with ⟨_, h0⟩ | ⟨g, cap', _, e, _⟩
  · omega
  · cases e; exact ⟨g, rfl⟩
theorem mw_of {L : Ly} {S : Sp} (h : faE L S = 0) : (L.mw : Int) = wc L S.h S.v S.c := by
  unfold faE at h
  by_cases h1 : L.kd = 1
  · rw [if_pos h1] at h
    have h7 : wsE L S = 0 := frF_z h 7 (by decide)
    unfold wsE at h7
    exact (zero_else (by decide) h7).1
  · rw [if_neg h1] at h
    by_cases h2 : L.kd = 2
    · rw [if_pos h2] at h
      have h4 : wsE L S = 0 := frF_z h 4 (by decide)
      unfold wsE at h4
      exact (zero_else (by decide) h4).1
    · rw [if_neg h2] at h
      by_cases h3 : L.kd = 3
      · rw [if_pos h3] at h
        have h4 : owE L = 0 := frF_z h 2 (by decide)
        unfold owE at h4
        have := zero_else (by decide) h4
        unfold wc
        rw [this.1.1, Int.zero_mul, this.2.1]
        rfl
      · rw [if_neg h3] at h; cases h
theorem own_below {W X : World} {base n size : Nat} {e : TypeId} {v : Value} {xs : List Value} (h : W.ownsRow base e size v n xs) (hb : Below W.heap.size W X) : X.ownsRow base e size v n xs :=
  h.kept (row := none) ⟨hb.os, hb.tape, hb.output, hb.size, fun k hk _ => hb.block k hk⟩ (by cases v.ownBlock <;> simp)
theorem news3 {W : World} {g : Nat} (hg : W.heap.size = g) (x y z : Value) (t : TypeId) : ∀ j u, [x, y, z][j]? = some u → (W.alloc (.cells #[x, y, z] t)).cell? ((⟨g, 0, none⟩ : Addr).add j) = some u := by
  intro j u hu
  subst hg
  have hw := new_block W (.cells #[x, y, z] t)
  have hj : j < 3 := by
    by_cases h : j < 3
    · exact h
    · rw [List.getElem?_eq_none (by simp; omega)] at hu; cases hu
  rcases (show j = 0 ∨ j = 1 ∨ j = 2 by omega) with rfl | rfl | rfl <;> cases hu <;> exact (block_cell hw _).trans rfl
def RkP (N : Nt) (w w' : World) (v : Value) : Prop := (¬ chE N = 0 → v = .slice none 0 0) ∧ (chE N = 0 → ∃ g cap, w.heap.size ≤ g ∧ v = .slice (some ⟨g, 0, none⟩) N.ml cap ∧ ∀ j, j < N.ml * 3 → w'.cell? ⟨g, j, none⟩ = (shL N N.ml)[j]?)
theorem ivf_ah {W : World} {g : Nat} {t : TypeId} {a p : Int} {S : Sp} {b : Bool} (h : W.rowIs g t 6 (ivf a S)) : (W.setCell ⟨g, 5, none⟩ (.int .i64 p)).rowIs g t 6 (ivf a ⟨S.h, S.v, S.c, p, b, S.la⟩) := by
  refine (h.set 5 _).congr fun i hi => ?_
  rcases (show i = 0 ∨ i = 1 ∨ i = 2 ∨ i = 3 ∨ i = 4 ∨ i = 5 by omega) with rfl | rfl | rfl | rfl | rfl | rfl <;> rfl
theorem ivf_shape {W : World} {g : Nat} {t : TypeId} {a x y z : Int} {S : Sp} {b d : Bool} (h : W.rowIs g t 6 (ivf a S)) (hd : S.la = d) : (((W.setCell ⟨g, 2, none⟩ (.int .i64 x)).setCell ⟨g, 3, none⟩ (.int .i64 y)).setCell ⟨g, 4, none⟩ (.int .i64 z)).rowIs g t 6 (ivf a ⟨x, y, z, S.ah, b, d⟩) := by
  subst hd
  refine (((h.set 2 _).set 3 _).set 4 _).congr fun i hi => ?_
  rcases (show i = 0 ∨ i = 1 ∨ i = 2 ∨ i = 3 ∨ i = 4 ∨ i = 5 by omega) with rfl | rfl | rfl | rfl | rfl | rfl <;> rfl
end Go.Proofs.Ytkodihmjjiadnaa.Nn
/- THE DOCUMENT'S NETWORKS: WALK OF ANY NETWORK; CHECK, SHAPES. -/
namespace Go.Proofs.Ytkodihmjjiadnaa.Nn
open Go.RowKit

end Go.Proofs.Ytkodihmjjiadnaa.Nn
/- THE DOCUMENT'S NETWORKS: TWO LAYERS HELD AGAINST EACH OTHER, THE PARTS. -/
namespace Go.Proofs.Ytkodihmjjiadnaa.Nn
open Go.RowKit

abbrev nrv (a b c d e f g h : Int) : Value := .agg #[.int .i64 a, .int .i64 b, .int .i64 c, .int .i64 d, .int .i64 e, .int .i64 f, .int .i64 g, .int .i64 h]
theorem fr_eql (a b a' b' : Int) (w : World) : (Op.equalIn 9999 69 (.agg #[.int .i64 a, .int .i64 b]) (.agg #[.int .i64 a', .int .i64 b'])).run Try.prog w = .ok (decide (a = a' ∧ b = b')) w := by
  rw [run_equalIn_agg w 9998 _ _ _ (by kernel_rfl) (by kernel_rfl)]
  have hc : (¬ a = a') ∨ (a = a' ∧ ¬ b = b') ∨ (a = a' ∧ b = b') := by omega
  rcases hc with h1 | ⟨rfl, h1⟩ | ⟨rfl, rfl⟩ <;> simp [go_sem, Try.underlying69, Try.underlying2, *]
set_option maxRecDepth 100000 in
theorem nrm_eql (a b c d e f g h a' b' c' d' e' f' g' h' : Int) (w : World) :
    (Op.equalIn 10000 71 (nrv a b c d e f g h) (nrv a' b' c' d' e' f' g' h')).run Try.prog w = .ok (decide ((a = a' ∧ b = b') ∧ (c = c' ∧ d = d') ∧ (e = e' ∧ f = f') ∧ (g = g' ∧ h = h'))) w := by
  rw [run_equalIn_agg w 9999 _ _ _ (by kernel_rfl) (by kernel_rfl)]
  by_cases h1 : a = a' ∧ b = b'
  · by_cases h2 : c = c' ∧ d = d'
    · by_cases h3 : e = e' ∧ f = f'
      · by_cases h4 : g = g' ∧ h = h'
        · simp [go_sem, Try.underlying71, fr_eql, h1, h2, h3, h4]
        · simp [go_sem, Try.underlying71, fr_eql, h1, h2, h3, h4]
      · simp [go_sem, Try.underlying71, fr_eql, h1, h2, h3]
    · simp [go_sem, Try.underlying71, fr_eql, h1, h2]
  · simp [go_sem, Try.underlying71, fr_eql, h1]

/-- The same window. -/
def wnE (A B : Ly) : Prop := A.r = B.r ∧ A.s = B.s ∧ A.sy = B.sy ∧ A.sx = B.sx ∧ A.t = B.t ∧ A.l = B.l ∧ A.b = B.b ∧ A.q = B.q
instance (A B : Ly) : Decidable (wnE A B) := by unfold wnE; infer_instance
/-- The same norm at a place. -/
def nsE (A B : Ly) (j : Nat) : Prop := (A.ns j 0 = B.ns j 0 ∧ A.ns j 1 = B.ns j 1) ∧ (A.ns j 2 = B.ns j 2 ∧ A.ns j 3 = B.ns j 3) ∧ (A.ns j 4 = B.ns j 4 ∧ A.ns j 5 = B.ns j 5) ∧ (A.ns j 6 = B.ns j 6 ∧ A.ns j 7 = B.ns j 7)
instance (A B : Ly) (j : Nat) : Decidable (nsE A B j) := by unfold nsE; infer_instance
/-- The same layer: its numbers, its lists' lengths, what they hold. -/
def hdE (A B : Ly) : Prop := A.kd = B.kd ∧ A.wt = B.wt ∧ A.k = B.k ∧ wnE A B ∧ A.bd = B.bd ∧ A.mw = B.mw ∧ A.mn = B.mn ∧ A.mb = B.mb
instance (A B : Ly) : Decidable (hdE A B) := by unfold hdE; infer_instance
def lyE (A B : Ly) : Prop := hdE A B ∧ (∀ j, j < A.mw → A.ws j = B.ws j) ∧ (∀ j, j < A.mn → nsE A B j) ∧ (∀ j, j < A.mb → A.bs j = B.bs j)
instance (A B : Ly) : Decidable (lyE A B) := by unfold lyE; infer_instance
/-- Two layers that lie in two blocks. -/
def L2 (w W : World) (A B : Ly) : Prop := Below w.heap.size w W ∧ Lp W w.heap.size A ∧ Lp W (w.heap.size + 1) B
end Go.Proofs.Ytkodihmjjiadnaa.Nn
/- THE DOCUMENT'S NETWORKS: TWO LAYERS HELD AGAINST EACH OTHER. -/
namespace Go.Proofs.Ytkodihmjjiadnaa.Nn
open Go.RowKit
end Go.Proofs.Ytkodihmjjiadnaa.Nn
/- THE DOCUMENT'S NETWORKS: TWO LAYERS OF THE SAME NUMBERS HELD AGAINST EACH OTHER. -/
namespace Go.Proofs.Ytkodihmjjiadnaa.Nn
open Go.RowKit

theorem L2.keep {w W X : World} {A B : Ly} (h : L2 w W A B) (hb : Below W.heap.size W X) : L2 w X A B := ⟨bl_step h.1 hb, h.2.1.keep hb, h.2.2.keep hb⟩
theorem nrm_eqlN (A B : Ly) (j : Nat) (w : World) : (Op.equalIn 10000 71 (nrv (A.ns j 0) (A.ns j 1) (A.ns j 2) (A.ns j 3) (A.ns j 4) (A.ns j 5) (A.ns j 6) (A.ns j 7)) (nrv (B.ns j 0) (B.ns j 1) (B.ns j 2) (B.ns j 3) (B.ns j 4) (B.ns j 5) (B.ns j 6) (B.ns j 7))).run Try.prog w = .ok (decide (nsE A B j)) w := by
  rw [nrm_eql]
  by_cases h : nsE A B j
  · rw [decide_eq_true h, decide_eq_true]; exact h
  · rw [decide_eq_false h, decide_eq_false]; exact h
theorem all_more {n : Nat} {P : Nat → Prop} {k : Nat} (h : ∀ j, j < k → P j) (hk : P k) (hn : n = k + 1) : ∀ j, j < n → P j := fun j hj => by
  subst hn
  by_cases e : j = k
  · rw [e]; exact hk
  · exact h j (by omega)
end Go.Proofs.Ytkodihmjjiadnaa.Nn
/- THE DOCUMENT'S NETWORKS: ANY TWO HELD AGAINST EACH OTHER. -/
namespace Go.Proofs.Ytkodihmjjiadnaa.Nn
open Go.RowKit

theorem meetE {J K : Act → World → Prop} {Q : Exit → Act → World → Prop} {a : Act} {w : World} (hK : ∀ a' w', Met J a' w' → K a' w') (h : Met J a w) : Exit.then K Q Exit.normal a w := hK _ _ h
theorem win_eqlN (A B : Ly) (w : World) : (Op.equalIn 10000 40 (win A.r A.s A.sy A.sx A.t A.l A.b A.q) (win B.r B.s B.sy B.sx B.t B.l B.b B.q)).run Try.prog w = .ok (decide (wnE A B)) w := by
  rw [win_eql]
  by_cases h : wnE A B
  · rw [decide_eq_true h, decide_eq_true]; exact h
  · rw [decide_eq_false h, decide_eq_false]; exact h
theorem kpE {U X : World} {b1 b2 g o g' o' k m1 c1 m2 c2 : Nat} {A B : Ly} (n1 : U.cell? ⟨b1, 4, none⟩ = some (.slice (some ⟨g, o, none⟩) m1 c1)) (n2 : U.cell? ⟨b2, 4, none⟩ = some (.slice (some ⟨g', o', none⟩) m2 c2)) (hA : Lc U g (o + k * 15) A) (hB : Lc U g' (o' + k * 15) B) (hb : Below U.heap.size U X) : X.cell? ⟨b1, 4, none⟩ = some (.slice (some ⟨g, o, none⟩) m1 c1) ∧ X.cell? ⟨b2, 4, none⟩ = some (.slice (some ⟨g', o', none⟩) m2 c2) ∧ X.cell? ⟨g, o + k * 15, none⟩ = some (.int .i64 A.kd) ∧ X.cell? ⟨g, o + k * 15 + 1, none⟩ = some (.int .i64 A.wt) ∧ X.cell? ⟨g, o + k * 15 + 2, none⟩ = some (.int .i64 A.k) ∧ X.cell? ⟨g, o + k * 15 + 3, none⟩ = some (.int .i64 A.r) ∧ X.cell? ⟨g, o + k * 15 + 4, none⟩ = some (.int .i64 A.s) ∧ X.cell? ⟨g, o + k * 15 + 5, none⟩ = some (.int .i64 A.sy) ∧ X.cell? ⟨g, o + k * 15 + 6, none⟩ = some (.int .i64 A.sx) ∧ X.cell? ⟨g, o + k * 15 + 7, none⟩ = some (.int .i64 A.t) ∧ X.cell? ⟨g, o + k * 15 + 8, none⟩ = some (.int .i64 A.l) ∧ X.cell? ⟨g, o + k * 15 + 9, none⟩ = some (.int .i64 A.b) ∧ X.cell? ⟨g, o + k * 15 + 10, none⟩ = some (.int .i64 A.q) ∧ X.cell? ⟨g, o + k * 15 + 11, none⟩ = some (.int .i64 A.bd) ∧ X.cell? ⟨g, o + k * 15 + 12, none⟩ = some (.slice A.aw A.mw A.cw) ∧ X.cell? ⟨g, o + k * 15 + 13, none⟩ = some (.slice A.an A.mn A.cn) ∧ X.cell? ⟨g, o + k * 15 + 14, none⟩ = some (.slice A.ab A.mb A.cb) ∧ X.cell? ⟨g', o' + k * 15, none⟩ = some (.int .i64 B.kd) ∧ X.cell? ⟨g', o' + k * 15 + 1, none⟩ = some (.int .i64 B.wt) ∧ X.cell? ⟨g', o' + k * 15 + 2, none⟩ = some (.int .i64 B.k) ∧ X.cell? ⟨g', o' + k * 15 + 3, none⟩ = some (.int .i64 B.r) ∧ X.cell? ⟨g', o' + k * 15 + 4, none⟩ = some (.int .i64 B.s) ∧ X.cell? ⟨g', o' + k * 15 + 5, none⟩ = some (.int .i64 B.sy) ∧ X.cell? ⟨g', o' + k * 15 + 6, none⟩ = some (.int .i64 B.sx) ∧ X.cell? ⟨g', o' + k * 15 + 7, none⟩ = some (.int .i64 B.t) ∧ X.cell? ⟨g', o' + k * 15 + 8, none⟩ = some (.int .i64 B.l) ∧ X.cell? ⟨g', o' + k * 15 + 9, none⟩ = some (.int .i64 B.b) ∧ X.cell? ⟨g', o' + k * 15 + 10, none⟩ = some (.int .i64 B.q) ∧ X.cell? ⟨g', o' + k * 15 + 11, none⟩ = some (.int .i64 B.bd) ∧ X.cell? ⟨g', o' + k * 15 + 12, none⟩ = some (.slice B.aw B.mw B.cw) ∧ X.cell? ⟨g', o' + k * 15 + 13, none⟩ = some (.slice B.an B.mn B.cn) ∧ X.cell? ⟨g', o' + k * 15 + 14, none⟩ = some (.slice B.ab B.mb B.cb) := by
  obtain ⟨c0, c1, c2, c3, c4, c5, c6, c7, c8, c9, c10, c11, c12, c13, c14⟩ := hA
  obtain ⟨d0, d1, d2, d3, d4, d5, d6, d7, d8, d9, d10, d11, d12, d13, d14⟩ := hB
  exact ⟨keepc hb n1, keepc hb n2, keepc hb c0, keepc hb c1, keepc hb c2, keepc hb c3, keepc hb c4, keepc hb c5, keepc hb c6, keepc hb c7, keepc hb c8, keepc hb c9, keepc hb c10, keepc hb c11, keepc hb c12, keepc hb c13, keepc hb c14, keepc hb d0, keepc hb d1, keepc hb d2, keepc hb d3, keepc hb d4, keepc hb d5, keepc hb d6, keepc hb d7, keepc hb d8, keepc hb d9, keepc hb d10, keepc hb d11, keepc hb d12, keepc hb d13, keepc hb d14⟩
/-- The same network. -/
def inE (M N : Nt) : Prop := M.h = N.h ∧ M.v = N.v ∧ M.c = N.c
instance (M N : Nt) : Decidable (inE M N) := by unfold inE; infer_instance
def ntE (M N : Nt) : Prop := M.nm.toList = N.nm.toList ∧ inE M N ∧ M.ml = N.ml ∧ ∀ j, j < M.ml → lyE (M.lf j) (N.lf j)
instance (M N : Nt) : Decidable (ntE M N) := by unfold ntE; infer_instance
theorem shp_eqlN (M N : Nt) (w : World) : (Op.equalIn 10000 25 (shp M.h M.v M.c) (shp N.h N.v N.c)).run Try.prog w = .ok (decide (inE M N)) w := by
  rw [shp_eql]
  by_cases h : inE M N
  · rw [decide_eq_true h, decide_eq_true]; exact h
  · rw [decide_eq_false h, decide_eq_false]; exact h
def N2 (w W : World) (M N : Nt) : Prop := Below w.heap.size w W ∧ Nb W w.heap.size M ∧ Nb W (w.heap.size + 1) N
theorem N2.keep {w W X : World} {M N : Nt} (h : N2 w W M N) (hb : Below W.heap.size W X) : N2 w X M N := ⟨bl_step h.1 hb, h.2.1.keep hb, h.2.2.keep hb⟩
theorem nb_new' {W : World} {g : Nat} (hg : W.heap.size = g) (N : Nt) (t : TypeId) : Nb (W.alloc (.cells #[.string N.nm, .int .i64 N.h, .int .i64 N.v, .int .i64 N.c, .slice N.al N.ml N.cl] t)) g N := by
  subst hg; exact nb_new _ _ _
end Go.Proofs.Ytkodihmjjiadnaa.Nn
/- NETWORKS: LISTS HELD AGAINST EACH OTHER (slices.Equal). -/
namespace Go.Proofs.Ytkodihmjjiadnaa.Nn
open Go.RowKit

def wtsE (A B : Ly) : Prop := A.mw = B.mw ∧ ∀ j, j < A.mw → A.ws j = B.ws j
instance (A B : Ly) : Decidable (wtsE A B) := by unfold wtsE; infer_instance
def nmsE (A B : Ly) : Prop := A.mn = B.mn ∧ ∀ j, j < A.mn → nsE A B j
instance (A B : Ly) : Decidable (nmsE A B) := by unfold nmsE; infer_instance
def bisE (A B : Ly) : Prop := A.mb = B.mb ∧ ∀ j, j < A.mb → A.bs j = B.bs j
instance (A B : Ly) : Decidable (bisE A B) := by unfold bisE; infer_instance
set_option maxHeartbeats 3200000 in
set_option maxRecDepth 100000 in
theorem sleqW_any (A B : Ly) (w : World) (hA : Lst w A) (hB : Lst w B) : Calls Try.prog 45 #[.slice A.aw A.mw A.cw, .slice B.aw B.mw B.cw] w fun e w' => e = .returned (.bool (decide (wtsE A B))) ∧ Below w.heap.size w w' := by
  by_cases h : A.mw = B.mw
  · have e0 : ((A.mw : Int) != (B.mw : Int)) = false := by simp [h]
    have HA := hid1 hA
    have HB := hid1 hB
    have G := hid1 h
    have m1 := hA.2.2.2.1
    clear hA hB h
    go_enter Try.func45, Try.ntmps45
    go_wp2_with fail
    go_loopw [13] (fun i wr => ∃ k : Nat, k ≤ A.mw ∧ i = .int .i64 k ∧ Hid (∀ j, j < k → A.ws j = B.ws j) ∧ Hid (Below w.heap.size w wr)) (fun i _ => A.mw - (intOf i).toNat)
    case atStart => exact ⟨0, Nat.zero_le _, rfl, hid1 fun j hj => absurd hj (by omega), hid1 (by repeat (first | (with_reducible exact Below.refl _ _) | (with_reducible refine bl_alloc ?_ _) | (with_reducible refine Below.drew ?_) | (with_reducible refine bl_drewN ?_ _) | (with_reducible refine bl_set ?_ (by omega) _) | (with_reducible refine bl_step ?_ (by assumption))))⟩
    case round =>
     clear e0
     obtain ⟨k, hk, rfl, HQ, HX⟩ := hrel
     have ik0 : (0 : Int) ≤ (k : Int) := by omega
     by_cases hlt : k < A.mw
     · have ik : (k : Int) < (A.mw : Int) := by omega
       have ik' : (k : Int) < (B.mw : Int) := by have := G.out; omega
       obtain ⟨g, o, ea, hc⟩ := (HA.out.keep HX.out).1 k hlt
       obtain ⟨g', o', eb, hd⟩ := (HB.out.keep HX.out).1 k (by have := G.out; omega)
 
       by_cases hx : A.ws k = B.ws k
       · have we : (A.ws k != B.ws k) = false := by simp [hx]
         have HK := hid1 hx
         clear hx
         go_wp2_with fail
         go_region
         all_goals
           go_wp2_with fail
           go_roundw
           case rel => exact ⟨k + 1, by omega, by go_num, hid1 (all_more HQ.out HK.out rfl), hid1 (bl_step HX.out (by repeat (first | (with_reducible exact Below.refl _ _) | (with_reducible refine bl_alloc ?_ _) | (with_reducible refine Below.drew ?_) | (with_reducible refine bl_drewN ?_ _) | (with_reducible refine bl_set ?_ (by omega) _) | (with_reducible refine bl_step ?_ (by assumption)))))⟩
           case measure => simp [intOf]; omega
       · have we : (A.ws k != B.ws k) = true := by simpa using hx
         have HK := hid1 hx
         clear hx
         go_wp2_with fail
         go_region
         all_goals
           go_wp2_with fail
           go_ret
           exact ⟨by rw [decide_eq_false (fun h : wtsE A B => HK.out (h.2 k hlt))]; rfl, bl_step HX.out (by repeat (first | (with_reducible exact Below.refl _ _) | (with_reducible refine bl_alloc ?_ _) | (with_reducible refine Below.drew ?_) | (with_reducible refine bl_drewN ?_ _) | (with_reducible refine bl_set ?_ (by omega) _) | (with_reducible refine bl_step ?_ (by assumption))))⟩
     · have hkm : k = A.mw := by omega
       subst hkm
       go_wp2_with fail
       go_ret
       exact ⟨by rw [decide_eq_true (show wtsE A B from ⟨G.out, HQ.out⟩)]; rfl, HX.out⟩
  · have e0 : ((A.mw : Int) != (B.mw : Int)) = true := by simp; omega
    rw [decide_eq_false (fun q : wtsE A B => h q.1)]
    clear hA hB h
    go_enter Try.func45, Try.ntmps45
    go_wp2_with fail
    go_ret
    exact ⟨by first | rfl | simp [*], by repeat (first | (with_reducible exact Below.refl _ _) | (with_reducible refine bl_alloc ?_ _) | (with_reducible refine Below.drew ?_) | (with_reducible refine bl_drewN ?_ _) | (with_reducible refine bl_set ?_ (by omega) _) | (with_reducible refine bl_step ?_ (by assumption)))⟩
set_option maxHeartbeats 3200000 in
set_option maxRecDepth 100000 in
theorem sleqN_any (A B : Ly) (w : World) (hA : Lst w A) (hB : Lst w B) : Calls Try.prog 46 #[.slice A.an A.mn A.cn, .slice B.an B.mn B.cn] w fun e w' => e = .returned (.bool (decide (nmsE A B))) ∧ Below w.heap.size w w' := by
  by_cases h : A.mn = B.mn
  · have e0 : ((A.mn : Int) != (B.mn : Int)) = false := by simp [h]
    have HA := hid1 hA
    have HB := hid1 hB
    have G := hid1 h
    have m1 := hA.2.2.2.2.1
    clear hA hB h
    go_enter Try.func46, Try.ntmps46
    go_wp2_with fail
    go_loopw [13] (fun i wr => ∃ k : Nat, k ≤ A.mn ∧ i = .int .i64 k ∧ Hid (∀ j, j < k → nsE A B j) ∧ Hid (Below w.heap.size w wr)) (fun i _ => A.mn - (intOf i).toNat)
    case atStart => exact ⟨0, Nat.zero_le _, rfl, hid1 fun j hj => absurd hj (by omega), hid1 (by repeat (first | (with_reducible exact Below.refl _ _) | (with_reducible refine bl_alloc ?_ _) | (with_reducible refine Below.drew ?_) | (with_reducible refine bl_drewN ?_ _) | (with_reducible refine bl_set ?_ (by omega) _) | (with_reducible refine bl_step ?_ (by assumption))))⟩
    case round =>
     clear e0
     obtain ⟨k, hk, rfl, HQ, HX⟩ := hrel
     have ik0 : (0 : Int) ≤ (k : Int) := by omega
     by_cases hlt : k < A.mn
     · have ik : (k : Int) < (A.mn : Int) := by omega
       have ik' : (k : Int) < (B.mn : Int) := by have := G.out; omega
       obtain ⟨g, o, ea, hc⟩ := (HA.out.keep HX.out).2.1 k hlt
       obtain ⟨g', o', eb, hd⟩ := (HB.out.keep HX.out).2.1 k (by have := G.out; omega)
       obtain ⟨c0, c1, c2, c3, c4, c5, c6, c7⟩ := hc
       obtain ⟨d0, d1, d2, d3, d4, d5, d6, d7⟩ := hd
       by_cases hx : nsE A B k
       · have we := fun w => nrm_eqlN A B k w
         rw [decide_eq_true hx] at we
         have HK := hid1 hx
         clear hx
         go_wp2_with fail
         go_region
         all_goals
           go_wp2_with fail
           go_roundw
           case rel => exact ⟨k + 1, by omega, by go_num, hid1 (all_more HQ.out HK.out rfl), hid1 (bl_step HX.out (by repeat (first | (with_reducible exact Below.refl _ _) | (with_reducible refine bl_alloc ?_ _) | (with_reducible refine Below.drew ?_) | (with_reducible refine bl_drewN ?_ _) | (with_reducible refine bl_set ?_ (by omega) _) | (with_reducible refine bl_step ?_ (by assumption)))))⟩
           case measure => simp [intOf]; omega
       · have we := fun w => nrm_eqlN A B k w
         rw [decide_eq_false hx] at we
         have HK := hid1 hx
         clear hx
         go_wp2_with fail
         go_region
         all_goals
           go_wp2_with fail
           go_ret
           exact ⟨by rw [decide_eq_false (fun h : nmsE A B => HK.out (h.2 k hlt))]; rfl, bl_step HX.out (by repeat (first | (with_reducible exact Below.refl _ _) | (with_reducible refine bl_alloc ?_ _) | (with_reducible refine Below.drew ?_) | (with_reducible refine bl_drewN ?_ _) | (with_reducible refine bl_set ?_ (by omega) _) | (with_reducible refine bl_step ?_ (by assumption))))⟩
     · have hkm : k = A.mn := by omega
       subst hkm
       go_wp2_with fail
       go_ret
       exact ⟨by rw [decide_eq_true (show nmsE A B from ⟨G.out, HQ.out⟩)]; rfl, HX.out⟩
  · have e0 : ((A.mn : Int) != (B.mn : Int)) = true := by simp; omega
    rw [decide_eq_false (fun q : nmsE A B => h q.1)]
    clear hA hB h
    go_enter Try.func46, Try.ntmps46
    go_wp2_with fail
    go_ret
    exact ⟨by first | rfl | simp [*], by repeat (first | (with_reducible exact Below.refl _ _) | (with_reducible refine bl_alloc ?_ _) | (with_reducible refine Below.drew ?_) | (with_reducible refine bl_drewN ?_ _) | (with_reducible refine bl_set ?_ (by omega) _) | (with_reducible refine bl_step ?_ (by assumption)))⟩
set_option maxHeartbeats 3200000 in
set_option maxRecDepth 100000 in
theorem sleqB_any (A B : Ly) (w : World) (hA : Lst w A) (hB : Lst w B) : Calls Try.prog 47 #[.slice A.ab A.mb A.cb, .slice B.ab B.mb B.cb] w fun e w' => e = .returned (.bool (decide (bisE A B))) ∧ Below w.heap.size w w' := by
  by_cases h : A.mb = B.mb
  · have e0 : ((A.mb : Int) != (B.mb : Int)) = false := by simp [h]
    have HA := hid1 hA
    have HB := hid1 hB
    have G := hid1 h
    have m1 := hA.2.2.2.2.2
    clear hA hB h
    go_enter Try.func47, Try.ntmps47
    go_wp2_with fail
    go_loopw [13] (fun i wr => ∃ k : Nat, k ≤ A.mb ∧ i = .int .i64 k ∧ Hid (∀ j, j < k → A.bs j = B.bs j) ∧ Hid (Below w.heap.size w wr)) (fun i _ => A.mb - (intOf i).toNat)
    case atStart => exact ⟨0, Nat.zero_le _, rfl, hid1 fun j hj => absurd hj (by omega), hid1 (by repeat (first | (with_reducible exact Below.refl _ _) | (with_reducible refine bl_alloc ?_ _) | (with_reducible refine Below.drew ?_) | (with_reducible refine bl_drewN ?_ _) | (with_reducible refine bl_set ?_ (by omega) _) | (with_reducible refine bl_step ?_ (by assumption))))⟩
    case round =>
     clear e0
     obtain ⟨k, hk, rfl, HQ, HX⟩ := hrel
     have ik0 : (0 : Int) ≤ (k : Int) := by omega
     by_cases hlt : k < A.mb
     · have ik : (k : Int) < (A.mb : Int) := by omega
       have ik' : (k : Int) < (B.mb : Int) := by have := G.out; omega
       obtain ⟨g, o, ea, hc⟩ := (HA.out.keep HX.out).2.2.1 k hlt
       obtain ⟨g', o', eb, hd⟩ := (HB.out.keep HX.out).2.2.1 k (by have := G.out; omega)
 
       by_cases hx : A.bs k = B.bs k
       · have we : (A.bs k != B.bs k) = false := by simp [hx]
         have HK := hid1 hx
         clear hx
         go_wp2_with fail
         go_region
         all_goals
           go_wp2_with fail
           go_roundw
           case rel => exact ⟨k + 1, by omega, by go_num, hid1 (all_more HQ.out HK.out rfl), hid1 (bl_step HX.out (by repeat (first | (with_reducible exact Below.refl _ _) | (with_reducible refine bl_alloc ?_ _) | (with_reducible refine Below.drew ?_) | (with_reducible refine bl_drewN ?_ _) | (with_reducible refine bl_set ?_ (by omega) _) | (with_reducible refine bl_step ?_ (by assumption)))))⟩
           case measure => simp [intOf]; omega
       · have we : (A.bs k != B.bs k) = true := by simpa using hx
         have HK := hid1 hx
         clear hx
         go_wp2_with fail
         go_region
         all_goals
           go_wp2_with fail
           go_ret
           exact ⟨by rw [decide_eq_false (fun h : bisE A B => HK.out (h.2 k hlt))]; rfl, bl_step HX.out (by repeat (first | (with_reducible exact Below.refl _ _) | (with_reducible refine bl_alloc ?_ _) | (with_reducible refine Below.drew ?_) | (with_reducible refine bl_drewN ?_ _) | (with_reducible refine bl_set ?_ (by omega) _) | (with_reducible refine bl_step ?_ (by assumption))))⟩
     · have hkm : k = A.mb := by omega
       subst hkm
       go_wp2_with fail
       go_ret
       exact ⟨by rw [decide_eq_true (show bisE A B from ⟨G.out, HQ.out⟩)]; rfl, HX.out⟩
  · have e0 : ((A.mb : Int) != (B.mb : Int)) = true := by simp; omega
    rw [decide_eq_false (fun q : bisE A B => h q.1)]
    clear hA hB h
    go_enter Try.func47, Try.ntmps47
    go_wp2_with fail
    go_ret
    exact ⟨by first | rfl | simp [*], by repeat (first | (with_reducible exact Below.refl _ _) | (with_reducible refine bl_alloc ?_ _) | (with_reducible refine Below.drew ?_) | (with_reducible refine bl_drewN ?_ _) | (with_reducible refine bl_set ?_ (by omega) _) | (with_reducible refine bl_step ?_ (by assumption)))⟩
end Go.Proofs.Ytkodihmjjiadnaa.Nn
/- NETWORKS: TWO LAYERS HELD AGAINST EACH OTHER (net.sameLayer). -/
namespace Go.Proofs.Ytkodihmjjiadnaa.Nn
open Go.RowKit

theorem lyE_of {A B : Ly} (h0 : A.kd = B.kd) (h1 : A.wt = B.wt) (h2 : A.k = B.k) (h3 : wnE A B) (h4 : A.bd = B.bd) (h5 : wtsE A B) (h6 : nmsE A B) (h7 : bisE A B) : lyE A B := ⟨⟨h0, h1, h2, h3, h4, h5.1, h6.1, h7.1⟩, h5.2, h6.2, h7.2⟩
theorem lyE_to {A B : Ly} (h : lyE A B) : A.kd = B.kd ∧ A.wt = B.wt ∧ A.k = B.k ∧ wnE A B ∧ A.bd = B.bd ∧ wtsE A B ∧ nmsE A B ∧ bisE A B := ⟨h.1.1, h.1.2.1, h.1.2.2.1, h.1.2.2.2.1, h.1.2.2.2.2.1, ⟨h.1.2.2.2.2.2.1, h.2.1⟩, ⟨h.1.2.2.2.2.2.2.1, h.2.2.1⟩, ⟨h.1.2.2.2.2.2.2.2, h.2.2.2⟩⟩
set_option maxHeartbeats 1600000 in
set_option maxRecDepth 100000 in
theorem same_no0 (A B : Ly) (w : World) (e0 : (A.kd == B.kd) = false) : Calls Try.prog 30 #[lyv A, lyv B] w fun e w' => e = .returned (.bool false) ∧ Below w.heap.size w w' := by
  go_enter Try.func30, Try.ntmps30
  go_wp2_with fail
  all_goals go_ret
  all_goals exact ⟨by first | rfl | simp [*], by repeat (first | (with_reducible exact Below.refl _ _) | (with_reducible refine bl_alloc ?_ _) | (with_reducible refine Below.drew ?_) | (with_reducible refine bl_drewN ?_ _) | (with_reducible refine bl_set ?_ (by omega) _) | (with_reducible refine bl_step ?_ (by assumption)))⟩
set_option maxHeartbeats 1600000 in
set_option maxRecDepth 100000 in
theorem same_no1 (A B : Ly) (w : World) (e0 : (A.kd == B.kd) = true) (e1 : (A.wt == B.wt) = false) : Calls Try.prog 30 #[lyv A, lyv B] w fun e w' => e = .returned (.bool false) ∧ Below w.heap.size w w' := by
  go_enter Try.func30, Try.ntmps30
  go_wp2_with fail
  all_goals go_ret
  all_goals exact ⟨by first | rfl | simp [*], by repeat (first | (with_reducible exact Below.refl _ _) | (with_reducible refine bl_alloc ?_ _) | (with_reducible refine Below.drew ?_) | (with_reducible refine bl_drewN ?_ _) | (with_reducible refine bl_set ?_ (by omega) _) | (with_reducible refine bl_step ?_ (by assumption)))⟩
set_option maxHeartbeats 1600000 in
set_option maxRecDepth 100000 in
theorem same_no2 (A B : Ly) (w : World) (e0 : (A.kd == B.kd) = true) (e1 : (A.wt == B.wt) = true) (e2 : (A.k == B.k) = false) : Calls Try.prog 30 #[lyv A, lyv B] w fun e w' => e = .returned (.bool false) ∧ Below w.heap.size w w' := by
  go_enter Try.func30, Try.ntmps30
  go_wp2_with fail
  all_goals go_ret
  all_goals exact ⟨by first | rfl | simp [*], by repeat (first | (with_reducible exact Below.refl _ _) | (with_reducible refine bl_alloc ?_ _) | (with_reducible refine Below.drew ?_) | (with_reducible refine bl_drewN ?_ _) | (with_reducible refine bl_set ?_ (by omega) _) | (with_reducible refine bl_step ?_ (by assumption)))⟩
set_option maxHeartbeats 1600000 in
set_option maxRecDepth 100000 in
theorem same_no3 (A B : Ly) (w : World) (e0 : (A.kd == B.kd) = true) (e1 : (A.wt == B.wt) = true) (e2 : (A.k == B.k) = true) (e3 : ∀ w, (Op.equalIn 10000 40 (win A.r A.s A.sy A.sx A.t A.l A.b A.q) (win B.r B.s B.sy B.sx B.t B.l B.b B.q)).run Try.prog w = .ok false w) : Calls Try.prog 30 #[lyv A, lyv B] w fun e w' => e = .returned (.bool false) ∧ Below w.heap.size w w' := by
  go_enter Try.func30, Try.ntmps30
  go_wp2_with fail
  all_goals go_ret
  all_goals exact ⟨by first | rfl | simp [*], by repeat (first | (with_reducible exact Below.refl _ _) | (with_reducible refine bl_alloc ?_ _) | (with_reducible refine Below.drew ?_) | (with_reducible refine bl_drewN ?_ _) | (with_reducible refine bl_set ?_ (by omega) _) | (with_reducible refine bl_step ?_ (by assumption)))⟩
set_option maxHeartbeats 1600000 in
set_option maxRecDepth 100000 in
theorem same_no4 (A B : Ly) (w : World) (e0 : (A.kd == B.kd) = true) (e1 : (A.wt == B.wt) = true) (e2 : (A.k == B.k) = true) (e3 : ∀ w, (Op.equalIn 10000 40 (win A.r A.s A.sy A.sx A.t A.l A.b A.q) (win B.r B.s B.sy B.sx B.t B.l B.b B.q)).run Try.prog w = .ok true w) (e4 : (A.bd == B.bd) = false) : Calls Try.prog 30 #[lyv A, lyv B] w fun e w' => e = .returned (.bool false) ∧ Below w.heap.size w w' := by
  go_enter Try.func30, Try.ntmps30
  go_wp2_with fail
  all_goals go_ret
  all_goals exact ⟨by first | rfl | simp [*], by repeat (first | (with_reducible exact Below.refl _ _) | (with_reducible refine bl_alloc ?_ _) | (with_reducible refine Below.drew ?_) | (with_reducible refine bl_drewN ?_ _) | (with_reducible refine bl_set ?_ (by omega) _) | (with_reducible refine bl_step ?_ (by assumption)))⟩
set_option maxHeartbeats 6400000 in
set_option maxRecDepth 100000 in
theorem same_yes (A B : Ly) (w : World) (hA : Lst w A) (hB : Lst w B) (e0 : (A.kd == B.kd) = true) (e1 : (A.wt == B.wt) = true) (e2 : (A.k == B.k) = true) (e3 : ∀ w, (Op.equalIn 10000 40 (win A.r A.s A.sy A.sx A.t A.l A.b A.q) (win B.r B.s B.sy B.sx B.t B.l B.b B.q)).run Try.prog w = .ok true w) (e4 : (A.bd == B.bd) = true) : Calls Try.prog 30 #[lyv A, lyv B] w fun e w' => e = .returned (.bool (decide (wtsE A B) && (decide (nmsE A B) && decide (bisE A B)))) ∧ Below w.heap.size w w' := by
  have HA := hid1 hA
  have HB := hid1 hB
  have C5 := fun X hA hB => sleqW_any A B X hA hB
  have C6 := fun X hA hB => sleqN_any A B X hA hB
  have C7 := fun X hA hB => sleqB_any A B X hA hB
  clear hA hB
  go_enter Try.func30, Try.ntmps30
  go_wp2_with fail
  refine gen_calls (fun X => L2 w X A B) ⟨by repeat (first | (with_reducible exact Below.refl _ _) | (with_reducible refine bl_alloc ?_ _) | (with_reducible refine Below.drew ?_) | (with_reducible refine bl_drewN ?_ _) | (with_reducible refine bl_set ?_ (by omega) _) | (with_reducible refine bl_step ?_ (by assumption))), (lp_new _ _ _).keep (bl_alloc (Below.refl _ _) _), by first | exact lp_new _ _ _ | (have := lp_new (w.alloc (lyo A)) B 45; simpa using this)⟩ ?_
  clear e0 e1 e2 e3 e4
  rintro X hX
  have HX := hid1 hX
  clear hX
  refine (C5 _ (HA.out.keep HX.out.1) (HB.out.keep HX.out.1)).mono ?_
  rintro e w5 ⟨rfl, hb⟩
  replace HX := hid1 (HX.out.keep hb)
  clear hb
  obtain ⟨_, _, _, _, _, _, _, _, _, _, _, _, a12, a13, a14⟩ := HX.out.2.1
  obtain ⟨_, _, _, _, _, _, _, _, _, _, _, _, b12, b13, b14⟩ := HX.out.2.2
  clear C5
  generalize h5 : decide (wtsE A B) = b5
  have H5 := hid1 h5
  clear h5
  cases b5
  · go_wp2_with fail
    all_goals go_ret
    all_goals exact ⟨by rw [H5.out]; rfl, HX.out.1⟩
  go_wp2_with fail
  clear a12 a13 a14 b12 b13 b14
  refine (C6 _ (HA.out.keep HX.out.1) (HB.out.keep HX.out.1)).mono ?_
  rintro e w6 ⟨rfl, hb⟩
  replace HX := hid1 (HX.out.keep hb)
  clear hb
  obtain ⟨_, _, _, _, _, _, _, _, _, _, _, _, a12, a13, a14⟩ := HX.out.2.1
  obtain ⟨_, _, _, _, _, _, _, _, _, _, _, _, b12, b13, b14⟩ := HX.out.2.2
  clear C6
  generalize h6 : decide (nmsE A B) = b6
  have H6 := hid1 h6
  clear h6
  cases b6
  · go_wp2_with fail
    all_goals go_ret
    all_goals exact ⟨by rw [H5.out, H6.out]; rfl, HX.out.1⟩
  go_wp2_with fail
  clear a12 a13 a14 b12 b13 b14
  refine (C7 _ (HA.out.keep HX.out.1) (HB.out.keep HX.out.1)).mono ?_
  rintro e w7 ⟨rfl, hb⟩
  replace HX := hid1 (HX.out.keep hb)
  clear hb
  obtain ⟨_, _, _, _, _, _, _, _, _, _, _, _, a12, a13, a14⟩ := HX.out.2.1
  obtain ⟨_, _, _, _, _, _, _, _, _, _, _, _, b12, b13, b14⟩ := HX.out.2.2
  clear C7
  generalize h7 : decide (bisE A B) = b7
  have H7 := hid1 h7
  clear h7
  go_wp2_with fail
  all_goals go_ret
  all_goals exact ⟨by rw [H5.out, H6.out, H7.out]; rfl, HX.out.1⟩
theorem same_any (A B : Ly) (w : World) (hA : Lst w A) (hB : Lst w B) : Calls Try.prog 30 #[lyv A, lyv B] w fun e w' => e = .returned (.bool (decide (lyE A B))) ∧ Below w.heap.size w w' := by
  by_cases h0 : A.kd = B.kd
  · have e0 : (A.kd == B.kd) = true := by simp [h0]
    by_cases h1 : A.wt = B.wt
    · have e1 : (A.wt == B.wt) = true := by simp [h1]
      by_cases h2 : A.k = B.k
      · have e2 : (A.k == B.k) = true := by simp [h2]
        by_cases h3 : wnE A B
        · have e3 : ∀ w, _ := fun w => (win_eqlN A B w).trans (by rw [decide_eq_true h3])
          by_cases h4 : A.bd = B.bd
          · have e4 : (A.bd == B.bd) = true := by simp [h4]
            have q : decide (lyE A B) = (decide (wtsE A B) && (decide (nmsE A B) && decide (bisE A B))) := by
              by_cases h : lyE A B
              · rw [decide_eq_true h, decide_eq_true (lyE_to h).2.2.2.2.2.1, decide_eq_true (lyE_to h).2.2.2.2.2.2.1, decide_eq_true (lyE_to h).2.2.2.2.2.2.2]; rfl
              · rw [decide_eq_false h]
                by_cases h5 : wtsE A B
                · by_cases h6 : nmsE A B
                  · by_cases h7 : bisE A B
                    · exact absurd (lyE_of h0 h1 h2 h3 h4 h5 h6 h7) h
                    · simp [h7]
                  · simp [h6]
                · simp [h5]
            rw [q]
            exact same_yes A B w hA hB e0 e1 e2 e3 e4
          · rw [decide_eq_false (fun h : lyE A B => h4 (lyE_to h).2.2.2.2.1)]
            exact same_no4 A B w e0 e1 e2 e3 (by simpa using h4)
        · rw [decide_eq_false (fun h : lyE A B => h3 (lyE_to h).2.2.2.1)]
          exact same_no3 A B w e0 e1 e2 (fun w => (win_eqlN A B w).trans (by rw [decide_eq_false h3]))
      · rw [decide_eq_false (fun h : lyE A B => h2 (lyE_to h).2.2.1)]
        exact same_no2 A B w e0 e1 (by simpa using h2)
    · rw [decide_eq_false (fun h : lyE A B => h1 (lyE_to h).2.1)]
      exact same_no1 A B w e0 (by simpa using h1)
  · rw [decide_eq_false (fun h : lyE A B => h0 (lyE_to h).1)]
    exact same_no0 A B w  (by simpa using h0)
end Go.Proofs.Ytkodihmjjiadnaa.Nn
/- NETWORKS: ANY TWO HELD AGAINST EACH OTHER (slices.EqualFunc, net.Equal). -/
namespace Go.Proofs.Ytkodihmjjiadnaa.Nn
open Go.RowKit

def lsE (M N : Nt) : Prop := M.ml = N.ml ∧ ∀ j, j < M.ml → lyE (M.lf j) (N.lf j)
instance (M N : Nt) : Decidable (lsE M N) := by unfold lsE; infer_instance
set_option maxHeartbeats 6400000 in
set_option maxRecDepth 100000 in
theorem eqf_any (M N : Nt) (w : World) (hM : NtW w M) (hN : NtW w N) : Calls Try.prog 29 #[.slice M.al M.ml M.cl, .slice N.al N.ml N.cl, fv 30] w fun e w' => e = .returned (.bool (decide (lsE M N))) ∧ Below w.heap.size w w' := by
  by_cases h : M.ml = N.ml
  · have e0 : ((M.ml : Int) != (N.ml : Int)) = false := by simp [h]
    have HM := hid1 hM
    have HN := hid1 hN
    have H2 := hid1 h
    have m1 := hM.2.1
    clear hM hN h
    go_enter Try.func29, Try.ntmps29
    go_wp2_with fail
    go_loopw [17] (fun i wr => ∃ k : Nat, k ≤ M.ml ∧ i = .int .i64 k ∧ Hid (∀ j, j < k → lyE (M.lf j) (N.lf j)) ∧ Hid (Below w.heap.size w wr)) (fun i _ => M.ml - (intOf i).toNat)
    case atStart => exact ⟨0, Nat.zero_le _, rfl, hid1 fun j hj => absurd hj (by omega), hid1 (by repeat (first | (with_reducible exact Below.refl _ _) | (with_reducible refine bl_alloc ?_ _) | (with_reducible refine Below.drew ?_) | (with_reducible refine bl_drewN ?_ _) | (with_reducible refine bl_set ?_ (by omega) _) | (with_reducible refine bl_step ?_ (by assumption))))⟩
    case round =>
      clear e0
      obtain ⟨k, hk, rfl, HQ, HX⟩ := hrel
      have ik0 : (0 : Int) ≤ (k : Int) := by omega
      by_cases hlt : k < M.ml
      · have ik : (k : Int) < (M.ml : Int) := by omega
        have ik' : (k : Int) < (N.ml : Int) := by have := H2.out; omega
        obtain ⟨g, o, ea, hc, ha⟩ := (HM.out.keep HX.out).1 k hlt
        obtain ⟨g', o', eb, hd, hb⟩ := (HN.out.keep HX.out).1 k (by have := H2.out; omega)
        have HLA := hid1 ha
        have HLB := hid1 hb
        have HCA := hid1 hc
        have HCB := hid1 hd
        have HS : Hid (lyE (M.lf k) (N.lf k) → ∀ j, j < k + 1 → lyE (M.lf j) (N.lf j)) := hid1 fun h => all_more HQ.out h rfl
        have HF : Hid (¬ lyE (M.lf k) (N.lf k) → ¬ lsE M N) := hid1 fun h h' => h (h'.2 k hlt)
        clear hc hd ha hb
        generalize M.lf k = A at *
        generalize N.lf k = B at *
        obtain ⟨b1, hb1⟩ : ∃ x, wr.heap.size = x := ⟨_, rfl⟩
        obtain ⟨c0, c1, c2, c3, c4, c5, c6, c7, c8, c9, c10, c11, c12, c13, c14⟩ := HCA.out
        go_upto_region 6 with fail
        clear c0 c1 c2 c3 c4 c5 c6 c7 c8 c9 c10 c11 c12 c13 c14
        refine gen_world (fun X => Below wr.heap.size wr X ∧ Lp X b1 A ∧ X.heap.size = b1 + 1) ⟨by repeat (first | (with_reducible exact Below.refl _ _) | (with_reducible refine bl_alloc ?_ _) | (with_reducible refine Below.drew ?_) | (with_reducible refine bl_drewN ?_ _) | (with_reducible refine bl_set ?_ (by omega) _) | (with_reducible refine bl_step ?_ (by assumption))), lp_new' hb1 A _, by simp [hb1]⟩ ?_
        rintro V ⟨BV, LV, zV⟩
        have KA := hid1 LV
        clear LV
        obtain ⟨c0, c1, c2, c3, c4, c5, c6, c7, c8, c9, c10, c11, c12, c13, c14⟩ := (show Lc V g' (o' + k * 15) B from by
          obtain ⟨c0, c1, c2, c3, c4, c5, c6, c7, c8, c9, c10, c11, c12, c13, c14⟩ := HCB.out
          exact ⟨keepc BV c0, keepc BV c1, keepc BV c2, keepc BV c3, keepc BV c4, keepc BV c5, keepc BV c6, keepc BV c7, keepc BV c8, keepc BV c9, keepc BV c10, keepc BV c11, keepc BV c12, keepc BV c13, keepc BV c14⟩)
        go_upto_region 7 with fail
        clear c0 c1 c2 c3 c4 c5 c6 c7 c8 c9 c10 c11 c12 c13 c14
        refine gen_world (fun X => Below wr.heap.size wr X ∧ Lp X b1 A ∧ Lp X (b1 + 1) B) ⟨bl_step BV (by repeat (first | (with_reducible exact Below.refl _ _) | (with_reducible refine bl_alloc ?_ _) | (with_reducible refine Below.drew ?_) | (with_reducible refine bl_drewN ?_ _) | (with_reducible refine bl_set ?_ (by omega) _) | (with_reducible refine bl_step ?_ (by assumption)))), KA.out.keep (by repeat (first | (with_reducible exact Below.refl _ _) | (with_reducible refine bl_alloc ?_ _) | (with_reducible refine Below.drew ?_) | (with_reducible refine bl_drewN ?_ _) | (with_reducible refine bl_set ?_ (by omega) _) | (with_reducible refine bl_step ?_ (by assumption)))), lp_new' zV B _⟩ ?_
        clear BV zV KA
        clear ea eb
        rintro Y ⟨BY, LA, LB⟩
        obtain ⟨c0, c1, c2, c3, c4, c5, c6, c7, c8, c9, c10, c11, c12, c13, c14⟩ := LA
        obtain ⟨d0, d1, d2, d3, d4, d5, d6, d7, d8, d9, d10, d11, d12, d13, d14⟩ := LB
        go_wp2_with fail
        refine (same_any A B _ (HLA.out.keep BY) (HLB.out.keep BY)).mono ?_
        rintro e y ⟨rfl, hy⟩
        clear c0 c1 c2 c3 c4 c5 c6 c7 c8 c9 c10 c11 c12 c13 c14 d0 d1 d2 d3 d4 d5 d6 d7 d8 d9 d10 d11 d12 d13 d14
        generalize hq : decide (lyE A B) = q
        cases q
        · have HK := hid1 (HF.out (of_decide_eq_false hq))
          clear hq
          go_wp2_with fail
          go_ret
          exact ⟨by rw [decide_eq_false HK.out]; rfl, bl_step HX.out (bl_step BY hy)⟩
        · have HK := hid1 (HS.out (of_decide_eq_true hq))
          clear hq
          go_wp2_with fail
          go_roundw
          case rel => exact ⟨k + 1, by omega, by go_num, hid1 HK.out, hid1 (bl_step HX.out (bl_step BY hy))⟩
          case measure => simp [intOf]; omega
      · have hkm : k = M.ml := by omega
        subst hkm
        go_wp2_with fail
        go_ret
        exact ⟨by rw [decide_eq_true (show lsE M N from ⟨H2.out, HQ.out⟩)]; rfl, HX.out⟩
  · have e0 : ((M.ml : Int) != (N.ml : Int)) = true := by simp; omega
    rw [decide_eq_false (fun q : lsE M N => h q.1)]
    clear hM hN h
    go_enter Try.func29, Try.ntmps29
    go_wp2_with fail
    go_ret
    exact ⟨by first | rfl | simp [*], by repeat (first | (with_reducible exact Below.refl _ _) | (with_reducible refine bl_alloc ?_ _) | (with_reducible refine Below.drew ?_) | (with_reducible refine bl_drewN ?_ _) | (with_reducible refine bl_set ?_ (by omega) _) | (with_reducible refine bl_step ?_ (by assumption)))⟩
set_option maxHeartbeats 1600000 in
set_option maxRecDepth 100000 in
theorem nEq_no0 (M N : Nt) (w : World) (e0 : (M.nm.toList == N.nm.toList) = false) : Calls Try.prog 13 #[ntv M, ntv N] w fun e w' => e = .returned (.bool false) ∧ Below w.heap.size w w' := by
  go_enter Try.func13, Try.ntmps13
  go_wp2_with fail
  all_goals go_ret
  all_goals exact ⟨by first | rfl | simp [*], by repeat (first | (with_reducible exact Below.refl _ _) | (with_reducible refine bl_alloc ?_ _) | (with_reducible refine Below.drew ?_) | (with_reducible refine bl_drewN ?_ _) | (with_reducible refine bl_set ?_ (by omega) _) | (with_reducible refine bl_step ?_ (by assumption)))⟩
set_option maxHeartbeats 1600000 in
set_option maxRecDepth 100000 in
theorem nEq_no1 (M N : Nt) (w : World) (e0 : (M.nm.toList == N.nm.toList) = true) (e1 : ∀ w, (Op.equalIn 10000 25 (shp M.h M.v M.c) (shp N.h N.v N.c)).run Try.prog w = .ok false w) : Calls Try.prog 13 #[ntv M, ntv N] w fun e w' => e = .returned (.bool false) ∧ Below w.heap.size w w' := by
  go_enter Try.func13, Try.ntmps13
  go_wp2_with fail
  all_goals go_ret
  all_goals exact ⟨by first | rfl | simp [*], by repeat (first | (with_reducible exact Below.refl _ _) | (with_reducible refine bl_alloc ?_ _) | (with_reducible refine Below.drew ?_) | (with_reducible refine bl_drewN ?_ _) | (with_reducible refine bl_set ?_ (by omega) _) | (with_reducible refine bl_step ?_ (by assumption)))⟩
set_option maxHeartbeats 3200000 in
set_option maxRecDepth 100000 in
theorem nEq_yes (M N : Nt) (w : World) (hM : NtW w M) (hN : NtW w N) (e0 : (M.nm.toList == N.nm.toList) = true) (e1 : ∀ w, (Op.equalIn 10000 25 (shp M.h M.v M.c) (shp N.h N.v N.c)).run Try.prog w = .ok true w) : Calls Try.prog 13 #[ntv M, ntv N] w fun e w' => e = .returned (.bool (decide (lsE M N))) ∧ Below w.heap.size w w' := by
  have HM := hid1 hM
  have HN := hid1 hN
  clear hM hN
  go_enter Try.func13, Try.ntmps13
  go_wp2_with fail
  refine gen_calls (fun X => Below w.heap.size w X) (by repeat (first | (with_reducible exact Below.refl _ _) | (with_reducible refine bl_alloc ?_ _) | (with_reducible refine Below.drew ?_) | (with_reducible refine bl_drewN ?_ _) | (with_reducible refine bl_set ?_ (by omega) _) | (with_reducible refine bl_step ?_ (by assumption)))) ?_
  clear e0 e1
  rintro X BX
  refine (eqf_any M N X (HM.out.keep BX) (HN.out.keep BX)).mono ?_
  rintro e y ⟨rfl, hy⟩
  replace BX := bl_step BX hy
  clear hy
  go_wp2_with fail
  all_goals go_ret
  all_goals exact ⟨by first | rfl | simp [*], BX⟩
theorem nEq_any (M N : Nt) (w : World) (hM : NtW w M) (hN : NtW w N) : Calls Try.prog 13 #[ntv M, ntv N] w fun e w' => e = .returned (.bool (decide (ntE M N))) ∧ Below w.heap.size w w' := by
  by_cases h0 : M.nm.toList = N.nm.toList
  · have e0 : (M.nm.toList == N.nm.toList) = true := by simpa using h0
    by_cases h1 : inE M N
    · have e1 : ∀ w, _ := fun w => (shp_eqlN M N w).trans (by rw [decide_eq_true h1])
      have q : decide (ntE M N) = decide (lsE M N) := by
        by_cases h : lsE M N
        · rw [decide_eq_true h, decide_eq_true (show ntE M N from ⟨h0, h1, h.1, h.2⟩)]
        · rw [decide_eq_false h, decide_eq_false (fun h' : ntE M N => h ⟨h'.2.2.1, h'.2.2.2⟩)]
      rw [q]
      exact nEq_yes M N w hM hN e0 e1
    · rw [decide_eq_false (fun h : ntE M N => h1 h.2.1)]
      exact nEq_no1 M N w e0 (fun w => (shp_eqlN M N w).trans (by rw [decide_eq_false h1]))
  · rw [decide_eq_false (fun h : ntE M N => h0 h.1)]
    exact nEq_no0 M N w (by simpa using h0)
end Go.Proofs.Ytkodihmjjiadnaa.Nn
/- NETWORKS: A LIST'S COPY (slices.Clone), AT THE FOUR TYPES OF A NETWORK'S LISTS. -/
namespace Go.Proofs.Ytkodihmjjiadnaa.Nn
open Go.RowKit

/-- The cells of a list lie behind each other. -/
def Lay (W : World) (g o : Nat) (xs : List Value) : Prop := ∀ j u, xs[j]? = some u → W.cell? ⟨g, o + j, none⟩ = some u
theorem Lay.keep {W X : World} {g o : Nat} {xs : List Value} (h : Lay W g o xs) (hb : Below W.heap.size W X) : Lay X g o xs := fun j u hu => keepc hb (h j u hu)
theorem Lay.add {W : World} {g o : Nat} {xs : List Value} (h : Lay W g o xs) : ∀ j u, xs[j]? = some u → W.cell? ((⟨g, o, none⟩ : Addr).add j) = some u := fun j u hu => by
  have c := h j u hu
  by_cases e : j = 0
  · subst e; simpa [Addr.add] using c
  · simpa [Addr.add, e] using c
/-- The same, behind any address. -/
def LayA (W : World) (ad : Addr) (xs : List Value) : Prop := ∀ j u, xs[j]? = some u → W.cell? (ad.add j) = some u
theorem LayA.alloc {W : World} {ad : Addr} {xs : List Value} (h : LayA W ad xs) (ob : Obj) : LayA (W.alloc ob) ad xs := fun j u hu => (World.cell?_alloc_some W _ ob (by rw [h j u hu]; rfl)).trans (h j u hu)
def zLy : Value := .agg #[.int .i64 0, .int .i64 0, .int .i64 0, .int .i64 0, .int .i64 0, .int .i64 0, .int .i64 0, .int .i64 0, .int .i64 0, .int .i64 0, .int .i64 0, .int .i64 0, .slice none 0 0, .slice none 0 0, .slice none 0 0]
def zNm : Value := .agg #[.int .i64 0, .int .i64 0, .int .i64 0, .int .i64 0, .int .i64 0, .int .i64 0, .int .i64 0, .int .i64 0]
theorem cundW : Try.prog.underlying 41 = some (.slice 49) := by kernel_rfl
theorem cinfW : (Try.prog.info? 49).map (fun i => (i.zero, i.size, i.bytes)) = some (some (.int .i8 0), 1, 1) := by kernel_rfl
set_option maxRecDepth 100000 in
theorem cloneW_nil (cap : Nat) (w : World) : Calls Try.prog 26 #[.slice none 0 cap] w fun e w' => e = .returned (.slice none 0 0) ∧ Below w.heap.size w w' := by
  have hnil : ∀ w, (binOp .eql 41 (.slice none 0 cap) (.slice none 0 0)).run Try.prog w = .ok (.bool true) w := fun w => Go.Lib.run_eql_slice_nil w 41 49 none 0 cap 0 0 cundW
  go_enter Try.func26, Try.ntmps26
  go_wp2_with fail
  go_ret
  exact ⟨by first | rfl | simp [*], by repeat (first | (with_reducible exact Below.refl _ _) | (with_reducible refine bl_alloc ?_ _) | (with_reducible refine Below.drew ?_) | (with_reducible refine bl_drewN ?_ _) | (with_reducible refine bl_set ?_ (by omega) _) | (with_reducible refine bl_step ?_ (by assumption)))⟩
set_option maxHeartbeats 1600000 in
set_option maxRecDepth 100000 in
theorem cloneW_at (ad : Addr) (m cap : Nat) (xs : List Value) (w : World) (hl : xs.length = m * 1) (h1 : ∀ u ∈ xs, u.oneCell' = true) (hm : m * 1 ≤ 140737488355328) (rd : LayA w ad xs) :
    Calls Try.prog 26 #[.slice (some ad) m cap] w fun e w' => ∃ G K, e = .returned (.slice (some ⟨G, 0, none⟩) m K) ∧ w.heap.size ≤ G ∧ w'.ownsRow w.heap.size 49 1 (.slice (some ⟨G, 0, none⟩) m K) m xs ∧ Below w.heap.size w w' := by
  obtain ⟨i0, hi, hz0, hz1, hz2⟩ := info_parts cinfW
  have RD := hid1 rd
  have H1 := hid1 h1
  clear rd h1
  have hnil : ∀ w, (binOp .eql 41 (.slice (some ad) m cap) (.slice none 0 0)).run Try.prog w = .ok (.bool false) w := fun w => Go.Lib.run_eql_slice_nil w 41 49 (some ad) m cap 0 0 cundW
  go_enter Try.func26, Try.ntmps26
  have hempty : (w.alloc (.cells #[] 49)).ownsRow w.heap.size 49 1 (.slice (some ⟨w.heap.size, 0, none⟩) 0 0) 0 [] :=
    ⟨rfl, .inr ⟨w.heap.size, 0, #[], rfl, Nat.le_refl _, new_block _ _, Nat.le_refl _, by unfold maxLen; omega, rfl, rfl⟩⟩
  have HE := hid1 hempty
  have HN := hid1 (RD.out.alloc (.cells #[] 49))
  clear hempty
  go_wp2_with (at_builtin; refine wpList_append_own (w.alloc (.cells #[] 49)) rfl _ _ _ rfl w.heap.size 49 i0 (.int .i8 0) 1 1 cundW hi hz0 hz1 hz2 rfl (by decide) (.slice (some ⟨w.heap.size, 0, none⟩) 0 0) 0 [] (by go_simp) HE.out ad m cap xs (by go_simp) hl HN.out H1.out (by unfold maxLen; omega) (by omega) (by simp) ?_; intro v' w' k1 k2 k3)
  rw [Nat.zero_add, List.nil_append] at k1
  go_ret
  rcases k1.2 with ⟨e1, e0⟩ | ⟨G, K, cur, rfl, hG, hb, hK, hK2, _, _⟩
  · exact absurd (k3.1 e1).1 (by simp)
  · exact ⟨G, K, rfl, hG, k1, (bl_alloc (Below.refl _ _) _).grown k2 (by simp) (fun j e => by cases e; exact Nat.le_refl _)⟩
theorem cloneW_any (g o m cap : Nat) (xs : List Value) (w : World) (hl : xs.length = m * 1) (h1 : ∀ u ∈ xs, u.oneCell' = true) (hm : m * 1 ≤ 140737488355328) (rd : Lay w g o xs) :
    Calls Try.prog 26 #[.slice (some ⟨g, o, none⟩) m cap] w fun e w' => ∃ G K, e = .returned (.slice (some ⟨G, 0, none⟩) m K) ∧ w.heap.size ≤ G ∧ w'.ownsRow w.heap.size 49 1 (.slice (some ⟨G, 0, none⟩) m K) m xs ∧ Below w.heap.size w w' := cloneW_at ⟨g, o, none⟩ m cap xs w hl h1 hm rd.add
theorem cundN : Try.prog.underlying 42 = some (.slice 71) := by kernel_rfl
theorem cinfN : (Try.prog.info? 71).map (fun i => (i.zero, i.size, i.bytes)) = some (some zNm, 8, 64) := by kernel_rfl
set_option maxRecDepth 100000 in
theorem cloneN_nil (cap : Nat) (w : World) : Calls Try.prog 27 #[.slice none 0 cap] w fun e w' => e = .returned (.slice none 0 0) ∧ Below w.heap.size w w' := by
  have hnil : ∀ w, (binOp .eql 42 (.slice none 0 cap) (.slice none 0 0)).run Try.prog w = .ok (.bool true) w := fun w => Go.Lib.run_eql_slice_nil w 42 71 none 0 cap 0 0 cundN
  go_enter Try.func27, Try.ntmps27
  go_wp2_with fail
  go_ret
  exact ⟨by first | rfl | simp [*], by repeat (first | (with_reducible exact Below.refl _ _) | (with_reducible refine bl_alloc ?_ _) | (with_reducible refine Below.drew ?_) | (with_reducible refine bl_drewN ?_ _) | (with_reducible refine bl_set ?_ (by omega) _) | (with_reducible refine bl_step ?_ (by assumption)))⟩
set_option maxHeartbeats 1600000 in
set_option maxRecDepth 100000 in
theorem cloneN_at (ad : Addr) (m cap : Nat) (xs : List Value) (w : World) (hl : xs.length = m * 8) (h1 : ∀ u ∈ xs, u.oneCell' = true) (hm : m * 64 ≤ 140737488355328) (rd : LayA w ad xs) :
    Calls Try.prog 27 #[.slice (some ad) m cap] w fun e w' => ∃ G K, e = .returned (.slice (some ⟨G, 0, none⟩) m K) ∧ w.heap.size ≤ G ∧ w'.ownsRow w.heap.size 71 8 (.slice (some ⟨G, 0, none⟩) m K) m xs ∧ Below w.heap.size w w' := by
  obtain ⟨i0, hi, hz0, hz1, hz2⟩ := info_parts cinfN
  have RD := hid1 rd
  have H1 := hid1 h1
  clear rd h1
  have hnil : ∀ w, (binOp .eql 42 (.slice (some ad) m cap) (.slice none 0 0)).run Try.prog w = .ok (.bool false) w := fun w => Go.Lib.run_eql_slice_nil w 42 71 (some ad) m cap 0 0 cundN
  go_enter Try.func27, Try.ntmps27
  have hempty : (w.alloc (.cells #[] 71)).ownsRow w.heap.size 71 8 (.slice (some ⟨w.heap.size, 0, none⟩) 0 0) 0 [] :=
    ⟨rfl, .inr ⟨w.heap.size, 0, #[], rfl, Nat.le_refl _, new_block _ _, Nat.le_refl _, by unfold maxLen; omega, rfl, rfl⟩⟩
  have HE := hid1 hempty
  have HN := hid1 (RD.out.alloc (.cells #[] 71))
  clear hempty
  go_wp2_with (at_builtin; refine wpList_append_own (w.alloc (.cells #[] 71)) rfl _ _ _ rfl w.heap.size 71 i0 zNm 8 64 cundN hi hz0 hz1 hz2 rfl (by decide) (.slice (some ⟨w.heap.size, 0, none⟩) 0 0) 0 [] (by go_simp) HE.out ad m cap xs (by go_simp) hl HN.out H1.out (by unfold maxLen; omega) (by omega) (by simp) ?_; intro v' w' k1 k2 k3)
  rw [Nat.zero_add, List.nil_append] at k1
  go_ret
  rcases k1.2 with ⟨e1, e0⟩ | ⟨G, K, cur, rfl, hG, hb, hK, hK2, _, _⟩
  · exact absurd (k3.1 e1).1 (by simp)
  · exact ⟨G, K, rfl, hG, k1, (bl_alloc (Below.refl _ _) _).grown k2 (by simp) (fun j e => by cases e; exact Nat.le_refl _)⟩
theorem cloneN_any (g o m cap : Nat) (xs : List Value) (w : World) (hl : xs.length = m * 8) (h1 : ∀ u ∈ xs, u.oneCell' = true) (hm : m * 64 ≤ 140737488355328) (rd : Lay w g o xs) :
    Calls Try.prog 27 #[.slice (some ⟨g, o, none⟩) m cap] w fun e w' => ∃ G K, e = .returned (.slice (some ⟨G, 0, none⟩) m K) ∧ w.heap.size ≤ G ∧ w'.ownsRow w.heap.size 71 8 (.slice (some ⟨G, 0, none⟩) m K) m xs ∧ Below w.heap.size w w' := cloneN_at ⟨g, o, none⟩ m cap xs w hl h1 hm rd.add
theorem cundB : Try.prog.underlying 43 = some (.slice 2) := by kernel_rfl
theorem cinfB : (Try.prog.info? 2).map (fun i => (i.zero, i.size, i.bytes)) = some (some (.int .i64 0), 1, 8) := by kernel_rfl
set_option maxRecDepth 100000 in
theorem cloneB_nil (cap : Nat) (w : World) : Calls Try.prog 28 #[.slice none 0 cap] w fun e w' => e = .returned (.slice none 0 0) ∧ Below w.heap.size w w' := by
  have hnil : ∀ w, (binOp .eql 43 (.slice none 0 cap) (.slice none 0 0)).run Try.prog w = .ok (.bool true) w := fun w => Go.Lib.run_eql_slice_nil w 43 2 none 0 cap 0 0 cundB
  go_enter Try.func28, Try.ntmps28
  go_wp2_with fail
  go_ret
  exact ⟨by first | rfl | simp [*], by repeat (first | (with_reducible exact Below.refl _ _) | (with_reducible refine bl_alloc ?_ _) | (with_reducible refine Below.drew ?_) | (with_reducible refine bl_drewN ?_ _) | (with_reducible refine bl_set ?_ (by omega) _) | (with_reducible refine bl_step ?_ (by assumption)))⟩
set_option maxHeartbeats 1600000 in
set_option maxRecDepth 100000 in
theorem cloneB_at (ad : Addr) (m cap : Nat) (xs : List Value) (w : World) (hl : xs.length = m * 1) (h1 : ∀ u ∈ xs, u.oneCell' = true) (hm : m * 8 ≤ 140737488355328) (rd : LayA w ad xs) :
    Calls Try.prog 28 #[.slice (some ad) m cap] w fun e w' => ∃ G K, e = .returned (.slice (some ⟨G, 0, none⟩) m K) ∧ w.heap.size ≤ G ∧ w'.ownsRow w.heap.size 2 1 (.slice (some ⟨G, 0, none⟩) m K) m xs ∧ Below w.heap.size w w' := by
  obtain ⟨i0, hi, hz0, hz1, hz2⟩ := info_parts cinfB
  have RD := hid1 rd
  have H1 := hid1 h1
  clear rd h1
  have hnil : ∀ w, (binOp .eql 43 (.slice (some ad) m cap) (.slice none 0 0)).run Try.prog w = .ok (.bool false) w := fun w => Go.Lib.run_eql_slice_nil w 43 2 (some ad) m cap 0 0 cundB
  go_enter Try.func28, Try.ntmps28
  have hempty : (w.alloc (.cells #[] 2)).ownsRow w.heap.size 2 1 (.slice (some ⟨w.heap.size, 0, none⟩) 0 0) 0 [] :=
    ⟨rfl, .inr ⟨w.heap.size, 0, #[], rfl, Nat.le_refl _, new_block _ _, Nat.le_refl _, by unfold maxLen; omega, rfl, rfl⟩⟩
  have HE := hid1 hempty
  have HN := hid1 (RD.out.alloc (.cells #[] 2))
  clear hempty
  go_wp2_with (at_builtin; refine wpList_append_own (w.alloc (.cells #[] 2)) rfl _ _ _ rfl w.heap.size 2 i0 (.int .i64 0) 1 8 cundB hi hz0 hz1 hz2 rfl (by decide) (.slice (some ⟨w.heap.size, 0, none⟩) 0 0) 0 [] (by go_simp) HE.out ad m cap xs (by go_simp) hl HN.out H1.out (by unfold maxLen; omega) (by omega) (by simp) ?_; intro v' w' k1 k2 k3)
  rw [Nat.zero_add, List.nil_append] at k1
  go_ret
  rcases k1.2 with ⟨e1, e0⟩ | ⟨G, K, cur, rfl, hG, hb, hK, hK2, _, _⟩
  · exact absurd (k3.1 e1).1 (by simp)
  · exact ⟨G, K, rfl, hG, k1, (bl_alloc (Below.refl _ _) _).grown k2 (by simp) (fun j e => by cases e; exact Nat.le_refl _)⟩
theorem cloneB_any (g o m cap : Nat) (xs : List Value) (w : World) (hl : xs.length = m * 1) (h1 : ∀ u ∈ xs, u.oneCell' = true) (hm : m * 8 ≤ 140737488355328) (rd : Lay w g o xs) :
    Calls Try.prog 28 #[.slice (some ⟨g, o, none⟩) m cap] w fun e w' => ∃ G K, e = .returned (.slice (some ⟨G, 0, none⟩) m K) ∧ w.heap.size ≤ G ∧ w'.ownsRow w.heap.size 2 1 (.slice (some ⟨G, 0, none⟩) m K) m xs ∧ Below w.heap.size w w' := cloneB_at ⟨g, o, none⟩ m cap xs w hl h1 hm rd.add
theorem cundL : Try.prog.underlying 26 = some (.slice 45) := by kernel_rfl
theorem cinfL : (Try.prog.info? 45).map (fun i => (i.zero, i.size, i.bytes)) = some (some zLy, 15, 168) := by kernel_rfl
set_option maxRecDepth 100000 in
theorem cloneL_nil (cap : Nat) (w : World) : Calls Try.prog 25 #[.slice none 0 cap] w fun e w' => e = .returned (.slice none 0 0) ∧ Below w.heap.size w w' := by
  have hnil : ∀ w, (binOp .eql 26 (.slice none 0 cap) (.slice none 0 0)).run Try.prog w = .ok (.bool true) w := fun w => Go.Lib.run_eql_slice_nil w 26 45 none 0 cap 0 0 cundL
  go_enter Try.func25, Try.ntmps25
  go_wp2_with fail
  go_ret
  exact ⟨by first | rfl | simp [*], by repeat (first | (with_reducible exact Below.refl _ _) | (with_reducible refine bl_alloc ?_ _) | (with_reducible refine Below.drew ?_) | (with_reducible refine bl_drewN ?_ _) | (with_reducible refine bl_set ?_ (by omega) _) | (with_reducible refine bl_step ?_ (by assumption)))⟩
set_option maxHeartbeats 1600000 in
set_option maxRecDepth 100000 in
theorem cloneL_at (ad : Addr) (m cap : Nat) (xs : List Value) (w : World) (hl : xs.length = m * 15) (h1 : ∀ u ∈ xs, u.oneCell' = true) (hm : m * 168 ≤ 140737488355328) (rd : LayA w ad xs) :
    Calls Try.prog 25 #[.slice (some ad) m cap] w fun e w' => ∃ G K, e = .returned (.slice (some ⟨G, 0, none⟩) m K) ∧ w.heap.size ≤ G ∧ w'.ownsRow w.heap.size 45 15 (.slice (some ⟨G, 0, none⟩) m K) m xs ∧ Below w.heap.size w w' := by
  obtain ⟨i0, hi, hz0, hz1, hz2⟩ := info_parts cinfL
  have RD := hid1 rd
  have H1 := hid1 h1
  clear rd h1
  have hnil : ∀ w, (binOp .eql 26 (.slice (some ad) m cap) (.slice none 0 0)).run Try.prog w = .ok (.bool false) w := fun w => Go.Lib.run_eql_slice_nil w 26 45 (some ad) m cap 0 0 cundL
  go_enter Try.func25, Try.ntmps25
  have hempty : (w.alloc (.cells #[] 45)).ownsRow w.heap.size 45 15 (.slice (some ⟨w.heap.size, 0, none⟩) 0 0) 0 [] :=
    ⟨rfl, .inr ⟨w.heap.size, 0, #[], rfl, Nat.le_refl _, new_block _ _, Nat.le_refl _, by unfold maxLen; omega, rfl, rfl⟩⟩
  have HE := hid1 hempty
  have HN := hid1 (RD.out.alloc (.cells #[] 45))
  clear hempty
  go_wp2_with (at_builtin; refine wpList_append_own (w.alloc (.cells #[] 45)) rfl _ _ _ rfl w.heap.size 45 i0 zLy 15 168 cundL hi hz0 hz1 hz2 rfl (by decide) (.slice (some ⟨w.heap.size, 0, none⟩) 0 0) 0 [] (by go_simp) HE.out ad m cap xs (by go_simp) hl HN.out H1.out (by unfold maxLen; omega) (by omega) (by simp) ?_; intro v' w' k1 k2 k3)
  rw [Nat.zero_add, List.nil_append] at k1
  go_ret
  rcases k1.2 with ⟨e1, e0⟩ | ⟨G, K, cur, rfl, hG, hb, hK, hK2, _, _⟩
  · exact absurd (k3.1 e1).1 (by simp)
  · exact ⟨G, K, rfl, hG, k1, (bl_alloc (Below.refl _ _) _).grown k2 (by simp) (fun j e => by cases e; exact Nat.le_refl _)⟩
theorem cloneL_any (g o m cap : Nat) (xs : List Value) (w : World) (hl : xs.length = m * 15) (h1 : ∀ u ∈ xs, u.oneCell' = true) (hm : m * 168 ≤ 140737488355328) (rd : Lay w g o xs) :
    Calls Try.prog 25 #[.slice (some ⟨g, o, none⟩) m cap] w fun e w' => ∃ G K, e = .returned (.slice (some ⟨G, 0, none⟩) m K) ∧ w.heap.size ≤ G ∧ w'.ownsRow w.heap.size 45 15 (.slice (some ⟨G, 0, none⟩) m K) m xs ∧ Below w.heap.size w w' := cloneL_at ⟨g, o, none⟩ m cap xs w hl h1 hm rd.add
end Go.Proofs.Ytkodihmjjiadnaa.Nn
/- NETWORKS: THE COPIES OF A LAYER'S LISTS. -/
namespace Go.Proofs.Ytkodihmjjiadnaa.Nn
open Go.RowKit

/-- The cells of a list, by their places. -/
def cl (n : Nat) (f : Nat → Value) : List Value := (List.range n).map f
theorem cl_len (n : Nat) (f : Nat → Value) : (cl n f).length = n := by simp [cl]
theorem cl_get {n : Nat} {f : Nat → Value} {j : Nat} {u : Value} (h : (cl n f)[j]? = some u) : j < n ∧ u = f j := by
  unfold cl at h
  rw [List.getElem?_map] at h
  by_cases hj : j < n
  · rw [List.getElem?_range hj] at h
    simp at h
    exact ⟨hj, h.symm⟩
  · rw [List.getElem?_eq_none (by simpa using hj)] at h
    cases h
theorem cl_at {n : Nat} {f : Nat → Value} {j : Nat} (h : j < n) : (cl n f)[j]? = some (f j) := by
  unfold cl
  rw [List.getElem?_map, List.getElem?_range h]; rfl
theorem cl_mem {n : Nat} {f : Nat → Value} {u : Value} (h : u ∈ cl n f) : ∃ j, u = f j := by
  obtain ⟨k, _, rfl⟩ := List.mem_map.1 h
  exact ⟨k, rfl⟩
/-- A list of one cell each that lies anywhere, or is nothing. -/
theorem lay_of {w : World} {ad : Addr} {n : Nat} {f : Nat → Value} (h : ∀ j, j < n → ∃ g o, some ad = some (⟨g, o, none⟩ : Addr) ∧ w.cell? ⟨g, o + j, none⟩ = some (f j)) : LayA w ad (cl n f) := fun j u hu => by
  obtain ⟨hj, rfl⟩ := cl_get hu
  obtain ⟨g, o, e, c⟩ := h j hj
  cases e
  by_cases e : j = 0
  · subst e; simpa [Addr.add] using c
  · simpa [Addr.add, e] using c
theorem cloneW_ly (L : Ly) (w : World) (hL : Lst w L) (hm : L.mw ≤ 140737488355328) : Calls Try.prog 26 #[.slice L.aw L.mw L.cw] w fun e w' => ∃ a c, e = .returned (.slice a L.mw c) ∧ (∀ j, j < L.mw → ∃ g, a = some ⟨g, 0, none⟩ ∧ w.heap.size ≤ g ∧ w'.cell? ⟨g, j, none⟩ = some (.int .i8 (L.ws j))) ∧ Below w.heap.size w w' := by
  have hW := hL.1
  unfold Wts at hW
  cases ha : L.aw with
  | none =>
    have h0 : L.mw = 0 := by
      by_cases h : L.mw = 0
      · exact h
      · obtain ⟨g, o, e, _⟩ := hW 0 (by omega)
        rw [ha] at e; cases e
    rw [h0]
    refine (cloneW_nil L.cw w).mono ?_
    rintro e w' ⟨rfl, hb⟩
    exact ⟨none, 0, rfl, fun j hj => absurd hj (by omega), hb⟩
  | some ad =>
    rw [ha] at hW
    refine (cloneW_at ad L.mw L.cw (cl L.mw fun j => .int .i8 (L.ws j)) w (by rw [cl_len]; omega) (fun u hu => by obtain ⟨j, rfl⟩ := cl_mem hu; rfl) (by omega) (lay_of hW)).mono ?_
    rintro e w' ⟨G, K, rfl, hG, ow, hb⟩
    exact ⟨_, _, rfl, fun j hj => ⟨G, rfl, hG, by rw [ow.cellAt j (by omega), cl_at hj]⟩, hb⟩
theorem cloneB_ly (L : Ly) (w : World) (hL : Lst w L) (hm : L.mb * 8 ≤ 140737488355328) : Calls Try.prog 28 #[.slice L.ab L.mb L.cb] w fun e w' => ∃ a c, e = .returned (.slice a L.mb c) ∧ (∀ j, j < L.mb → ∃ g, a = some ⟨g, 0, none⟩ ∧ w.heap.size ≤ g ∧ w'.cell? ⟨g, j, none⟩ = some (.int .i64 (L.bs j))) ∧ Below w.heap.size w w' := by
  have hW := hL.2.2.1
  unfold Bss at hW
  cases ha : L.ab with
  | none =>
    have h0 : L.mb = 0 := by
      by_cases h : L.mb = 0
      · exact h
      · obtain ⟨g, o, e, _⟩ := hW 0 (by omega)
        rw [ha] at e; cases e
    rw [h0]
    refine (cloneB_nil L.cb w).mono ?_
    rintro e w' ⟨rfl, hb⟩
    exact ⟨none, 0, rfl, fun j hj => absurd hj (by omega), hb⟩
  | some ad =>
    rw [ha] at hW
    refine (cloneB_at ad L.mb L.cb (cl L.mb fun j => .int .i64 (L.bs j)) w (by rw [cl_len]; omega) (fun u hu => by obtain ⟨j, rfl⟩ := cl_mem hu; rfl) hm (lay_of hW)).mono ?_
    rintro e w' ⟨G, K, rfl, hG, ow, hb⟩
    exact ⟨_, _, rfl, fun j hj => ⟨G, rfl, hG, by rw [ow.cellAt j (by omega), cl_at hj]⟩, hb⟩
/-- A norm's cells, by their places. -/
def nmc (L : Ly) (x : Nat) : Value := .int .i64 (L.ns (x / 8) (x % 8))
theorem nmo_cells {W : World} {g o : Nat} {f : Nat → Int} (h : Nmo W g o (f 0) (f 1) (f 2) (f 3) (f 4) (f 5) (f 6) (f 7)) (i : Nat) (hi : i < 8) : W.cell? ⟨g, o + i, none⟩ = some (.int .i64 (f i)) := by
  obtain ⟨a, b, c, d, e, x, y, z⟩ := h
  rcases (show i = 0 ∨ i = 1 ∨ i = 2 ∨ i = 3 ∨ i = 4 ∨ i = 5 ∨ i = 6 ∨ i = 7 by omega) with rfl | rfl | rfl | rfl | rfl | rfl | rfl | rfl <;> assumption
theorem lay_nms {w : World} {ad : Addr} {L : Ly} (h : ∀ j, j < L.mn → ∃ g o, some ad = some (⟨g, o, none⟩ : Addr) ∧ Nmo w g (o + j * 8) (L.ns j 0) (L.ns j 1) (L.ns j 2) (L.ns j 3) (L.ns j 4) (L.ns j 5) (L.ns j 6) (L.ns j 7)) : LayA w ad (cl (L.mn * 8) (nmc L)) := lay_of fun x hx => by
  obtain ⟨g, o, e, c⟩ := h (x / 8) (by omega)
  refine ⟨g, o, e, ?_⟩
  have := nmo_cells c (x % 8) (by omega)
  rw [show o + x / 8 * 8 + x % 8 = o + x by omega] at this
  exact this
theorem cloneN_ly (L : Ly) (w : World) (hL : Lst w L) (hm : L.mn * 64 ≤ 140737488355328) : Calls Try.prog 27 #[.slice L.an L.mn L.cn] w fun e w' => ∃ a c, e = .returned (.slice a L.mn c) ∧ (∀ j, j < L.mn → ∃ g, a = some ⟨g, 0, none⟩ ∧ w.heap.size ≤ g ∧ Nmo w' g (j * 8) (L.ns j 0) (L.ns j 1) (L.ns j 2) (L.ns j 3) (L.ns j 4) (L.ns j 5) (L.ns j 6) (L.ns j 7)) ∧ Below w.heap.size w w' := by
  have hW := hL.2.1
  unfold Nms at hW
  cases ha : L.an with
  | none =>
    have h0 : L.mn = 0 := by
      by_cases h : L.mn = 0
      · exact h
      · obtain ⟨g, o, e, _⟩ := hW 0 (by omega)
        rw [ha] at e; cases e
    rw [h0]
    refine (cloneN_nil L.cn w).mono ?_
    rintro e w' ⟨rfl, hb⟩
    exact ⟨none, 0, rfl, fun j hj => absurd hj (by omega), hb⟩
  | some ad =>
    rw [ha] at hW
    refine (cloneN_at ad L.mn L.cn (cl (L.mn * 8) (nmc L)) w (by rw [cl_len]) (fun u hu => by obtain ⟨j, rfl⟩ := cl_mem hu; rfl) hm (lay_nms hW)).mono ?_
    rintro e w' ⟨G, K, rfl, hG, ow, hb⟩
    refine ⟨_, _, rfl, fun j hj => ⟨G, rfl, hG, ?_⟩, hb⟩
    have hc : ∀ i, i < 8 → w'.cell? ⟨G, j * 8 + i, none⟩ = some (.int .i64 (L.ns j i)) := fun i hi => by
      rw [ow.cellAt (j * 8 + i) (by omega), cl_at (by omega)]
      unfold nmc
      rw [show (j * 8 + i) / 8 = j by omega, show (j * 8 + i) % 8 = i by omega]
    exact ⟨hc 0 (by omega), hc 1 (by omega), hc 2 (by omega), hc 3 (by omega), hc 4 (by omega), hc 5 (by omega), hc 6 (by omega), hc 7 (by omega)⟩
end Go.Proofs.Ytkodihmjjiadnaa.Nn
/- NETWORKS: A LAYER'S LISTS COPIED (net.Clone's region 5). -/
namespace Go.Proofs.Ytkodihmjjiadnaa.Nn
open Go.RowKit

/-- Where a copy of a list lies. -/
def CpW (X : World) (b : Nat) (L : Ly) (a : Option Addr) : Prop := ∀ j, j < L.mw → ∃ g, a = some ⟨g, 0, none⟩ ∧ b ≤ g ∧ X.cell? ⟨g, j, none⟩ = some (.int .i8 (L.ws j))
def CpN (X : World) (b : Nat) (L : Ly) (a : Option Addr) : Prop := ∀ j, j < L.mn → ∃ g, a = some ⟨g, 0, none⟩ ∧ b ≤ g ∧ Nmo X g (j * 8) (L.ns j 0) (L.ns j 1) (L.ns j 2) (L.ns j 3) (L.ns j 4) (L.ns j 5) (L.ns j 6) (L.ns j 7)
def CpB (X : World) (b : Nat) (L : Ly) (a : Option Addr) : Prop := ∀ j, j < L.mb → ∃ g, a = some ⟨g, 0, none⟩ ∧ b ≤ g ∧ X.cell? ⟨g, j, none⟩ = some (.int .i64 (L.bs j))
def HeC (X : World) (bl : Nat) (L : Ly) : Prop := X.cell? ⟨bl, 12, none⟩ = some (.slice L.aw L.mw L.cw) ∧ X.cell? ⟨bl, 13, none⟩ = some (.slice L.an L.mn L.cn) ∧ X.cell? ⟨bl, 14, none⟩ = some (.slice L.ab L.mb L.cb) ∧ X.frozen? ⟨bl, 12, none⟩ = false ∧ X.frozen? ⟨bl, 13, none⟩ = false ∧ X.frozen? ⟨bl, 14, none⟩ = false
theorem keepf {W w' : World} (hb : Below W.heap.size W w') {b o : Nat} (hlt : b < W.heap.size) (h : W.frozen? ⟨b, o, none⟩ = false) : w'.frozen? ⟨b, o, none⟩ = false := (hb.frozen (p := ⟨b, o, none⟩) hlt).trans h
theorem HeC.keep {W X : World} {bl : Nat} {L : Ly} (h : HeC W bl L) (hb : Below W.heap.size W X) : HeC X bl L :=
  have hl := lt_of_cell h.1
  ⟨keepc hb h.1, keepc hb h.2.1, keepc hb h.2.2.1, keepf hb hl h.2.2.2.1, keepf hb hl h.2.2.2.2.1, keepf hb hl h.2.2.2.2.2⟩
noncomputable def rgC : Code := (Try.f12.body.bind (regionOf 5)).getD .skip
attribute [local go_sem ↓] Go.wp_at_zero Go.wp_at_succ
set_option maxHeartbeats 3200000 in
set_option maxRecDepth 100000 in
theorem step_clone (u0 u1 u2 u3 u5 u6 u7 u8 u9 u10 u11 u12 u13 u14 u15 u16 u17 u18 u19 u20 u21 u22 u23 u24 u25 u26 u27 u28 u29 u30 u31 u32 u33 u34 u35 : Value) (bl : Nat) (L : Ly) (Z : World) (Q : Exit → Act → World → Prop) (hL : Hid (Lst Z L)) (m1 : Hid (L.mw ≤ 140737488355328)) (m2 : Hid (L.mn * 64 ≤ 140737488355328)) (m3 : Hid (L.mb * 8 ≤ 140737488355328)) (hC : Hid (HeC Z bl L))
    (hQ : Hid (∀ X v17 v18 v19 v20 v21 v22 v23 v24 v25 v26 v27 v28 a1 c1 a2 c2 a3 c3, Below Z.heap.size Z X → CpW X Z.heap.size L a1 → CpN X Z.heap.size L a2 → CpB X Z.heap.size L a3 → Q .normal ⟨#[u0, u1, u2, u3, .pointer (some ⟨bl, 0, none⟩), u5, u6, u7, u8, u9, u10, u11, u12, u13, u14, u15, u16, v17, v18, v19, v20, v21, v22, v23, v24, v25, v26, v27, v28, u29, u30, u31, u32, u33, u34, u35], []⟩ (((X.setCell ⟨bl, 12, none⟩ (.slice a1 L.mw c1)).setCell ⟨bl, 13, none⟩ (.slice a2 L.mn c2)).setCell ⟨bl, 14, none⟩ (.slice a3 L.mb c3)))) :
    Code.wp Try.prog rgC Q ⟨#[u0, u1, u2, u3, .pointer (some ⟨bl, 0, none⟩), u5, u6, u7, u8, u9, u10, u11, u12, u13, u14, u15, u16, u17, u18, u19, u20, u21, u22, u23, u24, u25, u26, u27, u28, u29, u30, u31, u32, u33, u34, u35], []⟩ Z := by
  conv => arg 2; whnf
  refine wp_region_noPanic ?_
  have hS := hC.out
  unfold HeC at hS
  obtain ⟨p0, p1, p2, f0, f1, f2⟩ := hS
  go_region_with (first
      | (go_at_call 26; refine (cloneW_ly L _ (hL.out.keep (by repeat (first | (with_reducible exact Below.refl _ _) | (with_reducible refine bl_alloc ?_ _) | (with_reducible refine Below.drew ?_) | (with_reducible refine bl_drewN ?_ _) | (with_reducible refine bl_set ?_ (by omega) _) | (with_reducible refine bl_step ?_ (by assumption))))) m1.out).mono ?_; rintro e x1 ⟨a1, c1, rfl, hw1, hx1⟩; have HW1 := hid1 hw1; clear hw1; have hh1 : HeC x1 bl L := HeC.keep (W := Z) hC.out (by repeat (first | (with_reducible exact Below.refl _ _) | (with_reducible refine bl_alloc ?_ _) | (with_reducible refine Below.drew ?_) | (with_reducible refine bl_drewN ?_ _) | (with_reducible refine bl_set ?_ (by omega) _) | (with_reducible refine bl_step ?_ (by assumption)))); obtain ⟨p10, p11, p12, f10, f11, f12⟩ := hh1)
      | (go_at_call 27; refine (cloneN_ly L _ (hL.out.keep (by repeat (first | (with_reducible exact Below.refl _ _) | (with_reducible refine bl_alloc ?_ _) | (with_reducible refine Below.drew ?_) | (with_reducible refine bl_drewN ?_ _) | (with_reducible refine bl_set ?_ (by omega) _) | (with_reducible refine bl_step ?_ (by assumption))))) m2.out).mono ?_; rintro e x2 ⟨a2, c2, rfl, hw2, hx2⟩; have HW2 := hid1 hw2; clear hw2; have hh2 : HeC x2 bl L := HeC.keep (W := Z) hC.out (by repeat (first | (with_reducible exact Below.refl _ _) | (with_reducible refine bl_alloc ?_ _) | (with_reducible refine Below.drew ?_) | (with_reducible refine bl_drewN ?_ _) | (with_reducible refine bl_set ?_ (by omega) _) | (with_reducible refine bl_step ?_ (by assumption)))); obtain ⟨p20, p21, p22, f20, f21, f22⟩ := hh2)
      | (go_at_call 28; refine (cloneB_ly L _ (hL.out.keep (by repeat (first | (with_reducible exact Below.refl _ _) | (with_reducible refine bl_alloc ?_ _) | (with_reducible refine Below.drew ?_) | (with_reducible refine bl_drewN ?_ _) | (with_reducible refine bl_set ?_ (by omega) _) | (with_reducible refine bl_step ?_ (by assumption))))) m3.out).mono ?_; rintro e x3 ⟨a3, c3, rfl, hw3, hx3⟩; have HW3 := hid1 hw3; clear hw3; have hh3 : HeC x3 bl L := HeC.keep (W := Z) hC.out (by repeat (first | (with_reducible exact Below.refl _ _) | (with_reducible refine bl_alloc ?_ _) | (with_reducible refine Below.drew ?_) | (with_reducible refine bl_drewN ?_ _) | (with_reducible refine bl_set ?_ (by omega) _) | (with_reducible refine bl_step ?_ (by assumption)))); obtain ⟨p30, p31, p32, f30, f31, f32⟩ := hh3))
  all_goals
    have z1 : Z.heap.size ≤ x1.heap.size := (show Below Z.heap.size Z x1 by repeat (first | (with_reducible exact Below.refl _ _) | (with_reducible refine bl_alloc ?_ _) | (with_reducible refine Below.drew ?_) | (with_reducible refine bl_drewN ?_ _) | (with_reducible refine bl_set ?_ (by omega) _) | (with_reducible refine bl_step ?_ (by assumption)))).size
    have z2 : Z.heap.size ≤ x2.heap.size := (show Below Z.heap.size Z x2 by repeat (first | (with_reducible exact Below.refl _ _) | (with_reducible refine bl_alloc ?_ _) | (with_reducible refine Below.drew ?_) | (with_reducible refine bl_drewN ?_ _) | (with_reducible refine bl_set ?_ (by omega) _) | (with_reducible refine bl_step ?_ (by assumption)))).size
    refine NoPanic.normal (hQ.out x3 _ _ _ _ _ _ _ _ _ _ _ _ a1 c1 a2 c2 a3 c3 (by repeat (first | (with_reducible exact Below.refl _ _) | (with_reducible refine bl_alloc ?_ _) | (with_reducible refine Below.drew ?_) | (with_reducible refine bl_drewN ?_ _) | (with_reducible refine bl_set ?_ (by omega) _) | (with_reducible refine bl_step ?_ (by assumption)))) ?_ ?_ ?_)
    · intro j hj
      obtain ⟨g, e, hg, c⟩ := HW1.out j hj
      exact ⟨g, e, hg, keepc (W := x1) (by repeat (first | (with_reducible exact Below.refl _ _) | (with_reducible refine bl_alloc ?_ _) | (with_reducible refine Below.drew ?_) | (with_reducible refine bl_drewN ?_ _) | (with_reducible refine bl_set ?_ (by omega) _) | (with_reducible refine bl_step ?_ (by assumption)))) c⟩
    · intro j hj
      obtain ⟨g, e, hg, d0, d1, d2, d3, d4, d5, d6, d7⟩ := HW2.out j hj
      have hb : Below x2.heap.size x2 x3 := by repeat (first | (with_reducible exact Below.refl _ _) | (with_reducible refine bl_alloc ?_ _) | (with_reducible refine Below.drew ?_) | (with_reducible refine bl_drewN ?_ _) | (with_reducible refine bl_set ?_ (by omega) _) | (with_reducible refine bl_step ?_ (by assumption)))
      exact ⟨g, e, Nat.le_trans z1 hg, keepc hb d0, keepc hb d1, keepc hb d2, keepc hb d3, keepc hb d4, keepc hb d5, keepc hb d6, keepc hb d7⟩
    · intro j hj
      obtain ⟨g, e, hg, c⟩ := HW3.out j hj
      exact ⟨g, e, Nat.le_trans z2 hg, c⟩
end Go.Proofs.Ytkodihmjjiadnaa.Nn
/- NETWORKS: THE COPIES OF A LAYER'S LISTS, each in memory of its own. -/
namespace Go.Proofs.Ytkodihmjjiadnaa.Nn
open Go.RowKit

theorem own_blT {w x : World} {base e size n : Nat} {v : Value} {xs : List Value} (h : w.ownsRow base e size v n xs) (hb : Below w.heap.size w x) : x.ownsRow base e size v n xs :=
  h.kept (row := none) ⟨hb.os, hb.tape, hb.output, hb.size, fun k hk _ => hb.block k hk⟩ (by cases hv : v.ownBlock; exact .inl rfl; exact .inr (by simp))
theorem cloneW_own (L : Ly) (w : World) (hL : Lst w L) (hm : L.mw ≤ 140737488355328) : Calls Try.prog 26 #[.slice L.aw L.mw L.cw] w fun e w' => ∃ a c, e = .returned (.slice a L.mw c) ∧ w'.ownsRow w.heap.size 49 1 (.slice a L.mw c) L.mw (cl L.mw fun j => .int .i8 (L.ws j)) ∧ Below w.heap.size w w' := by
  have hW := hL.1
  unfold Wts at hW
  cases ha : L.aw with
  | none =>
    have h0 : L.mw = 0 := by
      by_cases h : L.mw = 0
      · exact h
      · obtain ⟨g, o, e, _⟩ := hW 0 (by omega)
        rw [ha] at e; cases e
    rw [h0]
    refine (cloneW_nil L.cw w).mono ?_
    rintro e w' ⟨rfl, hb⟩
    exact ⟨none, 0, rfl, World.ownsRow_nil _ _ _ _, hb⟩
  | some ad =>
    rw [ha] at hW
    refine (cloneW_at ad L.mw L.cw (cl L.mw fun j => .int .i8 (L.ws j)) w (by rw [cl_len]; omega) (fun u hu => by obtain ⟨j, rfl⟩ := cl_mem hu; rfl) (by omega) (lay_of hW)).mono ?_
    rintro e w' ⟨G, K, rfl, hG, ow, hb⟩
    exact ⟨_, _, rfl, ow, hb⟩
theorem cloneN_own (L : Ly) (w : World) (hL : Lst w L) (hm : L.mn * 64 ≤ 140737488355328) : Calls Try.prog 27 #[.slice L.an L.mn L.cn] w fun e w' => ∃ a c, e = .returned (.slice a L.mn c) ∧ w'.ownsRow w.heap.size 71 8 (.slice a L.mn c) L.mn (cl (L.mn * 8) (nmc L)) ∧ Below w.heap.size w w' := by
  have hW := hL.2.1
  unfold Nms at hW
  cases ha : L.an with
  | none =>
    have h0 : L.mn = 0 := by
      by_cases h : L.mn = 0
      · exact h
      · obtain ⟨g, o, e, _⟩ := hW 0 (by omega)
        rw [ha] at e; cases e
    rw [h0]
    refine (cloneN_nil L.cn w).mono ?_
    rintro e w' ⟨rfl, hb⟩
    exact ⟨none, 0, rfl, World.ownsRow_nil _ _ _ _, hb⟩
  | some ad =>
    rw [ha] at hW
    refine (cloneN_at ad L.mn L.cn (cl (L.mn * 8) (nmc L)) w (by rw [cl_len]) (fun u hu => by obtain ⟨j, rfl⟩ := cl_mem hu; rfl) hm (lay_nms hW)).mono ?_
    rintro e w' ⟨G, K, rfl, hG, ow, hb⟩
    exact ⟨_, _, rfl, ow, hb⟩
theorem cloneB_own (L : Ly) (w : World) (hL : Lst w L) (hm : L.mb * 8 ≤ 140737488355328) : Calls Try.prog 28 #[.slice L.ab L.mb L.cb] w fun e w' => ∃ a c, e = .returned (.slice a L.mb c) ∧ w'.ownsRow w.heap.size 2 1 (.slice a L.mb c) L.mb (cl L.mb fun j => .int .i64 (L.bs j)) ∧ Below w.heap.size w w' := by
  have hW := hL.2.2.1
  unfold Bss at hW
  cases ha : L.ab with
  | none =>
    have h0 : L.mb = 0 := by
      by_cases h : L.mb = 0
      · exact h
      · obtain ⟨g, o, e, _⟩ := hW 0 (by omega)
        rw [ha] at e; cases e
    rw [h0]
    refine (cloneB_nil L.cb w).mono ?_
    rintro e w' ⟨rfl, hb⟩
    exact ⟨none, 0, rfl, World.ownsRow_nil _ _ _ _, hb⟩
  | some ad =>
    rw [ha] at hW
    refine (cloneB_at ad L.mb L.cb (cl L.mb fun j => .int .i64 (L.bs j)) w (by rw [cl_len]; omega) (fun u hu => by obtain ⟨j, rfl⟩ := cl_mem hu; rfl) hm (lay_of hW)).mono ?_
    rintro e w' ⟨G, K, rfl, hG, ow, hb⟩
    exact ⟨_, _, rfl, ow, hb⟩
/-- A layer's lists, copied: each in memory of its own. -/
def Co (X : World) (b : Nat) (L : Ly) (a1 : Option Addr) (c1 : Nat) (a2 : Option Addr) (c2 : Nat) (a3 : Option Addr) (c3 : Nat) : Prop := X.ownsRow b 49 1 (.slice a1 L.mw c1) L.mw (cl L.mw fun j => .int .i8 (L.ws j)) ∧ X.ownsRow b 71 8 (.slice a2 L.mn c2) L.mn (cl (L.mn * 8) (nmc L)) ∧ X.ownsRow b 2 1 (.slice a3 L.mb c3) L.mb (cl L.mb fun j => .int .i64 (L.bs j))
noncomputable def rgC2 : Code := (Try.f12.body.bind (regionOf 5)).getD .skip
attribute [local go_sem ↓] Go.wp_at_zero Go.wp_at_succ
set_option maxHeartbeats 3200000 in
set_option maxRecDepth 100000 in
theorem step_clone2 (u0 u1 u2 u3 u5 u6 u7 u8 u9 u10 u11 u12 u13 u14 u15 u16 u17 u18 u19 u20 u21 u22 u23 u24 u25 u26 u27 u28 u29 u30 u31 u32 u33 u34 u35 : Value) (bl : Nat) (L : Ly) (Z : World) (Q : Exit → Act → World → Prop) (hL : Hid (Lst Z L)) (m1 : Hid (L.mw ≤ 140737488355328)) (m2 : Hid (L.mn * 64 ≤ 140737488355328)) (m3 : Hid (L.mb * 8 ≤ 140737488355328)) (hC : Hid (HeC Z bl L))
    (hQ : Hid (∀ X v17 v18 v19 v20 v21 v22 v23 v24 v25 v26 v27 v28 a1 c1 a2 c2 a3 c3, Below Z.heap.size Z X → Co X Z.heap.size L a1 c1 a2 c2 a3 c3 → Q .normal ⟨#[u0, u1, u2, u3, .pointer (some ⟨bl, 0, none⟩), u5, u6, u7, u8, u9, u10, u11, u12, u13, u14, u15, u16, v17, v18, v19, v20, v21, v22, v23, v24, v25, v26, v27, v28, u29, u30, u31, u32, u33, u34, u35], []⟩ (((X.setCell ⟨bl, 12, none⟩ (.slice a1 L.mw c1)).setCell ⟨bl, 13, none⟩ (.slice a2 L.mn c2)).setCell ⟨bl, 14, none⟩ (.slice a3 L.mb c3)))) :
    Code.wp Try.prog rgC2 Q ⟨#[u0, u1, u2, u3, .pointer (some ⟨bl, 0, none⟩), u5, u6, u7, u8, u9, u10, u11, u12, u13, u14, u15, u16, u17, u18, u19, u20, u21, u22, u23, u24, u25, u26, u27, u28, u29, u30, u31, u32, u33, u34, u35], []⟩ Z := by
  conv => arg 2; whnf
  refine wp_region_noPanic ?_
  have hS := hC.out
  unfold HeC at hS
  obtain ⟨p0, p1, p2, f0, f1, f2⟩ := hS
  go_region_with (first
      | (go_at_call 26; refine (cloneW_own L _ (hL.out.keep (by repeat (first | (with_reducible exact Below.refl _ _) | (with_reducible refine bl_alloc ?_ _) | (with_reducible refine Below.drew ?_) | (with_reducible refine bl_drewN ?_ _) | (with_reducible refine bl_set ?_ (by omega) _) | (with_reducible refine bl_step ?_ (by assumption))))) m1.out).mono ?_; rintro e x1 ⟨a1, c1, rfl, hw1, hx1⟩; have HW1 := hid1 hw1; clear hw1; have hh1 : HeC x1 bl L := HeC.keep (W := Z) hC.out (by repeat (first | (with_reducible exact Below.refl _ _) | (with_reducible refine bl_alloc ?_ _) | (with_reducible refine Below.drew ?_) | (with_reducible refine bl_drewN ?_ _) | (with_reducible refine bl_set ?_ (by omega) _) | (with_reducible refine bl_step ?_ (by assumption)))); obtain ⟨p10, p11, p12, f10, f11, f12⟩ := hh1)
      | (go_at_call 27; refine (cloneN_own L _ (hL.out.keep (by repeat (first | (with_reducible exact Below.refl _ _) | (with_reducible refine bl_alloc ?_ _) | (with_reducible refine Below.drew ?_) | (with_reducible refine bl_drewN ?_ _) | (with_reducible refine bl_set ?_ (by omega) _) | (with_reducible refine bl_step ?_ (by assumption))))) m2.out).mono ?_; rintro e x2 ⟨a2, c2, rfl, hw2, hx2⟩; have HW2 := hid1 hw2; clear hw2; have hh2 : HeC x2 bl L := HeC.keep (W := Z) hC.out (by repeat (first | (with_reducible exact Below.refl _ _) | (with_reducible refine bl_alloc ?_ _) | (with_reducible refine Below.drew ?_) | (with_reducible refine bl_drewN ?_ _) | (with_reducible refine bl_set ?_ (by omega) _) | (with_reducible refine bl_step ?_ (by assumption)))); obtain ⟨p20, p21, p22, f20, f21, f22⟩ := hh2)
      | (go_at_call 28; refine (cloneB_own L _ (hL.out.keep (by repeat (first | (with_reducible exact Below.refl _ _) | (with_reducible refine bl_alloc ?_ _) | (with_reducible refine Below.drew ?_) | (with_reducible refine bl_drewN ?_ _) | (with_reducible refine bl_set ?_ (by omega) _) | (with_reducible refine bl_step ?_ (by assumption))))) m3.out).mono ?_; rintro e x3 ⟨a3, c3, rfl, hw3, hx3⟩; have HW3 := hid1 hw3; clear hw3; have hh3 : HeC x3 bl L := HeC.keep (W := Z) hC.out (by repeat (first | (with_reducible exact Below.refl _ _) | (with_reducible refine bl_alloc ?_ _) | (with_reducible refine Below.drew ?_) | (with_reducible refine bl_drewN ?_ _) | (with_reducible refine bl_set ?_ (by omega) _) | (with_reducible refine bl_step ?_ (by assumption)))); obtain ⟨p30, p31, p32, f30, f31, f32⟩ := hh3))
  all_goals
    have z1 : Z.heap.size ≤ x1.heap.size := (show Below Z.heap.size Z x1 by repeat (first | (with_reducible exact Below.refl _ _) | (with_reducible refine bl_alloc ?_ _) | (with_reducible refine Below.drew ?_) | (with_reducible refine bl_drewN ?_ _) | (with_reducible refine bl_set ?_ (by omega) _) | (with_reducible refine bl_step ?_ (by assumption)))).size
    have z2 : Z.heap.size ≤ x2.heap.size := (show Below Z.heap.size Z x2 by repeat (first | (with_reducible exact Below.refl _ _) | (with_reducible refine bl_alloc ?_ _) | (with_reducible refine Below.drew ?_) | (with_reducible refine bl_drewN ?_ _) | (with_reducible refine bl_set ?_ (by omega) _) | (with_reducible refine bl_step ?_ (by assumption)))).size
    refine NoPanic.normal (hQ.out x3 _ _ _ _ _ _ _ _ _ _ _ _ a1 c1 a2 c2 a3 c3 (by repeat (first | (with_reducible exact Below.refl _ _) | (with_reducible refine bl_alloc ?_ _) | (with_reducible refine Below.drew ?_) | (with_reducible refine bl_drewN ?_ _) | (with_reducible refine bl_set ?_ (by omega) _) | (with_reducible refine bl_step ?_ (by assumption)))) ⟨?_, ?_, ?_⟩)
    · exact own_blT HW1.out (by repeat (first | (with_reducible exact Below.refl _ _) | (with_reducible refine bl_alloc ?_ _) | (with_reducible refine Below.drew ?_) | (with_reducible refine bl_drewN ?_ _) | (with_reducible refine bl_set ?_ (by omega) _) | (with_reducible refine bl_step ?_ (by assumption))))
    · exact (own_blT HW2.out (by repeat (first | (with_reducible exact Below.refl _ _) | (with_reducible refine bl_alloc ?_ _) | (with_reducible refine Below.drew ?_) | (with_reducible refine bl_drewN ?_ _) | (with_reducible refine bl_set ?_ (by omega) _) | (with_reducible refine bl_step ?_ (by assumption))))).mono z1
    · exact HW3.out.mono z2
end Go.Proofs.Ytkodihmjjiadnaa.Nn
