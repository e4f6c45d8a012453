import Derived.Test.YthjebjhepdclkaaBW11
import Derived.ProofKit
import Derived.OpenShut
import Derived.ChangeOld
import Derived.SizedLaws
import Derived.Test.YthjebjhepdclkaaBW12
import Derived.ChangeSlices
import Derived.Test.YthjebjhepdclkaaSW2
import Derived.Test.YthjebjhepdclkaaSW3
import Derived.Deep.Slices
import Derived.Test.YthjebjhepdclkaaDW2
import Derived.Test.YthjebjhepdclkaaKW2
import Derived.Test.YthjebjhepdclkaaEW1
import Derived.Test.YthjebjhepdclkaaEM1
/- WHAT EVERY ROW OF THIS SEAT WANTS. -/
namespace Go.Proofs.Ythjebjhepdclkaa
open Go.ChangeShapes Go.WideShapes Go.ChangeAt Go.RowKit

theorem own : ownKnob Try.prog.godebug = none := by kernel_rfl
theorem laidOut : laidOutB Try.prog = true := by kernel_rfl
theorem i64_of_wf {x : Int} (h : (Lit.int .i64 x).wf = true) : -9223372036854775808 ≤ x ∧ x ≤ 9223372036854775807 := by
  simp [Lit.wf, IntKind.min, IntKind.max, IntKind.signed, IntKind.bits] at h
  exact ⟨by omega, by omega⟩
end Go.Proofs.Ythjebjhepdclkaa
/- PARAMETERS THAT ARE LISTS OF SMALL NUMBERS. -/
namespace Go.Proofs.Ythjebjhepdclkaa
open Go.ChangeShapes Go.WideShapes Go.ChangeAt Go.RowKit
set_option maxRecDepth 100000

theorem reach_is : reachBytes = 140737488351232 := by decide
theorem cells_i8 : Try.prog.cellsOf 53 = 1 := by kernel_rfl
theorem bytes_i8 : Try.prog.bytesOf 53 = 1 := by kernel_rfl
theorem open_i8 {H : Type} {enc : TypeId × Value → H} {W : World} {base : Nat} {v : Value} {d : DataW H} {p : List MemPlace}
    (hv : Value.okWide Try.prog W .any base 26 v) (h : DataW.Trod enc Try.prog W 0 (fun _ => true) true 26 v d p) :
    ∃ (ao : Option Addr) (l : List Int) (cap : Nat), v = .slice ao l.length cap ∧ l.length ≤ cap ∧ (ao = none → l.length = 0 ∧ cap = 0) ∧ R8 W ao l ∧
      ((d = .nil ∧ cap = 0) ∨ ∃ es sp, d = .slice es sp ∧ es.length + sp.length = cap) := by
  obtain ⟨a0, len, cap, rfl⟩ := okWide_slice und_i8s hv
  obtain ⟨fuel, hf⟩ := h
  rcases open_ints und_i8s Try.underlying53 cells_i8 hf with ⟨hc, hx⟩ | ⟨a, len', cap', zs, hc, _, hl, _, hz, hx, hcell, _⟩
  · simp [Value.cells] at hc
    obtain ⟨rfl, rfl, rfl⟩ := hc
    simp only [Prod.mk.injEq] at hx
    exact ⟨none, [], 0, rfl, Nat.le_refl _, fun _ => ⟨rfl, rfl⟩, fun k hk => absurd hk (by simp), .inl ⟨hx.1, rfl⟩⟩
  · simp [Value.cells] at hc
    obtain ⟨rfl, rfl, rfl⟩ := hc
    simp only [if_true] at hz
    simp only [Prod.mk.injEq] at hx
    have hlen : (zs.take len).length = len := by simp; omega
    refine ⟨some a, zs.take len, cap, by rw [hlen], by rw [hlen]; exact hl, fun e => (by cases e), ?_, .inr ⟨_, _, hx.1, by simp [lits]; omega⟩⟩
    intro k hk
    rw [hlen] at hk
    have c := hcell k (by omega)
    have c0 := hcell 0 (by omega)
    have hs := World.cell?_spot c0
    obtain ⟨b, o, s⟩ := a
    simp [Addr.add] at hs
    subst hs
    refine ⟨b, o, rfl, ?_⟩
    have e1 : ia (zs.take len) k = zs.getD k 0 := ia_take hk
    rw [e1, ← c]
    by_cases h0 : k = 0
    · subst h0; rfl
    · simp [Addr.add, h0]
end Go.Proofs.Ythjebjhepdclkaa
/- PARAMETERS THAT ARE A SHAPE, A WINDOW. -/
namespace Go.Proofs.Ythjebjhepdclkaa
open Go.ChangeShapes Go.WideShapes Go.ChangeAt Go.RowKit
set_option maxRecDepth 100000

theorem fldF {H : Type} {enc : TypeId × Value → H} {P : Program} {w : World} {base : Nat} {sp : Nat → Bool} {held : Bool} {t : TypeId} {fs : Array Field} {fuel : Nat} {cs : List Value} {x : DataW H × List MemPlace}
    (ht : P.underlying t = some (.struct fs)) (h : DataW.trod enc P w base sp held fuel t cs = some x) (i : Nat) (f : Field) (hi : fs[i]? = some f) :
    ∃ n y, DataW.trod enc P w base sp held n f.type ((cs.drop f.offset).take (P.cellsOf f.type)) = some y := by
  obtain ⟨xs, n, _, _, _, hxl, hf⟩ := DataW.trod_struct ht h
  have g := hf i f hi
  have hlt : i < xs.length := by
    rw [hxl]
    exact (Array.getElem?_eq_some_iff.1 hi).1
  rw [List.getElem?_eq_getElem hlt] at g
  exact ⟨n, _, g⟩
theorem fldIF {H : Type} {enc : TypeId × Value → H} {P : Program} {w : World} {base : Nat} {sp : Nat → Bool} {held : Bool} {t : TypeId} {fs : Array Field} {fuel : Nat} {cs : List Value} {x : DataW H × List MemPlace}
    (ht : P.underlying t = some (.struct fs)) (h : DataW.trod enc P w base sp held fuel t cs = some x) (i : Nat) (f : Field) (hi : fs[i]? = some f) (hu : P.underlying f.type = some (.int .i64)) (hc : P.cellsOf f.type = 1) :
    ∃ z : Int, (cs.drop f.offset).take 1 = [.int .i64 z] := by
  obtain ⟨n, y, g⟩ := fldF ht h i f hi
  rw [hc] at g
  obtain ⟨z, e, _⟩ := DataW.trod_int hu g
  exact ⟨z, e⟩
theorem cells_intF : Try.prog.cellsOf 3 = 1 := by kernel_rfl
theorem cells_shpF : Try.prog.cellsOf 23 = 3 := by kernel_rfl
theorem cells_winF : Try.prog.cellsOf 25 = 8 := by kernel_rfl
theorem len3F {l : List Value} (h : l.length = 3) : ∃ a b c, l = [a, b, c] := by
  match l, h with
  | [a, b, c], _ => exact ⟨a, b, c, rfl⟩
theorem len8F {l : List Value} (h : l.length = 8) : ∃ a b c d e f g i, l = [a, b, c, d, e, f, g, i] := by
  match l, h with
  | [a, b, c, d, e, f, g, i], _ => exact ⟨a, b, c, d, e, f, g, i, rfl⟩
set_option maxRecDepth 100000 in
theorem shape_cellsF {H : Type} {enc : TypeId × Value → H} {w : World} {base : Nat} {sp : Nat → Bool} {held : Bool} {fuel : Nat} {cs : List Value} {x : DataW H × List MemPlace}
    (h : DataW.trod enc Try.prog w base sp held fuel 23 cs = some x) : ∃ a b c : Int, cs = [.int .i64 a, .int .i64 b, .int .i64 c] := by
  have hl : cs.length = 3 := by
    obtain ⟨_, _, _, _, hlen, _, _⟩ := DataW.trod_struct Try.underlying23 h
    exact hlen.trans cells_shpF
  obtain ⟨z0, e0⟩ := fldIF Try.underlying23 h 0 _ rfl Try.underlying3 cells_intF
  obtain ⟨z1, e1⟩ := fldIF Try.underlying23 h 1 _ rfl Try.underlying3 cells_intF
  obtain ⟨z2, e2⟩ := fldIF Try.underlying23 h 2 _ rfl Try.underlying3 cells_intF
  obtain ⟨a, b, c, rfl⟩ := len3F hl
  simp at e0 e1 e2
  subst e0 e1 e2
  exact ⟨z0, z1, z2, rfl⟩
set_option maxRecDepth 100000 in
theorem win_cellsF {H : Type} {enc : TypeId × Value → H} {w : World} {base : Nat} {sp : Nat → Bool} {held : Bool} {fuel : Nat} {cs : List Value} {x : DataW H × List MemPlace}
    (h : DataW.trod enc Try.prog w base sp held fuel 25 cs = some x) :
    ∃ r s sy sx t l b q : Int, cs = [.int .i64 r, .int .i64 s, .int .i64 sy, .int .i64 sx, .int .i64 t, .int .i64 l, .int .i64 b, .int .i64 q] := by
  have hl : cs.length = 8 := by
    obtain ⟨_, _, _, _, hlen, _, _⟩ := DataW.trod_struct Try.underlying25 h
    exact hlen.trans cells_winF
  obtain ⟨z0, e0⟩ := fldIF Try.underlying25 h 0 _ rfl Try.underlying3 cells_intF
  obtain ⟨z1, e1⟩ := fldIF Try.underlying25 h 1 _ rfl Try.underlying3 cells_intF
  obtain ⟨z2, e2⟩ := fldIF Try.underlying25 h 2 _ rfl Try.underlying3 cells_intF
  obtain ⟨z3, e3⟩ := fldIF Try.underlying25 h 3 _ rfl Try.underlying3 cells_intF
  obtain ⟨z4, e4⟩ := fldIF Try.underlying25 h 4 _ rfl Try.underlying3 cells_intF
  obtain ⟨z5, e5⟩ := fldIF Try.underlying25 h 5 _ rfl Try.underlying3 cells_intF
  obtain ⟨z6, e6⟩ := fldIF Try.underlying25 h 6 _ rfl Try.underlying3 cells_intF
  obtain ⟨z7, e7⟩ := fldIF Try.underlying25 h 7 _ rfl Try.underlying3 cells_intF
  obtain ⟨a, b, c, d, e, f, g, i, rfl⟩ := len8F hl
  simp at e0 e1 e2 e3 e4 e5 e6 e7
  subst e0 e1 e2 e3 e4 e5 e6 e7
  exact ⟨z0, z1, z2, z3, z4, z5, z6, z7, rfl⟩
theorem open_shape {H : Type} {enc : TypeId × Value → H} {W : World} {base : Nat} {v : Value} {d : DataW H} {p : List MemPlace}
    (hv : Value.okWide Try.prog W .any base 23 v) (h : DataW.Trod enc Try.prog W 0 (fun _ => true) true 23 v d p) : ∃ a b c : Int, v = Sg.shp a b c := by
  obtain ⟨cs, rfl, _⟩ := okWide_struct Try.underlying23 hv
  obtain ⟨fuel, hf⟩ := h
  obtain ⟨a, b, c, e⟩ := shape_cellsF hf
  refine ⟨a, b, c, ?_⟩
  simp [Value.cells] at e
  obtain ⟨l⟩ := cs
  simp at e
  subst e
  rfl
theorem open_win {H : Type} {enc : TypeId × Value → H} {W : World} {base : Nat} {v : Value} {d : DataW H} {p : List MemPlace}
    (hv : Value.okWide Try.prog W .any base 25 v) (h : DataW.Trod enc Try.prog W 0 (fun _ => true) true 25 v d p) : ∃ r s sy sx t l b q : Int, v = Sg.win r s sy sx t l b q := by
  obtain ⟨cs, rfl, _⟩ := okWide_struct Try.underlying25 hv
  obtain ⟨fuel, hf⟩ := h
  obtain ⟨r, s, sy, sx, t, l, b, q, e⟩ := win_cellsF hf
  refine ⟨r, s, sy, sx, t, l, b, q, ?_⟩
  simp [Value.cells] at e
  obtain ⟨l⟩ := cs
  simp at e
  subst e
  rfl
end Go.Proofs.Ythjebjhepdclkaa
/- WHAT A WINDOW LOSES: plain mathematics; weigh. -/
namespace Go.Proofs.Ythjebjhepdclkaa
open Go.RowKit

/-- The sum of the weights at the places that do not count. -/
def lo (A B Y : Nat) (n : Nat) : Int := sm (fun i => if Y.testBit i then 0 else wt A B i) n
theorem lo_succ (A B Y n : Nat) : lo A B Y (n + 1) = lo A B Y n + (if Y.testBit n then 0 else wt A B n) := rfl
theorem lo_congr {A B Y A' B' Y' : Nat} : ∀ n, (∀ i, i < n → A.testBit i = A'.testBit i ∧ B.testBit i = B'.testBit i ∧ Y.testBit i = Y'.testBit i) → lo A B Y n = lo A' B' Y' n
  | 0, _ => rfl
  | n + 1, h => by
    obtain ⟨h1, h2, h3⟩ := h n (by omega)
    rw [lo_succ, lo_succ, lo_congr n (fun i hi => h i (by omega))]
    unfold wt
    rw [h1, h2, h3]
theorem lo_add (A B Y a : Nat) : ∀ b, lo A B Y (a + b) = lo A B Y a + lo (A / 2 ^ a) (B / 2 ^ a) (Y / 2 ^ a) b
  | 0 => by simp [lo, sm]
  | b + 1 => by
    have e : a + (b + 1) = (a + b) + 1 := rfl
    rw [e, lo_succ, lo_add A B Y a b, lo_succ]
    unfold wt
    simp only [Nat.testBit_div_two_pow]
    rw [show b + a = a + b by omega]
    omega
theorem lo_word (A B Y k : Nat) : lo A B Y (64 * (k + 1)) = lo A B Y (64 * k) + lo (wd A k) (wd B k) (wd Y k) 64 := by
  rw [show 64 * (k + 1) = 64 * k + 64 by omega, lo_add]
  congr 1
  refine lo_congr 64 fun i hi => ?_
  simp only [wd_bit, Nat.testBit_div_two_pow, hi, decide_true, Bool.true_and]
  rw [show i + 64 * k = 64 * k + i by omega]
  exact ⟨rfl, rfl, rfl⟩
theorem lo_pc {A B Y G C : Nat} : ∀ n, (∀ i, i < n → G.testBit i = (A.testBit i && !Y.testBit i) ∧ C.testBit i = (B.testBit i && !Y.testBit i) ∧ (A.testBit i = true → B.testBit i = true)) → 2 * (pc G n : Int) - pc C n = lo A B Y n
  | 0, _ => rfl
  | n + 1, h => by
    have ih := lo_pc n (fun i hi => h i (by omega))
    obtain ⟨h1, h2, h3⟩ := h n (by omega)
    rw [lo_succ]
    simp only [pc]
    unfold wt
    rw [h1, h2]
    cases hy : Y.testBit n <;> cases ha : A.testBit n <;> cases hb : B.testBit n <;> simp [ha, hb] at h3 ⊢ <;> omega
theorem lo_bd (A B Y : Nat) : ∀ n : Nat, -(n : Int) ≤ lo A B Y n ∧ lo A B Y n ≤ n
  | 0 => by simp [lo, sm]
  | n + 1 => by
    have := lo_bd A B Y n
    rw [lo_succ]
    unfold wt
    split
    · omega
    · split
      · split <;> omega
      · omega
theorem lo_above {B n : Nat} (h : B < 2 ^ n) (A Y : Nat) {m : Nat} (hm : n ≤ m) : lo A B Y m = lo A B Y n := by
  obtain ⟨d, rfl⟩ : ∃ d, m = n + d := ⟨m - n, by omega⟩
  clear hm
  induction d with
  | zero => rfl
  | succ d ih =>
    rw [← Nat.add_assoc, lo_succ, ih]
    have : B.testBit (n + d) = false := Nat.testBit_lt_two_pow (Nat.lt_of_lt_of_le h (Nat.pow_le_pow_right (by decide) (by omega)))
    unfold wt
    rw [this]
    simp
/-- One word of a row against one word of what counts. -/
theorem lo_weigh {a b y : Nat} (hab : a &&& (18446744073709551615 - b) = 0) (hb : b < 18446744073709551616) (hy : y < 18446744073709551616) : 2 * (pc (a &&& (18446744073709551615 - y)) 64 : Int) - pc (b &&& (18446744073709551615 - y)) 64 = lo a b y 64 := by
  have cm : ∀ z, z < 18446744073709551616 → ∀ i, i < 64 → (18446744073709551615 - z).testBit i = !(z.testBit i) := fun z hz i hi => by
    have e : 18446744073709551615 - z = 2 ^ 64 - (z + 1) := by rw [← two64]; omega
    rw [e, Nat.testBit_two_pow_sub_succ (by rw [← two64]; exact hz)]
    simp [hi]
  refine lo_pc 64 fun i hi => ?_
  rw [Nat.testBit_and, Nat.testBit_and, cm y hy i hi]
  refine ⟨rfl, rfl, fun h => ?_⟩
  have := congrArg (fun x => Nat.testBit x i) hab
  simp only [Nat.testBit_and, Nat.zero_testBit, cm b hb i hi, h] at this
  simpa using this
set_option maxRecDepth 100000 in
theorem weigh_any (a b : Nat) (ha : a < 18446744073709551616) (hb : b < 18446744073709551616) (w : World) :
    Calls Try.prog 31 #[.int .u64 a, .int .u64 b] w fun e w' => e = .returned (.int .i64 (2 * (pc a 64 : Int) - pc b 64)) ∧ w' = w := by
  have p1 := pc_le a 64
  have p2 := pc_le b 64
  go_enter Try.func31, Try.ntmps31
  go_wp2_with fail
  refine (ones_any a ha _).mono ?_
  rintro e w' ⟨rfl, rfl⟩
  go_wp2_with fail
  refine (ones_any b hb _).mono ?_
  rintro e w' ⟨rfl, rfl⟩
  go_wp2_with fail
  go_ret
  exact ⟨rfl, rfl⟩
end Go.Proofs.Ythjebjhepdclkaa
/- PACKAGE patch: Lost. -/
namespace Go.Proofs.Ythjebjhepdclkaa
open Go.RowKit

def loE (A B X Y : Bt) : Int := if dck A B ≠ 0 then dck A B else if dck X Y ≠ 0 then dck X Y else if B.n = Y.n then 0 else 20
def loV (A B X Y : Bt) : Int := if loE A B X Y = 0 then lo A.N B.N Y.N B.n.toNat else 0
theorem lost_start (w : World) (A B X Y : Bt) : ∃ W, (w.alloc (.cells #[.int .i64 A.n, .slice A.ao A.m A.cap, .int .i64 B.n, .slice B.ao B.m B.cap] 46)).alloc (.cells #[.int .i64 X.n, .slice X.ao X.m X.cap, .int .i64 Y.n, .slice Y.ao Y.m Y.cap] 46) = W ∧
    Below w.heap.size w W ∧ W.rowIs w.heap.size 46 4 (qf A B) ∧ W.rowIs (w.heap.size + 1) 46 4 (qf X Y) := by
  refine ⟨_, rfl, bl_alloc (bl_alloc (Below.refl _ _) _) _, (q_new w A B _).alloc _, ?_⟩
  have := q_new (w.alloc (.cells #[.int .i64 A.n, .slice A.ao A.m A.cap, .int .i64 B.n, .slice B.ao B.m B.cap] 46)) X Y 46
  rwa [World.size_alloc] at this
set_option maxHeartbeats 1600000 in
set_option maxRecDepth 100000 in
theorem lost_any (A B X Y : Bt) (w : World) (hA : Rw w A) (hB : Rw w B) (hX : Rw w X) (hY : Rw w Y) :
    Calls Try.prog 13 #[rwv A B, rwv X Y] w fun e w' => e = .returned (.tuple #[.int .i64 (loV A B X Y), .int .i64 (loE A B X Y)]) ∧ Below w.heap.size w w' := by
  have HA := hid1 hA
  have HB := hid1 hB
  have HX := hid1 hX
  have HY := hid1 hY
  clear hA hB hX hY
  have HC1 := hid1 (fun (W : World) (hW : Below w.heap.size w W) => dcheck_any A B W (HA.out.below hW) (HB.out.below hW))
  have HC2 := hid1 (fun (W : World) (hW : Below w.heap.size w W) => dcheck_any X Y W (HX.out.below hW) (HY.out.below hW))
  by_cases h1 : dck A B = 0
  · by_cases h2 : dck X Y = 0
    · by_cases h3 : B.n = Y.n
      · obtain ⟨n, e1, e2, e3, e4, e5, e6, e7, e8⟩ := dck_zero h1
        obtain ⟨n', f1, f2, f3, f4, f5, f6, f7, f8⟩ := dck_zero h2
        obtain rfl : n' = n := by omega
        have hE : loE A B X Y = 0 := by unfold loE; rw [if_neg (by simp [h1]), if_neg (by simp [h2]), if_pos h3]
        have hV : loV A B X Y = lo A.N B.N Y.N (64 * nw n') := by unfold loV; rw [if_pos hE, e2, Int.toNat_natCast, lo_above e7 _ _ (nw_le n')]
        rw [hE, hV]
        rw [h1] at HC1
        rw [h2] at HC2
        have hb := nw_bd e3
        have HSUB := hid1 ((sub_words (B := B.N) (lt_nw e6)).1 e8)
        clear hE hV h1 h2
        obtain ⟨an, aa, am, ac, AN⟩ := A
        obtain ⟨bn, ba, bm, bc, BN⟩ := B
        obtain ⟨xn, xa, xm, xc, XN⟩ := X
        obtain ⟨yn, ya, ym, yc, YN⟩ := Y
        dsimp only at *
        subst e4 e5 f4 f5
        clear h3
        subst e2 f2
        clear e1 f1
        go_enter Try.func13, Try.ntmps13
        go_wp2_with fail
        refine gen_calls (fun W => Below w.heap.size w W ∧ W.rowIs w.heap.size 46 4 (qf ⟨an, aa, nw n', ac, AN⟩ ⟨(n' : Nat), ba, nw n', bc, BN⟩) ∧ W.rowIs (w.heap.size + 1) 46 4 (qf ⟨xn, xa, nw n', xc, XN⟩ ⟨(n' : Nat), ya, nw n', yc, YN⟩)) (by obtain ⟨X, rfl, z⟩ := lost_start w ⟨an, aa, nw n', ac, AN⟩ ⟨(n' : Nat), ba, nw n', bc, BN⟩ ⟨xn, xa, nw n', xc, XN⟩ ⟨(n' : Nat), ya, nw n', yc, YN⟩; exact z) ?_
        rintro W ⟨B0, r1, r2⟩
        refine (HC1.out W B0).mono ?_
        rintro e w1 ⟨rfl, hb1⟩
        replace r1 := keepr hb1 r1
        replace r2 := keepr hb1 r2
        replace B0 := bl_step B0 hb1
        clear hb1
        have c0 := q0 r2
        have c1 := q1 r2
        have c2 := q2 r2
        have c3 := q3 r2
        go_wp2_with fail
        refine (HC2.out w1 B0).mono ?_
        rintro e w2 ⟨rfl, hb1⟩
        replace r1 := keepr hb1 r1
        replace r2 := keepr hb1 r2
        replace B0 := bl_step B0 hb1
        clear hb1 c0 c1 c2 c3 HC1 HC2
        have c2 := q2 r1
        have d2 := q2 r2
        have d3 := q3 r2
        go_wp2_with fail
        clear c2 d2 d3
        go_loopw [8, 32] (fun s i wr => ∃ k : Nat, k ≤ nw n' ∧ i = .int .i64 k ∧ s = .int .i64 (lo AN BN YN (64 * k)) ∧ wr.rowIs w.heap.size 46 4 (qf ⟨an, aa, nw n', ac, AN⟩ ⟨(n' : Nat), ba, nw n', bc, BN⟩) ∧ wr.rowIs (w.heap.size + 1) 46 4 (qf ⟨xn, xa, nw n', xc, XN⟩ ⟨(n' : Nat), ya, nw n', yc, YN⟩) ∧ Below w.heap.size w wr) (fun _ i _ => nw n' - (intOf i).toNat)
        case atStart => exact ⟨0, Nat.zero_le _, rfl, rfl, r1, r2, B0⟩
        case round =>
          clear r1 r2 B0
          obtain ⟨k, hk, rfl, rfl, r1, r2, B0⟩ := hrel
          have ik0 : (0 : Int) ≤ (k : Int) := by omega
          by_cases hlt : k < nw n'
          · obtain ⟨g1, o1, rfl, d1⟩ := (HA.out.below B0).2.2 k hlt
            obtain ⟨g2, o2, rfl, d2⟩ := (HB.out.below B0).2.2 k hlt
            obtain ⟨g3, o3, rfl, d3⟩ := (HY.out.below B0).2.2 k hlt
            unfold wf at d1 d2 d3
            dsimp only at d1 d2 d3
            have ik : (k : Int) < (nw n' : Nat) := by omega
            have c1 := q1 r1
            have c3 := q3 r1
            have x1 := wd_lt AN k
            have x2 := wd_lt BN k
            have x3 := wd_lt YN k
            have HW := hid1 (weigh_any (wd AN k &&& (18446744073709551615 - wd YN k)) (wd BN k &&& (18446744073709551615 - wd YN k)) (and_lt64 x1) (and_lt64 x2))
            rw [lo_weigh (HSUB.out k hlt) x2 x3] at HW
            have a1 := andNot_u64 (wd AN k) (wd YN k) x1 x3
            have a2 := andNot_u64 (wd BN k) (wd YN k) x2 x3
            have b1 := lo_bd AN BN YN (64 * k)
            have b2 := lo_bd (wd AN k) (wd BN k) (wd YN k) 64
            have HL := hid1 (lo_word AN BN YN k)
            generalize lo AN BN YN (64 * k) = L0 at b1 HL ⊢
            generalize lo (wd AN k) (wd BN k) (wd YN k) 64 = L1 at b2 HL HW
            have wL : IntKind.i64.wrap (L0 + L1) = L0 + L1 := by rw [IntKind.wrap_i64]; omega
            have HR1 := hid1 r1
            have HR2 := hid1 r2
            have HB0 := hid1 B0
            clear r1 r2 B0
            go_wp2_with fail
            refine still_tail 19 (by kernel_rfl) ?_
            simp only [List.take_succ_cons, List.take_zero, List.drop_succ_cons, List.drop_zero]
            repeat still_step
            still_call (HW.out _)
            repeat still_step
            refine wpStill_nil ?_
            go_wp2_with fail
            exact ⟨⟨k + 1, by omega, by go_num, by rw [HL.out], HR1.out.drew, HR2.out.drew, HB0.out.drew⟩, by simp [intOf]; omega⟩
          · have hkN : k = nw n' := by omega
            subst hkN
            go_wp2_with fail
            exact bodyPost_ret (v := .tuple #[.int .i64 (lo AN BN YN (64 * nw n')), .int .i64 0]) (by simp [results, Try.results13, go_sem]) rfl ⟨rfl, B0⟩
      · have hE : loE A B X Y = 20 := by unfold loE; rw [if_neg (by simp [h1]), if_neg (by simp [h2]), if_neg h3]
        have hV : loV A B X Y = 0 := by unfold loV; rw [if_neg (by rw [hE]; decide)]
        rw [hE, hV]
        rw [h1] at HC1
        rw [h2] at HC2
        clear hE hV h1 h2
        have h3' : decide (B.n = Y.n) = false := by simpa using h3
        go_enter Try.func13, Try.ntmps13
        go_wp2_with fail
        refine gen_calls (fun W => Below w.heap.size w W ∧ W.rowIs w.heap.size 46 4 (qf A B) ∧ W.rowIs (w.heap.size + 1) 46 4 (qf X Y)) (by obtain ⟨W, rfl, z⟩ := lost_start w A B X Y; exact z) ?_
        rintro W ⟨B0, r1, r2⟩
        refine (HC1.out W B0).mono ?_
        rintro e w1 ⟨rfl, hb1⟩
        replace r1 := keepr hb1 r1
        replace r2 := keepr hb1 r2
        replace B0 := bl_step B0 hb1
        clear hb1
        have c0 := q0 r2
        have c1 := q1 r2
        have c2 := q2 r2
        have c3 := q3 r2
        go_wp2_with fail
        refine (HC2.out w1 B0).mono ?_
        rintro e w2 ⟨rfl, hb1⟩
        replace r1 := keepr hb1 r1
        replace r2 := keepr hb1 r2
        replace B0 := bl_step B0 hb1
        clear hb1 c0 c1 c2 c3
        have c2 := q2 r1
        have d2 := q2 r2
        go_wp2_with fail
        exact bodyPost_ret (v := .tuple #[.int .i64 0, .int .i64 20]) (by simp [results, Try.results13, go_sem]) rfl ⟨rfl, B0⟩
    · have hE : loE A B X Y = dck X Y := by unfold loE; rw [if_neg (by simp [h1]), if_pos h2]
      have hV : loV A B X Y = 0 := by unfold loV; rw [if_neg (by rw [hE]; exact h2)]
      rw [hE, hV]
      rw [h1] at HC1
      clear hE hV h1
      generalize dck X Y = E at HC2 h2 ⊢
      have h2' : decide (E = 0) = false := by simpa using h2
      go_enter Try.func13, Try.ntmps13
      go_wp2_with fail
      refine gen_calls (fun W => Below w.heap.size w W ∧ W.rowIs w.heap.size 46 4 (qf A B) ∧ W.rowIs (w.heap.size + 1) 46 4 (qf X Y)) (by obtain ⟨W, rfl, z⟩ := lost_start w A B X Y; exact z) ?_
      rintro W ⟨B0, r1, r2⟩
      refine (HC1.out W B0).mono ?_
      rintro e w1 ⟨rfl, hb1⟩
      replace r1 := keepr hb1 r1
      replace r2 := keepr hb1 r2
      replace B0 := bl_step B0 hb1
      clear hb1
      have c0 := q0 r2
      have c1 := q1 r2
      have c2 := q2 r2
      have c3 := q3 r2
      go_wp2_with fail
      refine (HC2.out w1 B0).mono ?_
      rintro e w2 ⟨rfl, hb1⟩
      replace r1 := keepr hb1 r1
      replace r2 := keepr hb1 r2
      replace B0 := bl_step B0 hb1
      clear hb1 c0 c1 c2 c3
      go_wp2_with fail
      exact bodyPost_ret (v := .tuple #[.int .i64 0, .int .i64 E]) (by simp [results, Try.results13, go_sem]) rfl ⟨rfl, B0⟩
  · have hE : loE A B X Y = dck A B := by unfold loE; rw [if_pos h1]
    have hV : loV A B X Y = 0 := by unfold loV; rw [if_neg (by rw [hE]; exact h1)]
    rw [hE, hV]
    clear hE hV
    generalize dck A B = E at HC1 h1 ⊢
    have h1' : decide (E = 0) = false := by simpa using h1
    go_enter Try.func13, Try.ntmps13
    go_wp2_with fail
    refine gen_calls (fun W => Below w.heap.size w W ∧ W.rowIs w.heap.size 46 4 (qf A B) ∧ W.rowIs (w.heap.size + 1) 46 4 (qf X Y)) (by obtain ⟨W, rfl, z⟩ := lost_start w A B X Y; exact z) ?_
    rintro W ⟨B0, r1, r2⟩
    refine (HC1.out W B0).mono ?_
    rintro e w1 ⟨rfl, hb1⟩
    replace r1 := keepr hb1 r1
    replace r2 := keepr hb1 r2
    replace B0 := bl_step B0 hb1
    clear hb1
    go_wp2_with fail
    exact bodyPost_ret (v := .tuple #[.int .i64 0, .int .i64 E]) (by simp [results, Try.results13, go_sem]) rfl ⟨rfl, B0⟩
end Go.Proofs.Ythjebjhepdclkaa
/- heddlelaw13: sameWords, sameBits, sameRow of what is alike. -/
namespace Go.Proofs.Ythjebjhepdclkaa
open Go.RowKit Go.Shelf

set_option maxHeartbeats 1600000 in
set_option maxRecDepth 100000 in
theorem pwords_same (m N : Nat) (ao bo : Option Addr) (ca cb : Nat) (w : World) (hm : m ≤ 9223372036854775807) (ra : Wr w ao m N) (rb : Wr w bo m N) :
    Calls Try.prog 9 #[.slice ao m ca, .slice bo m cb] w fun e w' => e = .returned (.bool true) ∧ Below w.heap.size w w' := by
  have HA := hid1 ra
  have HB := hid1 rb
  clear ra rb
  go_enter Try.func9, Try.ntmps9
  go_wp2
  go_loopw [5] (fun i wr => ∃ k : Nat, k ≤ m ∧ i = .int .i64 k ∧ Below w.heap.size w wr) (fun i _ => m - (intOf i).toNat)
  case atStart => exact ⟨0, Nat.zero_le _, rfl, Below.refl _ _⟩
  case round =>
    obtain ⟨k, hk, rfl, hnx⟩ := hrel
    by_cases hlt : k < m
    · obtain ⟨ga, oa, rfl, a1⟩ := (HA.out.below hnx).2 k hlt
      obtain ⟨gb, ob, rfl, b1⟩ := (HB.out.below hnx).2 k hlt
      unfold wf at a1 b1
      have ik : (k : Int) < (m : Nat) := by omega
      have ik0 : (0 : Int) ≤ (k : Int) := by omega
      go_wp2_with fail
      go_quiet (fail)
      go_wp2_with fail
      exact ⟨⟨k + 1, by omega, by go_num, bl_drewN hnx _⟩, by simp [intOf]; omega⟩
    · have hkN : k = m := by omega
      subst hkN
      go_wp2_with fail
      go_ret
      exact ⟨rfl, hnx⟩
set_option maxHeartbeats 1600000 in
set_option maxRecDepth 100000 in
theorem pbits_same (n : Int) (m N : Nat) (ao bo : Option Addr) (ca cb : Nat) (w : World) (hm : m ≤ 9223372036854775807) (ra : Wr w ao m N) (rb : Wr w bo m N) :
    Calls Try.prog 10 #[rv n ao m ca, rv n bo m cb] w fun e w' => e = .returned (.bool true) ∧ Below w.heap.size w w' := by
  have HA := hid1 ra
  have HB := hid1 rb
  clear ra rb
  go_enter Try.func10, Try.ntmps10
  go_wp2_with fail
  refine gen_calls (fun W => Below w.heap.size w W) (bl_alloc (bl_alloc (Below.refl _ _) _) _) ?_
  rintro W B0
  refine (pwords_same m N ao bo ca cb W hm (HA.out.below B0) (HB.out.below B0)).mono ?_
  rintro e w1 ⟨rfl, hb⟩
  go_wp2_with fail
  go_ret
  exact ⟨rfl, bl_step B0 hb⟩
set_option maxRecDepth 100000 in
theorem prow_same (A B X Y : Bt) (w : World) (hm : A.m ≤ 9223372036854775807) (hm' : B.m ≤ 9223372036854775807) (e1 : A.n = X.n) (e2 : A.m = X.m) (e3 : B.n = Y.n) (e4 : B.m = Y.m) (N1 N2 : Nat) (ra : Wr w A.ao A.m N1) (rb : Wr w B.ao B.m N2) (rx : Wr w X.ao X.m N1) (ry : Wr w Y.ao Y.m N2) :
    Calls Try.prog 11 #[rwv A B, rwv X Y] w fun e w' => e = .returned (.bool true) ∧ Below w.heap.size w w' := by
  obtain ⟨an, aa, am, ac, AN⟩ := A
  obtain ⟨bn, ba, bm, bc, BN⟩ := B
  obtain ⟨xn, xa, xm, xc, XN⟩ := X
  obtain ⟨yn, ya, ym, yc, YN⟩ := Y
  dsimp only at *
  subst e1 e2 e3 e4
  have H1 := hid1 (fun W p q => pbits_same an am N1 aa xa ac xc W hm p q)
  have H2 := hid1 (fun W p q => pbits_same bn bm N2 ba ya bc yc W hm' p q)
  have R1 := hid1 ra
  have R2 := hid1 rb
  have R3 := hid1 rx
  have R4 := hid1 ry
  clear ra rb rx ry
  go_enter Try.func11, Try.ntmps11
  go_wp2_with fail
  refine gen_calls (fun W => Below w.heap.size w W ∧ W.rowIs w.heap.size 46 4 (qf ⟨an, aa, am, ac, AN⟩ ⟨bn, ba, bm, bc, BN⟩) ∧ W.rowIs (w.heap.size + 1) 46 4 (qf ⟨an, xa, am, xc, XN⟩ ⟨bn, ya, bm, yc, YN⟩)) ⟨bl_alloc (bl_alloc (Below.refl _ _) _) _, (q_new w ⟨an, aa, am, ac, AN⟩ ⟨bn, ba, bm, bc, BN⟩ _).alloc _, by have := q_new (w.alloc (.cells #[.int .i64 an, .slice aa am ac, .int .i64 bn, .slice ba bm bc] 46)) ⟨an, xa, am, xc, XN⟩ ⟨bn, ya, bm, yc, YN⟩ 46; rwa [World.size_alloc] at this⟩ ?_
  rintro W ⟨B0, r1, r2⟩
  refine (H1.out W (R1.out.below B0) (R3.out.below B0)).mono ?_
  rintro e w1 ⟨rfl, hb⟩
  replace r1 := keepr hb r1
  replace r2 := keepr hb r2
  have B1 := bl_step B0 hb
  clear hb B0
  have c2 := q2 r1
  have c3 := q3 r1
  have d2 := q2 r2
  have d3 := q3 r2
  go_wp2_with fail
  refine (H2.out w1 (R2.out.below B1) (R4.out.below B1)).mono ?_
  rintro e w2 ⟨rfl, hb⟩
  have B2 := bl_step B1 hb
  go_wp2_with fail
  go_ret
  exact ⟨rfl, B2⟩
end Go.Proofs.Ythjebjhepdclkaa
/- PACKAGE patch: set; weights laid as a patch's bits: plain mathematics. -/
namespace Go.Proofs.Ythjebjhepdclkaa
open Go.RowKit

theorem wd_setE (M i k : Nat) : wd (M ||| 2 ^ i) k = if k = i / 64 then wd M k ||| 2 ^ (i % 64) else wd M k := by
  rw [wd_or, wd_bit1]
  by_cases e : k = i / 64
  · rw [if_pos e, if_pos e]
  · rw [if_neg e, if_neg e]; simp
/-- Those that count. -/
def nzl (l : List Int) : List Int := l.map fun x => if x = 0 then 0 else 1
theorem nzl_len (l : List Int) : (nzl l).length = l.length := by simp [nzl]
theorem nzl_at (l : List Int) (k : Nat) : ia (nzl l) k = if ia l k = 0 then 0 else 1 := by
  unfold ia nzl
  rw [List.getD_eq_getElem?_getD, List.getD_eq_getElem?_getD, List.getElem?_map]
  cases l[k]? <;> simp
/-- Weights at their places: the number of a row. -/
def spN (l : List Int) (C P : Nat) : Nat := js (64 * nw C) (sp l C) P
theorem sp_words (l : List Int) (C i : Nat) : sp l C i < 2 ^ (64 * nw C) := Nat.lt_of_lt_of_le (sp_lt l C i) (Nat.pow_le_pow_right (by decide) (nw_le C))
theorem spN_lt (l : List Int) (C P : Nat) : spN l C P < 2 ^ (64 * (P * nw C)) := js_bound fun i _ => sp_words l C i
theorem spN_bit {C : Nat} (hC : 0 < C) (l : List Int) (P j : Nat) : (spN l C P).testBit j = (decide (j < P * (64 * nw C)) && (decide (j % (64 * nw C) < C) && decide (0 < ia l (j / (64 * nw C) * C + j % (64 * nw C))))) := by
  have hd : 0 < 64 * nw C := by unfold nw; omega
  unfold spN
  rw [js_bit hd P (fun i _ => sp_words l C i), sp_bit]
theorem spN_nil (C P : Nat) : spN [] C P = 0 := by
  unfold spN
  rw [js_congr (R := fun _ => 0) P (fun i _ => ?_), js_none]
  refine Nat.eq_of_testBit_eq fun b => ?_
  rw [sp_bit]
  simp [ia]
theorem ia_takeE (l : List Int) (n k : Nat) : ia (l.take n) k = if k < n then ia l k else 0 := by
  unfold ia
  rw [List.getD_eq_getElem?_getD, List.getD_eq_getElem?_getD]
  by_cases h : k < n
  · rw [if_pos h, List.getElem?_take_of_lt h]
  · rw [if_neg h, List.getElem?_eq_none (by simp; omega)]; rfl
/-- One weight more. -/
theorem spN_step {l : List Int} {C P i : Nat} (hC : 0 < C) (hi : i < P * C) : spN (l.take (i + 1)) C P = if 0 < ia l i then spN (l.take i) C P ||| 2 ^ (i / C * (64 * nw C) + i % C) else spN (l.take i) C P := by
  have hd : 0 < 64 * nw C := by unfold nw; omega
  have hCd : C ≤ 64 * nw C := nw_le C
  have hm := Nat.mod_lt i hC
  have hda := Nat.div_add_mod i C
  obtain ⟨x, ex⟩ : ∃ x, i / C = x := ⟨_, rfl⟩
  obtain ⟨c, ec⟩ : ∃ c, i % C = c := ⟨_, rfl⟩
  rw [ex, ec] at hda ⊢
  rw [ec] at hm
  have hxP : x < P := by rw [← ex]; exact Nat.div_lt_of_lt_mul (by rwa [Nat.mul_comm])
  have e1 : (x * (64 * nw C) + c) / (64 * nw C) = x := by rw [Nat.mul_comm, Nat.mul_add_div hd, Nat.div_eq_of_lt (by omega)]; omega
  have e2 : (x * (64 * nw C) + c) % (64 * nw C) = c := by rw [Nat.mul_comm, Nat.mul_add_mod, Nat.mod_eq_of_lt (by omega)]
  have key : ∀ j, j % (64 * nw C) < C → (j / (64 * nw C) * C + j % (64 * nw C) = i ↔ j = x * (64 * nw C) + c) := fun j hj => by
    have hj2 := Nat.div_add_mod j (64 * nw C)
    constructor
    · intro h
      have q1 : j / (64 * nw C) = x := by
        rw [← ex, ← h, Nat.mul_comm (j / (64 * nw C)) C, Nat.mul_add_div hC, Nat.div_eq_of_lt hj, Nat.add_zero]
      have q2 : j % (64 * nw C) = c := by
        rw [← ec, ← h, Nat.mul_comm (j / (64 * nw C)) C, Nat.mul_add_mod, Nat.mod_eq_of_lt hj]
      rw [q1, q2, Nat.mul_comm] at hj2
      exact hj2.symm
    · intro h
      rw [h, e1, e2, Nat.mul_comm]
      exact hda
  refine Nat.eq_of_testBit_eq fun j => ?_
  have hb : (2 ^ (x * (64 * nw C) + c)).testBit j = decide (j = x * (64 * nw C) + c) := by
    rw [Nat.testBit_two_pow]
    by_cases h : x * (64 * nw C) + c = j
    · simp [h]
    · simp [h]; exact fun e => h e.symm
  have ht : x * (64 * nw C) + c < P * (64 * nw C) := by
    have := Nat.mul_le_mul_right (64 * nw C) (show x + 1 ≤ P from hxP)
    rw [Nat.succ_mul] at this
    omega
  have step : (spN (l.take (i + 1)) C P).testBit j = ((spN (l.take i) C P).testBit j || (decide (0 < ia l i) && decide (j = x * (64 * nw C) + c))) := by
    rw [spN_bit hC, spN_bit hC, ia_takeE, ia_takeE]
    by_cases hj : j % (64 * nw C) < C
    · have k := key j hj
      by_cases hji : j = x * (64 * nw C) + c
      · have k1 := k.2 hji
        rw [k1]
        subst hji
        simp [e2, hm, ht]
      · have k1 : ¬ j / (64 * nw C) * C + j % (64 * nw C) = i := fun h => hji (k.1 h)
        by_cases k2 : j / (64 * nw C) * C + j % (64 * nw C) < i
        · have k3 : j / (64 * nw C) * C + j % (64 * nw C) < i + 1 := by omega
          simp [k2, k3, hji]
        · have k3 : ¬ j / (64 * nw C) * C + j % (64 * nw C) < i + 1 := by omega
          simp [k2, k3, hji]
    · have hji : ¬ j = x * (64 * nw C) + c := fun h => hj (by rw [h, e2]; exact hm)
      simp [hj, hji]
  rw [step]
  by_cases h0 : 0 < ia l i
  · rw [if_pos h0, Nat.testBit_or, hb]; simp [h0]
  · rw [if_neg h0]; simp [h0]
end Go.Proofs.Ythjebjhepdclkaa
/- PACKAGE patch: set. -/
namespace Go.Proofs.Ythjebjhepdclkaa
open Go.RowKit

set_option maxHeartbeats 1600000 in
set_option maxRecDepth 100000 in
theorem pset_any (m g1 g2 N1 N2 i : Nat) (x : Int) (w : World) (hm : m ≤ 262144) (hi : i < 64 * m) (hx : -1 ≤ x ∧ x ≤ 1) (hne : g1 ≠ g2) (h1 : w.rowIs g1 48 m (wf N1)) (h2 : w.rowIs g2 48 m (wf N2)) (M1 M2 : Nat) (e1 : M1 = if 0 < x then N1 ||| 2 ^ i else N1) (e2 : M2 = if x = 0 then N2 else N2 ||| 2 ^ i) :
    Calls Try.prog 29 #[rwv (bt m g1 0) (bt m g2 0), .int .i64 i, .int .i8 x] w fun e w' => e = .returned (.tuple #[]) ∧ w'.rowIs g1 48 m (wf M1) ∧ w'.rowIs g2 48 m (wf M2) ∧ ∃ W, But g2 w W ∧ But g1 W w' := by
  obtain ⟨q, hq⟩ : ∃ q : Nat, i / 64 = q := ⟨_, rfl⟩
  obtain ⟨r, hr⟩ : ∃ r : Nat, i % 64 = r := ⟨_, rfl⟩
  have eq : (i : Int) / 64 = (q : Int) := by omega
  have er : (i : Int) % 64 = (r : Int) := by omega
  have er' : (i : Int).tmod 64 = (r : Int) := by rw [Int.tmod_eq_emod_of_nonneg (by omega)]; exact er
  have q1 : q < m := by omega
  have iq0 : (0 : Int) ≤ (q : Int) := by omega
  have iq1 : (q : Int) < (m : Nat) := by omega
  have ir0 : (0 : Int) ≤ (r : Int) := by omega
  have ir1 : (r : Int) ≤ 63 := by omega
  have wq : IntKind.i64.wrap (q : Int) = q := by rw [IntKind.wrap_i64]; omega
  have cw1 := h1.cell q1
  have fw1 := h1.frozen q
  have cw2 := h2.cell q1
  have fw2 := h2.frozen q
  have hg1 := h1.lt
  have hg2 := h2.lt
  unfold wf at cw1 cw2
  have hx1 := wd_lt N1 q
  have hx2 := wd_lt N2 q
  have H64 : (2 : Nat) ^ r < 18446744073709551616 := by rw [two64]; exact Nat.pow_lt_pow_right (by decide) (by omega)
  have e64 : IntKind.u64.wrap (2 ^ r) = ((2 ^ r : Nat) : Int) := by
    rw [show ((2 : Int) ^ r) = ((2 ^ r : Nat) : Int) by simp, IntKind.wrap_u64]
    generalize 2 ^ r = y at *; omega
  have HO1 : Hid (bits .or .u64 (wd N1 q : Nat) (IntKind.u64.wrap (2 ^ r)) = ((wd N1 q ||| 2 ^ r : Nat) : Int)) := by
    rw [e64]; exact or_u64 _ _ hx1 H64
  have HO2 : Hid (bits .or .u64 (wd N2 q : Nat) (IntKind.u64.wrap (2 ^ r)) = ((wd N2 q ||| 2 ^ r : Nat) : Int)) := by
    rw [e64]; exact or_u64 _ _ hx2 H64
  have HP1 : Hid (∀ (W : World) (z : Int), z = ((wd N1 q ||| 2 ^ r : Nat) : Int) → W.rowIs g1 48 m (wf N1) → (W.setCell ⟨g1, q, none⟩ (.int .u64 z)).rowIs g1 48 m (wf (N1 ||| 2 ^ i))) := fun W z hz h => (h.set q _).congr fun k hk => by
    simp only [wf]
    rw [wd_setE N1 i k, hq, hr, hz]
    by_cases e : k = q
    · rw [if_pos e, if_pos e, e]
    · rw [if_neg e, if_neg e]
  have HP2 : Hid (∀ (W : World) (z : Int), z = ((wd N2 q ||| 2 ^ r : Nat) : Int) → W.rowIs g2 48 m (wf N2) → (W.setCell ⟨g2, q, none⟩ (.int .u64 z)).rowIs g2 48 m (wf (N2 ||| 2 ^ i))) := fun W z hz h => (h.set q _).congr fun k hk => by
    simp only [wf]
    rw [wd_setE N2 i k, hq, hr, hz]
    by_cases e : k = q
    · rw [if_pos e, if_pos e, e]
    · rw [if_neg e, if_neg e]
  have HR1 := hid1 h1
  have HR2 := hid1 h2
  have i0 : (0 : Int) ≤ (i : Int) := by omega
  have i1 : (i : Int) < 16777216 := by omega
  have HE1 := hid1 e1
  have HE2 := hid1 e2
  clear h1 h2 hx1 hx2 H64 hq hr e1 e2 e64
  go_enter Try.func29, Try.ntmps29
  go_upto_region 1 with fail
  refine gen_world (fun W' => Below w.heap.size w W' ∧ W'.rowIs w.heap.size 46 4 (qf (bt m g1 0) (bt m g2 0))) ⟨bl_alloc (Below.refl _ _) _, q_new w (bt m g1 0) (bt m g2 0) _⟩ ?_
  rintro W ⟨B, b0⟩
  replace fw1 := keepf B hg1 fw1
  replace cw1 := keepc B cw1
  replace fw2 := keepf B hg2 fw2
  replace cw2 := keepc B cw2
  have c1 := Go.Proofs.Ythjebjhepdclkaa.q1 b0
  have c3 := q3 b0
  have lb := b0.lt
  have lz : w.heap.size ≠ g2 := by omega
  have lz1 : w.heap.size ≠ g1 := by omega
  have r1 := keepr B HR1.out
  have r2 := keepr B HR2.out
  have HB := hid1 B
  clear B b0
  rcases (show x = -1 ∨ x = 0 ∨ x = 1 by omega) with e | e | e
  · subst e
    obtain rfl : M1 = N1 := by rw [HE1.out]; rfl
    obtain rfl : M2 = N2 ||| 2 ^ i := by rw [HE2.out]; rfl
    go_wp2_with fail
    refine bodyPost_end (v := .tuple #[]) (by simp [results, go_sem]) rfl ?_
    exact ⟨rfl, r1.setOther (a := ⟨g2, q, none⟩) hne _, HP2.out W _ HO2.out r2, _, (But.of_below HB.out).set _, But.refl _ _⟩
  · subst e
    obtain rfl : M1 = N1 := by rw [HE1.out]; rfl
    obtain rfl : M2 = N2 := by rw [HE2.out]; rfl
    go_wp2_with fail
    refine bodyPost_end (v := .tuple #[]) (by simp [results, go_sem]) rfl ?_
    exact ⟨rfl, r1, r2, _, But.of_below HB.out, But.refl _ _⟩
  · subst e
    obtain rfl : M1 = N1 ||| 2 ^ i := by rw [HE1.out]; rfl
    obtain rfl : M2 = N2 ||| 2 ^ i := by rw [HE2.out]; rfl
    have hne' : g2 ≠ g1 := hne.symm
    go_wp2_with fail
    refine bodyPost_end (v := .tuple #[]) (by simp [results, go_sem]) rfl ?_
    exact ⟨rfl, HP1.out _ _ HO1.out (r1.setOther (a := ⟨g2, q, none⟩) hne _), (HP2.out W _ HO2.out r2).setOther (a := ⟨g1, q, none⟩) hne' _, _, (But.of_below HB.out).set _, (But.refl _ _).set _⟩
end Go.Proofs.Ythjebjhepdclkaa
