import Derived.Test.YtohkiknhjcibgaaBW11
import Derived.ProofKit
import Derived.OpenShut
import Derived.ChangeOld
import Derived.SizedLaws
import Derived.Test.YtohkiknhjcibgaaBW12
import Derived.ChangeSlices
import Derived.Test.YtohkiknhjcibgaaKW2
import Derived.Test.YtohkiknhjcibgaaDW2
import Derived.Deep.DeepAppendWide
import Derived.Laws.AppendOwnNone
import Derived.Test.YtohkiknhjcibgaaKW8
import Derived.Maps.AppendAt
import Derived.Test.YtohkiknhjcibgaaEW2
import Derived.Test.YtohkiknhjcibgaaEW1
import Derived.Test.YtohkiknhjcibgaaEM1
/- WHAT EVERY ROW OF THIS SEAT WANTS. -/
namespace Go.Proofs.Ytohkiknhjcibgaa
open Go.ChangeShapes Go.WideShapes Go.ChangeAt Go.RowKit

theorem own : ownKnob Try.prog.godebug = none := by kernel_rfl
theorem laidOut : laidOutB Try.prog = true := by kernel_rfl
theorem i64_of_wf {x : Int} (h : (Lit.int .i64 x).wf = true) : -9223372036854775808 ≤ x ∧ x ≤ 9223372036854775807 := by
  simp [Lit.wf, IntKind.min, IntKind.max, IntKind.signed, IntKind.bits] at h
  exact ⟨by omega, by omega⟩
end Go.Proofs.Ytohkiknhjcibgaa
/- PARAMETERS THAT ARE LISTS OF SMALL NUMBERS. -/
namespace Go.Proofs.Ytohkiknhjcibgaa
open Go.ChangeShapes Go.WideShapes Go.ChangeAt Go.RowKit
set_option maxRecDepth 100000

theorem reach_is : reachBytes = 140737488351232 := by decide
theorem cells_i8 : Try.prog.cellsOf 50 = 1 := by kernel_rfl
theorem bytes_i8 : Try.prog.bytesOf 50 = 1 := by kernel_rfl
theorem open_i8 {H : Type} {enc : TypeId × Value → H} {W : World} {base : Nat} {v : Value} {d : DataW H} {p : List MemPlace}
    (hv : Value.okWide Try.prog W .any base 69 v) (h : DataW.Trod enc Try.prog W 0 (fun _ => true) true 69 v d p) :
    ∃ (ao : Option Addr) (l : List Int) (cap : Nat), v = .slice ao l.length cap ∧ l.length ≤ cap ∧ (ao = none → l.length = 0 ∧ cap = 0) ∧ R8 W ao l ∧
      ((d = .nil ∧ cap = 0) ∨ ∃ es sp, d = .slice es sp ∧ es.length + sp.length = cap) := by
  obtain ⟨a0, len, cap, rfl⟩ := okWide_slice und_i8s hv
  obtain ⟨fuel, hf⟩ := h
  rcases open_ints und_i8s Try.underlying50 cells_i8 hf with ⟨hc, hx⟩ | ⟨a, len', cap', zs, hc, _, hl, _, hz, hx, hcell, _⟩
  · simp [Value.cells] at hc
    obtain ⟨rfl, rfl, rfl⟩ := hc
    simp only [Prod.mk.injEq] at hx
    exact ⟨none, [], 0, rfl, Nat.le_refl _, fun _ => ⟨rfl, rfl⟩, fun k hk => absurd hk (by simp), .inl ⟨hx.1, rfl⟩⟩
  · simp [Value.cells] at hc
    obtain ⟨rfl, rfl, rfl⟩ := hc
    simp only [if_true] at hz
    simp only [Prod.mk.injEq] at hx
    have hlen : (zs.take len).length = len := by simp; omega
    refine ⟨some a, zs.take len, cap, by rw [hlen], by rw [hlen]; exact hl, fun e => (by cases e), ?_, .inr ⟨_, _, hx.1, by simp [lits]; omega⟩⟩
    intro k hk
    rw [hlen] at hk
    have c := hcell k (by omega)
    have c0 := hcell 0 (by omega)
    have hs := World.cell?_spot c0
    obtain ⟨b, o, s⟩ := a
    simp [Addr.add] at hs
    subst hs
    refine ⟨b, o, rfl, ?_⟩
    have e1 : ia (zs.take len) k = zs.getD k 0 := ia_take hk
    rw [e1, ← c]
    by_cases h0 : k = 0
    · subst h0; rfl
    · simp [Addr.add, h0]
end Go.Proofs.Ytohkiknhjcibgaa
/- heddlelaw13: sameWords, sameBits, sameRow of what is alike. -/
namespace Go.Proofs.Ytohkiknhjcibgaa
open Go.RowKit Go.Shelf

set_option maxHeartbeats 1600000 in
set_option maxRecDepth 100000 in
theorem pwords_same (m N : Nat) (ao bo : Option Addr) (ca cb : Nat) (w : World) (hm : m ≤ 9223372036854775807) (ra : Wr w ao m N) (rb : Wr w bo m N) :
    Calls Try.prog 24 #[.slice ao m ca, .slice bo m cb] w fun e w' => e = .returned (.bool true) ∧ Below w.heap.size w w' := by
  have HA := hid1 ra
  have HB := hid1 rb
  clear ra rb
  go_enter Try.func24, Try.ntmps24
  go_wp2
  go_loopw [5] (fun i wr => ∃ k : Nat, k ≤ m ∧ i = .int .i64 k ∧ Below w.heap.size w wr) (fun i _ => m - (intOf i).toNat)
  case atStart => exact ⟨0, Nat.zero_le _, rfl, Below.refl _ _⟩
  case round =>
    obtain ⟨k, hk, rfl, hnx⟩ := hrel
    by_cases hlt : k < m
    · obtain ⟨ga, oa, rfl, a1⟩ := (HA.out.below hnx).2 k hlt
      obtain ⟨gb, ob, rfl, b1⟩ := (HB.out.below hnx).2 k hlt
      unfold wf at a1 b1
      have ik : (k : Int) < (m : Nat) := by omega
      have ik0 : (0 : Int) ≤ (k : Int) := by omega
      go_wp2_with fail
      go_quiet (fail)
      go_wp2_with fail
      exact ⟨⟨k + 1, by omega, by go_num, bl_drewN hnx _⟩, by simp [intOf]; omega⟩
    · have hkN : k = m := by omega
      subst hkN
      go_wp2_with fail
      go_ret
      exact ⟨rfl, hnx⟩
set_option maxHeartbeats 1600000 in
set_option maxRecDepth 100000 in
theorem pbits_same (n : Int) (m N : Nat) (ao bo : Option Addr) (ca cb : Nat) (w : World) (hm : m ≤ 9223372036854775807) (ra : Wr w ao m N) (rb : Wr w bo m N) :
    Calls Try.prog 10 #[rv n ao m ca, rv n bo m cb] w fun e w' => e = .returned (.bool true) ∧ Below w.heap.size w w' := by
  have HA := hid1 ra
  have HB := hid1 rb
  clear ra rb
  go_enter Try.func10, Try.ntmps10
  go_wp2_with fail
  refine gen_calls (fun W => Below w.heap.size w W) (bl_alloc (bl_alloc (Below.refl _ _) _) _) ?_
  rintro W B0
  refine (pwords_same m N ao bo ca cb W hm (HA.out.below B0) (HB.out.below B0)).mono ?_
  rintro e w1 ⟨rfl, hb⟩
  go_wp2_with fail
  go_ret
  exact ⟨rfl, bl_step B0 hb⟩
set_option maxRecDepth 100000 in
theorem prow_same (A B X Y : Bt) (w : World) (hm : A.m ≤ 9223372036854775807) (hm' : B.m ≤ 9223372036854775807) (e1 : A.n = X.n) (e2 : A.m = X.m) (e3 : B.n = Y.n) (e4 : B.m = Y.m) (N1 N2 : Nat) (ra : Wr w A.ao A.m N1) (rb : Wr w B.ao B.m N2) (rx : Wr w X.ao X.m N1) (ry : Wr w Y.ao Y.m N2) :
    Calls Try.prog 11 #[rwv A B, rwv X Y] w fun e w' => e = .returned (.bool true) ∧ Below w.heap.size w w' := by
  obtain ⟨an, aa, am, ac, AN⟩ := A
  obtain ⟨bn, ba, bm, bc, BN⟩ := B
  obtain ⟨xn, xa, xm, xc, XN⟩ := X
  obtain ⟨yn, ya, ym, yc, YN⟩ := Y
  dsimp only at *
  subst e1 e2 e3 e4
  have H1 := hid1 (fun W p q => pbits_same an am N1 aa xa ac xc W hm p q)
  have H2 := hid1 (fun W p q => pbits_same bn bm N2 ba ya bc yc W hm' p q)
  have R1 := hid1 ra
  have R2 := hid1 rb
  have R3 := hid1 rx
  have R4 := hid1 ry
  clear ra rb rx ry
  go_enter Try.func11, Try.ntmps11
  go_wp2_with fail
  refine gen_calls (fun W => Below w.heap.size w W ∧ W.rowIs w.heap.size 46 4 (qf ⟨an, aa, am, ac, AN⟩ ⟨bn, ba, bm, bc, BN⟩) ∧ W.rowIs (w.heap.size + 1) 46 4 (qf ⟨an, xa, am, xc, XN⟩ ⟨bn, ya, bm, yc, YN⟩)) ⟨bl_alloc (bl_alloc (Below.refl _ _) _) _, (q_new w ⟨an, aa, am, ac, AN⟩ ⟨bn, ba, bm, bc, BN⟩ _).alloc _, by have := q_new (w.alloc (.cells #[.int .i64 an, .slice aa am ac, .int .i64 bn, .slice ba bm bc] 46)) ⟨an, xa, am, xc, XN⟩ ⟨bn, ya, bm, yc, YN⟩ 46; rwa [World.size_alloc] at this⟩ ?_
  rintro W ⟨B0, r1, r2⟩
  refine (H1.out W (R1.out.below B0) (R3.out.below B0)).mono ?_
  rintro e w1 ⟨rfl, hb⟩
  replace r1 := keepr hb r1
  replace r2 := keepr hb r2
  have B1 := bl_step B0 hb
  clear hb B0
  have c2 := q2 r1
  have c3 := q3 r1
  have d2 := q2 r2
  have d3 := q3 r2
  go_wp2_with fail
  refine (H2.out w1 (R2.out.below B1) (R4.out.below B1)).mono ?_
  rintro e w2 ⟨rfl, hb⟩
  have B2 := bl_step B1 hb
  go_wp2_with fail
  go_ret
  exact ⟨rfl, B2⟩
end Go.Proofs.Ytohkiknhjcibgaa
/- The document's own answers of dot: Bit, May, Check. -/
namespace Go.Proofs.Ytohkiknhjcibgaa
open Go.RowKit

theorem half_u64 {x j : Nat} : ((x / 2 ^ j : Nat) : Int) / 2 = ((x / 2 ^ (j + 1) : Nat) : Int) := by
  rw [Nat.pow_succ, ← Nat.div_div_eq_div_mul]
  omega
set_option maxHeartbeats 800000 in
set_option maxRecDepth 100000 in
theorem tbit_any (b : Bt) (i : Nat) (w : World) (hi : i < 64 * b.m) (hm : b.m ≤ 262144) (h : Rw w b) :
    Calls Try.prog 39 #[b.v, .int .i64 i] w fun e w' => e = .returned (.bool (b.N.testBit i)) ∧ Below w.heap.size w w' := by
  obtain ⟨bn, ba, bm, bc, BN⟩ := b
  dsimp only at *
  obtain ⟨q, r, hr, rfl⟩ : ∃ q r, r < 64 ∧ i = 64 * q + r := ⟨i / 64, i % 64, by omega, by omega⟩
  have q1 : q < bm := by omega
  obtain ⟨g, o, rfl, c⟩ := h.2.2 q q1
  unfold wf at c
  dsimp only at c
  have e1 : ((64 * q + r : Nat) : Int) / 64 = q := by omega
  have e2 : ((64 * q + r : Nat) : Int).tmod 64 = r := by rw [Int.tmod_eq_emod_of_nonneg (by omega)]; omega
  have e2' : ((64 * q + r : Nat) : Int) % 64 = r := by omega
  have e3 : IntKind.i64.wrap (q : Int) = q := by rw [IntKind.wrap_i64]; omega
  have iq0 : (0 : Int) ≤ (q : Int) := by omega
  have iq1 : (q : Int) < (bm : Int) := by omega
  have ir0 : (0 : Int) ≤ (r : Int) := by omega
  have ir1 : (r : Int) ≤ 63 := by omega
  have ip0 : (0 : Int) ≤ ((64 * q + r : Nat) : Int) := by omega
  have HB := hid1 (bit_mod BN q r hr)
  have lg := lt_of_cell c
  have hx := wd_lt BN q
  clear h hi
  generalize hP : 64 * q + r = P at *
  clear hP
  generalize wd BN q = x at *
  go_enter Try.func39, Try.ntmps39
  go_wp2_with fail
  go_loop [5, 6] (fun v j => ∃ k : Nat, k ≤ r ∧ j = .int .i64 k ∧ v = .int .u64 ((x / 2 ^ k : Nat) : Int)) (fun _ j => r - (intOf j).toNat)
  case atStart => exact ⟨0, Nat.zero_le _, rfl, by simp⟩
  case round =>
    obtain ⟨k, hk, rfl, rfl⟩ := hrel
    have hy : x / 2 ^ k < 18446744073709551616 := Nat.lt_of_le_of_lt (Nat.div_le_self _ _) hx
    by_cases hlt : k < r
    · have ik : (k : Int) < (r : Int) := by omega
      have HH := hid1 (half_u64 (x := x) (j := k))
      generalize hq : x / 2 ^ k = y at *
      clear hq
      go_wp2_with fail
      exact ⟨⟨k + 1, by omega, by go_num, by rw [← HH.out]⟩, by simp [intOf]; omega⟩
    · have hkr : k = r := by omega
      subst hkr
      have hb := HB.out
      clear HB
      generalize x / 2 ^ k = y at *
      cases hbt : BN.testBit P
      · rw [hbt] at hb
        have y1 : (y : Int) % 2 = 0 := by simp at hb; omega
        have y2 : (y : Int).tmod 2 = 0 := by rw [Int.tmod_eq_emod_of_nonneg (by omega)]; exact y1
        clear hb
        go_wp2_with fail
        go_ret
        exact ⟨rfl, bl_alloc (Below.refl _ _) _⟩
      · rw [hbt] at hb
        have y1 : (y : Int) % 2 = 1 := by simp at hb; omega
        have y2 : (y : Int).tmod 2 = 1 := by rw [Int.tmod_eq_emod_of_nonneg (by omega)]; exact y1
        clear hb
        go_wp2_with fail
        go_ret
        exact ⟨rfl, bl_alloc (Below.refl _ _) _⟩

/-- May a row of bits be? -/
def myB (b : Bt) : Bool := decide (chk b.n b.m b.N = 0)
theorem myB_zero {b : Bt} (h : chk b.n b.m b.N = 0) : myB b = true := by unfold myB; rw [decide_eq_true h]
theorem myB_not {b : Bt} (h : chk b.n b.m b.N ≠ 0) : myB b = false := by unfold myB; rw [decide_eq_false h]
theorem sub_word (A B k : Nat) : (wd A k &&& wd B k = wd A k) ↔ wd A k &&& (18446744073709551615 - wd B k) = 0 := by
  have hc : ∀ i, i < 64 → (18446744073709551615 - wd B k).testBit i = !((wd B k).testBit i) := fun i hi => by
    have hb := wd_lt B k
    have e : 18446744073709551615 - wd B k = 2 ^ 64 - (wd B k + 1) := by rw [← two64]; omega
    rw [e, Nat.testBit_two_pow_sub_succ (by rw [← two64]; exact hb)]
    simp [hi]
  constructor
  · intro h
    refine wd_ext (and_lt64 (wd_lt _ _)) (by decide) fun i hi => ?_
    have h1 := congrArg (fun x => Nat.testBit x i) h
    simp only [Nat.testBit_and] at h1
    rw [Nat.testBit_and, hc i hi]
    cases h2 : (wd A k).testBit i <;> cases h3 : (wd B k).testBit i <;> simp [h2, h3] at h1 ⊢
  · intro h
    refine wd_ext (and_lt64 (wd_lt _ _)) (wd_lt _ _) fun i hi => ?_
    have h1 := congrArg (fun x => Nat.testBit x i) h
    simp only [Nat.testBit_and, Nat.zero_testBit] at h1
    rw [hc i hi] at h1
    rw [Nat.testBit_and]
    cases h2 : (wd A k).testBit i <;> cases h3 : (wd B k).testBit i <;> simp [h2, h3] at h1 ⊢
theorem dck_bad {A B : Bt} (h : myB A = false ∨ myB B = false ∨ A.n ≠ B.n) : dck A B = 20 := by
  unfold dck
  rw [if_pos]
  rcases h with h | h | h
  · left
    intro h2
    rw [myB_zero h2] at h
    cases h
  · right
    unfold ftB
    rw [decide_eq_false]
    rintro ⟨h2, _⟩
    rw [myB_zero h2] at h
    cases h
  · right
    unfold ftB
    rw [decide_eq_false]
    rintro ⟨_, h2⟩
    exact h h2.symm
theorem dck_good {A B : Bt} (h1 : myB A = true) (h2 : myB B = true) (h3 : A.n = B.n) : (dck A B = if A.N &&& B.N = A.N then 0 else 100) ∧ ∃ n : Nat, A.n = n ∧ n ≤ 16777216 ∧ A.m = nw n ∧ B.m = nw n ∧ A.N < 2 ^ n := by
  have e1 : chk A.n A.m A.N = 0 := of_decide_eq_true h1
  have e2 : chk B.n B.m B.N = 0 := of_decide_eq_true h2
  obtain ⟨n, f1, f2, f3, f4⟩ := chk_zero e1
  obtain ⟨n', k1, k2, k3, k4⟩ := chk_zero e2
  have : n' = n := by omega
  subst this
  refine ⟨?_, n', f1, f2, f3, k3, f4⟩
  unfold dck
  rw [if_neg]
  rintro (h | h)
  · exact h e1
  · unfold ftB at h
    have := of_decide_eq_false h
    exact this ⟨e2, h3.symm⟩
end Go.Proofs.Ytohkiknhjcibgaa
/- The document's Weights and sum. -/
namespace Go.Proofs.Ytohkiknhjcibgaa
open Go.RowKit

theorem info_i64 : (Try.prog.info? 2).map (fun i => (i.zero, i.size, i.bytes)) = some (some (.int .i64 0), 1, 8) := by kernel_rfl
/-- The first k numbers of f, as cells. -/
def fl (f : Nat → Int) (k : Nat) : List Value := (List.range k).map fun i => Value.int .i64 (f i)
theorem fl_len (f : Nat → Int) (k : Nat) : (fl f k).length = k := by simp [fl]
theorem fl_snoc (f : Nat → Int) (k : Nat) : fl f (k + 1) = fl f k ++ [.int .i64 (f k)] := by simp [fl, List.range_succ]
theorem fl_at {f : Nat → Int} {k j : Nat} (h : j < k) : (fl f k)[j]? = some (.int .i64 (f j)) := by simp [fl, h]
/-- The slice reads as these numbers. -/
def R64 (w : World) (ao : Option Addr) (f : Nat → Int) (n : Nat) : Prop := ∀ k, k < n → ∃ g o, ao = some ⟨g, o, none⟩ ∧ w.cell? ⟨g, o + k, none⟩ = some (.int .i64 (f k))
theorem R64.below {w w' : World} {ao : Option Addr} {f : Nat → Int} {n : Nat} (h : R64 w ao f n) (hb : Below w.heap.size w w') : R64 w' ao f n :=
  fun k hk => by obtain ⟨g, o, e, c⟩ := h k hk; exact ⟨g, o, e, keepc hb c⟩
theorem r64_own {w : World} {base n : Nat} {v : Value} {f : Nat → Int} (h : w.ownsRow base 2 1 v n (fl f n)) : ∃ ao cap, v = .slice ao n cap ∧ R64 w ao f n := by
  rcases Nat.eq_zero_or_pos n with h0 | h0
  · rcases h.2 with ⟨h1, _⟩ | ⟨g, cap, cur, hv, _, _, h4, h5, _⟩
    · exact ⟨none, 0, by rw [h0]; exact h1, fun k hk => absurd hk (by omega)⟩
    · exact ⟨_, cap, hv, fun k hk => absurd hk (by omega)⟩
  · obtain ⟨g, cap, c, hv, _, h4, h5, hr, hf⟩ := own_row h h0
    refine ⟨_, cap, hv, fun k hk => ⟨g, 0, rfl, ?_⟩⟩
    rw [Nat.zero_add]
    refine (hr.cell (by omega)).trans ?_
    have := hf k hk
    rw [fl_at hk] at this
    exact congrArg some (Option.some.inj this).symm
theorem own_keep {w w' : World} {base : Nat} {e : TypeId} {size : Nat} {v : Value} {n : Nat} {xs : List Value} (h : w.ownsRow base e size v n xs) (hb : Below w.heap.size w w') : w'.ownsRow base e size v n xs :=
  h.kept (row := none) ⟨hb.os, hb.tape, hb.output, hb.size, fun k hk _ => hb.block k hk⟩ (by cases v.ownBlock <;> simp)
/-- Behind a new cell and an append to what lies from base on: what lies below base is as it was. -/
theorem grown_below {base : Nat} {e : TypeId} {size n : Nat} {v : Value} {xs : List Value} {w w' : World} {o : Obj} (hown : w.ownsRow base e size v n xs) (hb : base ≤ w.heap.size) (hg : (w.alloc o).grownBy w' v.ownBlock) : Below base w w' :=
  (((Below.refl base w).alloc hb o)).grown hg (by simp; omega) (fun q hq => (hown.lt q hq).1)
end Go.Proofs.Ytohkiknhjcibgaa
/- The document's Set: truth values as a row of bits (as DR4, for a seat with cubes). -/
namespace Go.Proofs.Ytohkiknhjcibgaa
open Go.RowKit

theorem own_mono {w : World} {base base' : Nat} {e : TypeId} {size : Nat} {v : Value} {n : Nat} {xs : List Value} (h : w.ownsRow base e size v n xs) (hb : base' ≤ base) : w.ownsRow base' e size v n xs := by
  refine ⟨h.1, ?_⟩
  rcases h.2 with h2 | ⟨g, cap, cur, hv, hbase, h4⟩
  · exact .inl h2
  · exact .inr ⟨g, cap, cur, hv, by omega, h4⟩
theorem own_row_ne {w : World} {base : Nat} {e t : TypeId} {size b n k : Nat} {v : Value} {xs : List Value} {f : Nat → Value} (h : w.ownsRow base e size v n xs) (r : w.rowIs b t k f) (ht : e ≠ t) : v.ownBlock ≠ some b := by
  rcases h.2 with ⟨rfl, _⟩ | ⟨g, cap, cur, rfl, _, hg, _⟩
  · simp [Value.ownBlock]
  · intro e1
    simp [Value.ownBlock] at e1
    subst e1
    obtain ⟨c, hc, _⟩ := r
    rw [hg] at hc
    exact ht (by injection hc with hc; injection hc)
theorem row_grown {w w' : World} {base : Nat} {e t : TypeId} {size b n k : Nat} {v : Value} {xs : List Value} {f : Nat → Value} (r : w.rowIs b t k f) (hown : w.ownsRow base e size v n xs) (hg : w.grownBy w' v.ownBlock) (ht : e ≠ t) : w'.rowIs b t k f :=
  r.of_block (hg.block _ r.lt (fun e1 => own_row_ne hown r ht e1.symm))
/-- The slice reads as these truth values. -/
def RB (w : World) (ao : Option Addr) (f : Nat → Bool) (n : Nat) : Prop := ∀ k, k < n → ∃ g o, ao = some ⟨g, o, none⟩ ∧ w.cell? ⟨g, o + k, none⟩ = some (.bool (f k))
theorem RB.below {w w' : World} {ao : Option Addr} {f : Nat → Bool} {n : Nat} (h : RB w ao f n) (hb : Below w.heap.size w w') : RB w' ao f n :=
  fun k hk => by obtain ⟨g, o, e, c⟩ := h k hk; exact ⟨g, o, e, keepc hb c⟩
theorem half_step (x j : Nat) : x / 2 ^ j = 2 * (x / 2 ^ (j + 1)) + (x.testBit j).toNat := by
  rw [Nat.pow_succ, ← Nat.div_div_eq_div_mul]
  have h := Nat.testBit_eq_decide_div_mod_eq (x := x) (i := j)
  have e : (x.testBit j).toNat = x / 2 ^ j % 2 := by
    rw [h]
    rcases Nat.mod_two_eq_zero_or_one (x / 2 ^ j) with e | e <;> simp [e]
  rw [e]
  omega
theorem wl_snoc (N n : Nat) : wl N (n + 1) = wl N n ++ [wf N n] := by simp [wl, List.range_succ]
theorem app_word {ops : Array Oper} {rest : List Oper} {o : Oper} {a : Act} {Q : Exit → Act → World → Prop} {w : World} (hgd : o.guard = none) (s x : Operand)
    (ho : o.op = .call { callee := .builtin .append, args := #[s, x], argTypes := #[26, 26] }) (base : Nat) (v : Value) (N n : Nat) (hs : a.eval s = v) (hown : w.ownsRow base 41 1 v n (wl N n))
    (g : Nat) (y : Int) (cb : Nat) (hx : a.eval x = .slice (some ⟨g, 0, none⟩) 1 cb) (hr : w.cell? ⟨g, 0, none⟩ = some (.int .u64 y)) (hM : n ≤ 17592186044000) (hb : base ≤ w.heap.size) (hy : wf N n = .int .u64 y)
    (h : ∀ v' w', w'.ownsRow base 41 1 v' (n + 1) (wl N (n + 1)) → w.grownBy w' v.ownBlock → wpList Try.prog ops Q rest (a.put o.dst v') w') : wpList Try.prog ops Q (o :: rest) a w := by
  obtain ⟨i0, hi, hz0, hz1, hz2⟩ := info_parts info_u64
  refine wpList_append_own w hgd s x _ ho base 41 i0 (.int .u64 0) 1 8 und_u64s hi hz0 hz1 hz2 rfl (by decide) v n (wl N n) hs hown ⟨g, 0, none⟩ 1 cb [.int .u64 y] hx rfl
    (fun j u hu => ?_) (fun u hu => by simp at hu; subst hu; rfl) (by unfold maxLen; omega) (by omega) hb ?_
  · rcases j with _ | j
    · simp at hu; subst hu; exact hr
    · simp at hu
  · intro v' w' h1 h2 _
    exact h v' w' (by rw [wl_snoc, hy]; exact h1) h2
theorem own_form2 {w : World} {base : Nat} {e : TypeId} {size : Nat} {v : Value} {n : Nat} {xs : List Value} (h : w.ownsRow base e size v n xs) : ∃ ao cp, v = .slice ao n cp := by
  rcases h.2 with ⟨rfl, rfl⟩ | ⟨g, cap, cur, rfl, _⟩
  · exact ⟨none, 0, rfl⟩
  · exact ⟨_, cap, rfl⟩
theorem rw_own {w : World} {base n N cap : Nat} {ao : Option Addr} (h : w.ownsRow base 41 1 (.slice ao (nw n) cap) (nw n) (wl N (nw n))) (hN : N < 2 ^ n) (h1 : n ≤ 16777216) : Rw w ⟨n, ao, nw n, cap, N⟩ := by
  have hb := nw_bd h1
  refine ⟨lt_nw hN, by show nw n ≤ _; omega, fun k hk => ?_⟩
  have hk' : k < nw n := hk
  obtain ⟨g, cp, f, hv, _, hle, _, hrow, hf⟩ := own_row h (by omega)
  injection hv with h1 h2 h3
  subst h1
  refine ⟨g, 0, rfl, ?_⟩
  rw [Nat.zero_add, hrow.cell (by omega)]
  have e := hf k hk'
  rw [wl_at hk'] at e
  exact e.symm
set_option maxHeartbeats 3200000 in
set_option maxRecDepth 100000 in
theorem setL_any (f : Nat → Bool) (n : Nat) (ao : Option Addr) (ca : Nat) (w : World) (h1 : n ≤ 16777216) (hl : RB w ao f n) :
    Calls Try.prog 40 #[.slice ao n ca] w fun e w' => ∃ bo cb, e = .returned (rv n bo (nw n) cb) ∧ w'.ownsRow (w.heap.size + 1) 41 1 (.slice bo (nw n) cb) (nw n) (wl (bn f n) (nw n)) ∧ Below w.heap.size w w' := by
  have HR := hid1 hl
  have hbd := nw_bd h1
  have HN := hid1 (bn_lt f n)
  have HBB : Hid (∀ i, (bn f n).testBit i = (decide (i < n) && f i)) := bn_bit f n
  obtain ⟨N, eN⟩ : ∃ N, bn f n = N := ⟨_, rfl⟩
  rw [eN] at HN HBB ⊢
  clear hl eN
  go_enter Try.func40, Try.ntmps40
  go_wp2_with fail
  go_loopw [4] (fun i wr => ∃ (k : Nat) (vo : Option Addr) (vc : Nat), k ≤ nw n ∧ i = .int .i64 ((64 * k : Nat) : Int) ∧ wr.ownsRow (w.heap.size + 2) 41 1 (.slice vo k vc) k (wl N k) ∧ wr.rowIs w.heap.size 44 2 (sf 0 none 0 0) ∧ wr.rowIs (w.heap.size + 1) 44 2 (sf n vo k vc) ∧ Below w.heap.size w wr) (fun i _ => 64 * nw n - (intOf i).toNat)
  case atStart => exact ⟨0, none, 0, Nat.zero_le _, rfl, World.ownsRow_nil _ _ _ _, (row_new _ _ _ _ _ _).alloc _, by have h := row_new (w.alloc (.cells #[.int .i64 0, .slice none 0 0] 44)) n none 0 0 44; rw [World.size_alloc] at h; exact h, bl_alloc (bl_alloc (Below.refl _ _) _) _⟩
  case round =>
    obtain ⟨k, vo, vc, hk, rfl, hown, r2, r3, B0⟩ := hrel
    have R2 := hid1 r2
    have R3 := hid1 r3
    have HO := hid1 hown
    have sz : w.heap.size + 2 ≤ wr.heap.size := by have := r3.lt; omega
    clear r2 r3 hown
    by_cases hlt : 64 * k < n
    · have hkn : k < nw n := by unfold nw; omega
      have ik : ((64 * k : Nat) : Int) < (n : Int) := by omega
      have ik0 : (0 : Int) ≤ ((64 * k : Nat) : Int) := by omega
      have ik1 : ((64 * k : Nat) : Int) ≤ 16777216 := by omega
      have hx := wd_lt N k
      have HX := hid1 (fun j => wd_bit N k j)
      obtain ⟨x, ex⟩ : ∃ x, wd N k = x := ⟨_, rfl⟩
      rw [ex] at hx HX
      have HWF : Hid (wf N k = .int .u64 (x : Int)) := hid1 (by unfold wf; rw [ex])
      generalize hP : 64 * k = P at *
      clear ex
      go_wp2_with fail
      go_loop [5, 6] (fun v j => ∃ q : Nat, q ≤ 64 ∧ j = .int .i64 ((q : Int) - 1) ∧ v = .int .u64 ((x / 2 ^ q : Nat) : Int)) (fun _ j => ((intOf j) + 1).toNat)
      case atStart => exact ⟨64, Nat.le_refl _, rfl, by rw [Nat.div_eq_of_lt (by rw [← two64]; exact hx)]; rfl⟩
      case round =>
        obtain ⟨q, hq, rfl, rfl⟩ := hrel
        rcases q with _ | q
        · have d1 := sf_ws R3.out
          have f1 := R3.out.frozen 1
          have l1 := R3.out.lt
          have hx0 : x / 2 ^ 0 = x := by simp
          rw [hx0]
          clear hx0
          go_wp2_with (at_builtin; refine app_word rfl _ _ rfl (w.heap.size + 2) (.slice vo k vc) N k (by go_simp) (HO.out.alloc _) wr.heap.size (x : Int) 1 (by go_simp) (by simp [go_sem]) (by omega) (by simp; omega) HWF.out ?_; intro v' w2 hown2 hgrow; obtain ⟨vo2, vc2, rfl⟩ := own_form2 hown2; have r32 := row_grown (R3.out.alloc _) (HO.out.alloc _) hgrow (by decide); have r22 := row_grown (R2.out.alloc _) (HO.out.alloc _) hgrow (by decide); have e1 := sf_ws r32; have ef := r32.frozen 1; have el := r32.lt; have O2 := hid1 hown2; have G2 := hid1 hgrow; have R32 := hid1 r32; have R22 := hid1 r22; clear hown2 hgrow r32 r22)
          have BQ := grown_below HO.out sz G2.out
          refine ⟨⟨k + 1, vo2, vc2, by omega, by rw [show 64 * (k + 1) = P + 64 by omega]; go_num, ownsRow_setCell_below O2.out (by show w.heap.size + 1 < w.heap.size + 2; omega) _, R22.out.setOther (a := ⟨w.heap.size + 1, 1, none⟩) (by show w.heap.size ≠ w.heap.size + 1; omega) _, (R32.out.set 1 _).congr fun j hj => ?_, (B0.trans (BQ.mono (by omega))).setCell (by show w.heap.size ≤ w.heap.size + 1; omega) _⟩, by simp [intOf]; omega⟩
          unfold sf
          rcases j with _ | _ | j
          · rfl
          · rfl
          · omega
        · have HS := hid1 (half_step x q)
          have hb1 := HX.out q
          rw [decide_eq_true (show q < 64 by omega), Bool.true_and] at hb1
          have hb2 := HBB.out (P + q)
          have hy : x / 2 ^ (q + 1) < 9223372036854775808 := by
            have h3 : x / 2 ^ (q + 1) ≤ x / 2 := by
              rw [Nat.pow_succ, Nat.mul_comm, ← Nat.div_div_eq_div_mul]
              exact Nat.div_le_self _ _
            omega
          generalize x / 2 ^ (q + 1) = y at *
          have iq : ((q + 1 : Nat) : Int) - 1 = (q : Int) := by omega
          rw [iq]
          have iq0 : (0 : Int) ≤ (q : Int) := by omega
          have iq1 : (q : Int) ≤ 63 := by omega
          by_cases hin : P + q < n
          · obtain ⟨ga, oa, rfl, c8⟩ := HR.out (P + q) hin
            replace c8 := keepc B0 c8
            have ip : (P : Int) + (q : Int) < (n : Int) := by omega
            have tp : ((P : Int) + (q : Int)).toNat = P + q := by omega
            rw [decide_eq_true hin, Bool.true_and] at hb2
            cases hf : f (P + q)
            · rw [hf] at c8 hb2
              have HT : Hid (((x / 2 ^ q : Nat) : Int) = 2 * (y : Int)) := hid1 (by rw [HS.out, hb1, hb2]; simp)
              clear hb1 hb2 hf
              go_wp2_with fail
              exact ⟨⟨q, by omega, by go_num, by rw [HT.out]; exact congrArg (Value.int .u64) (by omega)⟩, by simp [intOf]⟩
            · rw [hf] at c8 hb2
              have HT : Hid (((x / 2 ^ q : Nat) : Int) = 2 * (y : Int) + 1) := hid1 (by rw [HS.out, hb1, hb2]; simp)
              clear hb1 hb2 hf
              go_wp2_with fail
              exact ⟨⟨q, by omega, by go_num, by rw [HT.out]; exact congrArg (Value.int .u64) (by omega)⟩, by simp [intOf]⟩
          · have ip : ¬ (P : Int) + (q : Int) < (n : Int) := by omega
            rw [decide_eq_false hin, Bool.false_and] at hb2
            have HT : Hid (((x / 2 ^ q : Nat) : Int) = 2 * (y : Int)) := hid1 (by rw [HS.out, hb1, hb2]; simp)
            clear hb1 hb2
            go_wp2_with fail
            exact ⟨⟨q, by omega, by go_num, by rw [HT.out]; exact congrArg (Value.int .u64) (by omega)⟩, by simp [intOf]⟩
    · have hkn : k = nw n := by unfold nw at *; omega
      have ik : ¬ ((64 * k : Nat) : Int) < (n : Int) := by omega
      subst hkn
      have d0 := sf_len R3.out
      have d1 := sf_ws R3.out
      have e0 := sf_len R2.out
      have e1 := sf_ws R2.out
      have f0 := R2.out.frozen 0
      have f1 := R2.out.frozen 1
      have l1 := R2.out.lt
      generalize hP : 64 * nw n = P at *
      clear hP
      go_wp2_with fail
      refine bodyPost_ret (v := rv n vo (nw n) vc) (by simp [results, Try.results40, go_sem, e0, e1]) rfl ⟨vo, vc, rfl, ?_, ?_⟩
      · exact ownsRow_setCell_below (ownsRow_setCell_below (own_mono HO.out (by omega)) (by show w.heap.size < w.heap.size + 1; omega) _) (by show w.heap.size < w.heap.size + 1; omega) _
      · exact (B0.setCell (Nat.le_refl _) _).setCell (Nat.le_refl _) _
end Go.Proofs.Ytohkiknhjcibgaa
/- heddlelaw13: roomy, kept: words with marks behind them. -/
namespace Go.Proofs.Ytohkiknhjcibgaa
open Go.RowKit Go.Shelf

/-- The words of N (n of them), and i marks behind them, as a number. -/
def rmN (N n : Nat) : Nat → Nat
  | 0 => N
  | i + 1 => rmN N n i ||| (77 + i) * 2 ^ (64 * (n + i))
theorem rmN_lt {N n : Nat} (hN : N < 2 ^ (64 * n)) : ∀ i, i ≤ 20 → rmN N n i < 2 ^ (64 * (n + i))
  | 0, _ => hN
  | i + 1, hi => by
    have h1 := rmN_lt hN i (by omega)
    have e : 64 * (n + (i + 1)) = 64 * (n + i) + 64 := by omega
    refine Nat.or_lt_two_pow (Nat.lt_of_lt_of_le h1 (Nat.pow_le_pow_right (by decide) (by omega))) ?_
    rw [e, Nat.pow_add, Nat.mul_comm]
    exact Nat.mul_lt_mul_of_pos_left (Nat.lt_of_lt_of_le (show 77 + i < 128 by omega) (by decide)) (Nat.two_pow_pos _)
theorem wd_shift (x a k : Nat) (hx : x < 18446744073709551616) : wd (x * 2 ^ (64 * a)) k = if k = a then x else 0 := by
  refine wd_ext (wd_lt _ _) (by split; exact hx; decide) fun j hj => ?_
  rw [wd_bit, mul_bit]
  by_cases e : k = a
  · subst e
    rw [if_pos rfl]
    have h1 : 64 * k ≤ 64 * k + j := by omega
    have h2 : 64 * k + j - 64 * k = j := by omega
    simp [hj, h2]
  · rw [if_neg e]
    by_cases h : 64 * a ≤ 64 * k + j
    · have hb : x.testBit (64 * k + j - 64 * a) = false := Nat.testBit_lt_two_pow (Nat.lt_of_lt_of_le hx (by rw [two64]; exact Nat.pow_le_pow_right (by decide) (by omega)))
      simp [hb]
    · simp [h]
/-- The marks do not touch the words ahead; each is where it is put. -/
theorem rmN_wd {N n : Nat} (hN : N < 2 ^ (64 * n)) : ∀ i, i ≤ 20 → ∀ k, wd (rmN N n i) k = if k < n then wd N k else if k < n + i then 77 + (k - n) else 0
  | 0, _, k => by
    by_cases h : k < n
    · rw [if_pos h]; rfl
    · rw [if_neg h, if_neg (by omega)]
      refine wd_ext (wd_lt _ _) (by decide) fun j hj => ?_
      rw [wd_bit]
      have : (rmN N n 0).testBit (64 * k + j) = false := Nat.testBit_lt_two_pow (Nat.lt_of_lt_of_le hN (Nat.pow_le_pow_right (by decide) (by omega)))
      simp [this]
  | i + 1, hi, k => by
    have ih := rmN_wd hN i (by omega) k
    show wd (rmN N n i ||| (77 + i) * 2 ^ (64 * (n + i))) k = _
    rw [wd_or, ih, wd_shift _ _ _ (by omega)]
    by_cases h1 : k < n
    · rw [if_pos h1, if_neg (by omega), if_pos h1]; simp
    · rw [if_neg h1, if_neg h1]
      by_cases h2 : k = n + i
      · rw [if_neg (by omega), if_pos h2, if_pos (by omega)]; simp; omega
      · rw [if_neg h2]
        by_cases h3 : k < n + i
        · rw [if_pos h3, if_pos (by omega)]; simp
        · rw [if_neg h3, if_neg (by omega)]; simp
theorem wl_congr {A B n : Nat} (h : ∀ k, k < n → wd A k = wd B k) : wl A n = wl B n := by
  unfold wl
  refine List.map_congr_left fun k hk => ?_
  unfold wf
  rw [h k (List.mem_range.1 hk)]
theorem app_nilE {ops : Array Oper} {rest : List Oper} {o : Oper} {a : Act} {Q : Exit → Act → World → Prop} {w : World} (hgd : o.guard = none) (s x : Operand)
    (ho : o.op = .call { callee := .builtin .append, args := #[s, x], argTypes := #[26, 26] }) (hs : a.eval s = .slice none 0 0)
    (ao : Option Addr) (n N cap : Nat) (hx : a.eval x = .slice ao n cap) (hr : Wr w ao n N) (hM : n ≤ 17592186043904) (hn0 : ao = none → cap = 0)
    (h : ∀ v' w', w'.ownsRow w.heap.size 41 1 v' n (wl N n) → Below w.heap.size w w' → wpList Try.prog ops Q rest (a.put o.dst v') w') : wpList Try.prog ops Q (o :: rest) a w := by
  obtain ⟨i0, hi, hz0, hz1, hz2⟩ := info_parts info_u64
  cases ao with
  | none =>
    have h0 : n = 0 := by
      rcases Nat.eq_zero_or_pos n with h0 | h0
      · exact h0
      · obtain ⟨g, o', e, _⟩ := hr.2 0 h0
        cases e
    have h1 := hn0 rfl
    subst h0 h1
    exact wpList_append_own_none hgd s x _ ho w.heap.size 41 i0 1 und_u64s hi (.slice none 0 0) 0 [] hs (World.ownsRow_nil _ _ _ _) hx (h _ _ (World.ownsRow_nil _ _ _ _) (Below.refl _ _))
  | some ad =>
    refine wpList_append_own w hgd s x _ ho w.heap.size 41 i0 (.int .u64 0) 1 8 und_u64s hi hz0 hz1 hz2 rfl (by decide) (.slice none 0 0) 0 [] hs (World.ownsRow_nil _ _ _ _) ad n cap (wl N n) hx (by rw [wl_len]; omega)
      (fun j u hu => ?_) (fun u hu => by unfold wl at hu; obtain ⟨k, _, rfl⟩ := List.mem_map.1 hu; rfl) (by unfold maxLen; omega) (by omega) (Nat.le_refl _) ?_
    · obtain ⟨hj, rfl⟩ := wl_get hu
      obtain ⟨g, o', e, c⟩ := hr.2 j hj
      obtain rfl : ad = ⟨g, o', none⟩ := Option.some.inj e
      by_cases h0 : j = 0
      · subst h0; exact c
      · simp [Addr.add, h0, c]
    · intro v' w' h1 h2 _
      rw [Nat.zero_add, List.nil_append] at h1
      exact h v' w' h1 ((Below.refl _ _).grown h2 (Nat.le_refl _) (fun _ e => by cases e))
set_option maxHeartbeats 1600000 in
set_option maxRecDepth 100000 in
theorem roomyE_any (n N : Nat) (ao : Option Addr) (ca : Nat) (w : World) (hn : n ≤ 17592186043904) (hn0 : ao = none → ca = 0) (rd : Wr w ao n N) :
    Calls Try.prog 5 #[.slice ao n ca] w fun e w' => ∃ G K, e = .returned (.slice (some ⟨G, 0, none⟩) (n + 20) K) ∧ w.heap.size ≤ G ∧ Ow w' G K (n + 20) (rmN N n 20) ∧ Below w.heap.size w w' := by
  have RD := hid1 rd
  have HLT := hid1 rd.1
  clear rd
  go_enter Try.func5, Try.ntmps5
  go_wp2_with (at_builtin; refine app_nilE rfl _ _ rfl (by go_simp) ao n N ca (by go_simp) RD.out hn hn0 ?_; intro v1 w1 ow1 B1)
  have HO1 := hid1 ow1
  have HB1 := hid1 B1
  clear ow1 B1
  go_loopw [3, 4] (fun a x wr => ∃ (u : Value) (i : Nat), i ≤ 20 ∧ a = u ∧ x = .int .i64 i ∧ wr.ownsRow w.heap.size 41 1 u (n + i) (wl (rmN N n i) (n + i)) ∧ Below w.heap.size w wr) (fun _ x _ => 20 - (intOf x).toNat)
  case atStart => exact ⟨_, 0, Nat.zero_le _, rfl, rfl, HO1.out, HB1.out⟩
  case round =>
    clear HO1 HB1
    obtain ⟨u, i, hi, ea, rfl, ow, BB⟩ := hrel
    replace ea := ea.symm
    subst ea
    have ii0 : (0 : Int) ≤ (i : Int) := by omega
    by_cases hlt : i < 20
    · have ii : (i : Int) < 20 := by omega
      have wm : IntKind.i64.wrap (77 + (i : Int)) = 77 + (i : Int) := by rw [IntKind.wrap_i64]; omega
      have wm2 : IntKind.u64.wrap (77 + (i : Int)) = 77 + (i : Int) := by rw [IntKind.wrap_u64]; omega
      have hsz := BB.size
      have HO := hid1 (show wr.ownsRow w.heap.size 41 1 u (n + i) (wl (rmN N n (i + 1)) (n + i)) by
        rw [wl_congr (B := rmN N n i) (fun k hk => by rw [rmN_wd HLT.out (i + 1) (by omega), rmN_wd HLT.out i (by omega)]; by_cases h : k < n; rw [if_pos h, if_pos h]; rw [if_neg h, if_neg h, if_pos (by omega), if_pos (by omega)])]; exact ow)
      have HWF : Hid (wf (rmN N n (i + 1)) (n + i) = .int .u64 (77 + (i : Int))) := hid1 (by unfold wf; rw [rmN_wd HLT.out (i + 1) (by omega), if_neg (by omega), if_pos (by omega)]; simp)
      have HBB := hid1 BB
      clear ow BB
      go_wp2_with (at_builtin; refine app_word rfl _ _ rfl w.heap.size u (rmN N n (i + 1)) (n + i) (by go_simp) (HO.out.alloc _) wr.heap.size (77 + (i : Int)) 1 (by go_simp) (by simp [go_sem]) (by omega) (by simp; omega) HWF.out ?_; intro v2 w2 ow2 gr2)
      have B2 : Below w.heap.size w w2 := (HBB.out.alloc hsz _).grown gr2 (by simp; omega) (fun q hq => (HO.out.lt q hq).1)
      exact ⟨⟨v2, i + 1, by omega, rfl, by go_num, ow2, B2⟩, by simp [intOf]; omega⟩
    · obtain rfl : i = 20 := by omega
      obtain ⟨G, K, f, rfl, hG, h4, h5, hrow, hf⟩ := own_row ow (by omega)
      have HX : Hid (Ow wr G K (n + 20) (rmN N n 20)) := ⟨rmN_lt HLT.out 20 (Nat.le_refl _), h4, by unfold maxLen at h5; omega, f, hrow, fun j hj => by
        have := hf j hj
        rw [wl_at hj] at this
        injection this with this
        exact this.symm⟩
      clear ow hrow hf
      go_wp2_with fail
      go_ret
      exact ⟨G, K, rfl, hG, HX.out, BB⟩
/-- The words ahead of the marks. -/
theorem rmN_wr {w : World} {G K n N : Nat} (hN : N < 2 ^ (64 * n)) (h : Ow w G K (n + 20) (rmN N n 20)) : Wr w (some ⟨G, 0, none⟩) n N :=
  ⟨hN, fun k hk => by
    obtain ⟨g, o, e, c⟩ := h.wr.2 k (by omega)
    refine ⟨g, o, e, ?_⟩
    rw [c]
    unfold wf
    rw [rmN_wd hN 20 (Nat.le_refl _), if_pos hk]⟩
set_option maxRecDepth 100000 in
theorem keptE_true (n N G K : Nat) (bo : Option Addr) (cb : Nat) (w : World) (hn : n ≤ 17592186043904) (hn0 : bo = none → cb = 0) (h : Ow w G K (n + 20) (rmN N n 20)) (rb : Wr w bo n N) :
    Calls Try.prog 9 #[.slice (some ⟨G, 0, none⟩) (n + 20) K, .slice bo n cb] w fun e w' => e = .returned (.bool true) ∧ Below w.heap.size w w' := by
  have H1 := hid1 (roomyE_any n N bo cb w hn hn0 rb)
  have HO := hid1 h
  clear h rb
  go_enter Try.func9, Try.ntmps9
  go_wp2_with fail
  refine H1.out.mono ?_
  rintro e w1 ⟨G2, K2, rfl, _, o2, hb⟩
  have o1 := HO.out.below hb
  go_wp2_with fail
  refine (pwords_same (n + 20) (rmN N n 20) _ _ _ _ w1 (by omega) o1.wr o2.wr).mono ?_
  rintro e w2 ⟨rfl, hb2⟩
  have B2 := bl_step hb hb2
  go_wp2_with fail
  go_ret
  exact ⟨rfl, B2⟩
end Go.Proofs.Ytohkiknhjcibgaa
/- heddlelaw13: handed. -/
namespace Go.Proofs.Ytohkiknhjcibgaa
open Go.RowKit Go.Shelf

end Go.Proofs.Ytohkiknhjcibgaa
/- WHAT A WINDOW LOSES: plain mathematics; weigh. -/
namespace Go.Proofs.Ytohkiknhjcibgaa
open Go.RowKit

/-- The sum of the weights at the places that do not count. -/
def lo (A B Y : Nat) (n : Nat) : Int := sm (fun i => if Y.testBit i then 0 else wt A B i) n
theorem lo_succ (A B Y n : Nat) : lo A B Y (n + 1) = lo A B Y n + (if Y.testBit n then 0 else wt A B n) := rfl
theorem lo_congr {A B Y A' B' Y' : Nat} : ∀ n, (∀ i, i < n → A.testBit i = A'.testBit i ∧ B.testBit i = B'.testBit i ∧ Y.testBit i = Y'.testBit i) → lo A B Y n = lo A' B' Y' n
  | 0, _ => rfl
  | n + 1, h => by
    obtain ⟨h1, h2, h3⟩ := h n (by omega)
    rw [lo_succ, lo_succ, lo_congr n (fun i hi => h i (by omega))]
    unfold wt
    rw [h1, h2, h3]
theorem lo_add (A B Y a : Nat) : ∀ b, lo A B Y (a + b) = lo A B Y a + lo (A / 2 ^ a) (B / 2 ^ a) (Y / 2 ^ a) b
  | 0 => by simp [lo, sm]
  | b + 1 => by
    have e : a + (b + 1) = (a + b) + 1 := rfl
    rw [e, lo_succ, lo_add A B Y a b, lo_succ]
    unfold wt
    simp only [Nat.testBit_div_two_pow]
    rw [show b + a = a + b by omega]
    omega
theorem lo_word (A B Y k : Nat) : lo A B Y (64 * (k + 1)) = lo A B Y (64 * k) + lo (wd A k) (wd B k) (wd Y k) 64 := by
  rw [show 64 * (k + 1) = 64 * k + 64 by omega, lo_add]
  congr 1
  refine lo_congr 64 fun i hi => ?_
  simp only [wd_bit, Nat.testBit_div_two_pow, hi, decide_true, Bool.true_and]
  rw [show i + 64 * k = 64 * k + i by omega]
  exact ⟨rfl, rfl, rfl⟩
theorem lo_pc {A B Y G C : Nat} : ∀ n, (∀ i, i < n → G.testBit i = (A.testBit i && !Y.testBit i) ∧ C.testBit i = (B.testBit i && !Y.testBit i) ∧ (A.testBit i = true → B.testBit i = true)) → 2 * (pc G n : Int) - pc C n = lo A B Y n
  | 0, _ => rfl
  | n + 1, h => by
    have ih := lo_pc n (fun i hi => h i (by omega))
    obtain ⟨h1, h2, h3⟩ := h n (by omega)
    rw [lo_succ]
    simp only [pc]
    unfold wt
    rw [h1, h2]
    cases hy : Y.testBit n <;> cases ha : A.testBit n <;> cases hb : B.testBit n <;> simp [ha, hb] at h3 ⊢ <;> omega
theorem lo_bd (A B Y : Nat) : ∀ n : Nat, -(n : Int) ≤ lo A B Y n ∧ lo A B Y n ≤ n
  | 0 => by simp [lo, sm]
  | n + 1 => by
    have := lo_bd A B Y n
    rw [lo_succ]
    unfold wt
    split
    · omega
    · split
      · split <;> omega
      · omega
theorem lo_above {B n : Nat} (h : B < 2 ^ n) (A Y : Nat) {m : Nat} (hm : n ≤ m) : lo A B Y m = lo A B Y n := by
  obtain ⟨d, rfl⟩ : ∃ d, m = n + d := ⟨m - n, by omega⟩
  clear hm
  induction d with
  | zero => rfl
  | succ d ih =>
    rw [← Nat.add_assoc, lo_succ, ih]
    have : B.testBit (n + d) = false := Nat.testBit_lt_two_pow (Nat.lt_of_lt_of_le h (Nat.pow_le_pow_right (by decide) (by omega)))
    unfold wt
    rw [this]
    simp
/-- One word of a row against one word of what counts. -/
theorem lo_weigh {a b y : Nat} (hab : a &&& (18446744073709551615 - b) = 0) (hb : b < 18446744073709551616) (hy : y < 18446744073709551616) : 2 * (pc (a &&& (18446744073709551615 - y)) 64 : Int) - pc (b &&& (18446744073709551615 - y)) 64 = lo a b y 64 := by
  have cm : ∀ z, z < 18446744073709551616 → ∀ i, i < 64 → (18446744073709551615 - z).testBit i = !(z.testBit i) := fun z hz i hi => by
    have e : 18446744073709551615 - z = 2 ^ 64 - (z + 1) := by rw [← two64]; omega
    rw [e, Nat.testBit_two_pow_sub_succ (by rw [← two64]; exact hz)]
    simp [hi]
  refine lo_pc 64 fun i hi => ?_
  rw [Nat.testBit_and, Nat.testBit_and, cm y hy i hi]
  refine ⟨rfl, rfl, fun h => ?_⟩
  have := congrArg (fun x => Nat.testBit x i) hab
  simp only [Nat.testBit_and, Nat.zero_testBit, cm b hb i hi, h] at this
  simpa using this
set_option maxRecDepth 100000 in
theorem weigh_any (a b : Nat) (ha : a < 18446744073709551616) (hb : b < 18446744073709551616) (w : World) :
    Calls Try.prog 29 #[.int .u64 a, .int .u64 b] w fun e w' => e = .returned (.int .i64 (2 * (pc a 64 : Int) - pc b 64)) ∧ w' = w := by
  have p1 := pc_le a 64
  have p2 := pc_le b 64
  go_enter Try.func29, Try.ntmps29
  go_wp2_with fail
  refine (ones_any a ha _).mono ?_
  rintro e w' ⟨rfl, rfl⟩
  go_wp2_with fail
  refine (ones_any b hb _).mono ?_
  rintro e w' ⟨rfl, rfl⟩
  go_wp2_with fail
  go_ret
  exact ⟨rfl, rfl⟩
end Go.Proofs.Ytohkiknhjcibgaa
/- PACKAGE patch: Lost. -/
namespace Go.Proofs.Ytohkiknhjcibgaa
open Go.RowKit

def loE (A B X Y : Bt) : Int := if dck A B ≠ 0 then dck A B else if dck X Y ≠ 0 then dck X Y else if B.n = Y.n then 0 else 20
def loV (A B X Y : Bt) : Int := if loE A B X Y = 0 then lo A.N B.N Y.N B.n.toNat else 0
theorem lost_start (w : World) (A B X Y : Bt) : ∃ W, (w.alloc (.cells #[.int .i64 A.n, .slice A.ao A.m A.cap, .int .i64 B.n, .slice B.ao B.m B.cap] 46)).alloc (.cells #[.int .i64 X.n, .slice X.ao X.m X.cap, .int .i64 Y.n, .slice Y.ao Y.m Y.cap] 46) = W ∧
    Below w.heap.size w W ∧ W.rowIs w.heap.size 46 4 (qf A B) ∧ W.rowIs (w.heap.size + 1) 46 4 (qf X Y) := by
  refine ⟨_, rfl, bl_alloc (bl_alloc (Below.refl _ _) _) _, (q_new w A B _).alloc _, ?_⟩
  have := q_new (w.alloc (.cells #[.int .i64 A.n, .slice A.ao A.m A.cap, .int .i64 B.n, .slice B.ao B.m B.cap] 46)) X Y 46
  rwa [World.size_alloc] at this
set_option maxHeartbeats 1600000 in
set_option maxRecDepth 100000 in
theorem lost_any (A B X Y : Bt) (w : World) (hA : Rw w A) (hB : Rw w B) (hX : Rw w X) (hY : Rw w Y) :
    Calls Try.prog 13 #[rwv A B, rwv X Y] w fun e w' => e = .returned (.tuple #[.int .i64 (loV A B X Y), .int .i64 (loE A B X Y)]) ∧ Below w.heap.size w w' := by
  have HA := hid1 hA
  have HB := hid1 hB
  have HX := hid1 hX
  have HY := hid1 hY
  clear hA hB hX hY
  have HC1 := hid1 (fun (W : World) (hW : Below w.heap.size w W) => dcheck_any A B W (HA.out.below hW) (HB.out.below hW))
  have HC2 := hid1 (fun (W : World) (hW : Below w.heap.size w W) => dcheck_any X Y W (HX.out.below hW) (HY.out.below hW))
  by_cases h1 : dck A B = 0
  · by_cases h2 : dck X Y = 0
    · by_cases h3 : B.n = Y.n
      · obtain ⟨n, e1, e2, e3, e4, e5, e6, e7, e8⟩ := dck_zero h1
        obtain ⟨n', f1, f2, f3, f4, f5, f6, f7, f8⟩ := dck_zero h2
        obtain rfl : n' = n := by omega
        have hE : loE A B X Y = 0 := by unfold loE; rw [if_neg (by simp [h1]), if_neg (by simp [h2]), if_pos h3]
        have hV : loV A B X Y = lo A.N B.N Y.N (64 * nw n') := by unfold loV; rw [if_pos hE, e2, Int.toNat_natCast, lo_above e7 _ _ (nw_le n')]
        rw [hE, hV]
        rw [h1] at HC1
        rw [h2] at HC2
        have hb := nw_bd e3
        have HSUB := hid1 ((sub_words (B := B.N) (lt_nw e6)).1 e8)
        clear hE hV h1 h2
        obtain ⟨an, aa, am, ac, AN⟩ := A
        obtain ⟨bn, ba, bm, bc, BN⟩ := B
        obtain ⟨xn, xa, xm, xc, XN⟩ := X
        obtain ⟨yn, ya, ym, yc, YN⟩ := Y
        dsimp only at *
        subst e4 e5 f4 f5
        clear h3
        subst e2 f2
        clear e1 f1
        go_enter Try.func13, Try.ntmps13
        go_wp2_with fail
        refine gen_calls (fun W => Below w.heap.size w W ∧ W.rowIs w.heap.size 46 4 (qf ⟨an, aa, nw n', ac, AN⟩ ⟨(n' : Nat), ba, nw n', bc, BN⟩) ∧ W.rowIs (w.heap.size + 1) 46 4 (qf ⟨xn, xa, nw n', xc, XN⟩ ⟨(n' : Nat), ya, nw n', yc, YN⟩)) (by obtain ⟨X, rfl, z⟩ := lost_start w ⟨an, aa, nw n', ac, AN⟩ ⟨(n' : Nat), ba, nw n', bc, BN⟩ ⟨xn, xa, nw n', xc, XN⟩ ⟨(n' : Nat), ya, nw n', yc, YN⟩; exact z) ?_
        rintro W ⟨B0, r1, r2⟩
        refine (HC1.out W B0).mono ?_
        rintro e w1 ⟨rfl, hb1⟩
        replace r1 := keepr hb1 r1
        replace r2 := keepr hb1 r2
        replace B0 := bl_step B0 hb1
        clear hb1
        have c0 := q0 r2
        have c1 := q1 r2
        have c2 := q2 r2
        have c3 := q3 r2
        go_wp2_with fail
        refine (HC2.out w1 B0).mono ?_
        rintro e w2 ⟨rfl, hb1⟩
        replace r1 := keepr hb1 r1
        replace r2 := keepr hb1 r2
        replace B0 := bl_step B0 hb1
        clear hb1 c0 c1 c2 c3 HC1 HC2
        have c2 := q2 r1
        have d2 := q2 r2
        have d3 := q3 r2
        go_wp2_with fail
        clear c2 d2 d3
        go_loopw [8, 32] (fun s i wr => ∃ k : Nat, k ≤ nw n' ∧ i = .int .i64 k ∧ s = .int .i64 (lo AN BN YN (64 * k)) ∧ wr.rowIs w.heap.size 46 4 (qf ⟨an, aa, nw n', ac, AN⟩ ⟨(n' : Nat), ba, nw n', bc, BN⟩) ∧ wr.rowIs (w.heap.size + 1) 46 4 (qf ⟨xn, xa, nw n', xc, XN⟩ ⟨(n' : Nat), ya, nw n', yc, YN⟩) ∧ Below w.heap.size w wr) (fun _ i _ => nw n' - (intOf i).toNat)
        case atStart => exact ⟨0, Nat.zero_le _, rfl, rfl, r1, r2, B0⟩
        case round =>
          clear r1 r2 B0
          obtain ⟨k, hk, rfl, rfl, r1, r2, B0⟩ := hrel
          have ik0 : (0 : Int) ≤ (k : Int) := by omega
          by_cases hlt : k < nw n'
          · obtain ⟨g1, o1, rfl, d1⟩ := (HA.out.below B0).2.2 k hlt
            obtain ⟨g2, o2, rfl, d2⟩ := (HB.out.below B0).2.2 k hlt
            obtain ⟨g3, o3, rfl, d3⟩ := (HY.out.below B0).2.2 k hlt
            unfold wf at d1 d2 d3
            dsimp only at d1 d2 d3
            have ik : (k : Int) < (nw n' : Nat) := by omega
            have c1 := q1 r1
            have c3 := q3 r1
            have x1 := wd_lt AN k
            have x2 := wd_lt BN k
            have x3 := wd_lt YN k
            have HW := hid1 (weigh_any (wd AN k &&& (18446744073709551615 - wd YN k)) (wd BN k &&& (18446744073709551615 - wd YN k)) (and_lt64 x1) (and_lt64 x2))
            rw [lo_weigh (HSUB.out k hlt) x2 x3] at HW
            have a1 := andNot_u64 (wd AN k) (wd YN k) x1 x3
            have a2 := andNot_u64 (wd BN k) (wd YN k) x2 x3
            have b1 := lo_bd AN BN YN (64 * k)
            have b2 := lo_bd (wd AN k) (wd BN k) (wd YN k) 64
            have HL := hid1 (lo_word AN BN YN k)
            generalize lo AN BN YN (64 * k) = L0 at b1 HL ⊢
            generalize lo (wd AN k) (wd BN k) (wd YN k) 64 = L1 at b2 HL HW
            have wL : IntKind.i64.wrap (L0 + L1) = L0 + L1 := by rw [IntKind.wrap_i64]; omega
            have HR1 := hid1 r1
            have HR2 := hid1 r2
            have HB0 := hid1 B0
            clear r1 r2 B0
            go_wp2_with fail
            refine still_tail 19 (by kernel_rfl) ?_
            simp only [List.take_succ_cons, List.take_zero, List.drop_succ_cons, List.drop_zero]
            repeat still_step
            still_call (HW.out _)
            repeat still_step
            refine wpStill_nil ?_
            go_wp2_with fail
            exact ⟨⟨k + 1, by omega, by go_num, by rw [HL.out], HR1.out.drew, HR2.out.drew, HB0.out.drew⟩, by simp [intOf]; omega⟩
          · have hkN : k = nw n' := by omega
            subst hkN
            go_wp2_with fail
            exact bodyPost_ret (v := .tuple #[.int .i64 (lo AN BN YN (64 * nw n')), .int .i64 0]) (by simp [results, Try.results13, go_sem]) rfl ⟨rfl, B0⟩
      · have hE : loE A B X Y = 20 := by unfold loE; rw [if_neg (by simp [h1]), if_neg (by simp [h2]), if_neg h3]
        have hV : loV A B X Y = 0 := by unfold loV; rw [if_neg (by rw [hE]; decide)]
        rw [hE, hV]
        rw [h1] at HC1
        rw [h2] at HC2
        clear hE hV h1 h2
        have h3' : decide (B.n = Y.n) = false := by simpa using h3
        go_enter Try.func13, Try.ntmps13
        go_wp2_with fail
        refine gen_calls (fun W => Below w.heap.size w W ∧ W.rowIs w.heap.size 46 4 (qf A B) ∧ W.rowIs (w.heap.size + 1) 46 4 (qf X Y)) (by obtain ⟨W, rfl, z⟩ := lost_start w A B X Y; exact z) ?_
        rintro W ⟨B0, r1, r2⟩
        refine (HC1.out W B0).mono ?_
        rintro e w1 ⟨rfl, hb1⟩
        replace r1 := keepr hb1 r1
        replace r2 := keepr hb1 r2
        replace B0 := bl_step B0 hb1
        clear hb1
        have c0 := q0 r2
        have c1 := q1 r2
        have c2 := q2 r2
        have c3 := q3 r2
        go_wp2_with fail
        refine (HC2.out w1 B0).mono ?_
        rintro e w2 ⟨rfl, hb1⟩
        replace r1 := keepr hb1 r1
        replace r2 := keepr hb1 r2
        replace B0 := bl_step B0 hb1
        clear hb1 c0 c1 c2 c3
        have c2 := q2 r1
        have d2 := q2 r2
        go_wp2_with fail
        exact bodyPost_ret (v := .tuple #[.int .i64 0, .int .i64 20]) (by simp [results, Try.results13, go_sem]) rfl ⟨rfl, B0⟩
    · have hE : loE A B X Y = dck X Y := by unfold loE; rw [if_neg (by simp [h1]), if_pos h2]
      have hV : loV A B X Y = 0 := by unfold loV; rw [if_neg (by rw [hE]; exact h2)]
      rw [hE, hV]
      rw [h1] at HC1
      clear hE hV h1
      generalize dck X Y = E at HC2 h2 ⊢
      have h2' : decide (E = 0) = false := by simpa using h2
      go_enter Try.func13, Try.ntmps13
      go_wp2_with fail
      refine gen_calls (fun W => Below w.heap.size w W ∧ W.rowIs w.heap.size 46 4 (qf A B) ∧ W.rowIs (w.heap.size + 1) 46 4 (qf X Y)) (by obtain ⟨W, rfl, z⟩ := lost_start w A B X Y; exact z) ?_
      rintro W ⟨B0, r1, r2⟩
      refine (HC1.out W B0).mono ?_
      rintro e w1 ⟨rfl, hb1⟩
      replace r1 := keepr hb1 r1
      replace r2 := keepr hb1 r2
      replace B0 := bl_step B0 hb1
      clear hb1
      have c0 := q0 r2
      have c1 := q1 r2
      have c2 := q2 r2
      have c3 := q3 r2
      go_wp2_with fail
      refine (HC2.out w1 B0).mono ?_
      rintro e w2 ⟨rfl, hb1⟩
      replace r1 := keepr hb1 r1
      replace r2 := keepr hb1 r2
      replace B0 := bl_step B0 hb1
      clear hb1 c0 c1 c2 c3
      go_wp2_with fail
      exact bodyPost_ret (v := .tuple #[.int .i64 0, .int .i64 E]) (by simp [results, Try.results13, go_sem]) rfl ⟨rfl, B0⟩
  · have hE : loE A B X Y = dck A B := by unfold loE; rw [if_pos h1]
    have hV : loV A B X Y = 0 := by unfold loV; rw [if_neg (by rw [hE]; exact h1)]
    rw [hE, hV]
    clear hE hV
    generalize dck A B = E at HC1 h1 ⊢
    have h1' : decide (E = 0) = false := by simpa using h1
    go_enter Try.func13, Try.ntmps13
    go_wp2_with fail
    refine gen_calls (fun W => Below w.heap.size w W ∧ W.rowIs w.heap.size 46 4 (qf A B) ∧ W.rowIs (w.heap.size + 1) 46 4 (qf X Y)) (by obtain ⟨W, rfl, z⟩ := lost_start w A B X Y; exact z) ?_
    rintro W ⟨B0, r1, r2⟩
    refine (HC1.out W B0).mono ?_
    rintro e w1 ⟨rfl, hb1⟩
    replace r1 := keepr hb1 r1
    replace r2 := keepr hb1 r2
    replace B0 := bl_step B0 hb1
    clear hb1
    go_wp2_with fail
    exact bodyPost_ret (v := .tuple #[.int .i64 0, .int .i64 E]) (by simp [results, Try.results13, go_sem]) rfl ⟨rfl, B0⟩
end Go.Proofs.Ytohkiknhjcibgaa
/- heddleref13: Lost. -/
namespace Go.Proofs.Ytohkiknhjcibgaa
open Go.RowKit

end Go.Proofs.Ytohkiknhjcibgaa
/- heddleref13: lay. -/
namespace Go.Proofs.Ytohkiknhjcibgaa
open Go.RowKit Go.Shelf

theorem info_boolE : (Try.prog.info? 4).map (fun i => (i.zero, i.size, i.bytes)) = some (some (.bool false), 1, 1) := by kernel_rfl
theorem und_boolsE : Try.prog.underlying 85 = some (.slice 4) := by kernel_rfl
def blE (f : Nat → Bool) (n : Nat) : List Value := (List.range n).map fun i => .bool (f i)
theorem blE_snoc (f : Nat → Bool) (n : Nat) : blE f (n + 1) = blE f n ++ [.bool (f n)] := by simp [blE, List.range_succ]
theorem blE_at {f : Nat → Bool} {n j : Nat} (h : j < n) : (blE f n)[j]? = some (.bool (f j)) := by simp [blE, h]
theorem appB {ops : Array Oper} {rest : List Oper} {o : Oper} {a : Act} {Q : Exit → Act → World → Prop} {w : World} (hgd : o.guard = none) (s x : Operand)
    (ho : o.op = .call { callee := .builtin .append, args := #[s, x], argTypes := #[85, 85] }) (base : Nat) (v : Value) (f : Nat → Bool) (n : Nat) (hs : a.eval s = v) (hown : w.ownsRow base 4 1 v n (blE f n))
    (y : Bool) (hx : a.eval x = .slice (some ⟨w.heap.size, 0, none⟩) 1 1) (hM : n ≤ 16777216) (hb : base ≤ w.heap.size) (hy : y = f n)
    (h : ∀ v' w', w'.ownsRow base 4 1 v' (n + 1) (blE f (n + 1)) → (w.alloc (.cells #[.bool y] 4)).grownBy w' v.ownBlock → (v'.ownBlock = v.ownBlock ∨ v'.ownBlock = some (w.heap.size + 1)) → wpList Try.prog ops Q rest (a.put o.dst v') w') : wpList Try.prog ops Q (o :: rest) a (w.alloc (.cells #[.bool y] 4)) := by
  obtain ⟨i0, hi, hz0, hz1, hz2⟩ := info_parts info_boolE
  refine wpList_append_own_at _ hgd s x _ ho base 4 i0 (.bool false) 1 1 und_boolsE hi hz0 hz1 hz2 rfl (by decide) v n (blE f n) hs (hown.alloc _) ⟨w.heap.size, 0, none⟩ 1 1 [.bool y] hx rfl
    (fun j u hu => ?_) (fun u hu => by simp at hu; subst hu; rfl) (by unfold maxLen; omega) (by omega) (by simp; omega) ?_
  · rcases j with _ | j
    · simp at hu; subst hu; simp [Addr.add, go_sem]
    · simp at hu
  · intro v' w' h1 h2 _ h3
    exact h v' w' (by rw [blE_snoc, ← hy]; exact h1) h2 (by simpa using h3)
/-- Two lists of truth values, apart. -/
structure Ly (w wr : World) (uS uM : Value) (fS fM : Nat → Bool) (j j' : Nat) : Prop where
  oS : wr.ownsRow (w.heap.size + 1) 4 1 uS j (blE fS j)
  oM : wr.ownsRow (w.heap.size + 1) 4 1 uM j' (blE fM j')
  ne : uS.ownBlock = none ∨ uM.ownBlock = none ∨ uS.ownBlock ≠ uM.ownBlock
  r0 : wr.rowIs w.heap.size 46 4 (qf ⟨0, none, 0, 0, 0⟩ ⟨0, none, 0, 0, 0⟩)
  b : Below w.heap.size w wr
theorem ly_new {w : World} {base n : Nat} {v : Value} {xs : List Value} (h : w.ownsRow base 4 1 v n xs) : v.ownBlock ≠ some (w.heap.size + 1) := fun e => by
  have := (h.lt _ e).2
  omega
theorem Ly.sign {w wr w1 : World} {uS uM v1 : Value} {fS fM : Nat → Bool} {J : Nat} {y : Bool} (h : Ly w wr uS uM fS fM J J) (ow : w1.ownsRow (w.heap.size + 1) 4 1 v1 (J + 1) (blE fS (J + 1))) (gr : (wr.alloc (.cells #[.bool y] 4)).grownBy w1 uS.ownBlock) (at1 : v1.ownBlock = uS.ownBlock ∨ v1.ownBlock = some (wr.heap.size + 1)) : Ly w w1 v1 uM fS fM (J + 1) J := by
  have hM : w1.ownsRow (w.heap.size + 1) 4 1 uM J (blE fM J) := by
    refine (h.oM.alloc _).kept gr ?_
    rcases h.ne with e | e | e
    · rw [e]; cases uM.ownBlock <;> simp
    · rw [e]; simp
    · cases e2 : uM.ownBlock with
      | none => simp
      | some k => rw [e2] at e; exact .inr (Ne.symm e)
  refine ⟨ow, hM, ?_, row_grown (h.r0.alloc _) (h.oS.alloc _) gr (by decide), ?_⟩
  · rcases at1 with e | e
    · rw [e]; exact h.ne
    · right; right
      rw [e]
      exact fun e2 => ly_new h.oM e2.symm
  · have hb := h.b.alloc h.b.size (.cells #[.bool y] 4)
    exact hb.grown gr (by have := h.b.size; simp; omega) (fun q hq => by have := (h.oS.lt q hq).1; omega)
theorem Ly.some {w wr w1 : World} {uS uM v1 : Value} {fS fM : Nat → Bool} {J : Nat} {y : Bool} (h : Ly w wr uS uM fS fM (J + 1) J) (ow : w1.ownsRow (w.heap.size + 1) 4 1 v1 (J + 1) (blE fM (J + 1))) (gr : (wr.alloc (.cells #[.bool y] 4)).grownBy w1 uM.ownBlock) (at1 : v1.ownBlock = uM.ownBlock ∨ v1.ownBlock = .some (wr.heap.size + 1)) : Ly w w1 uS v1 fS fM (J + 1) (J + 1) := by
  have hS : w1.ownsRow (w.heap.size + 1) 4 1 uS (J + 1) (blE fS (J + 1)) := by
    refine (h.oS.alloc _).kept gr ?_
    rcases h.ne with e | e | e
    · rw [e]; simp
    · rw [e]; cases uS.ownBlock <;> simp
    · cases e2 : uS.ownBlock with
      | none => simp
      | some k => rw [e2] at e; exact .inr e
  refine ⟨hS, ow, ?_, row_grown (h.r0.alloc _) (h.oM.alloc _) gr (by decide), ?_⟩
  · rcases at1 with e | e
    · rw [e]; exact h.ne
    · right; right
      rw [e]
      exact ly_new h.oS
  · have hb := h.b.alloc h.b.size (.cells #[.bool y] 4)
    exact hb.grown gr (by have := h.b.size; simp; omega) (fun q hq => by have := (h.oM.lt q hq).1; omega)
theorem ly_rb {w : World} {base n : Nat} {v : Value} {f : Nat → Bool} (h : w.ownsRow base 4 1 v n (blE f n)) : ∃ ao cap, v = .slice ao n cap ∧ RB w ao f n := by
  rcases h.2 with ⟨rfl, h0⟩ | ⟨g, cap, cur, rfl, _⟩
  · exact ⟨none, 0, by rw [h0], fun k hk => absurd hk (by omega)⟩
  · refine ⟨_, cap, rfl, fun k hk => ⟨g, 0, rfl, ?_⟩⟩
    have := h.cells (g := g) rfl k _ (blE_at (f := f) hk)
    rcases k with _ | k <;> simpa [Addr.add] using this
/-- A list of lists of numbers, each of C. -/
def LL (w : World) (ao : Option Addr) (P C : Nat) (v : Nat → Nat → Int) : Prop := ∀ p, p < P → ∃ g o xo xc, ao = some ⟨g, o, none⟩ ∧ w.cell? ⟨g, o + p, none⟩ = some (.slice xo C xc) ∧ ∀ k, k < C → ∃ g' o', xo = some ⟨g', o', none⟩ ∧ w.cell? ⟨g', o' + k, none⟩ = some (.int .i64 (v p k))
theorem LL.below {w w' : World} {ao : Option Addr} {P C : Nat} {v : Nat → Nat → Int} (h : LL w ao P C v) (hb : Below w.heap.size w w') : LL w' ao P C v := fun p hp => by
  obtain ⟨g, o, xo, xc, e, c, q⟩ := h p hp
  exact ⟨g, o, xo, xc, e, keepc hb c, fun k hk => by obtain ⟨g', o', e', c'⟩ := q k hk; exact ⟨g', o', e', keepc hb c'⟩⟩
/-- What is laid. -/
def layS (C D : Nat) (v : Nat → Nat → Int) (j : Nat) : Bool := decide (j % D < C) && decide (0 < v (j / D) (j % D))
def layM (C D : Nat) (v : Nat → Nat → Int) (j : Nat) : Bool := decide (j % D < C) && decide (v (j / D) (j % D) ≠ 0)
set_option maxRecDepth 100000 in
theorem rplaces_any (n : Nat) (h1 : n ≤ 16777216) (w : World) :
    Calls Try.prog 21 #[.int .i64 n] w fun e w' => e = .returned (.int .i64 (nw n)) ∧ w' = w := by
  have e1 : ((n : Int) + 63) / 64 = (nw n : Nat) := by unfold nw; omega
  have hb := nw_bd h1
  go_enter Try.func21, Try.ntmps21
  go_wp2
  go_ret
  refine ⟨ret_int ?_, rfl⟩
  rw [e1]
set_option maxHeartbeats 3200000 in
set_option maxRecDepth 100000 in
theorem rlay_any (P C n : Nat) (v : Nat → Nat → Int) (ao : Option Addr) (ca : Nat) (w : World) (hC : 1 ≤ C ∧ C ≤ 4096) (hn : P * (64 * nw C) = n) (h1 : n ≤ 16777216) (hl : LL w ao P C v) :
    Calls Try.prog 22 #[.slice ao P ca] w fun e w' => ∃ bo1 c1 bo2 c2, e = .returned (rwv ⟨n, bo1, nw n, c1, 0⟩ ⟨n, bo2, nw n, c2, 0⟩) ∧ w'.ownsRow w.heap.size 41 1 (.slice bo1 (nw n) c1) (nw n) (wl (bn (layS C (64 * nw C) v) n) (nw n)) ∧ w'.ownsRow w.heap.size 41 1 (.slice bo2 (nw n) c2) (nw n) (wl (bn (layM C (64 * nw C) v) n) (nw n)) ∧ Below w.heap.size w w' := by
  have hd0 : 1 ≤ nw C := by unfold nw; omega
  have hd1 : nw C ≤ 64 := by unfold nw; omega
  have hCD := nw_le C
  have HPL := hid1 (rplaces_any C (by omega))
  obtain ⟨D, eD⟩ : ∃ D, 64 * nw C = D := ⟨_, rfl⟩
  have iD : (64 : Int) * (nw C : Int) = (D : Int) := by rw [← eD]; push_cast; rfl
  have wD : IntKind.i64.wrap (D : Int) = (D : Int) := by rw [IntKind.wrap_i64]; omega
  rw [eD] at hn hCD ⊢
  have hD0 : 0 < D := by omega
  have hDb : D ≤ 4096 := by omega
  have hPb : P ≤ 16777216 := Nat.le_trans (Nat.le_mul_of_pos_right P hD0) (by rw [hn]; exact h1)
  have HJ : Hid (∀ i k, i < P → k < D → i * D + k < n) := fun i k hi hk => by
    have := Nat.mul_le_mul_right D (show i + 1 ≤ P from hi)
    rw [Nat.succ_mul, hn] at this
    omega
  have HF : Hid (∀ i k, k < D → layS C D v (i * D + k) = (decide (k < C) && decide (0 < v i k)) ∧ layM C D v (i * D + k) = (decide (k < C) && decide (v i k ≠ 0))) := fun i k hk => by
    have e1 : (i * D + k) / D = i := by rw [Nat.mul_comm, Nat.mul_add_div hD0, Nat.div_eq_of_lt hk]; omega
    have e2 : (i * D + k) % D = k := by rw [Nat.mul_comm, Nat.mul_add_mod, Nat.mod_eq_of_lt hk]
    unfold layS layM
    rw [e1, e2]
    exact ⟨rfl, rfl⟩
  obtain ⟨fS, efS⟩ : ∃ fS, layS C D v = fS := ⟨_, rfl⟩
  obtain ⟨fM, efM⟩ : ∃ fM, layM C D v = fM := ⟨_, rfl⟩
  rw [efS, efM] at HF ⊢
  have HLL := hid1 hl
  have HN := hid1 hn
  clear hl hn efS efM eD
  go_enter Try.func22, Try.ntmps22
  go_wp2_with fail
  go_loopw [3, 4, 5] (fun a b x wr => ∃ (uS uM : Value) (i : Nat), i ≤ P ∧ a = uS ∧ b = uM ∧ x = .int .i64 i ∧ Ly w wr uS uM fS fM (i * D) (i * D)) (fun _ _ x _ => P - (intOf x).toNat)
  case atStart => exact ⟨_, _, 0, Nat.zero_le _, rfl, rfl, rfl, by rw [Nat.zero_mul]; exact ⟨World.ownsRow_nil _ _ _ _, World.ownsRow_nil _ _ _ _, .inl rfl, q_new w ⟨0, none, 0, 0, 0⟩ ⟨0, none, 0, 0, 0⟩ _, bl_alloc (Below.refl _ _) _⟩⟩
  case round =>
    obtain ⟨uS, uM, i, hi, ea, eb, rfl, ly⟩ := hrel
    replace ea := ea.symm
    replace eb := eb.symm
    subst ea eb
    have ii0 : (0 : Int) ≤ (i : Int) := by omega
    by_cases hlt : i < P
    · have ii : (i : Int) < (P : Int) := by omega
      have HLY := hid1 ly
      clear ly
      go_wp2_with fail
      go_loopw [3, 4, 6] (fun a b x wr => ∃ (uS uM : Value) (k : Nat), k ≤ D ∧ a = uS ∧ b = uM ∧ x = .int .i64 k ∧ Ly w wr uS uM fS fM (i * D + k) (i * D + k)) (fun _ _ x _ => D - (intOf x).toNat)
      case atStart => exact ⟨_, _, 0, Nat.zero_le _, rfl, rfl, rfl, HLY.out⟩
      case round =>
        clear HLY
        obtain ⟨uS, uM, k, hk, ea, eb, rfl, ly⟩ := hrel
        replace ea := ea.symm
        replace eb := eb.symm
        subst ea eb
        have ik0 : (0 : Int) ≤ (k : Int) := by omega
        obtain ⟨g, o, xo, xc, eao, c1, qq⟩ := (HLL.out.below ly.b) i hlt
        subst eao
        by_cases hkD : k < D
        · have ikD : (k : Int) < (D : Int) := by omega
          obtain ⟨f1, f2⟩ := HF.out i k hkD
          have hJ : i * D + k ≤ 16777216 := by have := HJ.out i k hlt hkD; omega
          obtain ⟨J, eJ⟩ : ∃ J, i * D + k = J := ⟨_, rfl⟩
          have EJ := hid1 eJ
          rw [eJ] at f1 f2 hJ ly
          have HS := hid1 ly.oS
          have HLY := hid1 ly
          have hsz : w.heap.size + 1 ≤ wr.heap.size := by have := ly.r0.lt; omega
          clear ly eJ
          by_cases hkC : k < C
          · have ikC : (k : Int) < (C : Int) := by omega
            obtain ⟨g', o', exo, c2⟩ := qq k hkC
            subst exo
            obtain ⟨y, ey⟩ : ∃ y, v i k = y := ⟨_, rfl⟩
            rw [ey] at c2 f1 f2
            have HYS : Hid (decide (0 < y) = fS J) := hid1 (by rw [f1]; simp [hkC])
            have HYM : Hid (fM J = decide (y ≠ 0)) := hid1 (by rw [f2]; simp [hkC])
            clear f1 f2 ey qq
            go_upto_region 13 with (first | (go_at_call 21; refine (HPL.out _).mono ?_; rintro e yy ⟨rfl, rfl⟩) | (at_builtin; refine appB rfl _ _ rfl (w.heap.size + 1) uS fS J (by go_simp) HS.out _ (by go_simp) hJ hsz HYS.out ?_; intro v1 w1 ow1 gr1 at1))
            have HL1 := hid1 (HLY.out.sign ow1 gr1 at1)
            have HM1 := hid1 HL1.out.oM
            have hsz1 : w.heap.size + 1 ≤ w1.heap.size := by have := HL1.out.r0.lt; omega
            clear HLY HS ow1 gr1 at1
            go_wp2_with (at_builtin; refine appB rfl _ _ rfl (w.heap.size + 1) uM fM J (by go_simp) HM1.out _ (by go_simp) hJ hsz1 (by rw [HYM.out]; by_cases h : y = 0 <;> simp [h]) ?_; intro v2 w2 ow2 gr2 at2)
            have HL2 := HL1.out.some ow2 gr2 at2
            exact ⟨⟨v1, v2, k + 1, by omega, rfl, rfl, by go_num, by rw [show i * D + (k + 1) = J + 1 by have := EJ.out; omega]; exact HL2⟩, by simp [intOf]; omega⟩
          · have ikC : ¬ (k : Int) < (C : Int) := by omega
            have HYS : Hid (false = fS J) := hid1 (by rw [f1]; simp [hkC])
            have HYM : Hid (fM J = false) := hid1 (by rw [f2]; simp [hkC])
            clear f1 f2 qq
            go_upto_region 13 with (first | (go_at_call 21; refine (HPL.out _).mono ?_; rintro e yy ⟨rfl, rfl⟩) | (at_builtin; refine appB rfl _ _ rfl (w.heap.size + 1) uS fS J (by go_simp) HS.out _ (by go_simp) hJ hsz HYS.out ?_; intro v1 w1 ow1 gr1 at1))
            have HL1 := hid1 (HLY.out.sign ow1 gr1 at1)
            have HM1 := hid1 HL1.out.oM
            have hsz1 : w.heap.size + 1 ≤ w1.heap.size := by have := HL1.out.r0.lt; omega
            clear HLY HS ow1 gr1 at1
            go_wp2_with (at_builtin; refine appB rfl _ _ rfl (w.heap.size + 1) uM fM J (by go_simp) HM1.out _ (by go_simp) hJ hsz1 HYM.out.symm ?_; intro v2 w2 ow2 gr2 at2)
            have HL2 := HL1.out.some ow2 gr2 at2
            exact ⟨⟨v1, v2, k + 1, by omega, rfl, rfl, by go_num, by rw [show i * D + (k + 1) = J + 1 by have := EJ.out; omega]; exact HL2⟩, by simp [intOf]; omega⟩
        · have hkN : k = D := by omega
          subst hkN
          have HX : Hid (Ly w wr uS uM fS fM ((i + 1) * k) ((i + 1) * k)) := by have := ly; rw [← Nat.succ_mul] at this; exact this
          clear ly qq
          go_wp2_with (go_at_call 21; refine (HPL.out _).mono ?_; rintro e yy ⟨rfl, rfl⟩)
          exact ⟨⟨uS, uM, i + 1, by omega, rfl, rfl, by go_num, HX.out⟩, by simp [intOf]; omega⟩
    · have hiP : i = P := by omega
      subst hiP
      obtain ⟨bo1, cb1, rfl, rb1⟩ := ly_rb ly.oS
      obtain ⟨bo2, cb2, rfl, rb2⟩ := ly_rb ly.oM
      have en : i * D = n := HN.out
      rw [en] at rb1 rb2
      have HRB1 := hid1 rb1
      have HRB2 := hid1 rb2
      have r0 := ly.r0
      have BB := ly.b
      rw [en]
      clear ly rb1 rb2 en
      have HST1 := hid1 (fun (W : World) r => setL_any fS n bo1 cb1 W h1 r)
      have HST2 := hid1 (fun (W : World) r => setL_any fM n bo2 cb2 W h1 r)
      go_wp2_with fail
      refine (HST1.out wr HRB1.out).mono ?_
      rintro e w1 ⟨d1, k1, rfl, ow1, hb1⟩
      replace r0 := keepr hb1 r0
      have B1 := bl_step BB hb1
      have s1 := hb1.size
      have s0 := BB.size
      have rb2 := HRB2.out.below hb1
      clear hb1 HST1 HRB1
      go_wp2_with fail
      refine (HST2.out w1 rb2).mono ?_
      rintro e w2 ⟨d2, k2, rfl, ow2, hb2⟩
      replace r0 := keepr hb2 r0
      have ow1' := own_keep ow1 hb2
      have B2 := bl_step B1 hb2
      have s2 := hb2.size
      clear hb2 HST2 HRB2 ow1
      have e0 := q0 r0
      have e1 := q1 r0
      have e2 := q2 r0
      have e3 := q3 r0
      have t0 := r0.frozen 0
      have t1 := r0.frozen 1
      have t2 := r0.frozen 2
      have t3 := r0.frozen 3
      have HO1 := hid1 ow1'
      have HO2 := hid1 ow2
      clear ow1' ow2
      go_wp2_with fail
      have put : ∀ {W : World} {x : Value} {N m : Nat} (k : Nat) (u : Value), W.ownsRow (w.heap.size + 1) 41 1 x m (wl N m) → (W.setCell ⟨w.heap.size, k, none⟩ u).ownsRow (w.heap.size + 1) 41 1 x m (wl N m) := fun k u h => ownsRow_setCell_below h (by show w.heap.size < w.heap.size + 1; omega) _
      have o1 := own_mono HO1.out (show w.heap.size + 1 ≤ wr.heap.size + 1 by omega)
      have o2 := own_mono HO2.out (show w.heap.size + 1 ≤ w1.heap.size + 1 by omega)
      exact bodyPost_ret (v := rwv ⟨n, d1, nw n, k1, 0⟩ ⟨n, d2, nw n, k2, 0⟩) (by simp [results, Try.results22, go_sem, e0, e1, e2, e3]) rfl ⟨d1, k1, d2, k2, rfl, own_mono (put 3 _ (put 2 _ (put 1 _ (put 0 _ o1)))) (by omega), own_mono (put 3 _ (put 2 _ (put 1 _ (put 0 _ o2)))) (by omega), bl_set (bl_set (bl_set (bl_set B2 (Nat.le_refl _) _) (Nat.le_refl _) _) (Nat.le_refl _) _) (Nat.le_refl _) _⟩
end Go.Proofs.Ytohkiknhjcibgaa
/- heddleref13: Spread's lists of numbers, in memory. -/
namespace Go.Proofs.Ytohkiknhjcibgaa
open Go.RowKit Go.Shelf

theorem info_intE : (Try.prog.info? 3).map (fun i => (i.zero, i.size, i.bytes)) = some (some (.int .i64 0), 1, 8) := by kernel_rfl
theorem und_intsE : Try.prog.underlying 24 = some (.slice 3) := by kernel_rfl
theorem info_intsE : (Try.prog.info? 24).map (fun i => (i.zero, i.size, i.bytes)) = some (some (.slice none 0 0), 1, 24) := by kernel_rfl
theorem und_intssE : Try.prog.underlying 67 = some (.slice 24) := by kernel_rfl
/-- An own list with one element another one. -/
theorem own_set1 {w : World} {base g n c q : Nat} {e : TypeId} {xs : List Value} (h : w.ownsRow base e 1 (.slice (some ⟨g, 0, none⟩) n c) n xs) (hq : q < n) (v : Value) : (w.setCell ⟨g, q, none⟩ v).ownsRow base e 1 (.slice (some ⟨g, 0, none⟩) n c) n (xs.set q v) := by
  obtain ⟨g', c', f, e1, hb, h4, h5, hrow, hf⟩ := own_row h (by omega)
  cases e1
  obtain ⟨cur, hc, hs, hcell⟩ := hrow.set q v
  have hlen : xs.length = n := by have := h.1; omega
  refine ⟨by simp [hlen], .inr ⟨g, c, cur, rfl, hb, hc, h4, h5, by omega, ?_⟩⟩
  refine List.ext_getElem? fun j => ?_
  by_cases hj : j < n
  · rw [Nat.mul_one, List.getElem?_take_of_lt hj]
    have h1 := hcell j (by omega)
    rw [Array.getElem?_toList, h1, List.getElem?_set]
    by_cases e : j = q
    · subst e; simp [hlen, hj]
    · show some (if j = q then v else f j) = _
      rw [if_neg e, if_neg (fun e2 => e e2.symm), hf j hj]
  · rw [List.getElem?_eq_none (by simp; omega), List.getElem?_eq_none (by simp; omega)]
theorem own_lt1 {w : World} {base n : Nat} {e : TypeId} {v : Value} {xs : List Value} (h : w.ownsRow base e 1 v n xs) {q : Nat} (hq : v.ownBlock = some q) : base ≤ q ∧ q < w.heap.size := h.lt q hq
/-- Blocks of two kinds are two. -/
theorem own_ne2 {w : World} {base base' : Nat} {e t : TypeId} {size size' n n' : Nat} {v v' : Value} {xs xs' : List Value} (h : w.ownsRow base e size v n xs) (h' : w.ownsRow base' t size' v' n' xs') (ht : e ≠ t) : v.ownBlock = none ∨ v.ownBlock ≠ v'.ownBlock := by
  rcases h.2 with ⟨rfl, _⟩ | ⟨g, cap, cur, rfl, _, hg, _⟩
  · left; rfl
  · rcases h'.2 with ⟨rfl, _⟩ | ⟨g', cap', cur', rfl, _, hg', _⟩
    · right; simp [Value.ownBlock]
    · right
      intro e1
      simp [Value.ownBlock] at e1
      subst e1
      rw [hg] at hg'
      injection hg' with hg'
      injection hg' with _ h2 _
      exact ht h2
theorem own_kept2 {w w' : World} {base : Nat} {e : TypeId} {size n : Nat} {v v' : Value} {xs : List Value} {o : Obj} (h : w.ownsRow base e size v n xs) (hne : v.ownBlock = none ∨ v.ownBlock ≠ v'.ownBlock) (hg : (w.alloc o).grownBy w' v'.ownBlock) : w'.ownsRow base e size v n xs := by
  refine (h.alloc o).kept hg ?_
  rcases hne with e1 | e1
  · rw [e1]; cases v'.ownBlock <;> simp
  · cases e2 : v.ownBlock with
    | none => simp
    | some k => rw [e2] at e1; simpa using e1
/-- Numbers of l from a on, n of them. -/
def ints (l : List Int) (a n : Nat) : List Value := (List.range n).map fun k => .int .i64 (ia l (a + k))
theorem ints_snoc (l : List Int) (a n : Nat) : ints l a (n + 1) = ints l a n ++ [.int .i64 (ia l (a + n))] := by simp [ints, List.range_succ]
theorem ints_at {l : List Int} {a n k : Nat} (h : k < n) : (ints l a n)[k]? = some (.int .i64 (ia l (a + k))) := by simp [ints, h]
def cnt (C k p : Nat) : Nat := min C (k - p * C)
structure Rl (w wr : World) (u : Value) (xs : List Value) (l : List Int) (C k : Nat) : Prop where
  o : wr.ownsRow (w.heap.size + 1) 24 1 u xs.length xs
  e : ∀ p (h : p < xs.length), wr.ownsRow (w.heap.size + 1) 3 1 xs[p] (cnt C k p) (ints l (p * C) (cnt C k p))
  d : ∀ p q (hp : p < xs.length) (hq : q < xs.length), p ≠ q → xs[p].ownBlock = none ∨ xs[p].ownBlock ≠ xs[q].ownBlock
  r0 : wr.rowIs w.heap.size 46 4 (qf ⟨0, none, 0, 0, 0⟩ ⟨0, none, 0, 0, 0⟩)
  b : Below w.heap.size w wr
/-- A new list, with nothing in it. -/
theorem Rl.nil {w wr w1 : World} {u u1 : Value} {xs : List Value} {l : List Int} {C k : Nat} {ob : Obj} (h : Rl w wr u xs l C k) (hk : xs.length * C = k) (ow : w1.ownsRow (w.heap.size + 1) 24 1 u1 (xs ++ [Value.slice none 0 0]).length (xs ++ [Value.slice none 0 0])) (gr : (wr.alloc ob).grownBy w1 u.ownBlock) : Rl w w1 u1 (xs ++ [Value.slice none 0 0]) l C k := by
  refine ⟨ow, fun p hp => ?_, fun p q hp hq hpq => ?_, row_grown (h.r0.alloc _) (h.o.alloc _) gr (by decide), ?_⟩
  · by_cases hpl : p < xs.length
    · rw [List.getElem_append_left hpl]
      exact own_kept2 (h.e p hpl) (own_ne2 (h.e p hpl) h.o (by decide)) gr
    · obtain rfl : p = xs.length := by simp at hp; omega
      rw [List.getElem_append_right (Nat.le_refl _)]
      have : cnt C k xs.length = 0 := by unfold cnt; rw [hk]; simp
      rw [this]
      simp only [Nat.sub_self, List.getElem_cons_zero]
      exact World.ownsRow_nil _ _ _ _
  · by_cases hpl : p < xs.length
    · rw [List.getElem_append_left hpl]
      by_cases hql : q < xs.length
      · rw [List.getElem_append_left hql]; exact h.d p q hpl hql hpq
      · obtain rfl : q = xs.length := by simp at hq; omega
        rw [List.getElem_append_right (Nat.le_refl _)]
        simp only [Nat.sub_self, List.getElem_cons_zero]
        cases e1 : xs[p].ownBlock with
        | none => left; rfl
        | some b => right; simp [Value.ownBlock]
    · obtain rfl : p = xs.length := by simp at hp; omega
      left
      rw [List.getElem_append_right (Nat.le_refl _)]
      simp only [Nat.sub_self, List.getElem_cons_zero]
      rfl
  · have hb := h.b.alloc h.b.size ob
    exact hb.grown gr (by have := h.b.size; simp; omega) (fun q hq => by have := (h.o.lt q hq).1; omega)
/-- A number more in the last list. -/
theorem Rl.push {w wr w1 : World} {xs : List Value} {l : List Int} {C k q gO cO : Nat} {v1 : Value} {ob : Obj} (hl : xs.length = q + 1) (h : Rl w wr (.slice (some ⟨gO, 0, none⟩) (q + 1) cO) xs l C k) (hq1 : q * C ≤ k) (hq2 : k < (q + 1) * C)
    (ow : w1.ownsRow (w.heap.size + 1) 3 1 v1 (cnt C k q + 1) (ints l (q * C) (cnt C k q + 1))) (gr : (wr.alloc ob).grownBy w1 (xs[q]'(by omega)).ownBlock) (at1 : v1.ownBlock = (xs[q]'(by omega)).ownBlock ∨ v1.ownBlock = some (wr.heap.size + 1)) :
    Rl w (w1.setCell ⟨gO, q, none⟩ v1) (.slice (some ⟨gO, 0, none⟩) (q + 1) cO) (xs.set q v1) l C (k + 1) := by
  have hqx : q < xs.length := by omega
  rw [Nat.succ_mul] at hq2
  have hcq : cnt C (k + 1) q = cnt C k q + 1 := by unfold cnt; omega
  have hcp : ∀ p, p < q → cnt C (k + 1) p = cnt C k p := fun p hp => by
    have := Nat.mul_le_mul_right C (show p + 1 ≤ q from hp)
    rw [Nat.succ_mul] at this
    unfold cnt; omega
  have hO := h.o
  rw [hl] at hO
  have hO1 : w1.ownsRow (w.heap.size + 1) 24 1 (.slice (some ⟨gO, 0, none⟩) (q + 1) cO) (q + 1) xs := own_kept2 hO (own_ne2 hO (h.e q hqx) (by decide)) gr
  have hnb : ∀ {v : Value} {n : Nat} {ys : List Value}, w1.ownsRow (w.heap.size + 1) 3 1 v n ys → v.ownBlock ≠ some gO := fun hv e1 => by
    rcases own_ne2 hv hO1 (by decide) with h1 | h1
    · rw [h1] at e1; cases e1
    · exact h1 (by rw [e1]; rfl)
  have hgO := (hO1.lt gO rfl).1
  have hold : ∀ p (hp : p < xs.length), p ≠ q → w1.ownsRow (w.heap.size + 1) 3 1 xs[p] (cnt C k p) (ints l (p * C) (cnt C k p)) := fun p hp hpq => own_kept2 (h.e p hp) (h.d p q hp hqx hpq) gr
  have hfr : ∀ p (hp : p < xs.length), xs[p].ownBlock ≠ some (wr.heap.size + 1) := fun p hp e1 => by have := ((h.e p hp).lt _ e1).2; omega
  refine ⟨?_, fun p hp => ?_, fun p r hp hr hpr => ?_, ?_, ?_⟩
  · have := own_set1 hO1 (show q < q + 1 by omega) v1
    rw [List.length_set, hl]
    exact this
  · have hp' : p < xs.length := by simpa using hp
    by_cases e1 : p = q
    · subst e1
      rw [List.getElem_set_self, hcq]
      exact ownsRow_setCell_other ow (hnb ow) _
    · rw [List.getElem_set_ne (fun e2 => e1 e2.symm), hcp p (by omega)]
      exact ownsRow_setCell_other (hold p hp' e1) (hnb (hold p hp' e1)) _
  · have hp' : p < xs.length := by simpa using hp
    have hr' : r < xs.length := by simpa using hr
    by_cases e1 : p = q
    · subst e1
      rw [List.getElem_set_self, List.getElem_set_ne hpr]
      rcases at1 with e2 | e2
      · rw [e2]; exact h.d p r hp' hr' hpr
      · right; rw [e2]; exact (hfr r hr').symm
    · rw [List.getElem_set_ne (fun e2 => e1 e2.symm)]
      by_cases e3 : r = q
      · subst e3
        rw [List.getElem_set_self]
        rcases at1 with e2 | e2
        · rw [e2]; exact h.d p r hp' hr' hpr
        · right; rw [e2]; exact hfr p hp'
      · rw [List.getElem_set_ne (fun e2 => e3 e2.symm)]
        exact h.d p r hp' hr' hpr
  · exact (row_grown (h.r0.alloc _) ((h.e q hqx).alloc _) gr (by decide)).setOther (a := ⟨gO, q, none⟩) (by show w.heap.size ≠ gO; omega) _
  · have hb := h.b.alloc h.b.size ob
    exact bl_set (hb.grown gr (by have := h.b.size; simp; omega) (fun q' hq => by have := ((h.e q hqx).lt q' hq).1; omega)) (by omega) _
end Go.Proofs.Ytohkiknhjcibgaa
/- PACKAGE patch: set; weights laid as a patch's bits: plain mathematics. -/
namespace Go.Proofs.Ytohkiknhjcibgaa
open Go.RowKit

theorem wd_setE (M i k : Nat) : wd (M ||| 2 ^ i) k = if k = i / 64 then wd M k ||| 2 ^ (i % 64) else wd M k := by
  rw [wd_or, wd_bit1]
  by_cases e : k = i / 64
  · rw [if_pos e, if_pos e]
  · rw [if_neg e, if_neg e]; simp
/-- Those that count. -/
def nzl (l : List Int) : List Int := l.map fun x => if x = 0 then 0 else 1
theorem nzl_len (l : List Int) : (nzl l).length = l.length := by simp [nzl]
theorem nzl_at (l : List Int) (k : Nat) : ia (nzl l) k = if ia l k = 0 then 0 else 1 := by
  unfold ia nzl
  rw [List.getD_eq_getElem?_getD, List.getD_eq_getElem?_getD, List.getElem?_map]
  cases l[k]? <;> simp
/-- Weights at their places: the number of a row. -/
def spN (l : List Int) (C P : Nat) : Nat := js (64 * nw C) (sp l C) P
theorem sp_words (l : List Int) (C i : Nat) : sp l C i < 2 ^ (64 * nw C) := Nat.lt_of_lt_of_le (sp_lt l C i) (Nat.pow_le_pow_right (by decide) (nw_le C))
theorem spN_lt (l : List Int) (C P : Nat) : spN l C P < 2 ^ (64 * (P * nw C)) := js_bound fun i _ => sp_words l C i
theorem spN_bit {C : Nat} (hC : 0 < C) (l : List Int) (P j : Nat) : (spN l C P).testBit j = (decide (j < P * (64 * nw C)) && (decide (j % (64 * nw C) < C) && decide (0 < ia l (j / (64 * nw C) * C + j % (64 * nw C))))) := by
  have hd : 0 < 64 * nw C := by unfold nw; omega
  unfold spN
  rw [js_bit hd P (fun i _ => sp_words l C i), sp_bit]
theorem spN_nil (C P : Nat) : spN [] C P = 0 := by
  unfold spN
  rw [js_congr (R := fun _ => 0) P (fun i _ => ?_), js_none]
  refine Nat.eq_of_testBit_eq fun b => ?_
  rw [sp_bit]
  simp [ia]
theorem ia_takeE (l : List Int) (n k : Nat) : ia (l.take n) k = if k < n then ia l k else 0 := by
  unfold ia
  rw [List.getD_eq_getElem?_getD, List.getD_eq_getElem?_getD]
  by_cases h : k < n
  · rw [if_pos h, List.getElem?_take_of_lt h]
  · rw [if_neg h, List.getElem?_eq_none (by simp; omega)]; rfl
/-- One weight more. -/
theorem spN_step {l : List Int} {C P i : Nat} (hC : 0 < C) (hi : i < P * C) : spN (l.take (i + 1)) C P = if 0 < ia l i then spN (l.take i) C P ||| 2 ^ (i / C * (64 * nw C) + i % C) else spN (l.take i) C P := by
  have hd : 0 < 64 * nw C := by unfold nw; omega
  have hCd : C ≤ 64 * nw C := nw_le C
  have hm := Nat.mod_lt i hC
  have hda := Nat.div_add_mod i C
  obtain ⟨x, ex⟩ : ∃ x, i / C = x := ⟨_, rfl⟩
  obtain ⟨c, ec⟩ : ∃ c, i % C = c := ⟨_, rfl⟩
  rw [ex, ec] at hda ⊢
  rw [ec] at hm
  have hxP : x < P := by rw [← ex]; exact Nat.div_lt_of_lt_mul (by rwa [Nat.mul_comm])
  have e1 : (x * (64 * nw C) + c) / (64 * nw C) = x := by rw [Nat.mul_comm, Nat.mul_add_div hd, Nat.div_eq_of_lt (by omega)]; omega
  have e2 : (x * (64 * nw C) + c) % (64 * nw C) = c := by rw [Nat.mul_comm, Nat.mul_add_mod, Nat.mod_eq_of_lt (by omega)]
  have key : ∀ j, j % (64 * nw C) < C → (j / (64 * nw C) * C + j % (64 * nw C) = i ↔ j = x * (64 * nw C) + c) := fun j hj => by
    have hj2 := Nat.div_add_mod j (64 * nw C)
    constructor
    · intro h
      have q1 : j / (64 * nw C) = x := by
        rw [← ex, ← h, Nat.mul_comm (j / (64 * nw C)) C, Nat.mul_add_div hC, Nat.div_eq_of_lt hj, Nat.add_zero]
      have q2 : j % (64 * nw C) = c := by
        rw [← ec, ← h, Nat.mul_comm (j / (64 * nw C)) C, Nat.mul_add_mod, Nat.mod_eq_of_lt hj]
      rw [q1, q2, Nat.mul_comm] at hj2
      exact hj2.symm
    · intro h
      rw [h, e1, e2, Nat.mul_comm]
      exact hda
  refine Nat.eq_of_testBit_eq fun j => ?_
  have hb : (2 ^ (x * (64 * nw C) + c)).testBit j = decide (j = x * (64 * nw C) + c) := by
    rw [Nat.testBit_two_pow]
    by_cases h : x * (64 * nw C) + c = j
    · simp [h]
    · simp [h]; exact fun e => h e.symm
  have ht : x * (64 * nw C) + c < P * (64 * nw C) := by
    have := Nat.mul_le_mul_right (64 * nw C) (show x + 1 ≤ P from hxP)
    rw [Nat.succ_mul] at this
    omega
  have step : (spN (l.take (i + 1)) C P).testBit j = ((spN (l.take i) C P).testBit j || (decide (0 < ia l i) && decide (j = x * (64 * nw C) + c))) := by
    rw [spN_bit hC, spN_bit hC, ia_takeE, ia_takeE]
    by_cases hj : j % (64 * nw C) < C
    · have k := key j hj
      by_cases hji : j = x * (64 * nw C) + c
      · have k1 := k.2 hji
        rw [k1]
        subst hji
        simp [e2, hm, ht]
      · have k1 : ¬ j / (64 * nw C) * C + j % (64 * nw C) = i := fun h => hji (k.1 h)
        by_cases k2 : j / (64 * nw C) * C + j % (64 * nw C) < i
        · have k3 : j / (64 * nw C) * C + j % (64 * nw C) < i + 1 := by omega
          simp [k2, k3, hji]
        · have k3 : ¬ j / (64 * nw C) * C + j % (64 * nw C) < i + 1 := by omega
          simp [k2, k3, hji]
    · have hji : ¬ j = x * (64 * nw C) + c := fun h => hj (by rw [h, e2]; exact hm)
      simp [hj, hji]
  rw [step]
  by_cases h0 : 0 < ia l i
  · rw [if_pos h0, Nat.testBit_or, hb]; simp [h0]
  · rw [if_neg h0]; simp [h0]
end Go.Proofs.Ytohkiknhjcibgaa
/- heddleref13: Spread refuses; what lay lays is what Spread asks for: plain mathematics. -/
namespace Go.Proofs.Ytohkiknhjcibgaa
open Go.RowKit Go.Shelf

/-- Weights l, C to a place. -/
def vl (l : List Int) (C : Nat) (p k : Nat) : Int := ia l (p * C + k)
theorem layS_sp {C P n : Nat} (hC : 0 < C) (l : List Int) (hn : P * (64 * nw C) = n) : bn (layS C (64 * nw C) (vl l C)) n = spN l C P := by
  refine Nat.eq_of_testBit_eq fun j => ?_
  rw [bn_bit, spN_bit hC, hn]
  rfl
theorem layM_sp {C P n : Nat} (hC : 0 < C) (l : List Int) (hn : P * (64 * nw C) = n) : bn (layM C (64 * nw C) (vl l C)) n = spN (nzl l) C P := by
  refine Nat.eq_of_testBit_eq fun j => ?_
  rw [bn_bit, spN_bit hC, hn, nzl_at]
  unfold layM vl
  by_cases e : ia l (j / (64 * nw C) * C + j % (64 * nw C)) = 0 <;> simp [e]
set_option maxRecDepth 100000 in
theorem rside_yes (C : Nat) (h : 1 ≤ C ∧ C ≤ 4096) (w : World) :
    Calls Try.prog 54 #[.int .i64 C] w fun e w' => e = .returned (.bool true) ∧ w' = w := by
  have i1 : (1 : Int) ≤ (C : Int) := by omega
  have i2 : (C : Int) ≤ 4096 := by omega
  go_enter Try.func54, Try.ntmps54
  go_wp2_with fail
  go_ret
  exact ⟨rfl, rfl⟩
set_option maxRecDepth 100000 in
theorem rside_no (c : Int) (h : c < 1 ∨ 4096 < c) (w : World) :
    Calls Try.prog 54 #[.int .i64 c] w fun e w' => e = .returned (.bool false) ∧ w' = w := by
  by_cases h1 : (1 : Int) ≤ c
  · have i2 : ¬ c ≤ 4096 := by omega
    go_enter Try.func54, Try.ntmps54
    go_wp2_with fail
    go_ret
    exact ⟨rfl, rfl⟩
  · go_enter Try.func54, Try.ntmps54
    go_wp2_with fail
    go_ret
    exact ⟨rfl, rfl⟩
end Go.Proofs.Ytohkiknhjcibgaa
/- heddleref13: Spread's appends; its lists are what lay reads. -/
namespace Go.Proofs.Ytohkiknhjcibgaa
open Go.RowKit Go.Shelf

/-- A list more. -/
theorem appL {ops : Array Oper} {rest : List Oper} {o : Oper} {a : Act} {Q : Exit → Act → World → Prop} {w : World} (hgd : o.guard = none) (s x : Operand)
    (ho : o.op = .call { callee := .builtin .append, args := #[s, x], argTypes := #[67, 67] }) (base : Nat) (v : Value) (xs : List Value) (hs : a.eval s = v) (hown : w.ownsRow base 24 1 v xs.length xs)
    (hx : a.eval x = .slice (some ⟨w.heap.size, 0, none⟩) 1 1) (hM : xs.length ≤ 16777216) (hb : base ≤ w.heap.size)
    (h : ∀ v' w', w'.ownsRow base 24 1 v' (xs ++ [Value.slice none 0 0]).length (xs ++ [Value.slice none 0 0]) → (w.alloc (.cells #[.slice none 0 0] 24)).grownBy w' v.ownBlock → wpList Try.prog ops Q rest (a.put o.dst v') w') :
    wpList Try.prog ops Q (o :: rest) a (w.alloc (.cells #[.slice none 0 0] 24)) := by
  obtain ⟨i0, hi, hz0, hz1, hz2⟩ := info_parts info_intsE
  refine wpList_append_own_at _ hgd s x _ ho base 24 i0 (.slice none 0 0) 1 24 und_intssE hi hz0 hz1 hz2 rfl (by decide) v xs.length xs hs (hown.alloc _) ⟨w.heap.size, 0, none⟩ 1 1 [.slice none 0 0] hx rfl
    (fun j u hu => ?_) (fun u hu => by simp at hu; subst hu; rfl) (by unfold maxLen; omega) (by omega) (by simp; omega) ?_
  · rcases j with _ | j
    · simp at hu; subst hu; simp [Addr.add, go_sem]
    · simp at hu
  · intro v' w' h1 h2 _ _
    exact h v' w' (by rw [List.length_append]; exact h1) h2
/-- A number more. -/
theorem appI {ops : Array Oper} {rest : List Oper} {o : Oper} {a : Act} {Q : Exit → Act → World → Prop} {w : World} (hgd : o.guard = none) (s x : Operand)
    (ho : o.op = .call { callee := .builtin .append, args := #[s, x], argTypes := #[24, 24] }) (base : Nat) (v : Value) (l : List Int) (b n : Nat) (hs : a.eval s = v) (hown : w.ownsRow base 3 1 v n (ints l b n))
    (y : Int) (hx : a.eval x = .slice (some ⟨w.heap.size, 0, none⟩) 1 1) (hM : n ≤ 16777216) (hb : base ≤ w.heap.size) (hy : y = ia l (b + n))
    (h : ∀ v' w', w'.ownsRow base 3 1 v' (n + 1) (ints l b (n + 1)) → (w.alloc (.cells #[.int .i64 y] 3)).grownBy w' v.ownBlock → (v'.ownBlock = v.ownBlock ∨ v'.ownBlock = some (w.heap.size + 1)) → wpList Try.prog ops Q rest (a.put o.dst v') w') :
    wpList Try.prog ops Q (o :: rest) a (w.alloc (.cells #[.int .i64 y] 3)) := by
  obtain ⟨i0, hi, hz0, hz1, hz2⟩ := info_parts info_intE
  refine wpList_append_own_at _ hgd s x _ ho base 3 i0 (.int .i64 0) 1 8 und_intsE hi hz0 hz1 hz2 rfl (by decide) v n (ints l b n) hs (hown.alloc _) ⟨w.heap.size, 0, none⟩ 1 1 [.int .i64 y] hx rfl
    (fun j u hu => ?_) (fun u hu => by simp at hu; subst hu; rfl) (by unfold maxLen; omega) (by omega) (by simp; omega) ?_
  · rcases j with _ | j
    · simp at hu; subst hu; simp [Addr.add, go_sem]
    · simp at hu
  · intro v' w' h1 h2 _ h3
    exact h v' w' (by rw [ints_snoc, ← hy]; exact h1) h2 (by simpa using h3)
/-- Full lists are what lay reads. -/
theorem Rl.ll {w wr : World} {u : Value} {xs : List Value} {l : List Int} {C P : Nat} (h : Rl w wr u xs l C (P * C)) (hC : 0 < C) (hl : xs.length = P) : ∃ ao ca, u = .slice ao P ca ∧ LL wr ao P C (vl l C) := by
  have ho := h.o
  rw [hl] at ho
  have hcn : ∀ p, p < P → cnt C (P * C) p = C := fun p hp => by
    have := Nat.mul_le_mul_right C (show p + 1 ≤ P from hp)
    rw [Nat.succ_mul] at this
    unfold cnt; omega
  rcases ho.2 with ⟨rfl, h0⟩ | ⟨g, cap, cur, rfl, _⟩
  · exact ⟨none, 0, by rw [h0], fun p hp => absurd hp (by omega)⟩
  · refine ⟨_, cap, rfl, fun p hp => ?_⟩
    have hp' : p < xs.length := by omega
    have he := h.e p hp'
    rw [hcn p hp] at he
    have hc := ho.cells (g := g) rfl p _ (List.getElem?_eq_getElem hp')
    rcases he.2 with ⟨_, h0⟩ | ⟨g', cap', cur', e', _⟩
    · omega
    · rw [e'] at hc he
      refine ⟨g, 0, some ⟨g', 0, none⟩, cap', rfl, by rcases p with _ | p <;> simpa [Addr.add] using hc, fun k hk => ⟨g', 0, rfl, ?_⟩⟩
      have hk' := he.cells (g := g') rfl k _ (ints_at (l := l) (a := p * C) hk)
      unfold vl
      rcases k with _ | k <;> simpa [Addr.add] using hk'
end Go.Proofs.Ytohkiknhjcibgaa
/- PACKAGE patch: set. -/
namespace Go.Proofs.Ytohkiknhjcibgaa
open Go.RowKit

set_option maxHeartbeats 1600000 in
set_option maxRecDepth 100000 in
theorem pset_any (m g1 g2 N1 N2 i : Nat) (x : Int) (w : World) (hm : m ≤ 262144) (hi : i < 64 * m) (hx : -1 ≤ x ∧ x ≤ 1) (hne : g1 ≠ g2) (h1 : w.rowIs g1 41 m (wf N1)) (h2 : w.rowIs g2 41 m (wf N2)) (M1 M2 : Nat) (e1 : M1 = if 0 < x then N1 ||| 2 ^ i else N1) (e2 : M2 = if x = 0 then N2 else N2 ||| 2 ^ i) :
    Calls Try.prog 27 #[rwv (bt m g1 0) (bt m g2 0), .int .i64 i, .int .i8 x] w fun e w' => e = .returned (.tuple #[]) ∧ w'.rowIs g1 41 m (wf M1) ∧ w'.rowIs g2 41 m (wf M2) ∧ ∃ W, But g2 w W ∧ But g1 W w' := by
  obtain ⟨q, hq⟩ : ∃ q : Nat, i / 64 = q := ⟨_, rfl⟩
  obtain ⟨r, hr⟩ : ∃ r : Nat, i % 64 = r := ⟨_, rfl⟩
  have eq : (i : Int) / 64 = (q : Int) := by omega
  have er : (i : Int) % 64 = (r : Int) := by omega
  have er' : (i : Int).tmod 64 = (r : Int) := by rw [Int.tmod_eq_emod_of_nonneg (by omega)]; exact er
  have q1 : q < m := by omega
  have iq0 : (0 : Int) ≤ (q : Int) := by omega
  have iq1 : (q : Int) < (m : Nat) := by omega
  have ir0 : (0 : Int) ≤ (r : Int) := by omega
  have ir1 : (r : Int) ≤ 63 := by omega
  have wq : IntKind.i64.wrap (q : Int) = q := by rw [IntKind.wrap_i64]; omega
  have cw1 := h1.cell q1
  have fw1 := h1.frozen q
  have cw2 := h2.cell q1
  have fw2 := h2.frozen q
  have hg1 := h1.lt
  have hg2 := h2.lt
  unfold wf at cw1 cw2
  have hx1 := wd_lt N1 q
  have hx2 := wd_lt N2 q
  have H64 : (2 : Nat) ^ r < 18446744073709551616 := by rw [two64]; exact Nat.pow_lt_pow_right (by decide) (by omega)
  have e64 : IntKind.u64.wrap (2 ^ r) = ((2 ^ r : Nat) : Int) := by
    rw [show ((2 : Int) ^ r) = ((2 ^ r : Nat) : Int) by simp, IntKind.wrap_u64]
    generalize 2 ^ r = y at *; omega
  have HO1 : Hid (bits .or .u64 (wd N1 q : Nat) (IntKind.u64.wrap (2 ^ r)) = ((wd N1 q ||| 2 ^ r : Nat) : Int)) := by
    rw [e64]; exact or_u64 _ _ hx1 H64
  have HO2 : Hid (bits .or .u64 (wd N2 q : Nat) (IntKind.u64.wrap (2 ^ r)) = ((wd N2 q ||| 2 ^ r : Nat) : Int)) := by
    rw [e64]; exact or_u64 _ _ hx2 H64
  have HP1 : Hid (∀ (W : World) (z : Int), z = ((wd N1 q ||| 2 ^ r : Nat) : Int) → W.rowIs g1 41 m (wf N1) → (W.setCell ⟨g1, q, none⟩ (.int .u64 z)).rowIs g1 41 m (wf (N1 ||| 2 ^ i))) := fun W z hz h => (h.set q _).congr fun k hk => by
    simp only [wf]
    rw [wd_setE N1 i k, hq, hr, hz]
    by_cases e : k = q
    · rw [if_pos e, if_pos e, e]
    · rw [if_neg e, if_neg e]
  have HP2 : Hid (∀ (W : World) (z : Int), z = ((wd N2 q ||| 2 ^ r : Nat) : Int) → W.rowIs g2 41 m (wf N2) → (W.setCell ⟨g2, q, none⟩ (.int .u64 z)).rowIs g2 41 m (wf (N2 ||| 2 ^ i))) := fun W z hz h => (h.set q _).congr fun k hk => by
    simp only [wf]
    rw [wd_setE N2 i k, hq, hr, hz]
    by_cases e : k = q
    · rw [if_pos e, if_pos e, e]
    · rw [if_neg e, if_neg e]
  have HR1 := hid1 h1
  have HR2 := hid1 h2
  have i0 : (0 : Int) ≤ (i : Int) := by omega
  have i1 : (i : Int) < 16777216 := by omega
  have HE1 := hid1 e1
  have HE2 := hid1 e2
  clear h1 h2 hx1 hx2 H64 hq hr e1 e2 e64
  go_enter Try.func27, Try.ntmps27
  go_upto_region 1 with fail
  refine gen_world (fun W' => Below w.heap.size w W' ∧ W'.rowIs w.heap.size 46 4 (qf (bt m g1 0) (bt m g2 0))) ⟨bl_alloc (Below.refl _ _) _, q_new w (bt m g1 0) (bt m g2 0) _⟩ ?_
  rintro W ⟨B, b0⟩
  replace fw1 := keepf B hg1 fw1
  replace cw1 := keepc B cw1
  replace fw2 := keepf B hg2 fw2
  replace cw2 := keepc B cw2
  have c1 := Go.Proofs.Ytohkiknhjcibgaa.q1 b0
  have c3 := q3 b0
  have lb := b0.lt
  have lz : w.heap.size ≠ g2 := by omega
  have lz1 : w.heap.size ≠ g1 := by omega
  have r1 := keepr B HR1.out
  have r2 := keepr B HR2.out
  have HB := hid1 B
  clear B b0
  rcases (show x = -1 ∨ x = 0 ∨ x = 1 by omega) with e | e | e
  · subst e
    obtain rfl : M1 = N1 := by rw [HE1.out]; rfl
    obtain rfl : M2 = N2 ||| 2 ^ i := by rw [HE2.out]; rfl
    go_wp2_with fail
    refine bodyPost_end (v := .tuple #[]) (by simp [results, go_sem]) rfl ?_
    exact ⟨rfl, r1.setOther (a := ⟨g2, q, none⟩) hne _, HP2.out W _ HO2.out r2, _, (But.of_below HB.out).set _, But.refl _ _⟩
  · subst e
    obtain rfl : M1 = N1 := by rw [HE1.out]; rfl
    obtain rfl : M2 = N2 := by rw [HE2.out]; rfl
    go_wp2_with fail
    refine bodyPost_end (v := .tuple #[]) (by simp [results, go_sem]) rfl ?_
    exact ⟨rfl, r1, r2, _, But.of_below HB.out, But.refl _ _⟩
  · subst e
    obtain rfl : M1 = N1 ||| 2 ^ i := by rw [HE1.out]; rfl
    obtain rfl : M2 = N2 ||| 2 ^ i := by rw [HE2.out]; rfl
    have hne' : g2 ≠ g1 := hne.symm
    go_wp2_with fail
    refine bodyPost_end (v := .tuple #[]) (by simp [results, go_sem]) rfl ?_
    exact ⟨rfl, HP1.out _ _ HO1.out (r1.setOther (a := ⟨g2, q, none⟩) hne _), (HP2.out W _ HO2.out r2).setOther (a := ⟨g1, q, none⟩) hne' _, _, (But.of_below HB.out).set _, (But.refl _ _).set _⟩
end Go.Proofs.Ytohkiknhjcibgaa
