import Derived.Test.YtkhlhcbbbhbgeaaQCPlainBig
import Derived.Deep.RegionHeld3
/- PLAINBIG: the long network, made: the memory of its first layer. -/
namespace Go.Proofs.Ytkhlhcbbbhbgeaa.Nn
open Go.RowKit

def laG (aw : Option Addr) (nw cw : Nat) (an : Option Addr) (nn cn : Nat) : Ly := ⟨1, 1, 2774, 1, 1, 1, 1, 0, 0, 0, 0, 0, aw, nw, cw, an, nn, cn, none, 0, 0, fun _ => 1, fun _ i => [1, 1, 0, 1, 0, 1, 1, 1].getD i 0, fun _ => 0⟩
def one8 (n : Nat) : List Int := (List.range n).map fun _ => 1
theorem one8_succ (n : Nat) : one8 (n + 1) = one8 n ++ [1] := by unfold one8; rw [List.range_succ, List.map_append]; rfl
/-- What stands ahead of the first layer. -/
def Fx (W : World) (B : Nat) : Prop := W.heap[B]? = some netZ ∧ W.heap[B + 1]? = some (.cells #[.int .i64 1, .int .i64 1] 59) ∧ W.heap[B + 2]? = some (.cells #[.int .i64 0, .int .i64 1] 59) ∧ W.heap[B + 3]? = some (.cells #[.int .i64 1, .int .i64 1, .int .i64 1, .int .i64 1, .int .i64 0, .int .i64 0, .int .i64 0, .int .i64 0] 43)
theorem Fx.of {W X : World} {B : Nat} (h : Fx W B) (hb : ∀ b, b < B + 4 → X.heap[b]? = W.heap[b]?) : Fx X B := ⟨(hb _ (by omega)).trans h.1, (hb _ (by omega)).trans h.2.1, (hb _ (by omega)).trans h.2.2.1, (hb _ (by omega)).trans h.2.2.2⟩
def LA (W w0 : World) (B : Nat) (aw : Option Addr) (nw cw : Nat) (an : Option Addr) (nn cn : Nat) : Prop :=
  Fx W B ∧ W.rowIs (B + 4) 47 15 (lyf (laG aw nw cw an nn cn)) ∧ W.ownsRow (B + 5) 60 1 (.slice aw nw cw) nw (i8L (one8 nw)) ∧ W.ownsRow (B + 5) 62 8 (.slice an nn cn) nn (nmL (fun _ i => [1, 1, 0, 1, 0, 1, 1, 1].getD i 0) nn) ∧ B + 5 ≤ W.heap.size ∧ Below w0.heap.size w0 W
theorem gr_low {W y : World} {B : Nat} {q : Option Nat} {o : Obj} (gr : (W.alloc o).grownBy y q) (hq : ∀ k, q = some k → B + 5 ≤ k) (hs : B + 5 ≤ W.heap.size) : ∀ b, b < B + 5 → y.heap[b]? = W.heap[b]? := fun b hb => by
  rw [gr.block b (by simp; omega) (fun e => by have := hq b e.symm; omega), old_block _ _ (by omega)]
theorem LA.stepW {W y w0 : World} {B : Nat} {aw an a2 : Option Addr} {nw cw nn cn c2 : Nat} {o : Obj} (hB : w0.heap.size = B) (h : LA W w0 B aw nw cw an nn cn) (own2 : y.ownsRow (B + 5) 60 1 (.slice a2 (nw + 1) c2) (nw + 1) (i8L (one8 nw ++ [1]))) (gr : (W.alloc o).grownBy y (Value.slice aw nw cw).ownBlock) :
    y.rowIs (B + 4) 47 15 (lyf (laG aw nw cw an nn cn)) ∧ LA (y.setCell ⟨B + 4, 12, none⟩ (.slice a2 (nw + 1) c2)) w0 B a2 (nw + 1) c2 an nn cn := by
  obtain ⟨h1, h2, h3, h4, h5, h6⟩ := h
  have hq : ∀ k, (Value.slice aw nw cw).ownBlock = some k → B + 5 ≤ k := fun k hk => (h3.lt k hk).1
  have lo := gr_low gr hq h5
  have R := World.rowIs.of_block h2 (lo (B + 4) (by omega))
  have by1 : Below w0.heap.size w0 y := gr_bel gr (bl_alloc h6 o) (fun k hk => by have := hq k hk; omega)
  refine ⟨R, h1.of fun b hb => ?_, ?_, ?_, ?_, ?_, bl_set by1 (by omega) _⟩
  · rw [Below.heap_setCell _ _ _ _ (by show b ≠ B + 4; omega)]
    exact lo b (by omega)
  · exact lyf_set R (laG a2 (nw + 1) c2 an nn cn) 12 _ ⟨rfl, rfl, rfl, rfl, rfl, rfl, rfl, rfl, rfl, rfl, rfl, rfl, rfl, rfl, rfl⟩
  · rw [one8_succ]; exact own_setD own2 (by omega)
  · refine own_setD ((own_bl h4 (bl_alloc (Below.refl _ _) o)).kept gr ?_) (by omega)
    cases hv : (Value.slice an nn cn).ownBlock with
    | none => exact .inl rfl
    | some p => exact .inr (fun e => ownNe h4 h3 (by decide) e.symm p hv rfl)
  · have := gr.size
    simp at this ⊢
    omega
theorem LA.stepN {W y w0 : World} {B : Nat} {aw an a2 : Option Addr} {nw cw nn cn c2 : Nat} {o : Obj} (hB : w0.heap.size = B) (h : LA W w0 B aw nw cw an nn cn) (own2 : y.ownsRow (B + 5) 62 8 (.slice a2 (nn + 1) c2) (nn + 1) (nmL (fun _ i => [1, 1, 0, 1, 0, 1, 1, 1].getD i 0) nn ++ nmC fun i => [1, 1, 0, 1, 0, 1, 1, 1].getD i 0)) (gr : (W.alloc o).grownBy y (Value.slice an nn cn).ownBlock) :
    y.rowIs (B + 4) 47 15 (lyf (laG aw nw cw an nn cn)) ∧ LA (y.setCell ⟨B + 4, 13, none⟩ (.slice a2 (nn + 1) c2)) w0 B aw nw cw a2 (nn + 1) c2 := by
  obtain ⟨h1, h2, h3, h4, h5, h6⟩ := h
  have hq : ∀ k, (Value.slice an nn cn).ownBlock = some k → B + 5 ≤ k := fun k hk => (h4.lt k hk).1
  have lo := gr_low gr hq h5
  have R := World.rowIs.of_block h2 (lo (B + 4) (by omega))
  have by1 : Below w0.heap.size w0 y := gr_bel gr (bl_alloc h6 o) (fun k hk => by have := hq k hk; omega)
  refine ⟨R, h1.of fun b hb => ?_, ?_, ?_, ?_, ?_, bl_set by1 (by omega) _⟩
  · rw [Below.heap_setCell _ _ _ _ (by show b ≠ B + 4; omega)]
    exact lo b (by omega)
  · exact lyf_set R (laG aw nw cw a2 (nn + 1) c2) 13 _ ⟨rfl, rfl, rfl, rfl, rfl, rfl, rfl, rfl, rfl, rfl, rfl, rfl, rfl, rfl, rfl⟩
  · refine own_setD ((own_bl h3 (bl_alloc (Below.refl _ _) o)).kept gr ?_) (by omega)
    cases hv : (Value.slice aw nw cw).ownBlock with
    | none => exact .inl rfl
    | some p => exact .inr (fun e => ownNe h3 h4 (by decide) e.symm p hv rfl)
  · exact own_setD own2 (by omega)
  · have := gr.size
    simp at this ⊢
    omega
end Go.Proofs.Ytkhlhcbbbhbgeaa.Nn
/- PLAINBIG: the long network, made: its last layer. -/
namespace Go.Proofs.Ytkhlhcbbbhbgeaa.Nn
open Go.RowKit

def laE (k n : Nat) (aw ab : Option Addr) : Ly := ⟨2, 1, k, 0, 0, 0, 0, 0, 0, 0, 0, 0, aw, n, n, none, 0, 0, ab, k, k, fun _ => 1, fun _ _ => 0, fun _ => 0⟩
def zer8 (n : Nat) : Obj := .cells (madeCells #[.int .i8 0] n) 60
def zer64 (n : Nat) : Obj := .cells (madeCells #[.int .i64 0] n) 2
theorem at0 {Z : World} {o1 o2 o3 : Obj} : (((Z.alloc o1).alloc o2).alloc o3).drew.heap[Z.heap.size]? = some o1 := old_at (old_at (new_at rfl _) _) _
theorem at1 {Z : World} {o1 o2 o3 : Obj} : (((Z.alloc o1).alloc o2).alloc o3).drew.heap[Z.heap.size + 1]? = some o2 := old_at (new_at (by simp) _) _
theorem at2 {Z : World} {o1 o2 o3 : Obj} : (((Z.alloc o1).alloc o2).alloc o3).drew.heap[Z.heap.size + 1 + 1]? = some o3 := new_at (by simp) _
theorem ly_row {W : World} {g : Nat} {L : Ly} (h : W.heap[g]? = some (lyo L)) : W.rowIs g 47 15 (lyf L) := ⟨_, h, rfl, fun i hi => by
  rcases (show i = 0 ∨ i = 1 ∨ i = 2 ∨ i = 3 ∨ i = 4 ∨ i = 5 ∨ i = 6 ∨ i = 7 ∨ i = 8 ∨ i = 9 ∨ i = 10 ∨ i = 11 ∨ i = 12 ∨ i = 13 ∨ i = 14 by omega) with rfl | rfl | rfl | rfl | rfl | rfl | rfl | rfl | rfl | rfl | rfl | rfl | rfl | rfl | rfl <;> rfl⟩
noncomputable def cl15 : Code := (Try.f6.body.bind (regionOf 15)).getD .skip
set_option maxHeartbeats 6400000 in
set_option maxRecDepth 100000 in
theorem long_r15 (u1 u2 u3 u4 u5 u6 u7 u8 u9 u10 u11 u12 u13 u14 u15 u16 u17 u18 u19 u20 u21 u22 u23 u24 u25 u26 u27 u28 u29 u30 u31 u32 u33 u34 u35 u36 u37 u38 u39 u40 u41 u42 u43 u44 u45 u46 u47 u48 u49 u50 u51 u52 u53 u54 u55 u56 u57 u58 u59 u60 u61 u62 u63 u64 u65 u66 u67 u68 u69 u70 u71 u72 u73 u74 u75 : Value) (k n : Nat) (hk : 1 ≤ k ∧ k ≤ 20) (hn : n = 66576 * k) (Z : World) (Q : Exit → Act → World → Prop)
    (hQ : Hid (∀ (X : World) (g10 gw gb : Nat) (v51 v52 v53 v54 v55 v56 v57 : Value), (X.rowIs g10 47 15 (lyf (laE k n (some ⟨gw, 0, none⟩) (some ⟨gb, 0, none⟩))) ∧ X.heap[gw]? = some (zer8 n) ∧ X.heap[gb]? = some (zer64 k) ∧ Z.heap.size ≤ gw ∧ Z.heap.size ≤ gb ∧ Z.heap.size ≤ g10 ∧ Below Z.heap.size Z X) → Q .normal ⟨#[.int .i64 (k : Int), u1, u2, u3, u4, u5, u6, u7, u8, u9, .pointer (some ⟨g10, 0, none⟩), u11, u12, u13, u14, u15, u16, u17, u18, u19, u20, u21, u22, u23, u24, u25, u26, u27, u28, u29, u30, u31, u32, u33, u34, u35, u36, u37, u38, u39, u40, u41, u42, u43, u44, u45, u46, u47, u48, u49, u50, v51, v52, v53, v54, v55, v56, v57, u58, u59, u60, u61, u62, u63, u64, u65, u66, u67, u68, u69, u70, u71, u72, u73, u74, u75], []⟩ X)) :
    Code.wp Try.prog cl15 Q ⟨#[.int .i64 (k : Int), u1, u2, u3, u4, u5, u6, u7, u8, u9, u10, u11, u12, u13, u14, u15, u16, u17, u18, u19, u20, u21, u22, u23, u24, u25, u26, u27, u28, u29, u30, u31, u32, u33, u34, u35, u36, u37, u38, u39, u40, u41, u42, u43, u44, u45, u46, u47, u48, u49, u50, u51, u52, u53, u54, u55, u56, u57, u58, u59, u60, u61, u62, u63, u64, u65, u66, u67, u68, u69, u70, u71, u72, u73, u74, u75], []⟩ Z := by
  conv => arg 2; whnf
  obtain ⟨i0, hi, hz0, hz1, hz2⟩ := info_parts info_i8P
  have mkW : ∀ w, (Instr.makeSlice 44 (.int .i64 (n : Int)) (.int .i64 (n : Int))).run Try.prog w = .ok (.slice (some ⟨w.heap.size, 0, none⟩) n n) (w.alloc (zer8 n)) := fun w => run_make_row 44 60 i0 (.int .i8 0) und_i8P hi hz0 hz1 rfl .i64 .i64 n (by rw [hz2]; omega) (by omega) w
  obtain ⟨i1, hi', hz0', hz1', hz2'⟩ := info_parts info_i64
  have mkB : ∀ w, (Instr.makeSlice 34 (.int .i64 (k : Int)) (.int .i64 (k : Int))).run Try.prog w = .ok (.slice (some ⟨w.heap.size, 0, none⟩) k k) (w.alloc (zer64 k)) := fun w => run_make_row 34 2 i1 (.int .i64 0) und_i64s hi' hz0' hz1' rfl .i64 .i64 k (by rw [hz2']; omega) (by omega) w
  have em : IntKind.i64.wrap (66576 * (k : Int)) = (n : Int) := by rw [IntKind.wrap_i64]; omega
  have HNK := hid1 hn
  clear hn
  clear hi hz0 hz1 hz2 hi' hz0' hz1' hz2'
  have hfo := followsP
  refine wp_region_noPanic ?_
  go_region_held3 (fun _ => True) (trivial) (fail)
  all_goals (refine NoPanic.normal ?_; exact hQ.out _ _ _ _ _ _ _ _ _ _ _ ⟨ly_row (by first | exact at0 | exact at1 | exact at2), (by first | exact at0 | exact at1 | exact at2), (by first | exact at0 | exact at1 | exact at2), by omega, by omega, by omega, (bl_alloc (bl_alloc (bl_alloc (Below.refl _ _) _) _) _).drew⟩)
end Go.Proofs.Ytkhlhcbbbhbgeaa.Nn
