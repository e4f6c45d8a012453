/- NETWORKS: THE CHAPTER'S EXAMPLE, MADE. -/
import Derived.Test.YtfljnpeidadpjaaNE1
namespace Go.Proofs.Ytfljnpeidadpjaa
open Go.RowKit

theorem new_at {W : World} {g : Nat} (hg : W.heap.size = g) (o : Obj) : (W.alloc o).heap[g]? = some o := by subst hg; exact new_block W o
theorem old_at {W : World} {g : Nat} {o' : Obj} (h : W.heap[g]? = some o') (o : Obj) : (W.alloc o).heap[g]? = some o' := (old_block W o (lt_block h)).trans h
theorem bfz {W : World} {b : Nat} {cs : Array Value} {t : TypeId} (h : W.heap[b]? = some (.cells cs t)) (j : Nat) : W.frozen? ⟨b, j, none⟩ = false := by simp [World.frozen?, h]
theorem ExB.exc {W w' : World} {B b : Nat} {x : Int} (h : ExB W B x) (hb : Exc b W w') (hne : b ≤ B) : ExB w' B x := ⟨(hb.2 _ (by omega)).trans h.1, (hb.2 _ (by omega)).trans h.2.1, (hb.2 _ (by omega)).trans h.2.2.1, (hb.2 _ (by omega)).trans h.2.2.2.1, (hb.2 _ (by omega)).trans h.2.2.2.2⟩
theorem row_of_block {W : World} {b : Nat} {c : Array Value} {t : TypeId} (h : W.heap[b]? = some (.cells c t)) : W.rowIs b t c.size (fun i => (c[i]?).getD undef) := ⟨c, h, rfl, fun i hi => by simp [hi]⟩
theorem gen_body {P : Program} {fn : Func} {R : Ending → World → Prop} {x : Exit} {a : Act} {W : World} (p : World → Prop) (hp : p W) (h : ∀ W', p W' → bodyPost P fn R x a W') : bodyPost P fn R x a W := h W hp
theorem net_cells {W : World} {g : Nat} {t : TypeId} {f : Nat → Value} {a b c d e : Value} (h : W.rowIs g t 5 f) : (((((W.setCell ⟨g, 0, none⟩ a).setCell ⟨g, 1, none⟩ b).setCell ⟨g, 2, none⟩ c).setCell ⟨g, 3, none⟩ d).setCell ⟨g, 4, none⟩ e).rowIs g t 5 (fun j => match j with | 0 => a | 1 => b | 2 => c | 3 => d | _ => e) :=
  (((((h.set 0 a).set 1 b).set 2 c).set 3 d).set 4 e).congr fun i hi => by
    rcases (show i = 0 ∨ i = 1 ∨ i = 2 ∨ i = 3 ∨ i = 4 by omega) with rfl | rfl | rfl | rfl | rfl <;> rfl
abbrev netZ : Obj := .cells #[.string ⟨#[]⟩, .int .i64 0, .int .i64 0, .int .i64 0, .slice none 0 0] 38
abbrev layO (L : Ly) : Obj := .cells #[.int .i64 L.kd, .int .i64 L.wt, .int .i64 L.k, .int .i64 L.r, .int .i64 L.s, .int .i64 L.sy, .int .i64 L.sx, .int .i64 L.t, .int .i64 L.l, .int .i64 L.b, .int .i64 L.q, .int .i64 L.bd, .slice L.aw L.mw L.cw, .slice L.an L.mn L.cn, .slice L.ab L.mb L.cb] 31
noncomputable def rgE : Code := (Try.f29.body.bind (regionOf 7)).getD .skip
abbrev row3 (LA LB LC : Ly) : Array Value := #[.int .i64 LA.kd, .int .i64 LA.wt, .int .i64 LA.k, .int .i64 LA.r, .int .i64 LA.s, .int .i64 LA.sy, .int .i64 LA.sx, .int .i64 LA.t, .int .i64 LA.l, .int .i64 LA.b, .int .i64 LA.q, .int .i64 LA.bd, .slice LA.aw LA.mw LA.cw, .slice LA.an LA.mn LA.cn, .slice LA.ab LA.mb LA.cb, .int .i64 LB.kd, .int .i64 LB.wt, .int .i64 LB.k, .int .i64 LB.r, .int .i64 LB.s, .int .i64 LB.sy, .int .i64 LB.sx, .int .i64 LB.t, .int .i64 LB.l, .int .i64 LB.b, .int .i64 LB.q, .int .i64 LB.bd, .slice LB.aw LB.mw LB.cw, .slice LB.an LB.mn LB.cn, .slice LB.ab LB.mb LB.cb, .int .i64 LC.kd, .int .i64 LC.wt, .int .i64 LC.k, .int .i64 LC.r, .int .i64 LC.s, .int .i64 LC.sy, .int .i64 LC.sx, .int .i64 LC.t, .int .i64 LC.l, .int .i64 LC.b, .int .i64 LC.q, .int .i64 LC.bd, .slice LC.aw LC.mw LC.cw, .slice LC.an LC.mn LC.cn, .slice LC.ab LC.mb LC.cb]
set_option maxHeartbeats 3200000 in
set_option maxRecDepth 100000 in
theorem ex_seven (u1 u2 u3 u7 u8 u9 u10 u11 u12 u13 u14 u15 u16 u17 u18 u19 u20 u21 u22 u23 u24 u25 u26 u27 u28 u29 : Value) (g ga gb gc : Nat) (LA LB LC : Ly) (Z : World) (Q : Exit → Act → World → Prop) (hA : Lp Z ga LA) (hB : Lp Z gb LB) (hC : Lp Z gc LC) (r0 : Z.heap[g]? = some netZ)
    (hQ : Hid (∀ X, Exc g Z X → X.rowIs g 38 5 (fun j => match j with | 0 => .string ⟨#[110]⟩ | 1 => .int .i64 2 | 2 => .int .i64 2 | 3 => .int .i64 1 | _ => .slice (some ⟨Z.heap.size, 0, none⟩) 3 3) → X.tape = Z.tape ∧ X.os = Z.os ∧ X.output = Z.output → Q .normal ⟨#[.pointer (some ⟨g, 0, none⟩), u1, u2, u3, .pointer (some ⟨ga, 0, none⟩), .pointer (some ⟨gb, 0, none⟩), .pointer (some ⟨gc, 0, none⟩), u7, u8, u9, u10, u11, u12, u13, u14, u15, u16, u17, u18, u19, u20, u21, u22, u23, .agg #[.int .i64 2, .int .i64 2, .int .i64 1], .agg #[.int .i64 LA.kd, .int .i64 LA.wt, .int .i64 LA.k, .int .i64 LA.r, .int .i64 LA.s, .int .i64 LA.sy, .int .i64 LA.sx, .int .i64 LA.t, .int .i64 LA.l, .int .i64 LA.b, .int .i64 LA.q, .int .i64 LA.bd, .slice LA.aw LA.mw LA.cw, .slice LA.an LA.mn LA.cn, .slice LA.ab LA.mb LA.cb], .agg #[.int .i64 LB.kd, .int .i64 LB.wt, .int .i64 LB.k, .int .i64 LB.r, .int .i64 LB.s, .int .i64 LB.sy, .int .i64 LB.sx, .int .i64 LB.t, .int .i64 LB.l, .int .i64 LB.b, .int .i64 LB.q, .int .i64 LB.bd, .slice LB.aw LB.mw LB.cw, .slice LB.an LB.mn LB.cn, .slice LB.ab LB.mb LB.cb], .agg #[.int .i64 LC.kd, .int .i64 LC.wt, .int .i64 LC.k, .int .i64 LC.r, .int .i64 LC.s, .int .i64 LC.sy, .int .i64 LC.sx, .int .i64 LC.t, .int .i64 LC.l, .int .i64 LC.b, .int .i64 LC.q, .int .i64 LC.bd, .slice LC.aw LC.mw LC.cw, .slice LC.an LC.mn LC.cn, .slice LC.ab LC.mb LC.cb], .slice (some ⟨Z.heap.size, 0, none⟩) 3 3, .agg #[.string ⟨#[110]⟩, .int .i64 2, .int .i64 2, .int .i64 1, .slice (some ⟨Z.heap.size, 0, none⟩) 3 3]], []⟩ (X.alloc (.cells (row3 LA LB LC) 31)))) :
    Code.wp Try.prog rgE Q ⟨#[.pointer (some ⟨g, 0, none⟩), u1, u2, u3, .pointer (some ⟨ga, 0, none⟩), .pointer (some ⟨gb, 0, none⟩), .pointer (some ⟨gc, 0, none⟩), u7, u8, u9, u10, u11, u12, u13, u14, u15, u16, u17, u18, u19, u20, u21, u22, u23, u24, u25, u26, u27, u28, u29], []⟩ Z := by
  have HR := hid1 (row_of_block r0)
  have hlt := lt_block r0
  have n0 := bcl r0 (j := 0) rfl; have n1 := bcl r0 (j := 1) rfl; have n2 := bcl r0 (j := 2) rfl; have n3 := bcl r0 (j := 3) rfl; have n4 := bcl r0 (j := 4) rfl
  have z0 := bfz r0 0; have z1 := bfz r0 1; have z2 := bfz r0 2; have z3 := bfz r0 3; have z4 := bfz r0 4
  clear r0
  obtain ⟨a0, a1, a2, a3, a4, a5, a6, a7, a8, a9, a10, a11, a12, a13, a14⟩ := hA
  obtain ⟨b0, b1, b2, b3, b4, b5, b6, b7, b8, b9, b10, b11, b12, b13, b14⟩ := hB
  obtain ⟨d0, d1, d2, d3, d4, d5, d6, d7, d8, d9, d10, d11, d12, d13, d14⟩ := hC
  conv => arg 2; whnf
  go_wp2_with fail
  exact hQ.out _ ((((((Exc.refl g Z).set _ _).set _ _).set _ _).set _ _).set _ _) (net_cells HR.out) ⟨rfl, rfl, rfl⟩
end Go.Proofs.Ytfljnpeidadpjaa
