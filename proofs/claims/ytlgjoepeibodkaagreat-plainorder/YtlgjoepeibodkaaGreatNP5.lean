/- NETWORKS: WALK. -/
import Derived.Test.YtlgjoepeibodkaaGreatNP4
import Derived.Deep.OwnRows
import Derived.Deep.DeepCutAuto
import Derived.Laws.MakeOwn
import Derived.Deep.RegionWith
import Derived.Deep.DrawnRows
namespace Go.Proofs.YtlgjoepeibodkaaGreat.Nn
open Go.RowKit

theorem und_shps : Tryz.prog.underlying 65 = some (.slice 23) := by kernel_rfl
theorem info_shp : (Tryz.prog.info? 23).map (fun i => (i.zero, i.size, i.bytes)) = some (some (.agg #[.int .i64 0, .int .i64 0, .int .i64 0]), 3, 24) := by kernel_rfl
abbrev zsh : Array Value := #[.int .i64 0, .int .i64 0, .int .i64 0]
theorem make_shps (n : Nat) (hn : n ≤ 1000000) (w : World) : (Instr.makeSlice 65 (.int .i64 (n : Int)) (.int .i64 (n : Int))).run Tryz.prog w = .ok (.slice (some ⟨w.heap.size, 0, none⟩) n n) (w.alloc (.cells (madeCells zsh (n * 3)) 23)) := by
  obtain ⟨i, hi, hz0, hz1, hz2⟩ := info_parts info_shp
  have := run_make w 65 23 i _ und_shps hi hz0 .i64 .i64 (n : Int) (n : Int) (by omega) (by omega) (by rw [hz2]; omega) (by omega)
  rw [Int.toNat_natCast, hz1] at this
  exact this
theorem made_zero (n j : Nat) (hj : j < n) : (madeCells zsh n)[j]? = some (.int .i64 0) := by
  unfold madeCells
  have h3 : j % 3 = 0 ∨ j % 3 = 1 ∨ j % 3 = 2 := by omega
  rcases h3 with h | h | h <;> simp [hj, h]
theorem rowIs_keep {W w' : World} {b n : Nat} {t : TypeId} {f : Nat → Value} (h : W.rowIs b t n f) (hb : Below W.heap.size W w') : w'.rowIs b t n f := h.of_block (hb.block b h.lt)
def spf (S : Sp) : Nat → Value
  | 0 => .int .i64 S.h
  | 1 => .int .i64 S.v
  | 2 => .int .i64 S.c
  | 3 => .int .i64 S.ah
  | 4 => .bool S.fs
  | _ => .bool S.la
def sfl (S : Sp) (x y : Bool) : Sp := ⟨S.h, S.v, S.c, S.ah, x, y⟩
def shc (S : Sp) : Nat → Value
  | 0 => .int .i64 S.h
  | 1 => .int .i64 S.v
  | _ => .int .i64 S.c
/-- The cells of the list of shapes, k of them written. -/
def shf (N : Nt) (k j : Nat) : Value := if j < k * 3 then shc (sp N (j / 3 + 1)) (j % 3) else .int .i64 0
theorem shf_step (N : Nt) (k i : Nat) : (if i = k * 3 + 2 then Value.int .i64 (sp N (k + 1)).c else if i = k * 3 + 1 then .int .i64 (sp N (k + 1)).v else if i = k * 3 then .int .i64 (sp N (k + 1)).h else shf N k i) = shf N (k + 1) i := by
  unfold shf
  by_cases h1 : i = k * 3 + 2
  · rw [if_pos h1, if_pos (by omega), show i / 3 = k by omega, show i % 3 = 2 by omega]; rfl
  · rw [if_neg h1]
    by_cases h2 : i = k * 3 + 1
    · rw [if_pos h2, if_pos (by omega), show i / 3 = k by omega, show i % 3 = 1 by omega]; rfl
    · rw [if_neg h2]
      by_cases h3 : i = k * 3
      · rw [if_pos h3, if_pos (by omega), show i / 3 = k by omega, show i % 3 = 0 by omega]; rfl
      · rw [if_neg h3]
        by_cases h4 : i < k * 3
        · rw [if_pos h4, if_pos (by omega)]
        · rw [if_neg h4, if_neg (by omega)]
theorem shf_zero (N : Nt) (j : Nat) : Value.int .i64 0 = shf N 0 j := by unfold shf; rw [if_neg (by omega)]
theorem spot_new (W : World) (S : Sp) (t : TypeId) : (W.alloc (.cells #[.int .i64 S.h, .int .i64 S.v, .int .i64 S.c, .int .i64 S.ah, .bool S.fs, .bool S.la] t)).rowIs W.heap.size t 6 (spf S) :=
  World.rowIs_alloc W _ t _ fun i hi => by
    have h6 : i = 0 ∨ i = 1 ∨ i = 2 ∨ i = 3 ∨ i = 4 ∨ i = 5 := by simp at hi; omega
    rcases h6 with rfl | rfl | rfl | rfl | rfl | rfl <;> rfl
theorem spot_cells {W : World} {g : Nat} {t : TypeId} {S : Sp} (h : W.rowIs g t 6 (spf S)) : So W g S := ⟨h.cell (i := 0) (by decide), h.cell (i := 1) (by decide), h.cell (i := 2) (by decide), h.cell (i := 3) (by decide), h.cell (i := 4) (by decide), h.cell (i := 5) (by decide)⟩
theorem sp_first (N : Nt) (k : Nat) : ((k : Int) == 0) = (sp N k).fs := by
  cases k with
  | zero => rfl
  | succ k => show _ = false; simp; omega
theorem sp_last (N : Nt) (k : Nat) (h : k < N.ml) (hm : N.ml ≤ 64) : ((k : Int) == wrap64 ((N.ml : Int) - 1)) = (sp N k).la := by
  rw [wr_id (by omega) (by omega)]
  cases k with
  | zero => show _ = decide (N.ml = 1); rw [Bool.eq_iff_iff]; simp; omega
  | succ k => show _ = decide (N.ml = k + 2); rw [Bool.eq_iff_iff]; simp; omega
theorem Lp.of_block {W w' : World} {g : Nat} {L : Ly} (k : Lp W g L) (e : w'.heap[g]? = W.heap[g]?) : Lp w' g L := by
  have h : ∀ o, w'.cell? ⟨g, o, none⟩ = W.cell? ⟨g, o, none⟩ := fun o => World.cell?_of_block (w := W) e
  obtain ⟨c0, c1, c2, c3, c4, c5, c6, c7, c8, c9, c10, c11, c12, c13, c14⟩ := k
  exact ⟨(h _).trans c0, (h _).trans c1, (h _).trans c2, (h _).trans c3, (h _).trans c4, (h _).trans c5, (h _).trans c6, (h _).trans c7, (h _).trans c8, (h _).trans c9, (h _).trans c10, (h _).trans c11, (h _).trans c12, (h _).trans c13, (h _).trans c14⟩
theorem Nb.of_block {W w' : World} {g : Nat} {N : Nt} (k : Nb W g N) (e : w'.heap[g]? = W.heap[g]?) : Nb w' g N := by
  have h : ∀ o, w'.cell? ⟨g, o, none⟩ = W.cell? ⟨g, o, none⟩ := fun o => World.cell?_of_block (w := W) e
  obtain ⟨c0, c1, c2, c3, c4⟩ := k
  exact ⟨(h _).trans c0, (h _).trans c1, (h _).trans c2, (h _).trans c3, (h _).trans c4⟩
theorem Pts.of_blocks {W w' : World} {b : Nat} (k : Pts W b) (h : ∀ i, i ≤ b + 3 → w'.heap[i]? = W.heap[i]?) : Pts w' b := ⟨(h _ (by omega)).trans k.1, (h _ (by omega)).trans k.2.1, (h _ (by omega)).trans k.2.2.1, (h _ (by omega)).trans k.2.2.2⟩
/-- Nothing but the block x has turned. -/
def Exc (x : Nat) (W w' : World) : Prop := w'.heap.size = W.heap.size ∧ ∀ i, i ≠ x → w'.heap[i]? = W.heap[i]?
theorem Exc.refl (x : Nat) (W : World) : Exc x W W := ⟨rfl, fun _ _ => rfl⟩
theorem Exc.set {x : Nat} {W w' : World} (h : Exc x W w') (o : Nat) (v : Value) : Exc x W (w'.setCell ⟨x, o, none⟩ v) := ⟨by simp [h.1], fun i hi => (Below.heap_setCell w' ⟨x, o, none⟩ v i hi).trans (h.2 i hi)⟩
theorem Exc.drew {x : Nat} {W w' : World} (h : Exc x W w') : Exc x W w'.drew := h
theorem spot_set {W : World} {g : Nat} {t : TypeId} {S : Sp} {x y : Bool} (h : W.rowIs g t 6 (spf (sfl S x y))) : ((W.setCell ⟨g, 4, none⟩ (.bool S.fs)).setCell ⟨g, 5, none⟩ (.bool S.la)).drew.rowIs g t 6 (spf S) :=
  ((h.set 4 (.bool S.fs)).set 5 (.bool S.la)).congr fun i hi => by
    have h6 : i = 0 ∨ i = 1 ∨ i = 2 ∨ i = 3 ∨ i = 4 ∨ i = 5 := by omega
    rcases h6 with rfl | rfl | rfl | rfl | rfl | rfl <;> rfl
theorem lp_new' {W : World} {g : Nat} (hg : W.heap.size = g) (L : Ly) (t : TypeId) : Lp (W.alloc (.cells #[.int .i64 L.kd, .int .i64 L.wt, .int .i64 L.k, .int .i64 L.r, .int .i64 L.s, .int .i64 L.sy, .int .i64 L.sx, .int .i64 L.t, .int .i64 L.l, .int .i64 L.b, .int .i64 L.q, .int .i64 L.bd, .slice L.aw L.mw L.cw, .slice L.an L.mn L.cn, .slice L.ab L.mb L.cb] t)) g L := by
  subst hg
  exact lp_new W L t
theorem spot_ah {W : World} {g : Nat} {t : TypeId} {S : Sp} {a a' : Int} (e : a = a') (h : W.rowIs g t 6 (spf S)) : (W.setCell ⟨g, 3, none⟩ (.int .i64 a)).rowIs g t 6 (spf ⟨S.h, S.v, S.c, a', S.fs, S.la⟩) := by
  subst e
  refine (h.set 3 (.int .i64 a)).congr fun i hi => ?_
  have h6 : i = 0 ∨ i = 1 ∨ i = 2 ∨ i = 3 ∨ i = 4 ∨ i = 5 := by omega
  rcases h6 with rfl | rfl | rfl | rfl | rfl | rfl <;> rfl
theorem spot_in {W : World} {g : Nat} {t : TypeId} {S : Sp} {x y z : Int} (h : W.rowIs g t 6 (spf S)) : (((W.setCell ⟨g, 0, none⟩ (.int .i64 x)).setCell ⟨g, 1, none⟩ (.int .i64 y)).setCell ⟨g, 2, none⟩ (.int .i64 z)).rowIs g t 6 (spf ⟨x, y, z, S.ah, S.fs, S.la⟩) := by
  refine (((h.set 0 (.int .i64 x)).set 1 (.int .i64 y)).set 2 (.int .i64 z)).congr fun i hi => ?_
  have h6 : i = 0 ∨ i = 1 ∨ i = 2 ∨ i = 3 ∨ i = 4 ∨ i = 5 := by omega
  rcases h6 with rfl | rfl | rfl | rfl | rfl | rfl <;> rfl
theorem shf_set {W : World} {N : Nt} {g k m : Nat} {t : TypeId} {x y z : Int} (hx : (sp N (k + 1)).h = x) (hy : (sp N (k + 1)).v = y) (hz : (sp N (k + 1)).c = z) (h : W.rowIs g t m (shf N k)) : (((W.setCell ⟨g, k * 3, none⟩ (.int .i64 x)).setCell ⟨g, k * 3 + 1, none⟩ (.int .i64 y)).setCell ⟨g, k * 3 + 2, none⟩ (.int .i64 z)).rowIs g t m (shf N (k + 1)) := by
  subst hx; subst hy; subst hz
  exact (((h.set (k * 3) _).set (k * 3 + 1) _).set (k * 3 + 2) _).congr fun i _ => shf_step N k i
theorem iw_id {x : Int} (h1 : -9223372036854775808 ≤ x) (h2 : x ≤ 9223372036854775807) : IntKind.i64.wrap x = x := by rw [IntKind.wrap_i64]; omega
def WkP (N : Nt) (w w' : World) (v : Value) : Prop := (¬ chE N = 0 → v = .slice none 0 0) ∧ (chE N = 0 → ∃ g, w.heap.size ≤ g ∧ v = .slice (some ⟨g, 0, none⟩) N.ml N.ml ∧ w'.rowIs g 23 (N.ml * 3) (shf N N.ml))
/-- A region of a function's text. -/
def regionOf (n : Nat) : Code → Option Code
  | .region id ops b => if id = n then some (.region id ops b) else none
  | .seq a b => match regionOf n a with
    | some c => some c
    | none => regionOf n b
  | .block _ c => regionOf n c
  | .scope c => regionOf n c
  | .loop c => regionOf n c
  | .cond _ a b => match regionOf n a with
    | some c => some c
    | none => regionOf n b
  | _ => none
noncomputable def rgA : Code := (Tryz.f33.body.bind (regionOf 14)).getD .skip
attribute [local go_sem ↓] Go.wp_at_zero Go.wp_at_succ
set_option maxHeartbeats 1600000 in
set_option maxRecDepth 100000 in
theorem ahead_any (u0 u1 u2 u3 u4 u5 u6 u7 u9 u11 u12 u13 u14 u15 u16 u17 u18 u19 u20 u21 u22 u23 u24 u25 u26 u27 u28 u29 u30 u31 u32 u33 u34 u35 u36 u37 u38 u39 u40 u41 u42 u43 u44 u45 u46 u47 u48 u49 u50 u51 u52 u53 u54 u55 u56 u57 u58 u59 u60 u61 u62 u63 u64 u65 u66 u67 u68 u69 u70 u71 u72 u73 : Value) (gs bl : Nat) (L : Ly) (S : Sp) (p : Int) (U : World) (Q : Exit → Act → World → Prop)
    (cW : ∀ w, Calls Tryz.prog 46 #[lyv L, shp S.h S.v S.c] w fun e w' => e = .returned (.int .i64 p) ∧ Below w.heap.size w w') (KS : Hid (U.rowIs gs 97 6 (spf S))) (KL : Lp U bl L)
    (hA1 : -9223372036854775808 ≤ S.ah + p) (hA2 : S.ah + p ≤ 9223372036854775807)
    (hQ : Hid (∀ x1 X, Below U.heap.size U x1 → Exc gs x1 X → X.rowIs gs 97 6 (spf ⟨S.h, S.v, S.c, S.ah + p, S.fs, S.la⟩) → X.tape = x1.tape ∧ X.os = x1.os ∧ X.output = x1.output → Q .normal ⟨#[u0, u1, u2, u3, u4, u5, u6, u7, .pointer (some ⟨gs, 0, none⟩), u9, .pointer (some ⟨bl, 0, none⟩), u11, u12, u13, u14, u15, u16, u17, u18, u19, u20, u21, u22, u23, u24, u25, u26, u27, u28, u29, u30, u31, u32, u33, u34, u35, u36, u37, u38, u39, u40, u41, u42, u43, u44, u45, u46, u47, u48, u49, u50, .pointer (some ⟨gs, 3, none⟩), .int .i64 S.ah, .agg #[.int .i64 L.kd, .int .i64 L.wt, .int .i64 L.k, .int .i64 L.r, .int .i64 L.s, .int .i64 L.sy, .int .i64 L.sx, .int .i64 L.t, .int .i64 L.l, .int .i64 L.b, .int .i64 L.q, .int .i64 L.bd, .slice L.aw L.mw L.cw, .slice L.an L.mn L.cn, .slice L.ab L.mb L.cb], .pointer (some ⟨gs, 0, none⟩), .agg #[.int .i64 S.h, .int .i64 S.v, .int .i64 S.c], .int .i64 p, .int .i64 (S.ah + p), .pointer (some ⟨gs, 3, none⟩), u59, u60, u61, u62, u63, u64, u65, u66, u67, u68, u69, u70, u71, u72, u73], []⟩ X)) :
    Code.wp Tryz.prog rgA Q ⟨#[u0, u1, u2, u3, u4, u5, u6, u7, .pointer (some ⟨gs, 0, none⟩), u9, .pointer (some ⟨bl, 0, none⟩), u11, u12, u13, u14, u15, u16, u17, u18, u19, u20, u21, u22, u23, u24, u25, u26, u27, u28, u29, u30, u31, u32, u33, u34, u35, u36, u37, u38, u39, u40, u41, u42, u43, u44, u45, u46, u47, u48, u49, u50, u51, u52, u53, u54, u55, u56, u57, u58, u59, u60, u61, u62, u63, u64, u65, u66, u67, u68, u69, u70, u71, u72, u73], []⟩ U := by
  have eA := iw_id hA1 hA2
  have eB : wrap64 (S.ah + p) = S.ah + p := wr_id hA1 hA2
  obtain ⟨s0, s1, s2, s3, s4, s5⟩ := spot_cells KS.out
  have f3 := KS.out.frozen 3
  obtain ⟨c0, c1, c2, c3, c4, c5, c6, c7, c8, c9, c10, c11, c12, c13, c14⟩ := KL
  conv => arg 2; whnf
  refine wp_region_noPanic ?_
  go_region_with (go_at_call 46; refine (cW _).mono ?_; rintro e x1 ⟨rfl, hx1⟩; have hB : Below U.heap.size U x1 := (by repeat (first | (with_reducible exact Below.refl _ _) | (with_reducible refine bl_alloc ?_ _) | (with_reducible refine Below.drew ?_) | (with_reducible refine bl_drewN ?_ _) | (with_reducible refine bl_set ?_ (by omega) _) | (with_reducible refine bl_step ?_ (by assumption)))); have rS := rowIs_keep KS.out hB; have a3 : x1.cell? ⟨gs, 3, none⟩ = some (.int .i64 S.ah) := (spot_cells rS).2.2.2.1; have a4 := rS.frozen 3; clear rS)
  all_goals refine NoPanic.normal (hQ.out x1 _ hB ?_ ?_ ?_)
  all_goals first | exact (Exc.refl _ _).set _ _ | exact ((Exc.refl _ _).set _ _).drew | exact spot_ah eA (rowIs_keep KS.out hB) | exact spot_ah rfl (rowIs_keep KS.out hB) | exact ⟨rfl, rfl, rfl⟩
end Go.Proofs.YtlgjoepeibodkaaGreat.Nn
