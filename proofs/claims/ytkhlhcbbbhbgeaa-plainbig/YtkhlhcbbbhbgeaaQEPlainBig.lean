import Derived.Test.YtkhlhcbbbhbgeaaQDPlainBig
import Derived.Deep.RegionHeld3
import Derived.Deep.CutBlock
import Derived.Test.YtkhlhcbbbhbgeaaQAPlainBig
/- PLAINBIG: the long network, made: its layers' memory. -/
namespace Go.Proofs.Ytkhlhcbbbhbgeaa.Nn
open Go.RowKit

theorem own_none {W : World} {b e s : Nat} : W.ownsRow b e s (.slice none 0 0) 0 [] := ⟨by simp, .inl ⟨rfl, rfl⟩⟩
theorem lo_P {W : World} {b : Nat} : Lo W b laP := ⟨own_none, own_none, own_none⟩
theorem LA.lo {W w0 : World} {B : Nat} {aw an : Option Addr} {nw cw nn cn : Nat} (h : LA W w0 B aw nw cw an nn cn) : Lo W (B + 5) (laG aw nw cw an nn cn) := ⟨h.2.2.1, h.2.2.2.1, own_none⟩
theorem Lo.gr {W y : World} {base b2 n : Nat} {L : Ly} {v : Value} {xs : List Value} (h : Lo W base L) (ho : W.ownsRow b2 47 15 v n xs) (gr : W.grownBy y v.ownBlock) : Lo y base L := by
  refine ⟨h.1.kept gr ?_, h.2.1.kept gr ?_, h.2.2.kept gr ?_⟩
  · cases hv : (Value.slice L.aw L.mw L.cw).ownBlock with
    | none => exact .inl rfl
    | some p => exact .inr (fun e => ownNeB h.1 ho (by decide) e.symm p hv rfl)
  · cases hv : (Value.slice L.an L.mn L.cn).ownBlock with
    | none => exact .inl rfl
    | some p => exact .inr (fun e => ownNeB h.2.1 ho (by decide) e.symm p hv rfl)
  · cases hv : (Value.slice L.ab L.mb L.cb).ownBlock with
    | none => exact .inl rfl
    | some p => exact .inr (fun e => ownNeB h.2.2 ho (by decide) e.symm p hv rfl)
theorem own_new1 {W : World} {b : Nat} (hb : b ≤ W.heap.size) (L : Ly) : (W.alloc (lyo L)).ownsRow b 47 15 (.slice (some ⟨W.heap.size, 0, none⟩) 1 1) 1 (lyC L) := ⟨rfl, .inr ⟨W.heap.size, 1, _, rfl, hb, new_at rfl _, Nat.le_refl _, by unfold maxLen; decide, rfl, rfl⟩⟩
/-- The layers so far. -/
def LB (W w0 : World) (B g8 : Nat) (lf : Nat → Ly) (ua : Option Addr) (uc m : Nat) : Prop :=
  Fx W B ∧ W.rowIs g8 31 5 (netF nmL6 4 6 1 (.slice ua m uc)) ∧ B + 5 ≤ g8 ∧ W.ownsRow (B + 5) 47 15 (.slice ua m uc) m (lyLs lf m) ∧ (∀ j, j < m → Lo W (B + 5) (lf j)) ∧ B + 5 ≤ W.heap.size ∧ Below w0.heap.size w0 W
theorem LB.keep {W X w0 : World} {B g8 : Nat} {lf : Nat → Ly} {ua : Option Addr} {uc m : Nat} (h : LB W w0 B g8 lf ua uc m) (hb : Below W.heap.size W X) : LB X w0 B g8 lf ua uc m := by
  obtain ⟨h1, h2, h3, h4, h5, h6, h7⟩ := h
  exact ⟨h1.of fun b hb' => hb.block b (by omega), World.rowIs.of_block h2 (hb.block _ h2.lt), h3, own_bl h4 hb, fun j hj => (h5 j hj).bl hb, Nat.le_trans h6 hb.size, bl_step h7 hb⟩
theorem LB.step {W y w0 : World} {B g8 : Nat} {lf : Nat → Ly} {ua a2 : Option Addr} {uc m c2 : Nat} {o : Obj} {L : Ly} (hB : w0.heap.size = B) (h : LB W w0 B g8 lf ua uc m) (hL : lf m = L) (lo : Lo W (B + 5) L) (own2 : y.ownsRow (B + 5) 47 15 (.slice a2 (m + 1) c2) (m + 1) (lyLs lf m ++ lyC L)) (gr : (W.alloc o).grownBy y (Value.slice ua m uc).ownBlock) :
    y.rowIs g8 31 5 (netF nmL6 4 6 1 (.slice ua m uc)) ∧ LB (y.setCell ⟨g8, 4, none⟩ (.slice a2 (m + 1) c2)) w0 B g8 lf a2 c2 (m + 1) := by
  obtain ⟨h1, h2, h3, h4, h5, h6, h7⟩ := h
  have hq : ∀ k, (Value.slice ua m uc).ownBlock = some k → B + 5 ≤ k := fun k hk => (h4.lt k hk).1
  have low := gr_low gr hq h6
  have l8 := h2.lt
  have R : y.rowIs g8 31 5 (netF nmL6 4 6 1 (.slice ua m uc)) := World.rowIs.of_block (h2.alloc o) (gr.block g8 (by simp; omega) (fun e => own_ne_row h4 h2 (by decide) g8 e.symm rfl))
  have bw : Below w0.heap.size w0 y := gr_bel gr (bl_alloc h7 o) (fun k hk => by have := hq k hk; omega)
  have al : Below W.heap.size W (W.alloc o) := bl_alloc (Below.refl _ _) o
  refine ⟨R, h1.of fun b hb => ?_, ?_, h3, ?_, fun j hj => ?_, ?_, bl_set bw (by omega) _⟩
  · rw [Below.heap_setCell _ _ _ _ (by show b ≠ g8; omega)]
    exact low b (by omega)
  · refine (R.set 4 _).congr fun q hq => ?_
    rcases (show q = 0 ∨ q = 1 ∨ q = 2 ∨ q = 3 ∨ q = 4 by omega) with rfl | rfl | rfl | rfl | rfl <;> rfl
  · rw [show lyLs lf (m + 1) = lyLs lf m ++ lyC L from by rw [← hL]; rfl]
    exact own_setHi own2 R.lt R (by decide)
  · refine Lo.hiB ?_ R (by decide) (by decide) (by decide)
    by_cases hjm : j = m
    · subst hjm
      rw [hL]
      exact (lo.bl al).gr (own_bl h4 al) gr
    · exact ((h5 j (by omega)).bl al).gr (own_bl h4 al) gr
  · have := gr.size
    simp at this ⊢
    omega
theorem lg_net {W : World} {B : Nat} {lf : Nat → Ly} {ua : Option Addr} {uc : Nat} (h4 : W.ownsRow (B + 5) 47 15 (.slice ua 64 uc) 64 (lyLs lf 64)) (h5 : ∀ j, j < 64 → Lo W (B + 5) (lf j)) (hl : ∀ j, j < 64 → (lf j).mw ≤ 2000000 ∧ (lf j).mn ≤ 1000000 ∧ (lf j).mb ≤ 1000000) : NtW W ⟨nmL6, 4, 6, 1, ua, 64, uc, lf⟩ := by
  obtain ⟨g, e, -, -, -, hc⟩ := own_cellsS h4 (by decide)
  refine ⟨fun j hj => ?_, (show (64 : Nat) ≤ 9223372036854775807 by decide), (show (4 : Nat) ≤ 9223372036854775807 by decide)⟩
  have hj : j < 64 := hj
  have key : ∀ c, c < 15 → W.cell? ⟨g, 0 + j * 15 + c, none⟩ = (lyC (lf j))[c]? := fun c hc' => by
    rw [Nat.zero_add, hc _ (by omega)]
    exact rl_get (s := 15) (fun _ => rfl) 64 hj hc'
  refine ⟨g, 0, e, ⟨key 0 (by decide), key 1 (by decide), key 2 (by decide), key 3 (by decide), key 4 (by decide), key 5 (by decide), key 6 (by decide), key 7 (by decide), key 8 (by decide), key 9 (by decide), key 10 (by decide), key 11 (by decide), key 12 (by decide), key 13 (by decide), key 14 (by decide)⟩, ?_⟩
  have l := h5 j hj
  have b := hl j hj
  show Lst W (lf j)
  generalize lf j = L at l b
  refine ⟨fun q hq => ?_, fun q hq => ?_, fun q hq => ?_, by omega, by omega, by omega⟩
  · obtain ⟨g, e, -, -, -, hc⟩ := own_cellsS l.1 (by omega)
    refine ⟨g, 0, e, ?_⟩
    rw [Nat.zero_add, hc q (by omega)]
    simp [i8L, hq]
  · obtain ⟨g, e, -, -, -, hc⟩ := own_cellsS l.2.1 (by omega)
    refine ⟨g, 0, e, ?_⟩
    have key : ∀ c, c < 8 → W.cell? ⟨g, 0 + q * 8 + c, none⟩ = (nmC (L.ns q))[c]? := fun c hc' => by
      rw [Nat.zero_add, hc _ (by omega), nmL_rl, rl_get (s := 8) (fun _ => rfl) L.mn (by omega) hc']
    exact ⟨key 0 (by decide), key 1 (by decide), key 2 (by decide), key 3 (by decide), key 4 (by decide), key 5 (by decide), key 6 (by decide), key 7 (by decide)⟩
  · obtain ⟨g, e, -, -, -, hc⟩ := own_cellsS l.2.2 (by omega)
    refine ⟨g, 0, e, ?_⟩
    rw [Nat.zero_add, hc q (by omega)]
    simp [i64L, hq]
/-- The last layer's weights under way. -/
def upW (n i : Nat) : List Int := (List.range n).map fun j => if j < i then 1 else 0
theorem upW_set {n i : Nat} (hi : i < n) : (i8L (upW n i)).set i (.int .i8 1) = i8L (upW n (i + 1)) := by
  unfold i8L upW
  apply List.ext_getElem?
  intro q
  rw [List.getElem?_set]
  by_cases hk : i = q
  · subst hk
    rw [if_pos rfl, if_pos (by simp; omega)]
    simp [hi]
  · rw [if_neg hk]
    by_cases hkn : q < n
    · simp [hkn, show (q < i + 1) = (q < i) by simp; omega]
    · simp [hkn]
theorem made_list (z : Value) (n : Nat) : (madeCells #[z] n).toList = (List.range n).map fun _ => z := by
  unfold madeCells
  apply List.ext_getElem?
  intro q
  by_cases h : q < n
  · simp [h, Nat.mod_one]
  · simp [h]
theorem upW_zero (n : Nat) : i8L (upW n 0) = (madeCells #[.int .i8 0] n).toList := by
  rw [made_list]
  unfold i8L upW
  rw [List.map_map]
  exact List.map_congr_left fun j _ => by simp
/-- The last layer, its weights under way. -/
def LD (W : World) (base g10 gw gb k n i : Nat) : Prop := W.rowIs g10 47 15 (lyf (laE k n (some ⟨gw, 0, none⟩) (some ⟨gb, 0, none⟩))) ∧ W.ownsRow base 60 1 (.slice (some ⟨gw, 0, none⟩) n n) n (i8L (upW n i)) ∧ W.ownsRow base 2 1 (.slice (some ⟨gb, 0, none⟩) k k) k (i64L ((List.range k).map fun _ => 0))
theorem LD.of {X : World} {base g10 gw gb k n : Nat} (h1 : X.rowIs g10 47 15 (lyf (laE k n (some ⟨gw, 0, none⟩) (some ⟨gb, 0, none⟩)))) (h2 : X.heap[gw]? = some (zer8 n)) (h3 : X.heap[gb]? = some (zer64 k)) (hn : n ≤ 2000000) (hk : k ≤ 20) (bw : base ≤ gw) (bb : base ≤ gb) : LD X base g10 gw gb k n 0 := by
  refine ⟨h1, ⟨by simp [i8L, upW], .inr ⟨gw, n, _, rfl, bw, h2, Nat.le_refl _, by unfold maxLen; omega, by rw [size_madeCells, Nat.mul_one], ?_⟩⟩, ⟨by simp [i64L], .inr ⟨gb, k, _, rfl, bb, h3, Nat.le_refl _, by unfold maxLen; omega, by rw [size_madeCells, Nat.mul_one], ?_⟩⟩⟩
  · rw [upW_zero, List.take_of_length_le (by rw [made_list]; simp)]
  · rw [made_list, List.take_of_length_le (by simp)]
    unfold i64L
    rw [List.map_map]
    rfl
theorem LD.keep {W X : World} {base g10 gw gb k n i : Nat} (h : LD W base g10 gw gb k n i) (hb : Below W.heap.size W X) : LD X base g10 gw gb k n i := ⟨World.rowIs.of_block h.1 (hb.block _ h.1.lt), own_bl h.2.1 hb, own_bl h.2.2 hb⟩
theorem LD.set {W : World} {base g10 gw gb k n i : Nat} (h : LD W base g10 gw gb k n i) (hi : i < n) : LD (W.setCell ⟨gw, i, none⟩ (.int .i8 1)) base g10 gw gb k n (i + 1) := by
  have ob : (Value.slice (some ⟨gw, 0, none⟩) n n).ownBlock = some gw := rfl
  refine ⟨h.1.setOther (rowNeB h.1 h.2.1 (by decide) ob) _, ?_, own_setNe h.2.2 (ownNeB h.2.2 h.2.1 (by decide) ob)⟩
  rw [← upW_set hi]
  exact (h.2.1.stored i (.int .i8 1)).1
theorem LB.set {W w0 : World} {B g8 : Nat} {lf : Nat → Ly} {ua : Option Addr} {uc m gw i n : Nat} {u : Value} {xs : List Value} (hB : w0.heap.size = B) (h : LB W w0 B g8 lf ua uc m) (hw : W.ownsRow (B + 5) 60 1 (.slice (some ⟨gw, 0, none⟩) n n) n xs) (hne : ∀ j, j < m → ∀ q, (Value.slice (lf j).aw (lf j).mw (lf j).cw).ownBlock = some q → q ≠ gw) : LB (W.setCell ⟨gw, i, none⟩ u) w0 B g8 lf ua uc m := by
  obtain ⟨h1, h2, h3, h4, h5, h6, h7⟩ := h
  have ob : (Value.slice (some ⟨gw, 0, none⟩) n n).ownBlock = some gw := rfl
  have bg := (hw.lt gw ob).1
  exact ⟨h1.of fun b hb => Below.heap_setCell _ _ _ _ (by show b ≠ gw; omega), h2.setOther (rowNeB h2 hw (by decide) ob) _, h3, own_setNe h4 (ownNeB h4 hw (by decide) ob), fun j hj => ⟨own_setNe (h5 j hj).1 (hne j hj), own_setNe (h5 j hj).2.1 (ownNeB (h5 j hj).2.1 hw (by decide) ob), own_setNe (h5 j hj).2.2 (ownNeB (h5 j hj).2.2 hw (by decide) ob)⟩, by simpa using h6, bl_set h7 (by omega) _⟩
theorem LB.congr {W w0 : World} {B g8 : Nat} {lf lf' : Nat → Ly} {ua : Option Addr} {uc m : Nat} (h : LB W w0 B g8 lf ua uc m) (hl : ∀ j, j < m → lf j = lf' j) : LB W w0 B g8 lf' ua uc m := by
  obtain ⟨h1, h2, h3, h4, h5, h6, h7⟩ := h
  refine ⟨h1, h2, h3, ?_, fun j hj => by rw [← hl j hj]; exact h5 j hj, h6, h7⟩
  rw [show lyLs lf' m = lyLs lf m from rl_congr m fun j hj => by rw [hl j hj]]
  exact h4
/-- The layers. -/
def lfL (A : Ly) (j : Nat) : Ly := if j = 0 then A else laP
def lfD (A D : Ly) (j : Nat) : Ly := if j = 0 then A else if j = 63 then D else laP
theorem lo_E {W : World} {base g10 gw gb k n : Nat} (h : LD W base g10 gw gb k n n) : Lo W base (laE k n (some ⟨gw, 0, none⟩) (some ⟨gb, 0, none⟩)) := by
  refine ⟨?_, own_none, h.2.2⟩
  have := h.2.1
  rw [show upW n n = (List.range n).map fun _ => 1 from List.map_congr_left fun j hj => if_pos (List.mem_range.1 hj)] at this
  exact this
theorem lg_is {k n : Nat} (hn : n = 66576 * k) {aw an ab ad ua : Option Addr} {cw cn uc : Nat} (hc : 2774 ≤ cw) : Lg k ⟨nmL6, 4, 6, 1, ua, 64, uc, lfD (laG aw 2774 cw an 2774 cn) (laE k n ab ad)⟩ :=
  ⟨rfl, rfl, rfl, rfl, rfl, ⟨aw, cw, an, cn, rfl, hc⟩, fun j h1 h2 => by show lfD _ _ j = laP; unfold lfD; rw [if_neg (by omega), if_neg (by omega)], ⟨ab, n, ad, k, by subst hn; rfl, by omega⟩⟩
end Go.Proofs.Ytkhlhcbbbhbgeaa.Nn
/- NETWORKS THAT ARE MADE: the walk's pieces: a window and a layer begun. -/
namespace Go.Proofs.Ytkhlhcbbbhbgeaa.Nn
open Go.RowKit

/-- The code from region n on, within its sequence; a block by its number. -/
def isReg (n : Nat) : Code → Bool
  | .region id _ _ => id == n
  | _ => false
def isBlk (n : Nat) : Code → Bool
  | .block id _ => id == n
  | _ => false
def fromP (p : Code → Bool) : Code → Option Code
  | .region id ops b => if p (.region id ops b) then some (.region id ops b) else none
  | .seq a b => if p a then some (.seq a b) else match fromP p a with
    | some c => some c
    | none => fromP p b
  | .block _ c => fromP p c
  | .scope c => fromP p c
  | .loop c => fromP p c
  | .cond _ a b => match fromP p a with
    | some c => some c
    | none => fromP p b
  | _ => none
theorem kgo {P : Program} {c : Code} {Q : Exit → Act → World → Prop} {K : Act → World → Prop} {a : Act} {w : World} (h : ∀ a w, c.wp P Q a w → K a w) (h2 : c.wp P Q a w) : K a w := h _ _ h2
def blockOf (n : Nat) : Code → Option Code
  | .seq a b => match blockOf n a with
    | some c => some c
    | none => blockOf n b
  | .block id c => if id = n then some (.block id c) else blockOf n c
  | .scope c => blockOf n c
  | .loop c => blockOf n c
  | .cond _ a b => match blockOf n a with
    | some c => some c
    | none => blockOf n b
  | _ => none
theorem meet_ofD {J K : Act → World → Prop} {Q : Exit → Act → World → Prop} {a : Act} {w : World} (hK : ∀ a' w', Met J a' w' → K a' w') (h : Met J a w) : Exit.then K Q Exit.normal a w := hK _ _ h
theorem kpD8 {V Y : World} {b : Nat} {h v : Int} (h0 : V.cell? ⟨b, 0, none⟩ = some (.int .i64 h)) (h1 : V.cell? ⟨b, 1, none⟩ = some (.int .i64 v)) (hb : Below V.heap.size V Y) : Y.cell? ⟨b, 0, none⟩ = some (.int .i64 h) ∧ Y.cell? ⟨b, 1, none⟩ = some (.int .i64 v) := ⟨keepc hb h0, keepc hb h1⟩
theorem kpD9 {V Y : World} {b : Nat} {r s y x : Int} (h0 : V.cell? ⟨b, 0, none⟩ = some (.int .i64 r)) (h1 : V.cell? ⟨b, 1, none⟩ = some (.int .i64 s)) (h2 : V.cell? ⟨b, 2, none⟩ = some (.int .i64 y)) (h3 : V.cell? ⟨b, 3, none⟩ = some (.int .i64 x)) (h4 : V.cell? ⟨b, 4, none⟩ = some (.int .i64 0)) (h5 : V.cell? ⟨b, 5, none⟩ = some (.int .i64 0)) (h6 : V.cell? ⟨b, 6, none⟩ = some (.int .i64 0)) (h7 : V.cell? ⟨b, 7, none⟩ = some (.int .i64 0)) (hb : Below V.heap.size V Y) :
    Y.cell? ⟨b, 0, none⟩ = some (.int .i64 r) ∧ Y.cell? ⟨b, 1, none⟩ = some (.int .i64 s) ∧ Y.cell? ⟨b, 2, none⟩ = some (.int .i64 y) ∧ Y.cell? ⟨b, 3, none⟩ = some (.int .i64 x) ∧ Y.cell? ⟨b, 4, none⟩ = some (.int .i64 0) ∧ Y.cell? ⟨b, 5, none⟩ = some (.int .i64 0) ∧ Y.cell? ⟨b, 6, none⟩ = some (.int .i64 0) ∧ Y.cell? ⟨b, 7, none⟩ = some (.int .i64 0) := ⟨keepc hb h0, keepc hb h1, keepc hb h2, keepc hb h3, keepc hb h4, keepc hb h5, keepc hb h6, keepc hb h7⟩
attribute [local go_sem ↓] Go.wp_at_zero Go.wp_at_succ
attribute [local go_sem ↓] Go.wp_at_zero Go.wp_at_succ
end Go.Proofs.Ytkhlhcbbbhbgeaa.Nn
/- PLAINBIG: the long network, made: its loops. -/
namespace Go.Proofs.Ytkhlhcbbbhbgeaa.Nn
open Go.RowKit

noncomputable def clB0 : Code := (Try.f6.body.bind (blockOf 0)).getD .skip
attribute [local go_sem ↓] Go.wp_at_zero Go.wp_at_succ
set_option maxHeartbeats 12800000 in
set_option maxRecDepth 100000 in
theorem long_b0 (u0 u1 u2 u5 u8 u9 u10 u11 u12 u13 u14 u15 u16 u17 u18 u19 u20 u21 u22 u23 u24 u25 u26 u27 u28 u29 u30 u31 u32 u33 u34 u35 u36 u37 u38 u39 u40 u41 u42 u43 u44 u45 u46 u47 u48 u49 u50 u51 u52 u53 u54 u55 u56 u57 u58 u59 u60 u61 u62 u63 u64 u65 u66 u67 u68 u69 u70 u71 u72 u73 u74 u75 : Value) (B : Nat) (w W0 : World) (hB : w.heap.size = B) (Q : Exit → Act → World → Prop) (HLY : Hid (LA W0 w B none 0 0 none 0 0))
    (hQ : Hid (∀ (X : World) (n : Nat) (aw : Option Addr) (cw : Nat) (an : Option Addr) (cn : Nat) (v7 v17 v18 v19 v20 v21 v22 v23 v24 v25 v26 v27 v28 v29 v30 v31 v32 v33 v34 v35 : Value), n = 2774 → LA X w B aw n cw an n cn → Q .normal ⟨#[u0, u1, u2, .pointer (some ⟨B + 1, 0, none⟩), .pointer (some ⟨B + 2, 0, none⟩), u5, .pointer (some ⟨B + 4, 0, none⟩), v7, u8, u9, u10, u11, u12, u13, u14, u15, u16, v17, v18, v19, v20, v21, v22, v23, v24, v25, v26, v27, v28, v29, v30, v31, v32, v33, v34, v35, u36, u37, u38, u39, u40, u41, u42, u43, u44, u45, u46, u47, u48, u49, u50, u51, u52, u53, u54, u55, u56, u57, u58, u59, u60, u61, u62, u63, u64, u65, u66, u67, u68, u69, u70, u71, u72, u73, u74, u75], []⟩ X)) :
    Code.wp Try.prog clB0 Q ⟨#[u0, u1, u2, .pointer (some ⟨B + 1, 0, none⟩), .pointer (some ⟨B + 2, 0, none⟩), u5, .pointer (some ⟨B + 4, 0, none⟩), .int .i64 0, u8, u9, u10, u11, u12, u13, u14, u15, u16, u17, u18, u19, u20, u21, u22, u23, u24, u25, u26, u27, u28, u29, u30, u31, u32, u33, u34, u35, u36, u37, u38, u39, u40, u41, u42, u43, u44, u45, u46, u47, u48, u49, u50, u51, u52, u53, u54, u55, u56, u57, u58, u59, u60, u61, u62, u63, u64, u65, u66, u67, u68, u69, u70, u71, u72, u73, u74, u75], []⟩ W0 := by
  conv => arg 2; whnf
  go_wp2_with fail
  go_loopw [7] (fun i wr => ∃ (n : Nat) (aw : Option Addr) (cw : Nat) (an : Option Addr) (cn : Nat), n ≤ 2774 ∧ i = .int .i64 n ∧ Hid (LA wr w B aw n cw an n cn)) (fun i _ => 2774 - (intOf i).toNat)
  case atStart => exact ⟨0, none, 0, none, 0, Nat.zero_le _, rfl, HLY⟩
  case round =>
    clear HLY
    obtain ⟨n, aw, cw, an, cn, hn, rfl, HL⟩ := hrel
    have in0 : (0 : Int) ≤ (n : Int) := by omega
    by_cases hlt : n < 2774
    · have ilt : (n : Int) < 2774 := by omega
      have lp := lyf_cells HL.out.2.1
      have l12 : wr.cell? ⟨B + 4, 12, none⟩ = some (.slice aw n cw) := lp.2.2.2.2.2.2.2.2.2.2.2.2.1
      have hs := HL.out.2.2.2.2.1
      clear lp
      go_upto_region 9 with (at_builtin; refine app_i8P rfl _ _ rfl (B + 5) (.slice aw n cw) (one8 n) n (by go_simp) (own_bl HL.out.2.2.1 (bl_alloc (Below.refl _ _) _)) wr.heap.size 1 1 (by go_simp) (bcl (new_at rfl _) rfl) (by omega) (by simp; omega) ?_; intro v2 y own2 gr2; obtain ⟨a2, c2, rfl⟩ := own_isP own2; have ST := HL.out.stepW hB own2 gr2; have lp := lyf_cells ST.1; have m12 : y.cell? ⟨B + 4, 12, none⟩ = some (.slice aw n cw) := lp.2.2.2.2.2.2.2.2.2.2.2.2.1; have f12 := ST.1.frozen 12; have HST := hid1 ST.2; clear lp own2 gr2 ST)
      refine gen_world (fun Z => LA Z w B a2 (n + 1) c2 an n cn) HST.out ?_
      clear HST l12 f12 m12 hs HL
      rintro Z LZ
      have HL := hid1 LZ
      have lp := lyf_cells LZ.2.1
      have l13 : Z.cell? ⟨B + 4, 13, none⟩ = some (.slice an n cn) := lp.2.2.2.2.2.2.2.2.2.2.2.2.2.1
      have p0 := bcl LZ.1.2.1 (j := 0) rfl; have p1 := bcl LZ.1.2.1 (j := 1) rfl
      have q0 := bcl LZ.1.2.2.1 (j := 0) rfl; have q1 := bcl LZ.1.2.2.1 (j := 1) rfl
      have hs := LZ.2.2.2.2.1
      clear lp LZ
      go_upto_region 7 with (at_builtin; refine app_nrD rfl _ _ rfl (B + 5) (.slice an n cn) (nmL (fun _ i => [1, 1, 0, 1, 0, 1, 1, 1].getD i 0) n) n (by go_simp) (own_bl HL.out.2.2.2.1 (bl_alloc (Below.refl _ _) _)) Z.heap.size (fun i => [1, 1, 0, 1, 0, 1, 1, 1].getD i 0) 1 (by go_simp) ⟨bcl (new_at rfl _) rfl, bcl (new_at rfl _) rfl, bcl (new_at rfl _) rfl, bcl (new_at rfl _) rfl, bcl (new_at rfl _) rfl, bcl (new_at rfl _) rfl, bcl (new_at rfl _) rfl, bcl (new_at rfl _) rfl⟩ (by omega) (by simp; omega) ?_; intro v3 y3 own3 gr3; obtain ⟨a3, c3, rfl⟩ := own_isP own3; have ST := HL.out.stepN hB own3 gr3; have lp := lyf_cells ST.1; have m13 : y3.cell? ⟨B + 4, 13, none⟩ = some (.slice an n cn) := lp.2.2.2.2.2.2.2.2.2.2.2.2.2.1; have f13 := ST.1.frozen 13; have HST := hid1 ST.2; clear lp own3 gr3 ST)
      refine gen_world (fun Z => LA Z w B a2 (n + 1) c2 a3 (n + 1) c3) HST.out ?_
      clear HST l13 f13 m13 hs HL p0 p1 q0 q1
      rintro Z2 LZ
      have HL := hid1 LZ
      clear LZ
      go_wp2_with fail
      exact ⟨⟨n + 1, a2, c2, a3, c3, by omega, by go_num, HL⟩, by simp [intOf]; omega⟩
    · have HN := hid1 (show n = 2774 by omega)
      have ilt : ¬ (n : Int) < 2774 := by omega
      clear hn hlt in0
      go_wp2_with fail
      exact hQ.out _ n aw cw an cn _ _ _ _ _ _ _ _ _ _ _ _ _ _ _ _ _ _ _ _ HN.out HL.out
end Go.Proofs.Ytkhlhcbbbhbgeaa.Nn
/- PLAINBIG: the long network, made: its pools. -/
namespace Go.Proofs.Ytkhlhcbbbhbgeaa.Nn
open Go.RowKit

noncomputable def clB1 : Code := (Try.f6.body.bind (blockOf 2)).getD .skip
attribute [local go_sem ↓] Go.wp_at_zero Go.wp_at_succ
set_option maxHeartbeats 12800000 in
set_option maxRecDepth 100000 in
theorem long_b1 (u0 u1 u2 u3 u4 u6 u7 u10 u11 u12 u13 u14 u15 u16 u17 u18 u19 u20 u21 u22 u23 u24 u25 u26 u27 u28 u29 u30 u31 u32 u33 u34 u35 u36 u37 u38 u39 u40 u41 u42 u43 u44 u45 u46 u47 u48 u49 u50 u51 u52 u53 u54 u55 u56 u57 u58 u59 u60 u61 u62 u63 u64 u65 u66 u67 u68 u69 u70 u71 u72 u73 u74 u75 : Value) (B g8 gA : Nat) (A : Ly) (w W0 : World) (hB : w.heap.size = B) (Q : Exit → Act → World → Prop) (HLY : Hid (LB W0 w B g8 (lfL A) (some ⟨gA, 0, none⟩) 1 1))
    (hQ : Hid (∀ (X : World) (ua : Option Addr) (uc : Nat) (v9 v40 v41 v42 v43 v44 v45 v46 v47 v48 v49 v50 : Value), LB X w B g8 (lfL A) ua uc 63 → Q .normal ⟨#[u0, u1, u2, u3, u4, .pointer (some ⟨B + 3, 0, none⟩), u6, u7, .pointer (some ⟨g8, 0, none⟩), v9, u10, u11, u12, u13, u14, u15, u16, u17, u18, u19, u20, u21, u22, u23, u24, u25, u26, u27, u28, u29, u30, u31, u32, u33, u34, u35, u36, u37, u38, u39, v40, v41, v42, v43, v44, v45, v46, v47, v48, v49, v50, u51, u52, u53, u54, u55, u56, u57, u58, u59, u60, u61, u62, u63, u64, u65, u66, u67, u68, u69, u70, u71, u72, u73, u74, u75], []⟩ X)) :
    Code.wp Try.prog clB1 Q ⟨#[u0, u1, u2, u3, u4, .pointer (some ⟨B + 3, 0, none⟩), u6, u7, .pointer (some ⟨g8, 0, none⟩), .int .i64 0, u10, u11, u12, u13, u14, u15, u16, u17, u18, u19, u20, u21, u22, u23, u24, u25, u26, u27, u28, u29, u30, u31, u32, u33, u34, u35, u36, u37, u38, u39, u40, u41, u42, u43, u44, u45, u46, u47, u48, u49, u50, u51, u52, u53, u54, u55, u56, u57, u58, u59, u60, u61, u62, u63, u64, u65, u66, u67, u68, u69, u70, u71, u72, u73, u74, u75], []⟩ W0 := by
  conv => arg 2; whnf
  go_wp2_with fail
  go_loopw [9] (fun i wr => ∃ (m : Nat) (ua : Option Addr) (uc : Nat), m ≤ 62 ∧ i = .int .i64 m ∧ Hid (LB wr w B g8 (lfL A) ua uc (m + 1))) (fun i _ => 62 - (intOf i).toNat)
  case atStart => exact ⟨0, _, 1, Nat.zero_le _, rfl, HLY⟩
  case round =>
    clear HLY
    obtain ⟨m, ua, uc, hm, rfl, HL⟩ := hrel
    have im0 : (0 : Int) ≤ (m : Int) := by omega
    by_cases hlt : m < 62
    · have ilt : (m : Int) < 62 := by omega
      have l4 : wr.cell? ⟨g8, 4, none⟩ = some (.slice ua (m + 1) uc) := HL.out.2.1.cell (i := 4) (by decide)
      have r3 := HL.out.1.2.2.2
      have w0 := bcl r3 (j := 0) rfl; have w1 := bcl r3 (j := 1) rfl; have w2 := bcl r3 (j := 2) rfl; have w3 := bcl r3 (j := 3) rfl; have w4 := bcl r3 (j := 4) rfl; have w5 := bcl r3 (j := 5) rfl; have w6 := bcl r3 (j := 6) rfl; have w7 := bcl r3 (j := 7) rfl
      have hs := HL.out.2.2.2.2.2.1
      clear r3
      go_upto_region 13 with (at_builtin; refine app_lyD rfl _ _ rfl (B + 5) (.slice ua (m + 1) uc) (lyLs (lfL A) (m + 1)) (m + 1) (by go_simp) (own_bl HL.out.2.2.2.1 (bl_alloc (Below.refl _ _) _)) wr.heap.size laP 1 (by go_simp) (lp_new' rfl laP _) (by omega) (by simp; omega) ?_; intro v3 y own3 gr3; obtain ⟨a3, c3, rfl⟩ := own_isP own3; have ST := HL.out.step hB (show lfL A (m + 1) = laP from if_neg (Nat.succ_ne_zero m)) lo_P own3 gr3; have m4 : y.cell? ⟨g8, 4, none⟩ = some (.slice ua (m + 1) uc) := ST.1.cell (i := 4) (by decide); have f4 := ST.1.frozen 4; have HST := hid1 ST.2; clear own3 gr3 ST)
      refine gen_world (fun Z => LB Z w B g8 (lfL A) a3 c3 (m + 1 + 1)) HST.out ?_
      clear HST l4 m4 f4 w0 w1 w2 w3 w4 w5 w6 w7 hs HL
      rintro Z LZ
      have HL := hid1 LZ
      clear LZ
      go_wp2_with fail
      exact ⟨⟨m + 1, a3, c3, by omega, by go_num, HL⟩, by simp [intOf]; omega⟩
    · have ilt : ¬ (m : Int) < 62 := by omega
      have HM := hid1 (show m + 1 = 63 by omega)
      clear hlt im0 hm
      go_wp2_with fail
      exact hQ.out _ ua uc _ _ _ _ _ _ _ _ _ _ _ _ (HM.out ▸ HL.out)
end Go.Proofs.Ytkhlhcbbbhbgeaa.Nn
/- PLAINBIG: the long network, made: its last layer's weights. -/
namespace Go.Proofs.Ytkhlhcbbbhbgeaa.Nn
open Go.RowKit

noncomputable def clB2 : Code := (Try.f6.body.bind (blockOf 4)).getD .skip
attribute [local go_sem ↓] Go.wp_at_zero Go.wp_at_succ
set_option maxHeartbeats 12800000 in
set_option maxRecDepth 100000 in
theorem long_b2 (u0 u1 u2 u3 u4 u5 u6 u7 u8 u9 u12 u13 u14 u15 u16 u17 u18 u19 u20 u21 u22 u23 u24 u25 u26 u27 u28 u29 u30 u31 u32 u33 u34 u35 u36 u37 u38 u39 u40 u41 u42 u43 u44 u45 u46 u47 u48 u49 u50 u51 u52 u53 u54 u55 u56 u57 u58 u59 u60 u61 u62 u63 u64 u65 u66 u67 u68 u69 u70 u71 u72 u73 u74 u75 : Value) (B g8 g10 gw gb k n2 uc : Nat) (ua : Option Addr) (A : Ly) (w W0 : World) (hB : w.heap.size = B) (hn : n2 ≤ 2000000) (Q : Exit → Act → World → Prop) (HL0 : Hid (LB W0 w B g8 (lfL A) ua uc 63)) (HD0 : Hid (LD W0 (B + 5) g10 gw gb k n2 0)) (HNE : Hid (∀ j, j < 63 → ∀ q, (Value.slice (lfL A j).aw (lfL A j).mw (lfL A j).cw).ownBlock = some q → q ≠ gw))
    (hQ : Hid (∀ (X : World) (v11 v58 v59 v60 v61 v62 v63 v64 v65 v66 v67 v68 : Value), LB X w B g8 (lfL A) ua uc 63 → LD X (B + 5) g10 gw gb k n2 n2 → Q .normal ⟨#[u0, u1, u2, u3, u4, u5, u6, u7, u8, u9, .pointer (some ⟨g10, 0, none⟩), v11, u12, u13, u14, u15, u16, u17, u18, u19, u20, u21, u22, u23, u24, u25, u26, u27, u28, u29, u30, u31, u32, u33, u34, u35, u36, u37, u38, u39, u40, u41, u42, u43, u44, u45, u46, u47, u48, u49, u50, u51, u52, u53, u54, u55, u56, u57, v58, v59, v60, v61, v62, v63, v64, v65, v66, v67, v68, u69, u70, u71, u72, u73, u74, u75], []⟩ X)) :
    Code.wp Try.prog clB2 Q ⟨#[u0, u1, u2, u3, u4, u5, u6, u7, u8, u9, .pointer (some ⟨g10, 0, none⟩), .int .i64 0, u12, u13, u14, u15, u16, u17, u18, u19, u20, u21, u22, u23, u24, u25, u26, u27, u28, u29, u30, u31, u32, u33, u34, u35, u36, u37, u38, u39, u40, u41, u42, u43, u44, u45, u46, u47, u48, u49, u50, u51, u52, u53, u54, u55, u56, u57, u58, u59, u60, u61, u62, u63, u64, u65, u66, u67, u68, u69, u70, u71, u72, u73, u74, u75], []⟩ W0 := by
  conv => arg 2; whnf
  have d12 : W0.cell? ⟨g10, 12, none⟩ = some (.slice (some ⟨gw, 0, none⟩) n2 n2) := (lyf_cells HD0.out.1).2.2.2.2.2.2.2.2.2.2.2.2.1
  go_wp2_with fail
  clear d12
  go_loopw [11] (fun i wr => ∃ q : Nat, q ≤ n2 ∧ i = .int .i64 q ∧ Hid (LB wr w B g8 (lfL A) ua uc 63) ∧ Hid (LD wr (B + 5) g10 gw gb k n2 q)) (fun i _ => n2 - (intOf i).toNat)
  case atStart => exact ⟨0, Nat.zero_le _, rfl, HL0, HD0⟩
  case round =>
    clear HL0 HD0
    obtain ⟨q, hq, rfl, HL, HLD⟩ := hrel
    have iq0 : (0 : Int) ≤ (q : Int) := by omega
    have d12 : wr.cell? ⟨g10, 12, none⟩ = some (.slice (some ⟨gw, 0, none⟩) n2 n2) := (lyf_cells HLD.out.1).2.2.2.2.2.2.2.2.2.2.2.2.1
    by_cases hlt : q < n2
    · have ilt : (q : Int) < (n2 : Int) := by omega
      obtain ⟨x0, hx0⟩ : ∃ x0, wr.cell? ⟨gw, q, none⟩ = some x0 := ⟨_, (HLD.out.2.1.cellAt q (by omega)).trans (List.getElem?_eq_getElem (by simp [i8L, upW]; omega))⟩
      have fz : wr.frozen? ⟨gw, q, none⟩ = false := HLD.out.2.1.frozenAt _
      go_wp2_with fail
      exact ⟨⟨q + 1, by omega, by go_num, hid1 (HL.out.set hB HLD.out.2.1 HNE.out), hid1 (HLD.out.set hlt)⟩, by simp [intOf]; omega⟩
    · have ilt : ¬ (q : Int) < (n2 : Int) := by omega
      have HQ := hid1 (show q = n2 by omega)
      clear hlt hq
      go_wp2_with fail
      exact hQ.out _ _ _ _ _ _ _ _ _ _ _ _ _ HL.out (HQ.out ▸ HLD.out)
end Go.Proofs.Ytkhlhcbbbhbgeaa.Nn
/- PLAINBIG: the long network, made: two regions. -/
namespace Go.Proofs.Ytkhlhcbbbhbgeaa.Nn
open Go.RowKit

noncomputable def cl10 : Code := (Try.f6.body.bind (regionOf 10)).getD .skip
attribute [local go_sem ↓] Go.wp_at_zero Go.wp_at_succ
set_option maxHeartbeats 12800000 in
set_option maxRecDepth 100000 in
theorem long_r10 (u0 u1 u2 u3 u4 u5 u7 u8 u9 u10 u11 u12 u13 u14 u15 u16 u17 u18 u19 u20 u21 u22 u23 u24 u25 u26 u27 u28 u29 u30 u31 u32 u33 u34 u35 u36 u37 u38 u39 u40 u41 u42 u43 u44 u45 u46 u47 u48 u49 u50 u51 u52 u53 u54 u55 u56 u57 u58 u59 u60 u61 u62 u63 u64 u65 u66 u67 u68 u69 u70 u71 u72 u73 u74 u75 : Value) (B n cw cn : Nat) (aw an : Option Addr) (w wr : World) (Q : Exit → Act → World → Prop) (HL : Hid (LA wr w B aw n cw an n cn))
    (hQ : Hid (∀ (X : World) (g8 gA : Nat) (v36 v37 v38 v39 : Value), LB X w B g8 (lfL (laG aw n cw an n cn)) (some ⟨gA, 0, none⟩) 1 1 → Q .normal ⟨#[u0, u1, u2, u3, u4, u5, .pointer (some ⟨B + 4, 0, none⟩), u7, .pointer (some ⟨g8, 0, none⟩), u9, u10, u11, u12, u13, u14, u15, u16, u17, u18, u19, u20, u21, u22, u23, u24, u25, u26, u27, u28, u29, u30, u31, u32, u33, u34, u35, v36, v37, v38, v39, u40, u41, u42, u43, u44, u45, u46, u47, u48, u49, u50, u51, u52, u53, u54, u55, u56, u57, u58, u59, u60, u61, u62, u63, u64, u65, u66, u67, u68, u69, u70, u71, u72, u73, u74, u75], []⟩ X)) :
    Code.wp Try.prog cl10 Q ⟨#[u0, u1, u2, u3, u4, u5, .pointer (some ⟨B + 4, 0, none⟩), u7, u8, u9, u10, u11, u12, u13, u14, u15, u16, u17, u18, u19, u20, u21, u22, u23, u24, u25, u26, u27, u28, u29, u30, u31, u32, u33, u34, u35, u36, u37, u38, u39, u40, u41, u42, u43, u44, u45, u46, u47, u48, u49, u50, u51, u52, u53, u54, u55, u56, u57, u58, u59, u60, u61, u62, u63, u64, u65, u66, u67, u68, u69, u70, u71, u72, u73, u74, u75], []⟩ wr := by
  conv => arg 2; whnf
  obtain ⟨c0, c1, c2, c3, c4, c5, c6, c7, c8, c9, c10, c11, c12, c13, c14⟩ := lyf_cells HL.out.2.1
  obtain ⟨gA, hgA⟩ : ∃ g, wr.heap.size = g := ⟨_, rfl⟩
  have hs := HL.out.2.2.2.2.1
  go_wp2_with fail
  refine hQ.out _ (gA + 1) gA _ _ _ _ ⟨HL.out.1.of fun b hb => ?_, ?_, by omega, ?_, fun j hj => ?_, by simp; omega, bl_alloc (bl_alloc HL.out.2.2.2.2.2 _) _⟩
  · rw [old_block _ _ (by simp; omega), old_block _ _ (by omega)]
  · rw [show gA + 1 = (wr.alloc (lyo (laG aw n cw an n cn))).heap.size by simp [hgA]]
    exact net_newF _ _ _ _ _ _ _
  · rw [← hgA]
    exact own_bl (own_new1 hs (laG aw n cw an n cn)) (bl_alloc (Below.refl _ _) _)
  · obtain rfl : j = 0 := by omega
    exact HL.out.lo.bl (bl_alloc (bl_alloc (Below.refl _ _) _) _)
noncomputable def cl20 : Code := (Try.f6.body.bind (regionOf 20)).getD .skip
attribute [local go_sem ↓] Go.wp_at_zero Go.wp_at_succ
set_option maxHeartbeats 12800000 in
set_option maxRecDepth 100000 in
theorem long_r20 (u0 u1 u2 u3 u4 u5 u6 u7 u9 u11 u12 u13 u14 u15 u16 u17 u18 u19 u20 u21 u22 u23 u24 u25 u26 u27 u28 u29 u30 u31 u32 u33 u34 u35 u36 u37 u38 u39 u40 u41 u42 u43 u44 u45 u46 u47 u48 u49 u50 u51 u52 u53 u54 u55 u56 u57 u58 u59 u60 u61 u62 u63 u64 u65 u66 u67 u68 u69 u70 u71 u72 u73 u74 u75 : Value) (B g8 g10 gw gb k q uc : Nat) (ua : Option Addr) (A : Ly) (w wr : World) (hB : w.heap.size = B) (Q : Exit → Act → World → Prop) (HL0 : Hid (LB wr w B g8 (lfL A) ua uc 63)) (HLD : Hid (LD wr (B + 5) g10 gw gb k q q))
    (hQ : Hid (∀ (X : World) (a3 : Option Addr) (c3 : Nat) (v69 v70 v71 v72 v73 v74 : Value), LB X w B g8 (lfD A (laE k q (some ⟨gw, 0, none⟩) (some ⟨gb, 0, none⟩))) a3 c3 64 → Q .normal ⟨#[u0, u1, u2, u3, u4, u5, u6, u7, .pointer (some ⟨g8, 0, none⟩), u9, .pointer (some ⟨g10, 0, none⟩), u11, u12, u13, u14, u15, u16, u17, u18, u19, u20, u21, u22, u23, u24, u25, u26, u27, u28, u29, u30, u31, u32, u33, u34, u35, u36, u37, u38, u39, u40, u41, u42, u43, u44, u45, u46, u47, u48, u49, u50, u51, u52, u53, u54, u55, u56, u57, u58, u59, u60, u61, u62, u63, u64, u65, u66, u67, u68, v69, v70, v71, v72, v73, v74, u75], []⟩ X)) :
    Code.wp Try.prog cl20 Q ⟨#[u0, u1, u2, u3, u4, u5, u6, u7, .pointer (some ⟨g8, 0, none⟩), u9, .pointer (some ⟨g10, 0, none⟩), u11, u12, u13, u14, u15, u16, u17, u18, u19, u20, u21, u22, u23, u24, u25, u26, u27, u28, u29, u30, u31, u32, u33, u34, u35, u36, u37, u38, u39, u40, u41, u42, u43, u44, u45, u46, u47, u48, u49, u50, u51, u52, u53, u54, u55, u56, u57, u58, u59, u60, u61, u62, u63, u64, u65, u66, u67, u68, u69, u70, u71, u72, u73, u74, u75], []⟩ wr := by
  conv => arg 2; whnf
  have l4 : wr.cell? ⟨g8, 4, none⟩ = some (.slice ua 63 uc) := HL0.out.2.1.cell (i := 4) (by decide)
  obtain ⟨e0, e1, e2, e3, e4, e5, e6, e7, e8, e9, e10, e11, e12, e13, e14⟩ := lyf_cells HLD.out.1
  have HLE := hid1 (lo_E HLD.out)
  have HL := hid1 (HL0.out.congr (lf' := (lfD A (laE k q (some ⟨gw, 0, none⟩) (some ⟨gb, 0, none⟩)))) (fun j hj => by
    unfold lfL lfD
    by_cases h0 : j = 0
    · rw [if_pos h0, if_pos h0]
    · rw [if_neg h0, if_neg h0, if_neg (by omega)]))
  have hs := HL.out.2.2.2.2.2.1
  clear HL0
  go_wp2_with (at_builtin; refine app_lyD rfl _ _ rfl (B + 5) (.slice ua 63 uc) (lyLs (lfD A (laE k q (some ⟨gw, 0, none⟩) (some ⟨gb, 0, none⟩))) 63) 63 (by go_simp) (own_bl HL.out.2.2.2.1 (bl_alloc (Below.refl _ _) _)) wr.heap.size (laE k q (some ⟨gw, 0, none⟩) (some ⟨gb, 0, none⟩)) 1 (by go_simp) (lp_new' rfl (laE k q (some ⟨gw, 0, none⟩) (some ⟨gb, 0, none⟩)) _) (by omega) (by simp; omega) ?_; intro v3 y own3 gr3; obtain ⟨a3, c3, rfl⟩ := own_isP own3; have ST := HL.out.step hB (show (lfD A (laE k q (some ⟨gw, 0, none⟩) (some ⟨gb, 0, none⟩))) 63 = (laE k q (some ⟨gw, 0, none⟩) (some ⟨gb, 0, none⟩)) from rfl) HLE.out own3 gr3; have m4 : y.cell? ⟨g8, 4, none⟩ = some (.slice ua 63 uc) := ST.1.cell (i := 4) (by decide); have f4 := ST.1.frozen 4; have HST := hid1 ST.2; clear own3 gr3 ST)
  exact hQ.out _ _ _ _ _ _ _ _ _ HST.out
end Go.Proofs.Ytkhlhcbbbhbgeaa.Nn
/- PLAINBIG: the long network, made. -/
namespace Go.Proofs.Ytkhlhcbbbhbgeaa.Nn
open Go.RowKit

attribute [local go_sem ↓] Go.wp_at_zero Go.wp_at_succ
set_option maxHeartbeats 12800000 in
set_option maxRecDepth 100000 in
theorem long_any (k : Nat) (hk : 1 ≤ k ∧ k ≤ 20) (w : World) : Calls Try.prog 6 #[.int .i64 (k : Int)] w fun e w' => ∃ N, e = .returned (ntv N) ∧ NtW w' N ∧ Lg k N ∧ Below w.heap.size w w' := by
  obtain ⟨B, hB⟩ : ∃ B, w.heap.size = B := ⟨_, rfl⟩
  go_enter Try.func6, Try.ntmps6
  go_upto_region 4 with fail
  refine gen_world (fun X => Below w.heap.size w X ∧ X.heap.size = B + 4 ∧ Fx X B) ⟨by repeat (first | (with_reducible exact Below.refl _ _) | (with_reducible refine bl_alloc ?_ _) | (with_reducible refine Below.drew ?_) | (with_reducible refine bl_drewN ?_ _) | (with_reducible refine bl_set ?_ (by omega) _) | (with_reducible refine bl_step ?_ (by assumption))), by simp [hB], old_at (old_at (old_at (new_at hB _) _) _) _, old_at (old_at (new_at (by simp [hB]) _) _) _, old_at (new_at (by simp [hB]) _) _, new_at (by simp [hB]) _⟩ ?_
  rintro X ⟨BX, zX, FX⟩
  have r3 := FX.2.2.2
  have w0 := bcl r3 (j := 0) rfl; have w1 := bcl r3 (j := 1) rfl; have w2 := bcl r3 (j := 2) rfl; have w3 := bcl r3 (j := 3) rfl; have w4 := bcl r3 (j := 4) rfl; have w5 := bcl r3 (j := 5) rfl; have w6 := bcl r3 (j := 6) rfl; have w7 := bcl r3 (j := 7) rfl
  have HFX := hid1 FX
  clear r3 FX
  go_upto_region 5 with fail
  refine gen_world (fun Y => LA Y w B none 0 0 none 0 0) ⟨HFX.out.of fun b hb => old_block _ _ (by omega), by rw [← zX]; exact lyf_new X (laG none 0 0 none 0 0) _, ⟨rfl, .inl ⟨rfl, rfl⟩⟩, ⟨rfl, .inl ⟨rfl, rfl⟩⟩, by simp [zX], bl_alloc BX _⟩ ?_
  clear HFX w0 w1 w2 w3 w4 w5 w6 w7 zX BX X
  rintro Y LY
  have HLY := hid1 LY
  clear LY
  go_upto_block 0 with fail
  refine long_b0 _ _ _ _ _ _ _ _ _ _ _ _ _ _ _ _ _ _ _ _ _ _ _ _ _ _ _ _ _ _ _ _ _ _ _ _ _ _ _ _ _ _ _ _ _ _ _ _ _ _ _ _ _ _ _ _ _ _ _ _ _ _ _ _ _ _ _ _ _ _ _ _ B w Y hB _ HLY (hid1 ?_)
  intro X1 n aw cw an cn v7 v17 v18 v19 v20 v21 v22 v23 v24 v25 v26 v27 v28 v29 v30 v31 v32 v33 v34 v35 hn LX
  have HN := hid1 hn
  have HLX := hid1 LX
  clear LX HLY hn
  go_upto_region 10 with fail
  refine long_r10 _ _ _ _ _ _ _ _ _ _ _ _ _ _ _ _ _ _ _ _ _ _ _ _ _ _ _ _ _ _ _ _ _ _ _ _ _ _ _ _ _ _ _ _ _ _ _ _ _ _ _ _ _ _ _ _ _ _ _ _ _ _ _ _ _ _ _ _ _ _ _ _ _ _ _ B n cw cn aw an w X1 _ HLX (hid1 ?_)
  intro X2 g8 gA v36 v37 v38 v39 LX
  have hcw : Hid (n ≤ cw) := hid1 (own_cap HLX.out.2.2.1)
  have HL2 := hid1 LX
  clear LX HLX
  go_upto_block 2 with fail
  refine long_b1 _ _ _ _ _ _ _ _ _ _ _ _ _ _ _ _ _ _ _ _ _ _ _ _ _ _ _ _ _ _ _ _ _ _ _ _ _ _ _ _ _ _ _ _ _ _ _ _ _ _ _ _ _ _ _ _ _ _ _ _ _ _ _ _ _ _ _ _ _ _ _ _ _ B g8 gA (laG aw n cw an n cn) w X2 hB _ HL2 (hid1 ?_)
  intro X3 ua uc v9 v40 v41 v42 v43 v44 v45 v46 v47 v48 v49 v50 LX
  have HL3 := hid1 LX
  clear LX HL2
  go_upto_region 15 with fail
  obtain ⟨n2, hn2⟩ : ∃ n2, n2 = 66576 * k := ⟨_, rfl⟩
  refine long_r15 _ _ _ _ _ _ _ _ _ _ _ _ _ _ _ _ _ _ _ _ _ _ _ _ _ _ _ _ _ _ _ _ _ _ _ _ _ _ _ _ _ _ _ _ _ _ _ _ _ _ _ _ _ _ _ _ _ _ _ _ _ _ _ _ _ _ _ _ _ _ _ _ _ _ _ k n2 hk hn2 X3 _ (hid1 ?_)
  intro X4 g10 gw gb v51 v52 v53 v54 v55 v56 v57 RX
  obtain ⟨R10, hw, hb', bw, bb, b10, BX⟩ := RX
  have hs := HL3.out.2.2.2.2.2.1
  have hnb : n2 ≤ 2000000 := by omega
  have HN2 := hid1 hn2
  have HNE : Hid (∀ j, j < 63 → ∀ q, (Value.slice (lfL (laG aw n cw an n cn) j).aw (lfL (laG aw n cw an n cn) j).mw (lfL (laG aw n cw an n cn) j).cw).ownBlock = some q → q ≠ gw) := hid1 (fun j hj q hq => by have := ((HL3.out.2.2.2.2.1 j hj).1.lt q hq).2; omega)
  have HLD := hid1 (LD.of (base := B + 5) R10 hw hb' hnb (by omega) (by omega) (by omega))
  have HL4 := hid1 (HL3.out.keep BX)
  clear R10 hw hb' bw bb b10 BX hs hn2 HL3
  go_upto_block 4 with fail
  refine long_b2 _ _ _ _ _ _ _ _ _ _ _ _ _ _ _ _ _ _ _ _ _ _ _ _ _ _ _ _ _ _ _ _ _ _ _ _ _ _ _ _ _ _ _ _ _ _ _ _ _ _ _ _ _ _ _ _ _ _ _ _ _ _ _ _ _ _ _ _ _ _ _ _ _ _ B g8 g10 gw gb k n2 uc ua (laG aw n cw an n cn) w X4 hB hnb _ HL4 HLD HNE (hid1 ?_)
  intro X5 v11 v58 v59 v60 v61 v62 v63 v64 v65 v66 v67 v68 LX DX
  have HL5 := hid1 LX
  have HD5 := hid1 DX
  clear LX DX HL4 HLD HNE
  go_upto_region 20 with fail
  refine long_r20 _ _ _ _ _ _ _ _ _ _ _ _ _ _ _ _ _ _ _ _ _ _ _ _ _ _ _ _ _ _ _ _ _ _ _ _ _ _ _ _ _ _ _ _ _ _ _ _ _ _ _ _ _ _ _ _ _ _ _ _ _ _ _ _ _ _ _ _ _ _ _ _ _ _ B g8 g10 gw gb k n2 uc ua (laG aw n cw an n cn) w X5 hB _ HL5 HD5 (hid1 ?_)
  intro Z a3 c3 v69 v70 v71 v72 v73 v74 LZ
  have HL := hid1 LZ
  have n0 : Z.cell? ⟨g8, 0, none⟩ = some (.string nmL6) := LZ.2.1.cell (i := 0) (by decide)
  have n1 : Z.cell? ⟨g8, 1, none⟩ = some (.int .i64 4) := LZ.2.1.cell (i := 1) (by decide)
  have n2_ : Z.cell? ⟨g8, 2, none⟩ = some (.int .i64 6) := LZ.2.1.cell (i := 2) (by decide)
  have n3 : Z.cell? ⟨g8, 3, none⟩ = some (.int .i64 1) := LZ.2.1.cell (i := 3) (by decide)
  have n4 : Z.cell? ⟨g8, 4, none⟩ = some (.slice a3 64 c3) := LZ.2.1.cell (i := 4) (by decide)
  have r0 := LZ.1.1
  have b0 := bcl r0 (j := 0) rfl; have b1 := bcl r0 (j := 1) rfl; have b2 := bcl r0 (j := 2) rfl; have b3 := bcl r0 (j := 3) rfl; have b4 := bcl r0 (j := 4) rfl
  have z0 := bfz r0 0; have z1 := bfz r0 1; have z2 := bfz r0 2; have z3 := bfz r0 3; have z4 := bfz r0 4
  have hlt := lt_block r0
  have HR := hid1 (row_of_block r0)
  clear LZ r0 HL5 HD5
  go_wp2_with fail
  clear n0 n1 n2_ n3 n4 b0 b1 b2 b3 b4 z0 z1 z2 z3 z4
  have HO := HL.out.2.2.2.1
  have HLo := HL.out.2.2.2.2.1
  have HBe := HL.out.2.2.2.2.2.2
  have hbd : ∀ j, j < 64 → ((lfD (laG aw n cw an n cn) (laE k n2 (some ⟨gw, 0, none⟩) (some ⟨gb, 0, none⟩))) j).mw ≤ 2000000 ∧ ((lfD (laG aw n cw an n cn) (laE k n2 (some ⟨gw, 0, none⟩) (some ⟨gb, 0, none⟩))) j).mn ≤ 1000000 ∧ ((lfD (laG aw n cw an n cn) (laE k n2 (some ⟨gw, 0, none⟩) (some ⟨gb, 0, none⟩))) j).mb ≤ 1000000 := fun j hj => by
    have := HN.out
    unfold lfD
    by_cases h0 : j = 0
    · rw [if_pos h0]
      exact ⟨by show n ≤ _; omega, by show n ≤ _; omega, Nat.zero_le _⟩
    · rw [if_neg h0]
      by_cases h3 : j = 63
      · rw [if_pos h3]
        exact ⟨hnb, Nat.zero_le _, by show k ≤ _; omega⟩
      · rw [if_neg h3]
        exact ⟨Nat.zero_le _, Nat.zero_le _, Nat.zero_le _⟩
  refine gen_body (fun Y => Y.rowIs B 31 5 (fun j => match j with | 0 => .string nmL6 | 1 => .int .i64 4 | 2 => .int .i64 6 | 3 => .int .i64 1 | _ => .slice a3 64 c3) ∧ NtW Y ⟨nmL6, 4, 6, 1, a3, 64, c3, (lfD (laG aw n cw an n cn) (laE k n2 (some ⟨gw, 0, none⟩) (some ⟨gb, 0, none⟩)))⟩ ∧ Below w.heap.size w Y) ⟨net_cells HR.out, lg_net (B := B) (own_setD (own_setD (own_setD (own_setD (own_setD HO (by omega)) (by omega)) (by omega)) (by omega)) (by omega)) (fun j hj => (((((HLo j hj).set (by omega)).set (by omega)).set (by omega)).set (by omega)).set (by omega)) hbd, bl_set (bl_set (bl_set (bl_set (bl_set HBe (by omega) _) (by omega) _) (by omega) _) (by omega) _) (by omega) _⟩ ?_
  clear HO HLo HBe hbd HL HR
  rintro Y2 ⟨RY, NY, BY⟩
  have n0 := RY.cell (i := 0) (by decide)
  have n1 := RY.cell (i := 1) (by decide)
  have n2' := RY.cell (i := 2) (by decide)
  have n3 := RY.cell (i := 3) (by decide)
  have n4 := RY.cell (i := 4) (by decide)
  refine bodyPost_ret (v := ntv ⟨nmL6, 4, 6, 1, a3, 64, c3, (lfD (laG aw n cw an n cn) (laE k n2 (some ⟨gw, 0, none⟩) (some ⟨gb, 0, none⟩)))⟩) (by simp [results, Try.results6, go_sem, n0, n1, n2', n3, n4]) rfl ⟨_, rfl, NY, ?_, BY⟩
  have h1 := HN.out
  have h2 := hcw.out
  subst h1
  exact lg_is HN2.out h2
end Go.Proofs.Ytkhlhcbbbhbgeaa.Nn
/- PLAINBIG: the long network, run. -/
namespace Go.Proofs.Ytkhlhcbbbhbgeaa.Nn
open Go.RowKit

/-- What is asked of the long trace. -/
def TrB (W : World) (g : Nat) (x0 x2 x3 : Option Addr) (c0 c2 c3 : Nat) : Prop := (W.cell? ⟨g, 3, none⟩ = some (.slice x0 66576 c0) ∧ (W.cell? ⟨g, 248, none⟩ = some (.int .i64 4) ∧ W.cell? ⟨g, 249, none⟩ = some (.int .i64 6) ∧ W.cell? ⟨g, 250, none⟩ = some (.int .i64 2774)) ∧ W.cell? ⟨g, 251, none⟩ = some (.slice x2 66576 c2) ∧ W.cell? ⟨g, 255, none⟩ = some (.slice x3 16 c3)) ∧ R64 W x0 66576 (fun _ => 1) ∧ R64 W x2 66576 (fun _ => 1) ∧ R64 W x3 16 (fun _ => 66576)
theorem TrB.keep {W X : World} {g : Nat} {x0 x2 x3 : Option Addr} {c0 c2 c3 : Nat} (h : TrB W g x0 x2 x3 c0 c2 c3) (hb : Below W.heap.size W X) : TrB X g x0 x2 x3 c0 c2 c3 := by
  obtain ⟨⟨a, ⟨b1, b2, b3⟩, c, d⟩, r0, r2, r3⟩ := h
  exact ⟨⟨keepc hb a, ⟨keepc hb b1, keepc hb b2, keepc hb b3⟩, keepc hb c, keepc hb d⟩, r0.keep' hb, r2.keep' hb, r3.keep' hb⟩
theorem s8_zero : s8 0 = 0 := by decide
theorem str_at {W : World} {g n j : Nat} {fh fv fc : Nat → Int} {sz : Nat → Nat} {val : Nat → Nat → Int} (h : StR W (some ⟨g, 0, none⟩) n fh fv fc sz val) (hj : j < n) {z : Nat} {v : Int} (hz : sz j = z) (hv : ∀ i, i < z → val j i = v) : ∃ xo xc, W.cell? ⟨g, j * 4, none⟩ = some (.int .i64 (fh j)) ∧ W.cell? ⟨g, j * 4 + 1, none⟩ = some (.int .i64 (fv j)) ∧ W.cell? ⟨g, j * 4 + 2, none⟩ = some (.int .i64 (fc j)) ∧ W.cell? ⟨g, j * 4 + 3, none⟩ = some (.slice xo z xc) ∧ R64 W xo z (fun _ => v) := by
  obtain ⟨g2, o, xo, xc, e, ⟨a, b, c⟩, d, r, -⟩ := h j hj
  cases e
  rw [Nat.zero_add] at a b c d
  rw [hz] at d r
  exact ⟨xo, xc, a, b, c, d, fun i hi => by obtain ⟨g3, o3, e3, q⟩ := r i hi; exact ⟨g3, o3, e3, by rw [q, hv i hi]⟩⟩
theorem lg_rb {W : World} {ao : Option Addr} {k : Nat} {N : Nt} (h : Lg k N) (hx : RB W ao 24 (fun _ => 0)) : RB W ao (szN N 0) (fun _ => 0) := by rw [(lg_sz h).1]; exact hx
theorem lg_trace (N : Nt) (h : Lg 16 N) (ao : Option Addr) (W : World) (hN : NtW W N) (hx : RB W ao 24 (fun _ => 0)) :
    Calls Try.prog 5 #[ntv N, .slice ao 24 24] W fun e w' => ∃ g cp x0 x2 x3 c0 c2 c3, e = .returned (.tuple #[.slice (some ⟨g, 0, none⟩) 64 cp, .int .i64 0]) ∧ TrB w' g x0 x2 x3 c0 c2 c3 ∧ Below W.heap.size W w' := by
  have hz := lg_ok h (by decide)
  have h0 := (lg_sz h).1
  have := ptrace_all N hz (lg_cap h) (by rw [lg_to h (by decide)]; decide) ao 24 (fun _ => 0) (fun _ _ => by decide) W hN (lg_rb h hx)
  rw [h0] at this
  refine this.mono ?_
  rintro e w' ⟨u, gl, cl, rfl, TS, hb⟩
  rw [h.ml] at TS
  have hs : ∀ j, j < 64 → 1 ≤ szN N (j + 1) ∧ szN N (j + 1) ≤ 9223372036854775807 := fun j hj => by
    by_cases h3 : j = 63
    · subst h3; rw [(lg_sz h).2.2]; decide
    · rw [(lg_sz h).2.1 j (by omega)]; decide
  obtain ⟨g, cp, rfl, -, S⟩ := TS.str (by decide) hs
  have e8 : (fun _ : Nat => s8 0) = fun _ => (0 : Int) := by funext _; exact s8_zero
  have hv : ∀ i, i < 63 → ∀ j, j < 66576 → valN N (fun _ => s8 0) (i + 1) j = 1 := by rw [e8]; exact lg_val h
  have hl : ∀ j, valN N (fun _ => s8 0) 64 j = 66576 := by rw [e8]; exact lg_last h (by decide)
  obtain ⟨x0, c0, -, -, -, a0, r0⟩ := str_at S (j := 0) (by decide) (z := 66576) (v := 1) ((lg_sz h).2.1 0 (by decide)) (hv 0 (by decide))
  obtain ⟨x2, c2, b1, b2, b3, a2, r2⟩ := str_at S (j := 62) (by decide) (z := 66576) (v := 1) ((lg_sz h).2.1 62 (by decide)) (hv 62 (by decide))
  obtain ⟨x3, c3, -, -, -, a3, r3⟩ := str_at S (j := 63) (by decide) (z := 16) (v := 66576) (lg_sz h).2.2 (fun i _ => hl i)
  rw [show (sp N (62 + 1)).h = 4 by rw [lg_sp h 62 (by decide)]] at b1
  rw [show (sp N (62 + 1)).v = 6 by rw [lg_sp h 62 (by decide)]] at b2
  rw [show (sp N (62 + 1)).c = 2774 by rw [lg_sp h 62 (by decide)]] at b3
  exact ⟨g, cp, x0, x2, x3, c0, c2, c3, rfl, ⟨⟨a0, ⟨b1, b2, b3⟩, a2, a3⟩, r0, r2, r3⟩, hb⟩
theorem lg_big (N : Nt) (h : Lg 17 N) (ao : Option Addr) (W : World) (hN : NtW W N) :
    Calls Try.prog 5 #[ntv N, .slice ao 24 24] W fun e w' => e = .returned (.tuple #[.slice none 0 0, .int .i64 31]) ∧ Below W.heap.size W w' :=
  ptrace_big N ao 24 24 (lg_ok h (by decide)) (by rw [h.h, h.v, h.c]; decide) (by rw [lg_to h (by decide)]; decide) W hN
theorem lg_in (N : Nt) (h : Lg 17 N) (ao : Option Addr) (cap : Nat) (W : World) (hN : NtW W N) :
    Calls Try.prog 5 #[ntv N, .slice ao 5 cap] W fun e w' => e = .returned (.tuple #[.slice none 0 0, .int .i64 60]) ∧ Below W.heap.size W w' :=
  ptrace_in N ao 5 cap (lg_ok h (by decide)) (by rw [h.h, h.v, h.c]; decide) W hN
theorem lg_run (N : Nt) (h : Lg 17 N) (ao : Option Addr) (W : World) (hN : NtW W N) (hx : RB W ao 24 (fun _ => 0)) :
    Calls Try.prog 8 #[ntv N, .slice ao 24 24] W fun e w' => ∃ g cp, e = .returned (.tuple #[.agg #[.slice (some ⟨g, 0, none⟩) 17 cp, .int .i64 0], .int .i64 0]) ∧ w'.cell? ⟨g, 16, none⟩ = some (.int .i64 66576) ∧ Below W.heap.size W w' := by
  have hz := lg_ok h (by decide)
  have h0 := (lg_sz h).1
  have h64 : szN N N.ml = 17 := by rw [h.ml]; exact (lg_sz h).2.2
  have := prun_all N hz (lg_cap h) ao 24 (fun _ => 0) (fun _ _ => by decide) W hN (lg_rb h hx)
  rw [h0, h64] at this
  have e8 : (fun _ : Nat => s8 0) = fun _ => (0 : Int) := by funext _; exact s8_zero
  have hl : ∀ j, valN N (fun _ => s8 0) N.ml j = 66576 := by rw [e8, h.ml]; exact lg_last h (by decide)
  rw [gr_const hl 17] at this
  refine this.mono ?_
  rintro e w' ⟨g, cp, rfl, -, R, hb⟩
  obtain ⟨g2, o2, e2, q⟩ := R 16 (by decide)
  cases e2
  exact ⟨g, cp, rfl, by rw [hl] at q; simpa using q, hb⟩
theorem rb_zero {W : World} {g : Nat} (h : W.heap[g]? = some (.cells (madeCells #[.int .u8 0] 24) 5)) : RB W (some ⟨g, 0, none⟩) 24 (fun _ => 0) := fun k hk => by
  refine ⟨g, 0, rfl, ?_, by show (0 : Int) ≤ 0; decide, by show (0 : Int) < 256; decide⟩
  rw [Nat.zero_add]
  refine bcl h ?_
  rw [← Array.getElem?_toList, made_list]
  simp [hk]
end Go.Proofs.Ytkhlhcbbbhbgeaa.Nn
/- PLAINBIG: its loop. -/
namespace Go.Proofs.Ytkhlhcbbbhbgeaa.Nn
open Go.RowKit

noncomputable def cgB0 : Code := (Try.f3.body.bind (blockOf 0)).getD .skip
attribute [local go_sem ↓] Go.wp_at_zero Go.wp_at_succ
set_option maxHeartbeats 12800000 in
set_option maxRecDepth 100000 in
theorem big_b0 (u0 u1 u3 u5 u6 u7 u8 u9 u10 u11 u12 u13 u14 u15 u16 u17 u18 u19 u20 u21 u22 u23 u24 u25 u26 u27 u28 u29 u30 u31 u32 u33 u34 u35 u36 u37 u38 u39 u40 u41 u42 u43 u44 u45 u46 u47 u48 u49 u50 u51 u52 u53 u54 u55 u56 u57 u58 u59 u60 u61 u62 u63 u64 u65 u66 u67 u68 u69 u70 u71 u72 u73 u74 u75 u76 u77 u78 u79 u80 u81 u82 u83 u84 u85 u86 u87 u88 u89 u90 u91 u92 u93 u94 u95 u96 u97 u98 u99 u100 u101 u102 u103 u104 u105 u106 u107 u108 u109 u110 u111 u112 u113 u114 u115 u116 u117 u118 u119 u120 u121 u122 u123 u124 u125 u126 u127 u128 u129 u130 u131 u132 u133 u134 u135 u136 u137 u138 u139 u140 u141 u142 u143 u144 u145 : Value) (g cp c0 c2 c3 : Nat) (x0 x2 x3 : Option Addr) (W0 : World) (Q : Exit → Act → World → Prop) (HT : Hid (TrB W0 g x0 x2 x3 c0 c2 c3))
    (hQ : Hid (∀ (X : World) (v0 v4 v54 v55 v56 v57 v58 v59 v60 v61 v62 v63 v64 v65 v66 v67 v68 v69 v70 v71 v72 v73 v74 v75 v76 v77 v78 v79 v80 v81 v82 v83 v84 v85 v86 v87 v88 v89 v90 v91 v92 : Value), Below W0.heap.size W0 X → Q .normal ⟨#[v0, u1, .slice (some ⟨g, 0, none⟩) 64 cp, u3, v4, u5, u6, u7, u8, u9, u10, u11, u12, u13, u14, u15, u16, u17, u18, u19, u20, u21, u22, u23, u24, u25, u26, u27, u28, u29, u30, u31, u32, u33, u34, u35, u36, u37, u38, u39, u40, u41, u42, u43, u44, u45, u46, u47, u48, u49, u50, u51, u52, u53, v54, v55, v56, v57, v58, v59, v60, v61, v62, v63, v64, v65, v66, v67, v68, v69, v70, v71, v72, v73, v74, v75, v76, v77, v78, v79, v80, v81, v82, v83, v84, v85, v86, v87, v88, v89, v90, v91, v92, u93, u94, u95, u96, u97, u98, u99, u100, u101, u102, u103, u104, u105, u106, u107, u108, u109, u110, u111, u112, u113, u114, u115, u116, u117, u118, u119, u120, u121, u122, u123, u124, u125, u126, u127, u128, u129, u130, u131, u132, u133, u134, u135, u136, u137, u138, u139, u140, u141, u142, u143, u144, u145], []⟩ X)) :
    Code.wp Try.prog cgB0 Q ⟨#[u0, u1, .slice (some ⟨g, 0, none⟩) 64 cp, u3, .int .i64 0, u5, u6, u7, u8, u9, u10, u11, u12, u13, u14, u15, u16, u17, u18, u19, u20, u21, u22, u23, u24, u25, u26, u27, u28, u29, u30, u31, u32, u33, u34, u35, u36, u37, u38, u39, u40, u41, u42, u43, u44, u45, u46, u47, u48, u49, u50, u51, u52, u53, u54, u55, u56, u57, u58, u59, u60, u61, u62, u63, u64, u65, u66, u67, u68, u69, u70, u71, u72, u73, u74, u75, u76, u77, u78, u79, u80, u81, u82, u83, u84, u85, u86, u87, u88, u89, u90, u91, u92, u93, u94, u95, u96, u97, u98, u99, u100, u101, u102, u103, u104, u105, u106, u107, u108, u109, u110, u111, u112, u113, u114, u115, u116, u117, u118, u119, u120, u121, u122, u123, u124, u125, u126, u127, u128, u129, u130, u131, u132, u133, u134, u135, u136, u137, u138, u139, u140, u141, u142, u143, u144, u145], []⟩ W0 := by
  conv => arg 2; whnf
  go_wp2_with fail
  go_loopw [4] (fun i wr => ∃ q : Nat, q ≤ 66576 ∧ i = .int .i64 q ∧ Below W0.heap.size W0 wr) (fun i _ => 66576 - (intOf i).toNat)
  case atStart => exact ⟨0, Nat.zero_le _, rfl, Below.refl _ _⟩
  case round =>
    obtain ⟨q, hq, rfl, hb⟩ := hrel
    have iq0 : (0 : Int) ≤ (q : Int) := by omega
    by_cases hlt : q < 66576
    · have ilt : (q : Int) < 66576 := by omega
      obtain ⟨⟨a0, -, a2, a3⟩, r0, r2, r3⟩ := HT.out.keep hb
      obtain ⟨h0, o0, e0, v0⟩ := r0 q hlt
      obtain ⟨h2, o2, e2, v2⟩ := r2 q hlt
      obtain ⟨p, hp⟩ : ∃ p, q % 16 = p := ⟨_, rfl⟩
      have hp16 : p < 16 := by omega
      obtain ⟨h3, o3, e3, v3⟩ := r3 p hp16
      subst e0 e2 e3
      have ip0 : (0 : Int) ≤ (p : Int) := by omega
      have ip : (p : Int) < 16 := by omega
      have em0 : Int.tmod (q : Int) 66576 = (q : Int) := by rw [Int.tmod_eq_emod_of_nonneg iq0]; omega
      have em1 : Int.tmod (q : Int) 16 = (p : Int) := by rw [Int.tmod_eq_emod_of_nonneg iq0]; omega
      clear r0 r2 r3 hp hp16
      have HBB := hid1 hb
      clear hb
      go_wp2_with fail
      go_quiet (fail)
      go_wp2_with fail
      exact ⟨⟨q + 1, by omega, by go_num, bl_drewN HBB.out _⟩, by simp [intOf]; omega⟩
    · have ilt : ¬ (q : Int) < 66576 := by omega
      clear hlt hq
      go_wp2_with fail
      exact hQ.out _ _ _ _ _ _ _ _ _ _ _ _ _ _ _ _ _ _ _ _ _ _ _ _ _ _ _ _ _ _ _ _ _ _ _ _ _ _ _ _ _ _ hb
end Go.Proofs.Ytkhlhcbbbhbgeaa.Nn
/- PLAINBIG: the walk. -/
namespace Go.Proofs.Ytkhlhcbbbhbgeaa.Nn
open Go.RowKit

theorem kp5 {W Y : World} {g : Nat} {u0 u1 u2 u3 u4 : Value} (h : W.cell? ⟨g, 0, none⟩ = some u0 ∧ W.cell? ⟨g, 1, none⟩ = some u1 ∧ W.cell? ⟨g, 2, none⟩ = some u2 ∧ W.cell? ⟨g, 3, none⟩ = some u3 ∧ W.cell? ⟨g, 4, none⟩ = some u4) (hb : Below W.heap.size W Y) : Y.cell? ⟨g, 0, none⟩ = some u0 ∧ Y.cell? ⟨g, 1, none⟩ = some u1 ∧ Y.cell? ⟨g, 2, none⟩ = some u2 ∧ Y.cell? ⟨g, 3, none⟩ = some u3 ∧ Y.cell? ⟨g, 4, none⟩ = some u4 := ⟨keepc hb h.1, keepc hb h.2.1, keepc hb h.2.2.1, keepc hb h.2.2.2.1, keepc hb h.2.2.2.2⟩
attribute [local go_sem ↓] Go.wp_at_zero Go.wp_at_succ
set_option maxHeartbeats 12800000 in
set_option maxRecDepth 100000 in
theorem plainBig_any (w : World) : Calls Try.prog 3 #[] w fun e w' => e = .returned (.bool true) ∧ Below w.heap.size w w' := by
  obtain ⟨i0, hi, hz0, hz1, hz2⟩ := info_parts info_u8P
  have mk : ∀ w, (Instr.makeSlice 22 (.int .i64 24) (.int .i64 24)).run Try.prog w = .ok (.slice (some ⟨w.heap.size, 0, none⟩) 24 24) (w.alloc (.cells (madeCells #[.int .u8 0] 24) 5)) := fun w => run_make_row 22 5 i0 (.int .u8 0) und_u8P hi hz0 hz1 rfl .i64 .i64 24 (by rw [hz2]; decide) (by decide) w
  clear hi hz0 hz1 hz2
  obtain ⟨gx, hgx⟩ : ∃ g, w.heap.size = g := ⟨_, rfl⟩
  go_enter Try.func3, Try.ntmps3
  go_upto_region 2 with fail
  refine gen_world (fun X => RB X (some ⟨gx, 0, none⟩) 24 (fun _ => 0) ∧ Below w.heap.size w X) ⟨rb_zero (new_at hgx _), bl_alloc (Below.refl _ _) _⟩ ?_
  clear hgx mk
  rintro X0 ⟨RX, BX⟩
  have HRX := hid1 RX
  have HBX := hid1 BX
  clear RX BX
  go_wp2_with fail
  refine (long_any 16 (by decide) X0).mono ?_
  rintro e X1 ⟨N1, rfl, NW1, L1, b1⟩
  have CT := hid1 (lg_trace N1 L1 (some ⟨gx, 0, none⟩) X1 NW1 (HRX.out.keep b1))
  have HB1 := hid1 b1
  clear NW1 L1 b1
  go_wp2_with fail
  refine CT.out.mono ?_
  rintro e X2 ⟨g, cp, x0, x2, x3, c0, c2, c3, rfl, TB, b2⟩
  have HTB := hid1 TB
  have HB2 := hid1 (bl_step HBX.out (bl_step HB1.out b2))
  have HR2 := hid1 (HRX.out.keep (bl_step HB1.out b2))
  clear CT TB b2 HB1 HRX HBX
  go_wp2_with fail
  refine (begun6_any _).mono ?_
  rintro e X3 ⟨rfl, b3⟩
  have TB := HTB.out.keep b3
  obtain ⟨⟨a0, ⟨s1, s2, s3⟩, a2, a3⟩, -, -, -⟩ := TB
  replace HTB := hid1 (HTB.out.keep b3)
  replace HB2 := hid1 (bl_step HB2.out b3)
  replace HR2 := hid1 (HR2.out.keep b3)
  have we : ∀ w, Sem.run Try.prog (Op.equalIn 10000 28 (shp 4 6 2774) (shp 4 6 2774)) w = Result.ok true w := fun w => by rw [shp_eql]; simp
  clear b3
  go_upto_block 0 with fail
  refine big_b0 _ _ _ _ _ _ _ _ _ _ _ _ _ _ _ _ _ _ _ _ _ _ _ _ _ _ _ _ _ _ _ _ _ _ _ _ _ _ _ _ _ _ _ _ _ _ _ _ _ _ _ _ _ _ _ _ _ _ _ _ _ _ _ _ _ _ _ _ _ _ _ _ _ _ _ _ _ _ _ _ _ _ _ _ _ _ _ _ _ _ _ _ _ _ _ _ _ _ _ _ _ _ _ _ _ _ _ _ _ _ _ _ _ _ _ _ _ _ _ _ _ _ _ _ _ _ _ _ _ _ _ _ _ _ _ _ _ _ _ _ _ _ _ _ g cp c0 c2 c3 x0 x2 x3 X3 _ HTB (hid1 ?_)
  intro X4 v0 v4 v54 v55 v56 v57 v58 v59 v60 v61 v62 v63 v64 v65 v66 v67 v68 v69 v70 v71 v72 v73 v74 v75 v76 v77 v78 v79 v80 v81 v82 v83 v84 v85 v86 v87 v88 v89 v90 v91 v92 b4
  replace HB2 := hid1 (bl_step HB2.out b4)
  replace HR2 := hid1 (HR2.out.keep b4)
  clear a0 s1 s2 s3 a2 a3 HTB we b4
  go_wp2_with fail
  refine (long_any 17 (by decide) X4).mono ?_
  rintro e X5 ⟨N2, rfl, NW, L2, b5⟩
  obtain ⟨g5, hg5⟩ : ∃ g, X5.heap.size = g := ⟨_, rfl⟩
  have HL2 := hid1 L2
  go_upto_region 11 with fail
  refine gen_world (fun X => X.rowIs g5 31 5 (netF N2.nm N2.h N2.v N2.c (.slice N2.al N2.ml N2.cl)) ∧ NtW X N2 ∧ RB X (some ⟨gx, 0, none⟩) 24 (fun _ => 0) ∧ Below w.heap.size w X) ⟨by rw [← hg5]; exact net_newF X5 N2.nm N2.h N2.v N2.c (.slice N2.al N2.ml N2.cl) _, NW.keep (bl_alloc (Below.refl _ _) _), HR2.out.keep (bl_alloc b5 _), bl_alloc (bl_step HB2.out b5) _⟩ ?_
  clear NW L2 b5 hg5 HR2 HB2
  rintro X ⟨R5, NW, RX, BX⟩
  have HR5 := hid1 R5
  have HNW := hid1 NW
  have HRX := hid1 RX
  have HBX := hid1 BX
  have C1 := hid1 (lg_big N2 HL2.out (some ⟨gx, 0, none⟩) X NW)
  have n0 : X.cell? ⟨g5, 0, none⟩ = some (.string N2.nm) := R5.cell (i := 0) (by decide)
  have n1 : X.cell? ⟨g5, 1, none⟩ = some (.int .i64 N2.h) := R5.cell (i := 1) (by decide)
  have n2 : X.cell? ⟨g5, 2, none⟩ = some (.int .i64 N2.v) := R5.cell (i := 2) (by decide)
  have n3 : X.cell? ⟨g5, 3, none⟩ = some (.int .i64 N2.c) := R5.cell (i := 3) (by decide)
  have n4 : X.cell? ⟨g5, 4, none⟩ = some (.slice N2.al N2.ml N2.cl) := R5.cell (i := 4) (by decide)
  clear R5 NW RX BX
  go_wp2_with fail
  refine C1.out.mono ?_
  rintro e Y1 ⟨rfl, b1⟩
  clear C1 n0 n1 n2 n3 n4
  have R6 := World.rowIs.of_block HR5.out (b1.block _ HR5.out.lt)
  have C2 := hid1 (lg_run N2 HL2.out (some ⟨gx, 0, none⟩) Y1 (HNW.out.keep b1) (HRX.out.keep b1))
  have n0 : Y1.cell? ⟨g5, 0, none⟩ = some (.string N2.nm) := R6.cell (i := 0) (by decide)
  have n1 : Y1.cell? ⟨g5, 1, none⟩ = some (.int .i64 N2.h) := R6.cell (i := 1) (by decide)
  have n2 : Y1.cell? ⟨g5, 2, none⟩ = some (.int .i64 N2.v) := R6.cell (i := 2) (by decide)
  have n3 : Y1.cell? ⟨g5, 3, none⟩ = some (.int .i64 N2.c) := R6.cell (i := 3) (by decide)
  have n4 : Y1.cell? ⟨g5, 4, none⟩ = some (.slice N2.al N2.ml N2.cl) := R6.cell (i := 4) (by decide)
  have HB1 := hid1 b1
  clear R6 b1
  go_wp2_with fail
  refine C2.out.mono ?_
  rintro e Y2 ⟨gl, cl, rfl, cv, b2⟩
  clear C2 n0 n1 n2 n3 n4
  have B2 := bl_step HB1.out b2
  have HB2 := hid1 B2
  have HCV := hid1 cv
  obtain ⟨gr, hgr⟩ : ∃ g, Y2.heap.size = g := ⟨_, rfl⟩
  clear b2 HB1 cv B2
  go_upto_region 13 with fail
  refine gen_world (fun Z => Z.rowIs gr 38 2 (rsf (some ⟨gl, 0, none⟩) 17 cl 0) ∧ Z.cell? ⟨gl, 16, none⟩ = some (.int .i64 66576) ∧ Below X.heap.size X Z) ⟨by rw [← hgr]; exact rs_new _ _ _ _ _ _, keepc (bl_alloc (Below.refl _ _) _) HCV.out, bl_alloc HB2.out _⟩ ?_
  clear HCV HB2 hgr
  rintro Z ⟨RR, cv, BZ⟩
  have R7 := World.rowIs.of_block HR5.out (BZ.block _ HR5.out.lt)
  have C3 := hid1 (fun W (h : Below Z.heap.size Z W) => lg_in N2 HL2.out (some ⟨gx, 0, none⟩) 24 W ((HNW.out.keep BZ).keep h))
  have n0 : Z.cell? ⟨g5, 0, none⟩ = some (.string N2.nm) := R7.cell (i := 0) (by decide)
  have n1 : Z.cell? ⟨g5, 1, none⟩ = some (.int .i64 N2.h) := R7.cell (i := 1) (by decide)
  have n2 : Z.cell? ⟨g5, 2, none⟩ = some (.int .i64 N2.v) := R7.cell (i := 2) (by decide)
  have n3 : Z.cell? ⟨g5, 3, none⟩ = some (.int .i64 N2.c) := R7.cell (i := 3) (by decide)
  have n4 : Z.cell? ⟨g5, 4, none⟩ = some (.slice N2.al N2.ml N2.cl) := R7.cell (i := 4) (by decide)
  have HC5 := hid1 (And.intro n0 (And.intro n1 (And.intro n2 (And.intro n3 n4))))
  have HRR := hid1 RR
  have HCV := hid1 cv
  have HBZ := hid1 (bl_step HBX.out BZ)
  clear R7 RR cv BZ HR5 HNW HRX HBX
  have hfo := followsP
  go_region_held3 (fun Y => Y.cell? ⟨g5, 0, none⟩ = some (.string N2.nm) ∧ Y.cell? ⟨g5, 1, none⟩ = some (.int .i64 N2.h) ∧ Y.cell? ⟨g5, 2, none⟩ = some (.int .i64 N2.v) ∧ Y.cell? ⟨g5, 3, none⟩ = some (.int .i64 N2.c) ∧ Y.cell? ⟨g5, 4, none⟩ = some (.slice N2.al N2.ml N2.cl))
    (((try dsimp only); (with_reducible refine kp5 (W := Z) HC5.out ?_); repeat (first | (with_reducible exact Below.refl _ _) | (with_reducible assumption) | (with_reducible refine Below.drew ?_))))
    ((go_at_call 5; refine (C3.out _ (by repeat (first | (with_reducible exact Below.refl _ _) | (with_reducible refine Below.drew ?_)))).mono ?_; rintro e y ⟨rfl, hb⟩; have bb1 : Below Z.heap.size Z y := bl_step (by repeat (first | (with_reducible exact Below.refl _ _) | (with_reducible refine Below.drew ?_))) hb; clear hb))
  have RR := World.rowIs.of_block HRR.out (bb1.block _ HRR.out.lt)
  have r0 : y.cell? ⟨gr, 0, none⟩ = some (.slice (some ⟨gl, 0, none⟩) 17 cl) := RR.cell (i := 0) (by decide)
  have r1 : y.cell? ⟨gr, 1, none⟩ = some (.int .i64 0) := RR.cell (i := 1) (by decide)
  have cv := keepc bb1 HCV.out
  have HBY := hid1 (bl_step HBZ.out bb1)
  clear RR bb1 n0 n1 n2 n3 n4
  go_wp2_with fail
  go_ret
  exact ⟨rfl, HBY.out⟩
end Go.Proofs.Ytkhlhcbbbhbgeaa.Nn
namespace Go.Proofs.Ytkhlhcbbbhbgeaa
open Go.ChangeShapes Go.WideShapes Go.ChangeAt Go.RowKit

set_option maxRecDepth 100000 in
theorem plainBig_lifted (os : Os) (started : os.Started) (H : Type) (enc : TypeId × Value → H) :
    ReturnsInHanded {} Try.checked os 3 .any (Rows.plainBigSpec.pre6 enc Try.prog Try.f3 Rows.plainBigRow.domain false) (Rows.plainBigSpec.post enc Try.prog Try.f3 false true false false) := by
  refine returnsInHanded_of_change_sized (C := Try.checked) own started (by kernel_rfl) Try.func3
    (ChangeSpec.witness6 (enc := enc) (C := Try.checked) false ⟨#[], #[], []⟩ 8 (by kernel_rfl) (by kernel_rfl) (by kernel_rfl) (by kernel_rfl)) ?_
  intro W base args ds gs before hval0 hW _ _ _
  have hval : ∀ (j : Nat) t v, Try.f3.params[j]? = some t → args[j]? = some v → Value.okWide Try.prog W .any base t v := hval0
  have hW' := hW
  obtain ⟨p, q, hA0, hV, rfl, hfz, hnd⟩ := hW
  have hA : DataW.TrodAll enc Try.prog W 0 (fun _ => true) true Try.f3.params.toList args.toList ds p := hA0
  rw [Try.params3] at hA hval
  obtain ⟨hargs, rfl, rfl⟩ := trodAll_nil hA
  obtain rfl : args = #[] := by cases args; simp_all
  obtain ⟨rfl, rfl⟩ := trodVars_none hV
  clear hA0 hval0
  refine (Nn.plainBig_any W).mono fun e W' ⟨he, bel⟩ => ?_
  subst he
  exact ⟨_, rfl, _, _, _, [], _, [], hW', trodAll_mk1 (shut_bool Try.underlying4 _), trodAll_mk0, rfl, bel.frame _, fun h => by cases h⟩

theorem plainBig_holds : Rows.PlainBigSaid :=
  OpenClaim.holds_of_wide 3 Try.f3 rfl rfl rfl rfl rfl rfl rfl ⟨rfl, rfl, rfl, rfl, rfl⟩ rfl rfl rfl rfl rfl (by kernel_rfl) Try.func3 (by kernel_rfl)
    (of_decide_eq_true (by kernel_rfl)) (by unfold Func.isWrapper; first | (rw [if_pos (by decide +kernel)]; kernel_rfl) | (rw [if_neg (by decide +kernel)]; exact ⟨rfl, rfl⟩))
    (fun os started H enc _ => plainBig_lifted os started H enc)
#print axioms plainBig_holds
end Go.Proofs.Ytkhlhcbbbhbgeaa
