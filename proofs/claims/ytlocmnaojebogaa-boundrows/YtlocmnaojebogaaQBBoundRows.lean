import Derived.Test.YtlocmnaojebogaaNO6
import Derived.BigQuiet
import Derived.Test.YtlocmnaojebogaaNP5
import Derived.Test.YtlocmnaojebogaaQABoundRows
/- Lists of lists of reaches that are alike; the network tiny. -/
namespace Go.Proofs.Ytlocmnaojebogaa.Nn
open Go.RowKit

/-- A list of reaches in memory. -/
def Lr1 (W : World) (g o m : Nat) (f h : Nat → Int) : Prop := ∀ j, j < m → W.cell? ⟨g, o + j * 2, none⟩ = some (.int .i64 (f j)) ∧ W.cell? ⟨g, o + j * 2 + 1, none⟩ = some (.int .i64 (h j))
theorem Lr1.keep {W X : World} {g o m : Nat} {f h : Nat → Int} (r : Lr1 W g o m f h) (hb : Below W.heap.size W X) : Lr1 X g o m f h := fun j hj => ⟨keepc hb (r j hj).1, keepc hb (r j hj).2⟩
/-- A list of lists of reaches in memory. -/
def Lrr (W : World) (g o m : Nat) (C : Nat → Nat) (f h : Nat → Nat → Int) : Prop := ∀ i, i < m → ∃ g' o' cp, W.cell? ⟨g, o + i, none⟩ = some (.slice (some ⟨g', o', none⟩) (C i) cp) ∧ C i ≤ 9223372036854775807 ∧ Lr1 W g' o' (C i) (f i) (h i)
theorem Lrr.keep {W X : World} {g o m : Nat} {C : Nat → Nat} {f h : Nat → Nat → Int} (r : Lrr W g o m C f h) (hb : Below W.heap.size W X) : Lrr X g o m C f h := fun i hi => by
  obtain ⟨g', o', cp, c, hc, hr⟩ := r i hi
  exact ⟨g', o', cp, keepc hb c, hc, hr.keep hb⟩
set_option maxHeartbeats 3200000 in
set_option maxRecDepth 100000 in
theorem eqR_same (m : Nat) (hm : m ≤ 9223372036854775807) (C : Nat → Nat) (f h : Nat → Nat → Int) (g o g2 o2 : Nat) (ca cb : Nat) (w : World) (hA : Lrr w g o m C f h) (hB : Lrr w g2 o2 m C f h) :
    Calls Try.prog 25 #[.slice (some ⟨g, o, none⟩) m ca, .slice (some ⟨g2, o2, none⟩) m cb] w fun e w' => e = .returned (.bool true) ∧ Below w.heap.size w w' := by
  have HA := hid1 hA
  have HB := hid1 hB
  clear hA hB
  go_enter Try.func25, Try.ntmps25
  go_wp2_with fail
  go_loopw [5] (fun i wr => ∃ k : Nat, k ≤ m ∧ i = .int .i64 k ∧ Below w.heap.size w wr) (fun i _ => m - (intOf i).toNat)
  case atStart => exact ⟨0, Nat.zero_le _, rfl, Below.refl _ _⟩
  case round =>
    obtain ⟨k, hk, rfl, BX⟩ := hrel
    by_cases hlt : k < m
    · obtain ⟨ga, oa, cpa, ca', hC, ra⟩ := (HA.out.keep BX) k hlt
      obtain ⟨gb, ob, cpb, cb', -, rb⟩ := (HB.out.keep BX) k hlt
      have ik : (k : Int) < (m : Nat) := by omega
      have ik0 : (0 : Int) ≤ (k : Int) := by omega
      have RA := hid1 (And.intro ca' ra)
      have RB := hid1 (And.intro cb' rb)
      clear ra rb
      generalize C k = c at *
      generalize f k = fk at *
      generalize h k = fh at *
      have HBX := hid1 BX
      clear BX
      go_upto_region 6 with fail
      go_quiet (fail)
      go_wp2_with fail
      clear ca' cb'
      go_loopw [6] (fun i wy => ∃ j : Nat, j ≤ c ∧ i = .int .i64 j ∧ Below wr.heap.size wr wy) (fun i _ => c - (intOf i).toNat)
      case atStart => exact ⟨0, Nat.zero_le _, rfl, by repeat (first | (with_reducible exact Below.refl _ _) | (with_reducible refine bl_alloc ?_ _) | (with_reducible refine Below.drew ?_) | (with_reducible refine bl_drewN ?_ _) | (with_reducible refine bl_set ?_ (by omega) _) | (with_reducible refine bl_step ?_ (by assumption)))⟩
      case round =>
        obtain ⟨j, hj, rfl, BY⟩ := hrel
        have ca' := keepc BY RA.out.1
        have ij0 : (0 : Int) ≤ (j : Int) := by omega
        by_cases hjl : j < c
        · have ij : (j : Int) < (c : Nat) := by omega
          have cb' := keepc BY RB.out.1
          obtain ⟨x0, x1⟩ := (RA.out.2.keep BY) j hjl
          obtain ⟨y0, y1⟩ := (RB.out.2.keep BY) j hjl
          generalize fk j = x at *
          generalize fh j = y at *
          have HBY := hid1 BY
          clear BY
          go_upto_region 11 with fail
          go_quiet (fail)
          go_wp2_with fail
          exact ⟨⟨j + 1, by omega, by go_num, by have := HBY.out; repeat (first | (with_reducible exact Below.refl _ _) | (with_reducible refine bl_alloc ?_ _) | (with_reducible refine Below.drew ?_) | (with_reducible refine bl_drewN ?_ _) | (with_reducible refine bl_set ?_ (by omega) _) | (with_reducible refine bl_step ?_ (by assumption)))⟩, by simp [intOf]; omega⟩
        · have hjN : j = c := by omega
          go_wp2_with fail
          exact ⟨⟨k + 1, by omega, by go_num, bl_step HBX.out BY⟩, by simp [intOf]; omega⟩
    · have hkN : k = m := by omega
      subst hkN
      go_wp2_with fail
      go_ret
      exact ⟨rfl, BX⟩
set_option maxHeartbeats 800000 in
set_option maxRecDepth 100000 in
theorem eqR_nil (ao bo : Option Addr) (ca cb : Nat) (w : World) :
    Calls Try.prog 25 #[.slice ao 0 ca, .slice bo 0 cb] w fun e w' => e = .returned (.bool true) ∧ Below w.heap.size w w' := by
  go_enter Try.func25, Try.ntmps25
  go_wp2_with fail
  go_loopw [5] (fun i wr => i = .int .i64 0 ∧ Below w.heap.size w wr) (fun i _ => 0)
  case atStart => exact ⟨rfl, Below.refl _ _⟩
  case round =>
    obtain ⟨rfl, BX⟩ := hrel
    go_wp2_with fail
    go_ret
    exact ⟨rfl, BX⟩
/-- What Net answers is such a list. -/
theorem cN_le {N : Nt} (hz : chE N = 0) : ∀ i, i ≤ N.ml → 1 ≤ cN N i ∧ cN N i ≤ 4096 := fun i hi => by
  have hall : whE N = 0 ∧ ∀ j, j < N.ml → fl N j = 0 := by
    unfold chE at hz
    by_cases h0 : whE N = 0
    · rw [if_pos h0] at hz; exact ⟨h0, frF_z hz⟩
    · rw [if_neg h0] at hz; exact absurd hz h0
  have := (sp_ok (wh_parts hall.1).2.1 (k := i) (fun j hj => hall.2 j (by omega))).1.2.2
  unfold cN
  omega
theorem Yl.lrr {W : World} {N : Nt} {G k : Nat} {gs : Nat → Nat} (h : Yl W N G gs k) (hk : k ≤ N.ml) (hz : chE N = 0) : Lrr W G 0 k (fun i => cN N (i + 1)) (fun i => yLo (N.lf i) (fanN N i) i) (fun i => yHi (N.lf i) (fanN N i) i) := fun i hi => by
  refine ⟨gs i, 0, cN N (i + 1), ?_, ?_, fun j hj => ?_⟩
  · rw [Nat.zero_add, World.rowIs.cell h.2 (by omega)]
    unfold lsf
    rw [if_pos hi]
  · have := cN_le hz (i + 1) (by omega)
    show cN N (i + 1) ≤ _
    omega
  · have := Rc.at (h.1 i hi).2.2 hj hj
    simpa using this
end Go.Proofs.Ytlocmnaojebogaa.Nn
/- NETWORKS: THE CHAPTER'S EXAMPLE. -/
namespace Go.Proofs.Ytlocmnaojebogaa.Nn
open Go.RowKit

def exA (B : Nat) : Ly := ⟨1, 1, 1, 2, 2, 1, 1, 1, 1, 1, 1, 1, some ⟨B + 4, 0, none⟩, 4, 4, some ⟨B + 5, 0, none⟩, 1, 1, none, 0, 0, fun j => [1, -1, -1, 1].getD j 0, fun _ i => [1, 1, 0, 1, 0, 1, 1, 1].getD i 0, fun _ => 0⟩
def exP : Ly := ⟨3, 0, 0, 2, 2, 1, 1, 0, 0, 0, 0, 0, none, 0, 0, none, 0, 0, none, 0, 0, fun _ => 0, fun _ _ => 0, fun _ => 0⟩
def exD (B : Nat) (x : Int) : Ly := ⟨2, 2, 2, 0, 0, 0, 0, 0, 0, 0, 0, 0, some ⟨B + 8, 0, none⟩, 8, 8, none, 0, 0, some ⟨B + 9, 0, none⟩, 2, 2, fun j => [1, 0, -1, 1, 0, 0, 0, 1].getD j 0, fun _ _ => 0, fun j => [x, -4].getD j 0⟩
def exN (B : Nat) (x : Int) : Nt := ⟨⟨#[110]⟩, 2, 2, 1, some ⟨B + 11, 0, none⟩, 3, 3, fun i => match i with | 0 => exA B | 1 => exP | _ => exD B x⟩
abbrev lcs (L : Ly) : List Value := [.int .i64 L.kd, .int .i64 L.wt, .int .i64 L.k, .int .i64 L.r, .int .i64 L.s, .int .i64 L.sy, .int .i64 L.sx, .int .i64 L.t, .int .i64 L.l, .int .i64 L.b, .int .i64 L.q, .int .i64 L.bd, .slice L.aw L.mw L.cw, .slice L.an L.mn L.cn, .slice L.ab L.mb L.cb]
abbrev i8c (l : List Int) : Array Value := (l.map (Value.int .i8)).toArray
abbrev i64c (l : List Int) : Array Value := (l.map (Value.int .i64)).toArray
abbrev exRow (B : Nat) : Array Value := #[.int .i64 (exA B).kd, .int .i64 (exA B).wt, .int .i64 (exA B).k, .int .i64 (exA B).r, .int .i64 (exA B).s, .int .i64 (exA B).sy, .int .i64 (exA B).sx, .int .i64 (exA B).t, .int .i64 (exA B).l, .int .i64 (exA B).b, .int .i64 (exA B).q, .int .i64 (exA B).bd, .slice (exA B).aw (exA B).mw (exA B).cw, .slice (exA B).an (exA B).mn (exA B).cn, .slice (exA B).ab (exA B).mb (exA B).cb, .int .i64 exP.kd, .int .i64 exP.wt, .int .i64 exP.k, .int .i64 exP.r, .int .i64 exP.s, .int .i64 exP.sy, .int .i64 exP.sx, .int .i64 exP.t, .int .i64 exP.l, .int .i64 exP.b, .int .i64 exP.q, .int .i64 exP.bd, .slice exP.aw exP.mw exP.cw, .slice exP.an exP.mn exP.cn, .slice exP.ab exP.mb exP.cb, .int .i64 (exD B 3).kd, .int .i64 (exD B 3).wt, .int .i64 (exD B 3).k, .int .i64 (exD B 3).r, .int .i64 (exD B 3).s, .int .i64 (exD B 3).sy, .int .i64 (exD B 3).sx, .int .i64 (exD B 3).t, .int .i64 (exD B 3).l, .int .i64 (exD B 3).b, .int .i64 (exD B 3).q, .int .i64 (exD B 3).bd, .slice (exD B 3).aw (exD B 3).mw (exD B 3).cw, .slice (exD B 3).an (exD B 3).mn (exD B 3).cn, .slice (exD B 3).ab (exD B 3).mb (exD B 3).cb]
/-- The example's lists lie in memory. -/
def ExB (W : World) (B : Nat) (x : Int) : Prop := W.heap[B + 4]? = some (.cells (i8c [1, -1, -1, 1]) 28) ∧ W.heap[B + 5]? = some (.cells (i64c [1, 1, 0, 1, 0, 1, 1, 1]) 151) ∧ W.heap[B + 8]? = some (.cells (i8c [1, 0, -1, 1, 0, 0, 0, 1]) 28) ∧ W.heap[B + 9]? = some (.cells (i64c [x, -4]) 2) ∧ W.heap[B + 11]? = some (.cells (exRow B) 50)
theorem lt_block {W : World} {b : Nat} {o : Obj} (h : W.heap[b]? = some o) : b < W.heap.size := (Array.getElem?_eq_some_iff.1 h).1
theorem keepb {W w' : World} (hb : Below W.heap.size W w') {b : Nat} {o : Obj} (h : W.heap[b]? = some o) : w'.heap[b]? = some o := (hb.block b (lt_block h)).trans h
theorem ExB.keep {W w' : World} {B : Nat} {x : Int} (h : ExB W B x) (hb : Below W.heap.size W w') : ExB w' B x := ⟨keepb hb h.1, keepb hb h.2.1, keepb hb h.2.2.1, keepb hb h.2.2.2.1, keepb hb h.2.2.2.2⟩
theorem bcl {W : World} {b : Nat} {cs : Array Value} {t : TypeId} (h : W.heap[b]? = some (.cells cs t)) {j : Nat} {v : Value} (e : cs[j]? = some v) : W.cell? ⟨b, j, none⟩ = some v := (block_cell h j).trans e
theorem four' {p : Nat → Prop} {i n : Nat} (h : i < n) (hp : ∀ j : Fin n, p j.1) : p i := hp ⟨i, h⟩
theorem lst_nil {W : World} {L : Ly} (h1 : L.mw = 0) (h2 : L.mn = 0) (h3 : L.mb = 0) : Lst W L := ⟨fun j hj => by omega, fun j hj => by omega, fun j hj => by omega, by omega, by omega, by omega⟩
set_option maxRecDepth 10000 in
theorem exB_A {W : World} {B : Nat} {x : Int} (h : ExB W B x) : Lst W (exA B) := by
  refine ⟨fun j hj => ⟨B + 4, 0, rfl, ?_⟩, fun j hj => ⟨B + 5, 0, rfl, ?_⟩, fun j hj => absurd hj (Nat.not_lt_zero j), (show (4 : Nat) ≤ 9223372036854775807 by decide), (show (1 : Nat) ≤ 9223372036854775807 by decide), (show (0 : Nat) ≤ 9223372036854775807 by decide)⟩
  · change j < 4 at hj
    rcases (show j = 0 ∨ j = 1 ∨ j = 2 ∨ j = 3 by omega) with rfl | rfl | rfl | rfl <;> exact bcl h.1 rfl
  · change j < 1 at hj
    obtain rfl : j = 0 := by omega
    exact ⟨bcl h.2.1 rfl, bcl h.2.1 rfl, bcl h.2.1 rfl, bcl h.2.1 rfl, bcl h.2.1 rfl, bcl h.2.1 rfl, bcl h.2.1 rfl, bcl h.2.1 rfl⟩
set_option maxRecDepth 10000 in
theorem exB_D {W : World} {B : Nat} {x : Int} (h : ExB W B x) : Lst W (exD B x) := by
  refine ⟨fun j hj => ⟨B + 8, 0, rfl, ?_⟩, fun j hj => absurd hj (Nat.not_lt_zero j), fun j hj => ⟨B + 9, 0, rfl, ?_⟩, (show (8 : Nat) ≤ 9223372036854775807 by decide), (show (0 : Nat) ≤ 9223372036854775807 by decide), (show (2 : Nat) ≤ 9223372036854775807 by decide)⟩
  · change j < 8 at hj
    rcases (show j = 0 ∨ j = 1 ∨ j = 2 ∨ j = 3 ∨ j = 4 ∨ j = 5 ∨ j = 6 ∨ j = 7 by omega) with rfl | rfl | rfl | rfl | rfl | rfl | rfl | rfl <;> exact bcl h.2.2.1 rfl
  · change j < 2 at hj
    rcases (show j = 0 ∨ j = 1 by omega) with rfl | rfl <;> exact bcl h.2.2.2.1 rfl
set_option maxRecDepth 10000 in
theorem exW {W : World} {B : Nat} {x : Int} (h : ExB W B x) : NtW W (exN B x) := by
  refine ⟨fun i hi => ⟨B + 11, 0, rfl, ?_⟩, (show (3 : Nat) ≤ 9223372036854775807 by decide), (show (1 : Nat) ≤ 9223372036854775807 by decide)⟩
  change i < 3 at hi
  have hb := h.2.2.2.2
  rcases (show i = 0 ∨ i = 1 ∨ i = 2 by omega) with rfl | rfl | rfl
  · exact ⟨⟨bcl hb rfl, bcl hb rfl, bcl hb rfl, bcl hb rfl, bcl hb rfl, bcl hb rfl, bcl hb rfl, bcl hb rfl, bcl hb rfl, bcl hb rfl, bcl hb rfl, bcl hb rfl, bcl hb rfl, bcl hb rfl, bcl hb rfl⟩, exB_A h⟩
  · exact ⟨⟨bcl hb rfl, bcl hb rfl, bcl hb rfl, bcl hb rfl, bcl hb rfl, bcl hb rfl, bcl hb rfl, bcl hb rfl, bcl hb rfl, bcl hb rfl, bcl hb rfl, bcl hb rfl, bcl hb rfl, bcl hb rfl, bcl hb rfl⟩, lst_nil rfl rfl rfl⟩
  · exact ⟨⟨bcl hb rfl, bcl hb rfl, bcl hb rfl, bcl hb rfl, bcl hb rfl, bcl hb rfl, bcl hb rfl, bcl hb rfl, bcl hb rfl, bcl hb rfl, bcl hb rfl, bcl hb rfl, bcl hb rfl, bcl hb rfl, bcl hb rfl⟩, exB_D h⟩
set_option maxRecDepth 10000 in
theorem ex_ok (B : Nat) : chE (exN B 3) = 0 ∧ chA (exN B 3) = 0 := by
  have h0 : whE (exN B 3) = 0 := by kernel_rfl
  refine ch_ok h0 fun j hj => ?_
  change j < 3 at hj
  rcases (show j = 0 ∨ j = 1 ∨ j = 2 by omega) with rfl | rfl | rfl <;> kernel_rfl
set_option maxRecDepth 10000 in
theorem ex_no (B : Nat) : chE (exN B 2147483644) = 55 ∧ chA (exN B 2147483644) = 2 := by
  have h0 : whE (exN B 2147483644) = 0 := by kernel_rfl
  have h2 : fl (exN B 2147483644) 2 = 55 := by kernel_rfl
  have := ch_at h0 (k := 2) (show 2 < 3 by decide) (fun j hj => by rcases (show j = 0 ∨ j = 1 by omega) with rfl | rfl <;> kernel_rfl) (by rw [h2]; decide)
  rw [h2] at this
  exact this
end Go.Proofs.Ytlocmnaojebogaa.Nn
/- NETWORKS: THE CHAPTER'S EXAMPLE, MADE. -/
namespace Go.Proofs.Ytlocmnaojebogaa.Nn
open Go.RowKit

theorem new_at {W : World} {g : Nat} (hg : W.heap.size = g) (o : Obj) : (W.alloc o).heap[g]? = some o := by subst hg; exact new_block W o
theorem old_at {W : World} {g : Nat} {o' : Obj} (h : W.heap[g]? = some o') (o : Obj) : (W.alloc o).heap[g]? = some o' := (old_block W o (lt_block h)).trans h
theorem bfz {W : World} {b : Nat} {cs : Array Value} {t : TypeId} (h : W.heap[b]? = some (.cells cs t)) (j : Nat) : W.frozen? ⟨b, j, none⟩ = false := by simp [World.frozen?, h]
theorem ExB.exc {W w' : World} {B b : Nat} {x : Int} (h : ExB W B x) (hb : Exc b W w') (hne : b ≤ B) : ExB w' B x := ⟨(hb.2 _ (by omega)).trans h.1, (hb.2 _ (by omega)).trans h.2.1, (hb.2 _ (by omega)).trans h.2.2.1, (hb.2 _ (by omega)).trans h.2.2.2.1, (hb.2 _ (by omega)).trans h.2.2.2.2⟩
theorem row_of_block {W : World} {b : Nat} {c : Array Value} {t : TypeId} (h : W.heap[b]? = some (.cells c t)) : W.rowIs b t c.size (fun i => (c[i]?).getD undef) := ⟨c, h, rfl, fun i hi => by simp [hi]⟩
theorem gen_body {P : Program} {fn : Func} {R : Ending → World → Prop} {x : Exit} {a : Act} {W : World} (p : World → Prop) (hp : p W) (h : ∀ W', p W' → bodyPost P fn R x a W') : bodyPost P fn R x a W := h W hp
theorem net_cells {W : World} {g : Nat} {t : TypeId} {f : Nat → Value} {a b c d e : Value} (h : W.rowIs g t 5 f) : (((((W.setCell ⟨g, 0, none⟩ a).setCell ⟨g, 1, none⟩ b).setCell ⟨g, 2, none⟩ c).setCell ⟨g, 3, none⟩ d).setCell ⟨g, 4, none⟩ e).rowIs g t 5 (fun j => match j with | 0 => a | 1 => b | 2 => c | 3 => d | _ => e) :=
  (((((h.set 0 a).set 1 b).set 2 c).set 3 d).set 4 e).congr fun i hi => by
    rcases (show i = 0 ∨ i = 1 ∨ i = 2 ∨ i = 3 ∨ i = 4 by omega) with rfl | rfl | rfl | rfl | rfl <;> rfl
abbrev netZ : Obj := .cells #[.string ⟨#[]⟩, .int .i64 0, .int .i64 0, .int .i64 0, .slice none 0 0] 45
abbrev layO (L : Ly) : Obj := .cells #[.int .i64 L.kd, .int .i64 L.wt, .int .i64 L.k, .int .i64 L.r, .int .i64 L.s, .int .i64 L.sy, .int .i64 L.sx, .int .i64 L.t, .int .i64 L.l, .int .i64 L.b, .int .i64 L.q, .int .i64 L.bd, .slice L.aw L.mw L.cw, .slice L.an L.mn L.cn, .slice L.ab L.mb L.cb] 50
abbrev row3 (LA LB LC : Ly) : Array Value := #[.int .i64 LA.kd, .int .i64 LA.wt, .int .i64 LA.k, .int .i64 LA.r, .int .i64 LA.s, .int .i64 LA.sy, .int .i64 LA.sx, .int .i64 LA.t, .int .i64 LA.l, .int .i64 LA.b, .int .i64 LA.q, .int .i64 LA.bd, .slice LA.aw LA.mw LA.cw, .slice LA.an LA.mn LA.cn, .slice LA.ab LA.mb LA.cb, .int .i64 LB.kd, .int .i64 LB.wt, .int .i64 LB.k, .int .i64 LB.r, .int .i64 LB.s, .int .i64 LB.sy, .int .i64 LB.sx, .int .i64 LB.t, .int .i64 LB.l, .int .i64 LB.b, .int .i64 LB.q, .int .i64 LB.bd, .slice LB.aw LB.mw LB.cw, .slice LB.an LB.mn LB.cn, .slice LB.ab LB.mb LB.cb, .int .i64 LC.kd, .int .i64 LC.wt, .int .i64 LC.k, .int .i64 LC.r, .int .i64 LC.s, .int .i64 LC.sy, .int .i64 LC.sx, .int .i64 LC.t, .int .i64 LC.l, .int .i64 LC.b, .int .i64 LC.q, .int .i64 LC.bd, .slice LC.aw LC.mw LC.cw, .slice LC.an LC.mn LC.cn, .slice LC.ab LC.mb LC.cb]
end Go.Proofs.Ytlocmnaojebogaa.Nn
/- BOUND: WHAT EVERY STATEMENT ASKS AHEAD. -/
namespace Go.Proofs.Ytlocmnaojebogaa.Nn
open Go.RowKit

def tiL (B : Nat) : Ly := ⟨2, 2, 2, 0, 0, 0, 0, 0, 0, 0, 0, 0, some ⟨B + 1, 0, none⟩, 6, 6, none, 0, 0, some ⟨B + 2, 0, none⟩, 2, 2, fun j => [1, 0, -1, 1, 1, 1].getD j 0, fun _ _ => 0, fun j => [5, -5].getD j 0⟩
def tiN (B : Nat) : Nt := ⟨⟨#[116, 105, 110, 121]⟩, 1, 1, 3, some ⟨B + 3, 0, none⟩, 1, 1, fun _ => tiL B⟩
/-- Its lists lie in memory. -/
def TiB (W : World) (B : Nat) : Prop := W.heap[B + 1]? = some (.cells (i8c [1, 0, -1, 1, 1, 1]) 28) ∧ W.heap[B + 2]? = some (.cells (i64c [5, -5]) 2) ∧ W.heap[B + 3]? = some (layO (tiL B))
theorem TiB.keep {W w' : World} {B : Nat} (h : TiB W B) (hb : Below W.heap.size W w') : TiB w' B := ⟨keepb hb h.1, keepb hb h.2.1, keepb hb h.2.2⟩
set_option maxRecDepth 10000 in
theorem tiW {W : World} {B : Nat} (h : TiB W B) : NtW W (tiN B) := by
  refine ⟨fun i hi => ⟨B + 3, 0, rfl, ?_⟩, (show (1 : Nat) ≤ 9223372036854775807 by decide), (show (4 : Nat) ≤ 9223372036854775807 by decide)⟩
  change i < 1 at hi
  have hb := h.2.2
  obtain rfl : i = 0 := by omega
  refine ⟨⟨bcl hb rfl, bcl hb rfl, bcl hb rfl, bcl hb rfl, bcl hb rfl, bcl hb rfl, bcl hb rfl, bcl hb rfl, bcl hb rfl, bcl hb rfl, bcl hb rfl, bcl hb rfl, bcl hb rfl, bcl hb rfl, bcl hb rfl⟩, ⟨fun j hj => ⟨B + 1, 0, rfl, ?_⟩, fun j hj => absurd hj (Nat.not_lt_zero j), fun j hj => ⟨B + 2, 0, rfl, ?_⟩, (show (6 : Nat) ≤ 9223372036854775807 by decide), (show (0 : Nat) ≤ 9223372036854775807 by decide), (show (2 : Nat) ≤ 9223372036854775807 by decide)⟩⟩
  · change j < 6 at hj
    rcases (show j = 0 ∨ j = 1 ∨ j = 2 ∨ j = 3 ∨ j = 4 ∨ j = 5 by omega) with rfl | rfl | rfl | rfl | rfl | rfl <;> exact bcl h.1 rfl
  · change j < 2 at hj
    rcases (show j = 0 ∨ j = 1 by omega) with rfl | rfl <;> exact bcl h.2.1 rfl
set_option maxRecDepth 10000 in
theorem ti_ok (B : Nat) : chE (tiN B) = 0 ∧ chA (tiN B) = 0 := by
  have h0 : whE (tiN B) = 0 := by kernel_rfl
  refine ch_ok h0 fun j hj => ?_
  change j < 1 at hj
  obtain rfl : j = 0 := by omega
  kernel_rfl
def tiF (_ j : Nat) : Int := [-250, -389].getD j 0
def tiH (_ j : Nat) : Int := [260, 376].getD j 0
set_option maxRecDepth 10000 in
theorem ti_r (B : Nat) : cN (tiN B) 1 = 2 ∧ ∀ j, j < 2 → yLo (tiL B) (fanN (tiN B) 0) 0 j = tiF 0 j ∧ yHi (tiL B) (fanN (tiN B) 0) 0 j = tiH 0 j := by
  refine ⟨by kernel_rfl, fun j hj => ?_⟩
  rcases (show j = 0 ∨ j = 1 by omega) with rfl | rfl <;> exact ⟨by kernel_rfl, by kernel_rfl⟩
def emN : Nt := ⟨⟨#[]⟩, 0, 0, 0, none, 0, 0, fun _ => tiL 0⟩
theorem emW (W : World) : NtW W emN := ⟨fun i hi => absurd hi (Nat.not_lt_zero i), (show (0 : Nat) ≤ 9223372036854775807 by decide), (show (0 : Nat) ≤ 9223372036854775807 by decide)⟩
theorem em_no : chE emN = 50 ∧ chA emN = -1 := ch_whole (by decide)
set_option maxHeartbeats 1600000 in
set_option maxRecDepth 100000 in
theorem tiny_any (w : World) : Calls Try.prog 24 #[] w fun e w' => e = .returned (ntv (tiN w.heap.size)) ∧ TiB w' w.heap.size ∧ Below w.heap.size w w' := by
  obtain ⟨B, hB⟩ : ∃ B, w.heap.size = B := ⟨_, rfl⟩
  go_enter Try.func24, Try.ntmps24
  go_wp2_with fail
  refine bodyPost_ret (v := ntv (tiN B)) (by simp [results, Try.results24, go_sem, tiN, hB]) rfl ⟨by rw [hB], ?_, by repeat (first | (with_reducible exact Below.refl _ _) | (with_reducible refine bl_alloc ?_ _) | (with_reducible refine Below.drew ?_) | (with_reducible refine bl_drewN ?_ _) | (with_reducible refine bl_set ?_ (by omega) _) | (with_reducible refine bl_step ?_ (by assumption)))⟩
  rw [hB]
  exact ⟨old_at (old_at (new_at (by simp [hB]) _) _) _, old_at (new_at (by simp [hB]) _) _, new_at (by simp [hB]) _⟩
abbrev bA (g : Nat) : Bt := ⟨4, some ⟨g, 0, none⟩, 1, 1, 3⟩
abbrev bB (g : Nat) : Bt := ⟨4, some ⟨g, 0, none⟩, 1, 1, 7⟩
theorem bA_rw {W : World} {g : Nat} (h : W.heap[g]? = some (.cells #[.int .u64 3] 98)) : Rw W (bA g) := ⟨(show 3 < 2 ^ (64 * 1) by decide), (show (1 : Nat) ≤ 9223372036854775807 by decide), fun k hk => ⟨g, 0, rfl, by
  have hk' : k < 1 := hk
  obtain rfl : k = 0 := by omega
  exact bcl h (by simp [wf, wd])⟩⟩
theorem bB_rw {W : World} {g : Nat} (h : W.heap[g]? = some (.cells #[.int .u64 7] 98)) : Rw W (bB g) := ⟨(show 7 < 2 ^ (64 * 1) by decide), (show (1 : Nat) ≤ 9223372036854775807 by decide), fun k hk => ⟨g, 0, rfl, by
  have hk' : k < 1 := hk
  obtain rfl : k = 0 := by omega
  exact bcl h (by simp [wf, wd])⟩⟩
set_option maxRecDepth 100000 in
theorem bAB (g h : Nat) : (roE (bA g) (bB h) 0 5 = 0 ∧ roL (bA g) (bB h) 0 5 = -5 ∧ roH (bA g) (bB h) 0 5 = 10) ∧ roE (bA g) (bB h) 2 1 = 1 ∧ roL (bA g) (bB h) 2 1 = 0 ∧ roH (bA g) (bB h) 2 1 = 0 := by
  refine ⟨⟨by kernel_rfl, by kernel_rfl, by kernel_rfl⟩, by kernel_rfl, by kernel_rfl, by kernel_rfl⟩
set_option maxHeartbeats 1600000 in
set_option maxRecDepth 100000 in
theorem obegun_any (w : World) : Calls Try.prog 8 #[] w fun e w' => e = .returned (.bool true) ∧ Below w.heap.size w w' := by
  obtain ⟨b, hb0⟩ : ∃ b, w.heap.size = b := ⟨_, rfl⟩
  go_enter Try.func8, Try.ntmps8
  go_upto_region 2 with fail
  refine gen_world (fun X => Below w.heap.size w X ∧ X.heap[b]? = some (.cells #[.int .u64 3] 98) ∧ X.heap[b + 1]? = some (.cells #[.int .u64 7] 98) ∧ X.rowIs (b + 2) 34 4 (qf (bA b) (bB (b + 1)))) ⟨by repeat (first | (with_reducible exact Below.refl _ _) | (with_reducible refine bl_alloc ?_ _) | (with_reducible refine Below.drew ?_) | (with_reducible refine bl_drewN ?_ _) | (with_reducible refine bl_set ?_ (by omega) _) | (with_reducible refine bl_step ?_ (by assumption))), old_at (old_at (new_at (by simp [hb0]) _) _) _, old_at (new_at (by simp [hb0]) _) _, by have := q_new ((w.alloc (.cells #[.int .u64 3] 98)).alloc (.cells #[.int .u64 7] 98)) (bA b) (bB (b + 1)) 34; rw [show ((w.alloc (.cells #[.int .u64 3] 98)).alloc (.cells #[.int .u64 7] 98)).heap.size = b + 2 by simp [hb0]] at this; exact this⟩ ?_
  rintro X ⟨BX, h3, h7, RX⟩
  have C1 := brow_any (bA b) (bB (b + 1)) 0 5 X (bA_rw h3) (bB_rw h7)
  rw [(bAB b (b + 1)).1.1, (bAB b (b + 1)).1.2.1, (bAB b (b + 1)).1.2.2] at C1
  have a0 := q0 RX
  have a1 := q1 RX
  have a2 := q2 RX
  have a3 := q3 RX
  go_wp2_with fail
  refine C1.mono ?_
  rintro e x1 ⟨rfl, hb⟩
  replace BX := bl_step BX hb
  replace h3 := keepb hb h3
  replace h7 := keepb hb h7
  replace RX := World.rowIs.of_block RX (hb.block _ RX.lt)
  clear hb C1 a0 a1 a2 a3 X
  obtain ⟨c, hc⟩ : ∃ c, x1.heap.size = c := ⟨_, rfl⟩
  go_upto_region 3 with fail
  refine gen_world (fun X => Below w.heap.size w X ∧ X.heap[b]? = some (.cells #[.int .u64 3] 98) ∧ X.heap[b + 1]? = some (.cells #[.int .u64 7] 98) ∧ X.rowIs (b + 2) 34 4 (qf (bA b) (bB (b + 1))) ∧ X.rowIs c 25 2 (duf (-5) 10)) ⟨by repeat (first | (with_reducible exact Below.refl _ _) | (with_reducible refine bl_alloc ?_ _) | (with_reducible refine Below.drew ?_) | (with_reducible refine bl_drewN ?_ _) | (with_reducible refine bl_set ?_ (by omega) _) | (with_reducible refine bl_step ?_ (by assumption))), old_at h3 _, old_at h7 _, RX.alloc _, by rw [← hc]; exact du_new _ _ _ _⟩ ?_
  clear BX h3 h7 RX
  rintro X ⟨BX, h3, h7, RX, RC⟩
  have C1 := brow_any (bA b) (bB (b + 1)) 2 1 X (bA_rw h3) (bB_rw h7)
  rw [(bAB b (b + 1)).2.1, (bAB b (b + 1)).2.2.1, (bAB b (b + 1)).2.2.2] at C1
  have a0 := q0 RX
  have a1 := q1 RX
  have a2 := q2 RX
  have a3 := q3 RX
  go_wp2_with fail
  refine C1.mono ?_
  rintro e x2 ⟨rfl, hb⟩
  replace BX := bl_step BX hb
  replace RC := World.rowIs.of_block RC (hb.block _ RC.lt)
  clear hb C1 a0 a1 a2 a3 h3 h7 RX X
  go_upto_region 4 with fail
  refine gen_world (fun X => Below w.heap.size w X ∧ X.rowIs c 25 2 (duf (-5) 10)) ⟨by repeat (first | (with_reducible exact Below.refl _ _) | (with_reducible refine bl_alloc ?_ _) | (with_reducible refine Below.drew ?_) | (with_reducible refine bl_drewN ?_ _) | (with_reducible refine bl_set ?_ (by omega) _) | (with_reducible refine bl_step ?_ (by assumption))), RC.alloc _⟩ ?_
  clear BX RC
  rintro X ⟨BX, RC⟩
  go_wp2_with fail
  refine (tiny_any X).mono ?_
  rintro e x3 ⟨rfl, TB, hb⟩
  replace BX := bl_step BX hb
  replace RC := World.rowIs.of_block RC (hb.block _ RC.lt)
  clear hb
  generalize X.heap.size = B at *
  have C2 := bnet_any (tiN B) x3 (tiW TB) (fun i hi => Nat.le_refl 6)
  rw [(ti_ok B).1, (ti_ok B).2] at C2
  go_wp2_with fail
  refine C2.mono ?_
  rintro e x4 ⟨v, rfl, hb, hv⟩
  obtain ⟨G, gs, -, rfl, YL⟩ := hv.2 (ti_ok B).1
  replace BX := bl_step BX hb
  replace RC := World.rowIs.of_block RC (hb.block _ RC.lt)
  have LR : Lrr x4 G 0 1 (fun _ => 2) tiF tiH := fun i hi => by
    obtain rfl : i = 0 := by omega
    obtain ⟨g', o', cp, e1, e2, e3⟩ := YL.lrr (k := (tiN B).ml) (Nat.le_refl _) (ti_ok B).1 0 (show 0 < 1 by decide)
    have t := ti_r B
    refine ⟨g', o', cp, ?_, (show (2 : Nat) ≤ 9223372036854775807 by decide), fun j hj => ?_⟩
    · rw [e1]; congr 2
    · have := e3 j (by show j < cN (tiN B) 1; rw [t.1]; exact hj)
      rw [← (t.2 j hj).1, ← (t.2 j hj).2]
      exact this
  have HLR := hid1 LR
  clear hb hv YL LR C2 TB
  have eml : (tiN B).ml = 1 := rfl
  obtain ⟨d, hd⟩ : ∃ d, x4.heap.size = d := ⟨_, rfl⟩
  go_upto_region 6 with fail
  refine gen_world (fun X => Below w.heap.size w X ∧ X.rowIs c 25 2 (duf (-5) 10) ∧ Lrr X G 0 1 (fun _ => 2) tiF tiH ∧ Lrr X (d + 1) 0 1 (fun _ => 2) tiF tiH) ⟨by repeat (first | (with_reducible exact Below.refl _ _) | (with_reducible refine bl_alloc ?_ _) | (with_reducible refine Below.drew ?_) | (with_reducible refine bl_drewN ?_ _) | (with_reducible refine bl_set ?_ (by omega) _) | (with_reducible refine bl_step ?_ (by assumption))), (RC.alloc _).alloc _, HLR.out.keep (bl_alloc (bl_alloc (Below.refl _ _) _) _), fun i hi => by
    obtain rfl : i = 0 := by omega
    have q1 : ((x4.alloc (.cells #[.int .i64 (-250), .int .i64 260, .int .i64 (-389), .int .i64 376] 25)).alloc (.cells #[.slice (some ⟨d, 0, none⟩) 2 2] 55)).heap[d]? = some (.cells #[.int .i64 (-250), .int .i64 260, .int .i64 (-389), .int .i64 376] 25) := old_at (new_at hd _) _
    have q2 : ((x4.alloc (.cells #[.int .i64 (-250), .int .i64 260, .int .i64 (-389), .int .i64 376] 25)).alloc (.cells #[.slice (some ⟨d, 0, none⟩) 2 2] 55)).heap[d + 1]? = some (.cells #[.slice (some ⟨d, 0, none⟩) 2 2] 55) := new_at (by simp [hd]) _
    refine ⟨d, 0, 2, bcl q2 rfl, (show (2 : Nat) ≤ 9223372036854775807 by decide), fun j hj => ?_⟩
    have hj' : j < 2 := hj
    rcases (show j = 0 ∨ j = 1 by omega) with rfl | rfl <;> exact ⟨bcl q1 rfl, bcl q1 rfl⟩⟩ ?_
  clear BX RC HLR
  rintro X ⟨BX, RC, L1, L2⟩
  have C2 := bnet_any emN X (emW X) (fun i hi => absurd hi (Nat.not_lt_zero i))
  rw [em_no.1, em_no.2] at C2
  have HEM : Hid (¬ chE emN = 0) := hid1 (by rw [em_no.1]; decide)
  go_wp2_with fail
  refine C2.mono ?_
  rintro e x5 ⟨v, rfl, hb, hv⟩
  obtain rfl := hv.1 HEM.out
  replace BX := bl_step BX hb
  replace RC := World.rowIs.of_block RC (hb.block _ RC.lt)
  have CE := eqR_same 1 (by decide) (fun _ => 2) tiF tiH G 0 (d + 1) 0 1 1 x5 (L1.keep hb) (L2.keep hb)
  clear hb hv L1 L2 C2
  have c0 := du0 RC
  have c1 := du1 RC
  go_wp2_with fail
  refine CE.mono ?_
  rintro e x6 ⟨rfl, hb⟩
  replace BX := bl_step BX hb
  go_wp2_with fail
  go_ret
  exact ⟨rfl, BX⟩
end Go.Proofs.Ytlocmnaojebogaa.Nn
