import Derived.Test.YtnhhcdkejknnmaaNO6
import Derived.BigQuiet
import Derived.Test.YtnhhcdkejknnmaaNP5
import Derived.Test.YtnhhcdkejknnmaaOB1
import Derived.Test.YtnhhcdkejknnmaaDW7
import Derived.Deep.AppendLies
import Derived.Laws.AppendOwnNone
import Derived.WalkLawsBesides
/- Lists of lists of reaches that are alike; the network tiny. -/
namespace Go.Proofs.Ytnhhcdkejknnmaa.Nn
open Go.RowKit

/-- A list of reaches in memory. -/
def Lr1 (W : World) (g o m : Nat) (f h : Nat → Int) : Prop := ∀ j, j < m → W.cell? ⟨g, o + j * 2, none⟩ = some (.int .i64 (f j)) ∧ W.cell? ⟨g, o + j * 2 + 1, none⟩ = some (.int .i64 (h j))
theorem Lr1.keep {W X : World} {g o m : Nat} {f h : Nat → Int} (r : Lr1 W g o m f h) (hb : Below W.heap.size W X) : Lr1 X g o m f h := fun j hj => ⟨keepc hb (r j hj).1, keepc hb (r j hj).2⟩
/-- A list of lists of reaches in memory. -/
def Lrr (W : World) (g o m : Nat) (C : Nat → Nat) (f h : Nat → Nat → Int) : Prop := ∀ i, i < m → ∃ g' o' cp, W.cell? ⟨g, o + i, none⟩ = some (.slice (some ⟨g', o', none⟩) (C i) cp) ∧ C i ≤ 9223372036854775807 ∧ Lr1 W g' o' (C i) (f i) (h i)
theorem Lrr.keep {W X : World} {g o m : Nat} {C : Nat → Nat} {f h : Nat → Nat → Int} (r : Lrr W g o m C f h) (hb : Below W.heap.size W X) : Lrr X g o m C f h := fun i hi => by
  obtain ⟨g', o', cp, c, hc, hr⟩ := r i hi
  exact ⟨g', o', cp, keepc hb c, hc, hr.keep hb⟩
set_option maxHeartbeats 3200000 in
set_option maxRecDepth 100000 in
theorem eqR_same (m : Nat) (hm : m ≤ 9223372036854775807) (C : Nat → Nat) (f h : Nat → Nat → Int) (g o g2 o2 : Nat) (ca cb : Nat) (w : World) (hA : Lrr w g o m C f h) (hB : Lrr w g2 o2 m C f h) :
    Calls Try.prog 20 #[.slice (some ⟨g, o, none⟩) m ca, .slice (some ⟨g2, o2, none⟩) m cb] w fun e w' => e = .returned (.bool true) ∧ Below w.heap.size w w' := by
  have HA := hid1 hA
  have HB := hid1 hB
  clear hA hB
  go_enter Try.func20, Try.ntmps20
  go_wp2_with fail
  go_loopw [5] (fun i wr => ∃ k : Nat, k ≤ m ∧ i = .int .i64 k ∧ Below w.heap.size w wr) (fun i _ => m - (intOf i).toNat)
  case atStart => exact ⟨0, Nat.zero_le _, rfl, Below.refl _ _⟩
  case round =>
    obtain ⟨k, hk, rfl, BX⟩ := hrel
    by_cases hlt : k < m
    · obtain ⟨ga, oa, cpa, ca', hC, ra⟩ := (HA.out.keep BX) k hlt
      obtain ⟨gb, ob, cpb, cb', -, rb⟩ := (HB.out.keep BX) k hlt
      have ik : (k : Int) < (m : Nat) := by omega
      have ik0 : (0 : Int) ≤ (k : Int) := by omega
      have RA := hid1 (And.intro ca' ra)
      have RB := hid1 (And.intro cb' rb)
      clear ra rb
      generalize C k = c at *
      generalize f k = fk at *
      generalize h k = fh at *
      have HBX := hid1 BX
      clear BX
      go_upto_region 6 with fail
      go_quiet (fail)
      go_wp2_with fail
      clear ca' cb'
      go_loopw [6] (fun i wy => ∃ j : Nat, j ≤ c ∧ i = .int .i64 j ∧ Below wr.heap.size wr wy) (fun i _ => c - (intOf i).toNat)
      case atStart => exact ⟨0, Nat.zero_le _, rfl, by repeat (first | (with_reducible exact Below.refl _ _) | (with_reducible refine bl_alloc ?_ _) | (with_reducible refine Below.drew ?_) | (with_reducible refine bl_drewN ?_ _) | (with_reducible refine bl_set ?_ (by omega) _) | (with_reducible refine bl_step ?_ (by assumption)))⟩
      case round =>
        obtain ⟨j, hj, rfl, BY⟩ := hrel
        have ca' := keepc BY RA.out.1
        have ij0 : (0 : Int) ≤ (j : Int) := by omega
        by_cases hjl : j < c
        · have ij : (j : Int) < (c : Nat) := by omega
          have cb' := keepc BY RB.out.1
          obtain ⟨x0, x1⟩ := (RA.out.2.keep BY) j hjl
          obtain ⟨y0, y1⟩ := (RB.out.2.keep BY) j hjl
          generalize fk j = x at *
          generalize fh j = y at *
          have HBY := hid1 BY
          clear BY
          go_upto_region 11 with fail
          go_quiet (fail)
          go_wp2_with fail
          exact ⟨⟨j + 1, by omega, by go_num, by have := HBY.out; repeat (first | (with_reducible exact Below.refl _ _) | (with_reducible refine bl_alloc ?_ _) | (with_reducible refine Below.drew ?_) | (with_reducible refine bl_drewN ?_ _) | (with_reducible refine bl_set ?_ (by omega) _) | (with_reducible refine bl_step ?_ (by assumption)))⟩, by simp [intOf]; omega⟩
        · have hjN : j = c := by omega
          go_wp2_with fail
          exact ⟨⟨k + 1, by omega, by go_num, bl_step HBX.out BY⟩, by simp [intOf]; omega⟩
    · have hkN : k = m := by omega
      subst hkN
      go_wp2_with fail
      go_ret
      exact ⟨rfl, BX⟩
set_option maxHeartbeats 800000 in
set_option maxRecDepth 100000 in
theorem eqR_nil (ao bo : Option Addr) (ca cb : Nat) (w : World) :
    Calls Try.prog 20 #[.slice ao 0 ca, .slice bo 0 cb] w fun e w' => e = .returned (.bool true) ∧ Below w.heap.size w w' := by
  go_enter Try.func20, Try.ntmps20
  go_wp2_with fail
  go_loopw [5] (fun i wr => i = .int .i64 0 ∧ Below w.heap.size w wr) (fun i _ => 0)
  case atStart => exact ⟨rfl, Below.refl _ _⟩
  case round =>
    obtain ⟨rfl, BX⟩ := hrel
    go_wp2_with fail
    go_ret
    exact ⟨rfl, BX⟩
/-- What Net answers is such a list. -/
theorem cN_le {N : Nt} (hz : chE N = 0) : ∀ i, i ≤ N.ml → 1 ≤ cN N i ∧ cN N i ≤ 4096 := fun i hi => by
  have hall : whE N = 0 ∧ ∀ j, j < N.ml → fl N j = 0 := by
    unfold chE at hz
    by_cases h0 : whE N = 0
    · rw [if_pos h0] at hz; exact ⟨h0, frF_z hz⟩
    · rw [if_neg h0] at hz; exact absurd hz h0
  have := (sp_ok (wh_parts hall.1).2.1 (k := i) (fun j hj => hall.2 j (by omega))).1.2.2
  unfold cN
  omega
theorem Yl.lrr {W : World} {N : Nt} {G k : Nat} {gs : Nat → Nat} (h : Yl W N G gs k) (hk : k ≤ N.ml) (hz : chE N = 0) : Lrr W G 0 k (fun i => cN N (i + 1)) (fun i => yLo (N.lf i) (fanN N i) i) (fun i => yHi (N.lf i) (fanN N i) i) := fun i hi => by
  refine ⟨gs i, 0, cN N (i + 1), ?_, ?_, fun j hj => ?_⟩
  · rw [Nat.zero_add, World.rowIs.cell h.2 (by omega)]
    unfold lsf
    rw [if_pos hi]
  · have := cN_le hz (i + 1) (by omega)
    show cN N (i + 1) ≤ _
    omega
  · have := Rc.at (h.1 i hi).2.2 hj hj
    simpa using this
end Go.Proofs.Ytnhhcdkejknnmaa.Nn
/- NETWORKS: THE CHAPTER'S EXAMPLE. -/
namespace Go.Proofs.Ytnhhcdkejknnmaa.Nn
open Go.RowKit

def exA (B : Nat) : Ly := ⟨1, 1, 1, 2, 2, 1, 1, 1, 1, 1, 1, 1, some ⟨B + 4, 0, none⟩, 4, 4, some ⟨B + 5, 0, none⟩, 1, 1, none, 0, 0, fun j => [1, -1, -1, 1].getD j 0, fun _ i => [1, 1, 0, 1, 0, 1, 1, 1].getD i 0, fun _ => 0⟩
def exP : Ly := ⟨3, 0, 0, 2, 2, 1, 1, 0, 0, 0, 0, 0, none, 0, 0, none, 0, 0, none, 0, 0, fun _ => 0, fun _ _ => 0, fun _ => 0⟩
def exD (B : Nat) (x : Int) : Ly := ⟨2, 2, 2, 0, 0, 0, 0, 0, 0, 0, 0, 0, some ⟨B + 8, 0, none⟩, 8, 8, none, 0, 0, some ⟨B + 9, 0, none⟩, 2, 2, fun j => [1, 0, -1, 1, 0, 0, 0, 1].getD j 0, fun _ _ => 0, fun j => [x, -4].getD j 0⟩
def exN (B : Nat) (x : Int) : Nt := ⟨⟨#[110]⟩, 2, 2, 1, some ⟨B + 11, 0, none⟩, 3, 3, fun i => match i with | 0 => exA B | 1 => exP | _ => exD B x⟩
abbrev lcs (L : Ly) : List Value := [.int .i64 L.kd, .int .i64 L.wt, .int .i64 L.k, .int .i64 L.r, .int .i64 L.s, .int .i64 L.sy, .int .i64 L.sx, .int .i64 L.t, .int .i64 L.l, .int .i64 L.b, .int .i64 L.q, .int .i64 L.bd, .slice L.aw L.mw L.cw, .slice L.an L.mn L.cn, .slice L.ab L.mb L.cb]
abbrev i8c (l : List Int) : Array Value := (l.map (Value.int .i8)).toArray
abbrev i64c (l : List Int) : Array Value := (l.map (Value.int .i64)).toArray
abbrev exRow (B : Nat) : Array Value := #[.int .i64 (exA B).kd, .int .i64 (exA B).wt, .int .i64 (exA B).k, .int .i64 (exA B).r, .int .i64 (exA B).s, .int .i64 (exA B).sy, .int .i64 (exA B).sx, .int .i64 (exA B).t, .int .i64 (exA B).l, .int .i64 (exA B).b, .int .i64 (exA B).q, .int .i64 (exA B).bd, .slice (exA B).aw (exA B).mw (exA B).cw, .slice (exA B).an (exA B).mn (exA B).cn, .slice (exA B).ab (exA B).mb (exA B).cb, .int .i64 exP.kd, .int .i64 exP.wt, .int .i64 exP.k, .int .i64 exP.r, .int .i64 exP.s, .int .i64 exP.sy, .int .i64 exP.sx, .int .i64 exP.t, .int .i64 exP.l, .int .i64 exP.b, .int .i64 exP.q, .int .i64 exP.bd, .slice exP.aw exP.mw exP.cw, .slice exP.an exP.mn exP.cn, .slice exP.ab exP.mb exP.cb, .int .i64 (exD B 3).kd, .int .i64 (exD B 3).wt, .int .i64 (exD B 3).k, .int .i64 (exD B 3).r, .int .i64 (exD B 3).s, .int .i64 (exD B 3).sy, .int .i64 (exD B 3).sx, .int .i64 (exD B 3).t, .int .i64 (exD B 3).l, .int .i64 (exD B 3).b, .int .i64 (exD B 3).q, .int .i64 (exD B 3).bd, .slice (exD B 3).aw (exD B 3).mw (exD B 3).cw, .slice (exD B 3).an (exD B 3).mn (exD B 3).cn, .slice (exD B 3).ab (exD B 3).mb (exD B 3).cb]
/-- The example's lists lie in memory. -/
def ExB (W : World) (B : Nat) (x : Int) : Prop := W.heap[B + 4]? = some (.cells (i8c [1, -1, -1, 1]) 61) ∧ W.heap[B + 5]? = some (.cells (i64c [1, 1, 0, 1, 0, 1, 1, 1]) 93) ∧ W.heap[B + 8]? = some (.cells (i8c [1, 0, -1, 1, 0, 0, 0, 1]) 61) ∧ W.heap[B + 9]? = some (.cells (i64c [x, -4]) 2) ∧ W.heap[B + 11]? = some (.cells (exRow B) 48)
theorem lt_block {W : World} {b : Nat} {o : Obj} (h : W.heap[b]? = some o) : b < W.heap.size := (Array.getElem?_eq_some_iff.1 h).1
theorem keepb {W w' : World} (hb : Below W.heap.size W w') {b : Nat} {o : Obj} (h : W.heap[b]? = some o) : w'.heap[b]? = some o := (hb.block b (lt_block h)).trans h
theorem ExB.keep {W w' : World} {B : Nat} {x : Int} (h : ExB W B x) (hb : Below W.heap.size W w') : ExB w' B x := ⟨keepb hb h.1, keepb hb h.2.1, keepb hb h.2.2.1, keepb hb h.2.2.2.1, keepb hb h.2.2.2.2⟩
theorem bcl {W : World} {b : Nat} {cs : Array Value} {t : TypeId} (h : W.heap[b]? = some (.cells cs t)) {j : Nat} {v : Value} (e : cs[j]? = some v) : W.cell? ⟨b, j, none⟩ = some v := (block_cell h j).trans e
theorem four' {p : Nat → Prop} {i n : Nat} (h : i < n) (hp : ∀ j : Fin n, p j.1) : p i := hp ⟨i, h⟩
theorem lst_nil {W : World} {L : Ly} (h1 : L.mw = 0) (h2 : L.mn = 0) (h3 : L.mb = 0) : Lst W L := ⟨fun j hj => by omega, fun j hj => by omega, fun j hj => by omega, by omega, by omega, by omega⟩
set_option maxRecDepth 10000 in
theorem exB_A {W : World} {B : Nat} {x : Int} (h : ExB W B x) : Lst W (exA B) := by
  refine ⟨fun j hj => ⟨B + 4, 0, rfl, ?_⟩, fun j hj => ⟨B + 5, 0, rfl, ?_⟩, fun j hj => absurd hj (Nat.not_lt_zero j), (show (4 : Nat) ≤ 9223372036854775807 by decide), (show (1 : Nat) ≤ 9223372036854775807 by decide), (show (0 : Nat) ≤ 9223372036854775807 by decide)⟩
  · change j < 4 at hj
    rcases (show j = 0 ∨ j = 1 ∨ j = 2 ∨ j = 3 by omega) with rfl | rfl | rfl | rfl <;> exact bcl h.1 rfl
  · change j < 1 at hj
    obtain rfl : j = 0 := by omega
    exact ⟨bcl h.2.1 rfl, bcl h.2.1 rfl, bcl h.2.1 rfl, bcl h.2.1 rfl, bcl h.2.1 rfl, bcl h.2.1 rfl, bcl h.2.1 rfl, bcl h.2.1 rfl⟩
set_option maxRecDepth 10000 in
theorem exB_D {W : World} {B : Nat} {x : Int} (h : ExB W B x) : Lst W (exD B x) := by
  refine ⟨fun j hj => ⟨B + 8, 0, rfl, ?_⟩, fun j hj => absurd hj (Nat.not_lt_zero j), fun j hj => ⟨B + 9, 0, rfl, ?_⟩, (show (8 : Nat) ≤ 9223372036854775807 by decide), (show (0 : Nat) ≤ 9223372036854775807 by decide), (show (2 : Nat) ≤ 9223372036854775807 by decide)⟩
  · change j < 8 at hj
    rcases (show j = 0 ∨ j = 1 ∨ j = 2 ∨ j = 3 ∨ j = 4 ∨ j = 5 ∨ j = 6 ∨ j = 7 by omega) with rfl | rfl | rfl | rfl | rfl | rfl | rfl | rfl <;> exact bcl h.2.2.1 rfl
  · change j < 2 at hj
    rcases (show j = 0 ∨ j = 1 by omega) with rfl | rfl <;> exact bcl h.2.2.2.1 rfl
set_option maxRecDepth 10000 in
theorem exW {W : World} {B : Nat} {x : Int} (h : ExB W B x) : NtW W (exN B x) := by
  refine ⟨fun i hi => ⟨B + 11, 0, rfl, ?_⟩, (show (3 : Nat) ≤ 9223372036854775807 by decide), (show (1 : Nat) ≤ 9223372036854775807 by decide)⟩
  change i < 3 at hi
  have hb := h.2.2.2.2
  rcases (show i = 0 ∨ i = 1 ∨ i = 2 by omega) with rfl | rfl | rfl
  · exact ⟨⟨bcl hb rfl, bcl hb rfl, bcl hb rfl, bcl hb rfl, bcl hb rfl, bcl hb rfl, bcl hb rfl, bcl hb rfl, bcl hb rfl, bcl hb rfl, bcl hb rfl, bcl hb rfl, bcl hb rfl, bcl hb rfl, bcl hb rfl⟩, exB_A h⟩
  · exact ⟨⟨bcl hb rfl, bcl hb rfl, bcl hb rfl, bcl hb rfl, bcl hb rfl, bcl hb rfl, bcl hb rfl, bcl hb rfl, bcl hb rfl, bcl hb rfl, bcl hb rfl, bcl hb rfl, bcl hb rfl, bcl hb rfl, bcl hb rfl⟩, lst_nil rfl rfl rfl⟩
  · exact ⟨⟨bcl hb rfl, bcl hb rfl, bcl hb rfl, bcl hb rfl, bcl hb rfl, bcl hb rfl, bcl hb rfl, bcl hb rfl, bcl hb rfl, bcl hb rfl, bcl hb rfl, bcl hb rfl, bcl hb rfl, bcl hb rfl, bcl hb rfl⟩, exB_D h⟩
set_option maxRecDepth 10000 in
theorem ex_ok (B : Nat) : chE (exN B 3) = 0 ∧ chA (exN B 3) = 0 := by
  have h0 : whE (exN B 3) = 0 := by kernel_rfl
  refine ch_ok h0 fun j hj => ?_
  change j < 3 at hj
  rcases (show j = 0 ∨ j = 1 ∨ j = 2 by omega) with rfl | rfl | rfl <;> kernel_rfl
set_option maxRecDepth 10000 in
theorem ex_no (B : Nat) : chE (exN B 2147483644) = 55 ∧ chA (exN B 2147483644) = 2 := by
  have h0 : whE (exN B 2147483644) = 0 := by kernel_rfl
  have h2 : fl (exN B 2147483644) 2 = 55 := by kernel_rfl
  have := ch_at h0 (k := 2) (show 2 < 3 by decide) (fun j hj => by rcases (show j = 0 ∨ j = 1 by omega) with rfl | rfl <;> kernel_rfl) (by rw [h2]; decide)
  rw [h2] at this
  exact this
end Go.Proofs.Ytnhhcdkejknnmaa.Nn
/- NETWORKS: THE CHAPTER'S EXAMPLE, MADE. -/
namespace Go.Proofs.Ytnhhcdkejknnmaa.Nn
open Go.RowKit

theorem new_at {W : World} {g : Nat} (hg : W.heap.size = g) (o : Obj) : (W.alloc o).heap[g]? = some o := by subst hg; exact new_block W o
theorem old_at {W : World} {g : Nat} {o' : Obj} (h : W.heap[g]? = some o') (o : Obj) : (W.alloc o).heap[g]? = some o' := (old_block W o (lt_block h)).trans h
theorem bfz {W : World} {b : Nat} {cs : Array Value} {t : TypeId} (h : W.heap[b]? = some (.cells cs t)) (j : Nat) : W.frozen? ⟨b, j, none⟩ = false := by simp [World.frozen?, h]
theorem ExB.exc {W w' : World} {B b : Nat} {x : Int} (h : ExB W B x) (hb : Exc b W w') (hne : b ≤ B) : ExB w' B x := ⟨(hb.2 _ (by omega)).trans h.1, (hb.2 _ (by omega)).trans h.2.1, (hb.2 _ (by omega)).trans h.2.2.1, (hb.2 _ (by omega)).trans h.2.2.2.1, (hb.2 _ (by omega)).trans h.2.2.2.2⟩
theorem row_of_block {W : World} {b : Nat} {c : Array Value} {t : TypeId} (h : W.heap[b]? = some (.cells c t)) : W.rowIs b t c.size (fun i => (c[i]?).getD undef) := ⟨c, h, rfl, fun i hi => by simp [hi]⟩
theorem gen_body {P : Program} {fn : Func} {R : Ending → World → Prop} {x : Exit} {a : Act} {W : World} (p : World → Prop) (hp : p W) (h : ∀ W', p W' → bodyPost P fn R x a W') : bodyPost P fn R x a W := h W hp
theorem net_cells {W : World} {g : Nat} {t : TypeId} {f : Nat → Value} {a b c d e : Value} (h : W.rowIs g t 5 f) : (((((W.setCell ⟨g, 0, none⟩ a).setCell ⟨g, 1, none⟩ b).setCell ⟨g, 2, none⟩ c).setCell ⟨g, 3, none⟩ d).setCell ⟨g, 4, none⟩ e).rowIs g t 5 (fun j => match j with | 0 => a | 1 => b | 2 => c | 3 => d | _ => e) :=
  (((((h.set 0 a).set 1 b).set 2 c).set 3 d).set 4 e).congr fun i hi => by
    rcases (show i = 0 ∨ i = 1 ∨ i = 2 ∨ i = 3 ∨ i = 4 by omega) with rfl | rfl | rfl | rfl | rfl <;> rfl
abbrev netZ : Obj := .cells #[.string ⟨#[]⟩, .int .i64 0, .int .i64 0, .int .i64 0, .slice none 0 0] 28
abbrev layO (L : Ly) : Obj := .cells #[.int .i64 L.kd, .int .i64 L.wt, .int .i64 L.k, .int .i64 L.r, .int .i64 L.s, .int .i64 L.sy, .int .i64 L.sx, .int .i64 L.t, .int .i64 L.l, .int .i64 L.b, .int .i64 L.q, .int .i64 L.bd, .slice L.aw L.mw L.cw, .slice L.an L.mn L.cn, .slice L.ab L.mb L.cb] 48
noncomputable def rgE : Code := (Try.f30.body.bind (regionOf 7)).getD .skip
abbrev row3 (LA LB LC : Ly) : Array Value := #[.int .i64 LA.kd, .int .i64 LA.wt, .int .i64 LA.k, .int .i64 LA.r, .int .i64 LA.s, .int .i64 LA.sy, .int .i64 LA.sx, .int .i64 LA.t, .int .i64 LA.l, .int .i64 LA.b, .int .i64 LA.q, .int .i64 LA.bd, .slice LA.aw LA.mw LA.cw, .slice LA.an LA.mn LA.cn, .slice LA.ab LA.mb LA.cb, .int .i64 LB.kd, .int .i64 LB.wt, .int .i64 LB.k, .int .i64 LB.r, .int .i64 LB.s, .int .i64 LB.sy, .int .i64 LB.sx, .int .i64 LB.t, .int .i64 LB.l, .int .i64 LB.b, .int .i64 LB.q, .int .i64 LB.bd, .slice LB.aw LB.mw LB.cw, .slice LB.an LB.mn LB.cn, .slice LB.ab LB.mb LB.cb, .int .i64 LC.kd, .int .i64 LC.wt, .int .i64 LC.k, .int .i64 LC.r, .int .i64 LC.s, .int .i64 LC.sy, .int .i64 LC.sx, .int .i64 LC.t, .int .i64 LC.l, .int .i64 LC.b, .int .i64 LC.q, .int .i64 LC.bd, .slice LC.aw LC.mw LC.cw, .slice LC.an LC.mn LC.cn, .slice LC.ab LC.mb LC.cb]
set_option maxHeartbeats 3200000 in
set_option maxRecDepth 100000 in
theorem ex_seven (u1 u2 u3 u7 u8 u9 u10 u11 u12 u13 u14 u15 u16 u17 u18 u19 u20 u21 u22 u23 u24 u25 u26 u27 u28 u29 : Value) (g ga gb gc : Nat) (LA LB LC : Ly) (Z : World) (Q : Exit → Act → World → Prop) (hA : Lp Z ga LA) (hB : Lp Z gb LB) (hC : Lp Z gc LC) (r0 : Z.heap[g]? = some netZ)
    (hQ : Hid (∀ X, Exc g Z X → X.rowIs g 28 5 (fun j => match j with | 0 => .string ⟨#[110]⟩ | 1 => .int .i64 2 | 2 => .int .i64 2 | 3 => .int .i64 1 | _ => .slice (some ⟨Z.heap.size, 0, none⟩) 3 3) → X.tape = Z.tape ∧ X.os = Z.os ∧ X.output = Z.output → Q .normal ⟨#[.pointer (some ⟨g, 0, none⟩), u1, u2, u3, .pointer (some ⟨ga, 0, none⟩), .pointer (some ⟨gb, 0, none⟩), .pointer (some ⟨gc, 0, none⟩), u7, u8, u9, u10, u11, u12, u13, u14, u15, u16, u17, u18, u19, u20, u21, u22, u23, .agg #[.int .i64 2, .int .i64 2, .int .i64 1], .agg #[.int .i64 LA.kd, .int .i64 LA.wt, .int .i64 LA.k, .int .i64 LA.r, .int .i64 LA.s, .int .i64 LA.sy, .int .i64 LA.sx, .int .i64 LA.t, .int .i64 LA.l, .int .i64 LA.b, .int .i64 LA.q, .int .i64 LA.bd, .slice LA.aw LA.mw LA.cw, .slice LA.an LA.mn LA.cn, .slice LA.ab LA.mb LA.cb], .agg #[.int .i64 LB.kd, .int .i64 LB.wt, .int .i64 LB.k, .int .i64 LB.r, .int .i64 LB.s, .int .i64 LB.sy, .int .i64 LB.sx, .int .i64 LB.t, .int .i64 LB.l, .int .i64 LB.b, .int .i64 LB.q, .int .i64 LB.bd, .slice LB.aw LB.mw LB.cw, .slice LB.an LB.mn LB.cn, .slice LB.ab LB.mb LB.cb], .agg #[.int .i64 LC.kd, .int .i64 LC.wt, .int .i64 LC.k, .int .i64 LC.r, .int .i64 LC.s, .int .i64 LC.sy, .int .i64 LC.sx, .int .i64 LC.t, .int .i64 LC.l, .int .i64 LC.b, .int .i64 LC.q, .int .i64 LC.bd, .slice LC.aw LC.mw LC.cw, .slice LC.an LC.mn LC.cn, .slice LC.ab LC.mb LC.cb], .slice (some ⟨Z.heap.size, 0, none⟩) 3 3, .agg #[.string ⟨#[110]⟩, .int .i64 2, .int .i64 2, .int .i64 1, .slice (some ⟨Z.heap.size, 0, none⟩) 3 3]], []⟩ (X.alloc (.cells (row3 LA LB LC) 48)))) :
    Code.wp Try.prog rgE Q ⟨#[.pointer (some ⟨g, 0, none⟩), u1, u2, u3, .pointer (some ⟨ga, 0, none⟩), .pointer (some ⟨gb, 0, none⟩), .pointer (some ⟨gc, 0, none⟩), u7, u8, u9, u10, u11, u12, u13, u14, u15, u16, u17, u18, u19, u20, u21, u22, u23, u24, u25, u26, u27, u28, u29], []⟩ Z := by
  have HR := hid1 (row_of_block r0)
  have hlt := lt_block r0
  have n0 := bcl r0 (j := 0) rfl; have n1 := bcl r0 (j := 1) rfl; have n2 := bcl r0 (j := 2) rfl; have n3 := bcl r0 (j := 3) rfl; have n4 := bcl r0 (j := 4) rfl
  have z0 := bfz r0 0; have z1 := bfz r0 1; have z2 := bfz r0 2; have z3 := bfz r0 3; have z4 := bfz r0 4
  clear r0
  obtain ⟨a0, a1, a2, a3, a4, a5, a6, a7, a8, a9, a10, a11, a12, a13, a14⟩ := hA
  obtain ⟨b0, b1, b2, b3, b4, b5, b6, b7, b8, b9, b10, b11, b12, b13, b14⟩ := hB
  obtain ⟨d0, d1, d2, d3, d4, d5, d6, d7, d8, d9, d10, d11, d12, d13, d14⟩ := hC
  conv => arg 2; whnf
  go_wp2_with fail
  exact hQ.out _ ((((((Exc.refl g Z).set _ _).set _ _).set _ _).set _ _).set _ _) (net_cells HR.out) ⟨rfl, rfl, rfl⟩
end Go.Proofs.Ytnhhcdkejknnmaa.Nn
/- bound.Row. -/
namespace Go.Proofs.Ytnhhcdkejknnmaa
open Go.RowKit

theorem pcO_and (A B : Nat) : ∀ n, pc (A &&& B) n ≤ pc B n
  | 0 => Nat.le_refl _
  | n + 1 => by
    have ih := pcO_and A B n
    simp only [pc]
    rw [Nat.testBit_and]
    cases A.testBit n <;> cases B.testBit n <;> simp <;> omega
set_option maxHeartbeats 800000 in
set_option maxRecDepth 100000 in
theorem ofRow_any (A B : Bt) (w : World) (hA : Rw w A) (hB : Rw w B) (ha : A.m ≤ 262144) (hb : B.m ≤ 262144) :
    Calls Try.prog 42 #[rwv A B] w fun e w' => e = .returned (duo (pc A.N (64 * A.m) : Nat) ((pc B.N (64 * B.m) : Nat) - (pc A.N (64 * A.m) : Nat))) ∧ Below w.heap.size w w' := by
  have p1 := pcO_bd (N := A.N) (Nat.le_refl A.m)
  have p2 := pcO_bd (N := B.N) (Nat.le_refl B.m)
  have CA := hid1 (fun W (h : Below w.heap.size w W) => bones_any A.ao A.m A.cap A.N W ha (hA.below h).2.2)
  have CB := hid1 (fun W (h : Below w.heap.size w W) => bones_any B.ao B.m B.cap B.N W hb (hB.below h).2.2)
  clear hA hB
  generalize pc A.N (64 * A.m) = P at *
  generalize pc B.N (64 * B.m) = Q at *
  go_enter Try.func42, Try.ntmps42
  go_wp2_with fail
  refine (CA.out _ (by repeat (first | (with_reducible exact Below.refl _ _) | (with_reducible refine bl_alloc ?_ _) | (with_reducible refine Below.drew ?_) | (with_reducible refine bl_drewN ?_ _) | (with_reducible refine bl_set ?_ (by omega) _) | (with_reducible refine bl_step ?_ (by assumption))))).mono ?_
  rintro e w1 ⟨rfl, rfl⟩
  go_wp2_with fail
  refine (CB.out _ (by repeat (first | (with_reducible exact Below.refl _ _) | (with_reducible refine bl_alloc ?_ _) | (with_reducible refine Below.drew ?_) | (with_reducible refine bl_drewN ?_ _) | (with_reducible refine bl_set ?_ (by omega) _) | (with_reducible refine bl_step ?_ (by assumption))))).mono ?_
  rintro e w1 ⟨rfl, rfl⟩
  go_wp2_with fail
  refine bodyPost_ret (v := duo (P : Nat) ((Q : Nat) - (P : Nat))) (by simp [results, Try.results42, go_sem]) rfl ⟨rfl, ?_⟩
  repeat (first | exact Below.refl _ _ | refine bl_alloc ?_ _ | refine Below.drew ?_ | refine bl_drewN ?_ _ | refine bl_set ?_ (by omega) _ | refine bl_step ?_ (by assumption))
/-- How many weights are plus; minus. -/
def rP (A : Bt) : Int := (pc A.N (64 * A.m) : Nat)
def rM (A B : Bt) : Int := (pc B.N (64 * B.m) : Nat) - (pc A.N (64 * A.m) : Nat)
def rL (A B : Bt) (lo hi : Int) : Int := rP A * lo - rM A B * hi
def rH (A B : Bt) (lo hi : Int) : Int := rP A * hi - rM A B * lo
/-- What Row tells. -/
def roE (A B : Bt) (lo hi : Int) : Int := if dck A B ≠ 0 then dck A B else if maR lo hi then (if maR (rL A B lo hi) (rH A B lo hi) then 0 else 55) else 1
def roL (A B : Bt) (lo hi : Int) : Int := if roE A B lo hi = 0 then rL A B lo hi else 0
def roH (A B : Bt) (lo hi : Int) : Int := if roE A B lo hi = 0 then rH A B lo hi else 0
theorem mulO {p x : Int} (hp : 0 ≤ p ∧ p ≤ 16777216) (hx : -2147483647 ≤ x ∧ x ≤ 2147483647) : -36028797018963968 ≤ p * x ∧ p * x ≤ 36028797018963968 := by
  have h1 : p * x ≤ 16777216 * 2147483647 := by
    by_cases h0 : 0 ≤ x
    · exact Int.le_trans (Int.mul_le_mul_of_nonneg_right hp.2 h0) (Int.mul_le_mul_of_nonneg_left hx.2 (by decide))
    · exact Int.le_trans (Int.mul_nonpos_of_nonneg_of_nonpos hp.1 (by omega)) (by decide)
  have h2 : p * (-x) ≤ 16777216 * 2147483647 := by
    by_cases h0 : 0 ≤ -x
    · exact Int.le_trans (Int.mul_le_mul_of_nonneg_right hp.2 h0) (Int.mul_le_mul_of_nonneg_left (by omega) (by decide))
    · exact Int.le_trans (Int.mul_nonpos_of_nonneg_of_nonpos hp.1 (by omega)) (by decide)
  rw [Int.mul_neg] at h2
  omega
theorem rB {A B : Bt} (h : dck A B = 0) : (0 ≤ rP A ∧ rP A ≤ 16777216) ∧ (0 ≤ rM A B ∧ rM A B ≤ 16777216) := by
  obtain ⟨n, e1, e2, hn, m1, m2, l1, l2, ha⟩ := dck_zero h
  unfold rP rM
  have q1 := pc_le B.N (64 * B.m)
  have a1 : pc A.N (64 * A.m) = pc A.N n := pc_above l1 (by rw [m1]; exact nw_le n)
  have a2 : pc B.N (64 * B.m) = pc B.N n := pc_above l2 (by rw [m2]; exact nw_le n)
  have a3 := pcO_and A.N B.N n
  rw [ha] at a3
  have a4 := pc_le A.N n
  have a5 := pc_le B.N n
  rw [a1, a2]
  omega
theorem dck_m {A B : Bt} (h : dck A B = 0) : A.m ≤ 262144 ∧ B.m ≤ 262144 := by
  obtain ⟨n, e1, e2, hn, m1, m2, l1, l2, ha⟩ := dck_zero h
  have := nw_bd hn
  rw [m1, m2]; unfold nw at *; omega
theorem kpO {V Y : World} {b2 b3 t2 t3 : Nat} {A B : Bt} {lo hi : Int} (h2 : V.rowIs b2 t2 4 (qf A B)) (h3 : V.rowIs b3 t3 2 (duf lo hi)) (hb : Below V.heap.size V Y) :
    (Y.cell? ⟨b2, 0, none⟩ = some (.int .i64 A.n) ∧ Y.cell? ⟨b2, 1, none⟩ = some (.slice A.ao A.m A.cap) ∧ Y.cell? ⟨b2, 2, none⟩ = some (.int .i64 B.n) ∧ Y.cell? ⟨b2, 3, none⟩ = some (.slice B.ao B.m B.cap)) ∧ (Y.cell? ⟨b3, 0, none⟩ = some (.int .i64 lo) ∧ Y.cell? ⟨b3, 1, none⟩ = some (.int .i64 hi)) :=
  ⟨⟨q0 (keepr hb h2), q1 (keepr hb h2), q2 (keepr hb h2), q3 (keepr hb h2)⟩, du0 (keepr hb h3), du1 (keepr hb h3)⟩
theorem du_set {w : World} {b t : Nat} {x y : Int} (h : w.rowIs b t 2 (duf x y)) (u v : Int) : ((w.setCell ⟨b, 0, none⟩ (.int .i64 u)).setCell ⟨b, 1, none⟩ (.int .i64 v)).rowIs b t 2 (duf u v) := by
  have h1 := (h.set 0 (.int .i64 u)).set 1 (.int .i64 v)
  refine h1.congr fun i hi => ?_
  rcases i with _ | _ | i
  · rfl
  · rfl
  · omega
end Go.Proofs.Ytnhhcdkejknnmaa
/- bound.Row, walked. -/
namespace Go.Proofs.Ytnhhcdkejknnmaa
open Go.RowKit

theorem kmeet_of {J K : Act → World → Prop} {Q : Exit → Act → World → Prop} {a : Act} {w : World} (hK : ∀ a' w', Met J a' w' → K a' w') (h : Met J a w) : Exit.then K Q Exit.normal a w := hK _ _ h
set_option maxHeartbeats 1600000 in
set_option maxRecDepth 100000 in
theorem brow_any (A B : Bt) (lo hi : Int) (w : World) (hA : Rw w A) (hB : Rw w B) :
    Calls Try.prog 18 #[rwv A B, duo lo hi] w fun e w' => e = .returned (.tuple #[duo (roL A B lo hi) (roH A B lo hi), .int .i64 (roE A B lo hi)]) ∧ Below w.heap.size w w' := by
  have HA := hid1 hA
  have HB := hid1 hB
  clear hA hB
  by_cases hd : dck A B = 0
  · have CD := hid1 (fun W (h : Below w.heap.size w W) => dcheck_any A B W (HA.out.below h) (HB.out.below h))
    rw [hd] at CD
    by_cases hm : maR lo hi
    · have e1 : roE A B lo hi = if maR (rL A B lo hi) (rH A B lo hi) then 0 else 55 := by unfold roE; rw [if_neg (by simpa using hd), if_pos hm]
      have hq := rB hd
      have CO := hid1 (fun W (h : Below w.heap.size w W) => ofRow_any A B W (HA.out.below h) (HB.out.below h) (dck_m hd).1 (dck_m hd).2)
      have k1 := mulO hq.1 ⟨hm.1, by have := hm.2; omega⟩
      have k2 := mulO hq.2 ⟨by have := hm.1; have := hm.2; omega, hm.2.2⟩
      have k3 := mulO hq.1 ⟨by have := hm.1; have := hm.2; omega, hm.2.2⟩
      have k4 := mulO hq.2 ⟨hm.1, by have := hm.2; omega⟩
      have CT := hid1 (fun W => times_any (rP A) (rM A B) lo hi W k1 k2 k3 k4)
      have HL : Hid (rL A B lo hi = rP A * lo - rM A B * hi) := hid1 rfl
      have HH : Hid (rH A B lo hi = rP A * hi - rM A B * lo) := hid1 rfl
      rw [← HL.out, ← HH.out] at CT
      have CM := hid1 (fun W => mayBe_any lo hi W)
      rw [decide_eq_true hm] at CM
      have CN := hid1 (fun W => mayBe_any (rL A B lo hi) (rH A B lo hi) W)
      have HE := hid1 e1
      have HV1 : Hid (roL A B lo hi = if roE A B lo hi = 0 then rL A B lo hi else 0) := hid1 rfl
      have HV2 : Hid (roH A B lo hi = if roE A B lo hi = 0 then rH A B lo hi else 0) := hid1 rfl
      change Hid (∀ W, _ → Calls _ _ _ _ (fun e w' => e = .returned (duo (rP A) (rM A B)) ∧ _)) at CO
      clear e1 hd hm hq k1 k2 k3 k4 HL HH
      generalize rP A = p at *
      generalize rM A B = q at *
      generalize roE A B lo hi = E at *
      generalize roL A B lo hi = vL at *
      generalize roH A B lo hi = vH at *
      generalize rL A B lo hi = L at *
      generalize rH A B lo hi = H at *
      go_enter Try.func18, Try.ntmps18
      go_wp2_with fail
      refine gen_calls (fun X => Below w.heap.size w X ∧ X.rowIs w.heap.size 68 4 (qf A B) ∧ X.rowIs (w.heap.size + 1) 42 2 (duf lo hi) ∧ X.rowIs (w.heap.size + 1 + 1) 42 2 (duf 0 0)) ⟨by repeat (first | (with_reducible exact Below.refl _ _) | (with_reducible refine bl_alloc ?_ _) | (with_reducible refine Below.drew ?_) | (with_reducible refine bl_drewN ?_ _) | (with_reducible refine bl_set ?_ (by omega) _) | (with_reducible refine bl_step ?_ (by assumption))), ((q_new w A B _).alloc _).alloc _, by have := (du_new (w.alloc (.cells #[.int .i64 A.n, .slice A.ao A.m A.cap, .int .i64 B.n, .slice B.ao B.m B.cap] 68)) lo hi 42).alloc (.cells #[.int .i64 0, .int .i64 0] 42); simpa using this, by have := du_new ((w.alloc (.cells #[.int .i64 A.n, .slice A.ao A.m A.cap, .int .i64 B.n, .slice B.ao B.m B.cap] 68)).alloc (.cells #[.int .i64 lo, .int .i64 hi] 42)) 0 0 42; simpa using this⟩ ?_
      rintro X ⟨BX, R0, R1, R2⟩
      obtain ⟨b, hb0⟩ : ∃ b, w.heap.size = b := ⟨_, rfl⟩
      rw [hb0] at R0 R1 R2 ⊢
      refine (CD.out X BX).mono ?_
      rintro e w1 ⟨rfl, hb⟩
      replace BX := bl_step BX hb
      replace R0 := keepr hb R0
      replace R1 := keepr hb R1
      replace R2 := keepr hb R2
      clear hb
      have l0 := du0 R1
      have l1 := du1 R1
      go_wp2_with fail
      refine (CM.out w1).mono ?_
      rintro e w2 ⟨rfl, hb⟩
      replace BX := bl_step BX hb
      replace R0 := keepr hb R0
      replace R1 := keepr hb R1
      replace R2 := keepr hb R2
      clear hb l0 l1
      have HR0 := hid1 R0
      have HR1 := hid1 R1
      have HR2 := hid1 R2
      have HBX := hid1 BX
      have a0 := q0 R0
      have a1 := q1 R0
      have a2 := q2 R0
      have a3 := q3 R0
      have l0 := du0 R1
      have l1 := du1 R1
      have lX := R2.lt
      clear R0 R1 R2 BX
      have hfo := follows
      go_upto_region 6 with fail
      go_cut [7] from 18 to 22 (fun s7 wx => ∃ bM, s7 = .pointer (some ⟨bM, 0, none⟩) ∧ w2.heap.size ≤ bM ∧ wx.rowIs bM 42 2 (duf L H) ∧ Below w2.heap.size w2 wx)
      case first =>
        go_region_held3 (fun Y => (Y.cell? ⟨b, 0, none⟩ = some (.int .i64 A.n) ∧ Y.cell? ⟨b, 1, none⟩ = some (.slice A.ao A.m A.cap) ∧ Y.cell? ⟨b, 2, none⟩ = some (.int .i64 B.n) ∧ Y.cell? ⟨b, 3, none⟩ = some (.slice B.ao B.m B.cap)) ∧ (Y.cell? ⟨b + 1, 0, none⟩ = some (.int .i64 lo) ∧ Y.cell? ⟨b + 1, 1, none⟩ = some (.int .i64 hi)))
          (((try dsimp only); (with_reducible refine kpO (V := w2) HR0.out HR1.out ?_); repeat (first | (with_reducible exact Below.refl _ _) | (with_reducible assumption) | (with_reducible refine Below.drew ?_) | (with_reducible refine bl_alloc ?_ _) | (with_reducible refine bl_set ?_ (by first | exact Nat.le_refl _ | exact by1.size | exact by2.size) _))))
          (first
          | (go_at_call 42; refine (CO.out _ (bl_step HBX.out (by repeat (first | (with_reducible exact Below.refl _ _) | (with_reducible refine Below.drew ?_) | (with_reducible refine bl_alloc ?_ _))))).mono ?_; rintro e y1 ⟨rfl, hb1⟩; have by1 : Below w2.heap.size w2 y1 := (bl_step (by repeat (first | (with_reducible exact Below.refl _ _) | (with_reducible refine Below.drew ?_) | (with_reducible refine bl_alloc ?_ _))) hb1); have HB1 := hid1 hb1; (try (have VR := keepr HB1.out (du_new w2 0 0 42).drew; have HVR := hid1 VR; clear VR)); clear hb1)
          | (go_at_call 43; refine (CT.out _).mono ?_; rintro e y2 ⟨rfl, hb2⟩; have by2 : Below w2.heap.size w2 y2 := (bl_step (by repeat (first | (with_reducible assumption) | (with_reducible refine Below.drew ?_) | (with_reducible refine bl_alloc ?_ _))) hb2); have HB2 := hid1 hb2; (first | (have VR := keepr HB2.out HVR.out) | (have VR := keepr HB2.out HVR.out.drew) | (have VR := keepr HB2.out (du_new y1 0 0 42)) | (have VR := keepr HB2.out (du_new y1 0 0 42).drew) | skip); (try (have v0 := du0 VR; have v1 := du1 VR; have f0 := VR.frozen 0; have f1 := VR.frozen 1; have HVS := hid1 VR; clear VR)); clear hb2))
        all_goals (refine kmeet_of (by assumption) ?_; go_meet)
        · exact ⟨_, rfl, by2.size, du_new _ _ _ _, bl_alloc by2 _⟩
        all_goals (first | exact ⟨_, rfl, Nat.le_refl _, du_set HVS.out _ _, bl_set (bl_set by2 (Nat.le_refl _) _) (Nat.le_refl _) _⟩ | exact ⟨_, rfl, by1.size, du_set HVS.out _ _, bl_set (bl_set by2 by1.size _) by1.size _⟩)
      case rest =>
        obtain ⟨bM, rfl, gM, RM, Bc⟩ := hcut
        replace HBX := hid1 (bl_step HBX.out Bc)
        replace HR2 := hid1 (keepr Bc HR2.out)
        clear HR0 HR1 Bc a0 a1 a2 a3 l0 l1
        have m0 := du0 RM
        have m1 := du1 RM
        go_wp2_with fail
        refine (CN.out wc).mono ?_
        rintro e w3 ⟨rfl, hb⟩
        replace HBX := hid1 (bl_step HBX.out hb)
        replace HR2 := hid1 (keepr hb HR2.out)
        replace RM := keepr hb RM
        clear hb m0 m1
        have m0 := du0 RM
        have m1 := du1 RM
        have r0 := du0 HR2.out
        have r1 := du1 HR2.out
        have f0 := HR2.out.frozen 0
        have f1 := HR2.out.frozen 1
        have nb : b + 1 + 1 ≠ bM := by omega
        have nb2 : bM ≠ b + 1 + 1 := by omega
        by_cases hr : maR L H
        · rw [if_pos hr] at HE
          have e1 := HE.out
          have e2 : vL = L := by rw [HV1.out, if_pos e1]
          have e3 : vH = H := by rw [HV2.out, if_pos e1]
          rw [decide_eq_true hr]
          subst e1 e2 e3
          clear HV1 HV2 HE
          go_wp2_with fail
          refine bodyPost_ret (v := .tuple #[duo vL vH, .int .i64 0]) (by simp [results, Try.results18, go_sem, *]) rfl ⟨rfl, ?_⟩
          exact bl_set (bl_set HBX.out (by omega) _) (by omega) _
        · rw [if_neg hr] at HE
          have e1 := HE.out
          have e2 : vL = 0 := by rw [HV1.out, if_neg (by rw [e1]; decide)]
          have e3 : vH = 0 := by rw [HV2.out, if_neg (by rw [e1]; decide)]
          rw [decide_eq_false hr]
          subst e1 e2 e3
          clear HV1 HV2 HE
          go_wp2_with fail
          refine bodyPost_ret (v := .tuple #[duo 0 0, .int .i64 55]) (by simp [results, Try.results18, go_sem, *]) rfl ⟨rfl, ?_⟩
          exact bl_set (bl_set HBX.out (by omega) _) (by omega) _
    · have e1 : roE A B lo hi = 1 := by unfold roE; rw [if_neg (by simpa using hd), if_neg hm]
      have e2 : roL A B lo hi = 0 := by unfold roL; rw [if_neg (by rw [e1]; decide)]
      have e3 : roH A B lo hi = 0 := by unfold roH; rw [if_neg (by rw [e1]; decide)]
      rw [e1, e2, e3]
      have CM := hid1 (fun W => mayBe_any lo hi W)
      rw [decide_eq_false hm] at CM
      clear e1 e2 e3 hd hm
      go_enter Try.func18, Try.ntmps18
      go_wp2_with fail
      refine gen_calls (fun X => Below w.heap.size w X ∧ X.rowIs w.heap.size 68 4 (qf A B) ∧ X.rowIs (w.heap.size + 1) 42 2 (duf lo hi) ∧ X.rowIs (w.heap.size + 1 + 1) 42 2 (duf 0 0)) ⟨by repeat (first | (with_reducible exact Below.refl _ _) | (with_reducible refine bl_alloc ?_ _) | (with_reducible refine Below.drew ?_) | (with_reducible refine bl_drewN ?_ _) | (with_reducible refine bl_set ?_ (by omega) _) | (with_reducible refine bl_step ?_ (by assumption))), ((q_new w A B _).alloc _).alloc _, by have := (du_new (w.alloc (.cells #[.int .i64 A.n, .slice A.ao A.m A.cap, .int .i64 B.n, .slice B.ao B.m B.cap] 68)) lo hi 42).alloc (.cells #[.int .i64 0, .int .i64 0] 42); simpa using this, by have := du_new ((w.alloc (.cells #[.int .i64 A.n, .slice A.ao A.m A.cap, .int .i64 B.n, .slice B.ao B.m B.cap] 68)).alloc (.cells #[.int .i64 lo, .int .i64 hi] 42)) 0 0 42; simpa using this⟩ ?_
      rintro X ⟨BX, R0, R1, R2⟩
      obtain ⟨b, hb0⟩ : ∃ b, w.heap.size = b := ⟨_, rfl⟩
      rw [hb0] at R0 R1 R2 ⊢
      refine (CD.out X BX).mono ?_
      rintro e w1 ⟨rfl, hb⟩
      replace BX := bl_step BX hb
      replace R0 := keepr hb R0
      replace R1 := keepr hb R1
      replace R2 := keepr hb R2
      clear hb
      have l0 := du0 R1
      have l1 := du1 R1
      go_wp2_with fail
      refine (CM.out w1).mono ?_
      rintro e w2 ⟨rfl, hb⟩
      replace BX := bl_step BX hb
      replace R0 := keepr hb R0
      replace R1 := keepr hb R1
      replace R2 := keepr hb R2
      clear hb l0 l1
      have r0 := du0 R2
      have r1 := du1 R2
      have f0 := R2.frozen 0
      have f1 := R2.frozen 1
      clear R0 R1
      go_wp2_with fail
      refine bodyPost_ret (v := .tuple #[duo 0 0, .int .i64 1]) (by simp [results, Try.results18, go_sem, *]) rfl ⟨rfl, ?_⟩
      exact bl_set (bl_set BX (by omega) _) (by omega) _
  · have e1 : roE A B lo hi = dck A B := by unfold roE; rw [if_pos hd]
    have e2 : roL A B lo hi = 0 := by unfold roL; rw [if_neg (by rw [e1]; exact hd)]
    have e3 : roH A B lo hi = 0 := by unfold roH; rw [if_neg (by rw [e1]; exact hd)]
    rw [e1, e2, e3]
    have CD := hid1 (fun W (h : Below w.heap.size w W) => dcheck_any A B W (HA.out.below h) (HB.out.below h))
    have hx2 : (dck A B != 0) = true := by simpa using hd
    clear e1 e2 e3 hd
    generalize dck A B = x at *
    go_enter Try.func18, Try.ntmps18
    go_wp2_with fail
    refine gen_calls (fun X => Below w.heap.size w X ∧ X.rowIs w.heap.size 68 4 (qf A B) ∧ X.rowIs (w.heap.size + 1) 42 2 (duf lo hi) ∧ X.rowIs (w.heap.size + 1 + 1) 42 2 (duf 0 0)) ⟨by repeat (first | (with_reducible exact Below.refl _ _) | (with_reducible refine bl_alloc ?_ _) | (with_reducible refine Below.drew ?_) | (with_reducible refine bl_drewN ?_ _) | (with_reducible refine bl_set ?_ (by omega) _) | (with_reducible refine bl_step ?_ (by assumption))), ((q_new w A B _).alloc _).alloc _, by have := (du_new (w.alloc (.cells #[.int .i64 A.n, .slice A.ao A.m A.cap, .int .i64 B.n, .slice B.ao B.m B.cap] 68)) lo hi 42).alloc (.cells #[.int .i64 0, .int .i64 0] 42); simpa using this, by have := du_new ((w.alloc (.cells #[.int .i64 A.n, .slice A.ao A.m A.cap, .int .i64 B.n, .slice B.ao B.m B.cap] 68)).alloc (.cells #[.int .i64 lo, .int .i64 hi] 42)) 0 0 42; simpa using this⟩ ?_
    rintro X ⟨BX, R0, R1, R2⟩
    obtain ⟨b, hb0⟩ : ∃ b, w.heap.size = b := ⟨_, rfl⟩
    rw [hb0] at R0 R1 R2 ⊢
    refine (CD.out X BX).mono ?_
    rintro e w1 ⟨rfl, hb⟩
    replace BX := bl_step BX hb
    replace R0 := keepr hb R0
    replace R1 := keepr hb R1
    replace R2 := keepr hb R2
    clear hb
    have r0 := du0 R2
    have r1 := du1 R2
    have f0 := R2.frozen 0
    have f1 := R2.frozen 1
    clear R0 R1
    go_wp2_with fail
    refine bodyPost_ret (v := .tuple #[duo 0 0, .int .i64 x]) (by simp [results, Try.results18, go_sem, *]) rfl ⟨rfl, ?_⟩
    exact bl_set (bl_set BX (by omega) _) (by omega) _
end Go.Proofs.Ytnhhcdkejknnmaa
/- BOUND: WHAT EVERY STATEMENT ASKS AHEAD. -/
namespace Go.Proofs.Ytnhhcdkejknnmaa.Nn
open Go.RowKit

def tiL (B : Nat) : Ly := ⟨2, 2, 2, 0, 0, 0, 0, 0, 0, 0, 0, 0, some ⟨B + 1, 0, none⟩, 6, 6, none, 0, 0, some ⟨B + 2, 0, none⟩, 2, 2, fun j => [1, 0, -1, 1, 1, 1].getD j 0, fun _ _ => 0, fun j => [5, -5].getD j 0⟩
def tiN (B : Nat) : Nt := ⟨⟨#[116, 105, 110, 121]⟩, 1, 1, 3, some ⟨B + 3, 0, none⟩, 1, 1, fun _ => tiL B⟩
/-- Its lists lie in memory. -/
def TiB (W : World) (B : Nat) : Prop := W.heap[B + 1]? = some (.cells (i8c [1, 0, -1, 1, 1, 1]) 61) ∧ W.heap[B + 2]? = some (.cells (i64c [5, -5]) 2) ∧ W.heap[B + 3]? = some (layO (tiL B))
theorem TiB.keep {W w' : World} {B : Nat} (h : TiB W B) (hb : Below W.heap.size W w') : TiB w' B := ⟨keepb hb h.1, keepb hb h.2.1, keepb hb h.2.2⟩
set_option maxRecDepth 10000 in
theorem tiW {W : World} {B : Nat} (h : TiB W B) : NtW W (tiN B) := by
  refine ⟨fun i hi => ⟨B + 3, 0, rfl, ?_⟩, (show (1 : Nat) ≤ 9223372036854775807 by decide), (show (4 : Nat) ≤ 9223372036854775807 by decide)⟩
  change i < 1 at hi
  have hb := h.2.2
  obtain rfl : i = 0 := by omega
  refine ⟨⟨bcl hb rfl, bcl hb rfl, bcl hb rfl, bcl hb rfl, bcl hb rfl, bcl hb rfl, bcl hb rfl, bcl hb rfl, bcl hb rfl, bcl hb rfl, bcl hb rfl, bcl hb rfl, bcl hb rfl, bcl hb rfl, bcl hb rfl⟩, ⟨fun j hj => ⟨B + 1, 0, rfl, ?_⟩, fun j hj => absurd hj (Nat.not_lt_zero j), fun j hj => ⟨B + 2, 0, rfl, ?_⟩, (show (6 : Nat) ≤ 9223372036854775807 by decide), (show (0 : Nat) ≤ 9223372036854775807 by decide), (show (2 : Nat) ≤ 9223372036854775807 by decide)⟩⟩
  · change j < 6 at hj
    rcases (show j = 0 ∨ j = 1 ∨ j = 2 ∨ j = 3 ∨ j = 4 ∨ j = 5 by omega) with rfl | rfl | rfl | rfl | rfl | rfl <;> exact bcl h.1 rfl
  · change j < 2 at hj
    rcases (show j = 0 ∨ j = 1 by omega) with rfl | rfl <;> exact bcl h.2.1 rfl
set_option maxRecDepth 10000 in
theorem ti_ok (B : Nat) : chE (tiN B) = 0 ∧ chA (tiN B) = 0 := by
  have h0 : whE (tiN B) = 0 := by kernel_rfl
  refine ch_ok h0 fun j hj => ?_
  change j < 1 at hj
  obtain rfl : j = 0 := by omega
  kernel_rfl
def tiF (_ j : Nat) : Int := [-250, -389].getD j 0
def tiH (_ j : Nat) : Int := [260, 376].getD j 0
set_option maxRecDepth 10000 in
theorem ti_r (B : Nat) : cN (tiN B) 1 = 2 ∧ ∀ j, j < 2 → yLo (tiL B) (fanN (tiN B) 0) 0 j = tiF 0 j ∧ yHi (tiL B) (fanN (tiN B) 0) 0 j = tiH 0 j := by
  refine ⟨by kernel_rfl, fun j hj => ?_⟩
  rcases (show j = 0 ∨ j = 1 by omega) with rfl | rfl <;> exact ⟨by kernel_rfl, by kernel_rfl⟩
def emN : Nt := ⟨⟨#[]⟩, 0, 0, 0, none, 0, 0, fun _ => tiL 0⟩
theorem emW (W : World) : NtW W emN := ⟨fun i hi => absurd hi (Nat.not_lt_zero i), (show (0 : Nat) ≤ 9223372036854775807 by decide), (show (0 : Nat) ≤ 9223372036854775807 by decide)⟩
theorem em_no : chE emN = 50 ∧ chA emN = -1 := ch_whole (by decide)
set_option maxHeartbeats 1600000 in
set_option maxRecDepth 100000 in
theorem tiny_any (w : World) : Calls Try.prog 19 #[] w fun e w' => e = .returned (ntv (tiN w.heap.size)) ∧ TiB w' w.heap.size ∧ Below w.heap.size w w' := by
  obtain ⟨B, hB⟩ : ∃ B, w.heap.size = B := ⟨_, rfl⟩
  go_enter Try.func19, Try.ntmps19
  go_wp2_with fail
  refine bodyPost_ret (v := ntv (tiN B)) (by simp [results, Try.results19, go_sem, tiN, hB]) rfl ⟨by rw [hB], ?_, by repeat (first | (with_reducible exact Below.refl _ _) | (with_reducible refine bl_alloc ?_ _) | (with_reducible refine Below.drew ?_) | (with_reducible refine bl_drewN ?_ _) | (with_reducible refine bl_set ?_ (by omega) _) | (with_reducible refine bl_step ?_ (by assumption)))⟩
  rw [hB]
  exact ⟨old_at (old_at (new_at (by simp [hB]) _) _) _, old_at (new_at (by simp [hB]) _) _, new_at (by simp [hB]) _⟩
abbrev bA (g : Nat) : Bt := ⟨4, some ⟨g, 0, none⟩, 1, 1, 3⟩
abbrev bB (g : Nat) : Bt := ⟨4, some ⟨g, 0, none⟩, 1, 1, 7⟩
theorem bA_rw {W : World} {g : Nat} (h : W.heap[g]? = some (.cells #[.int .u64 3] 63)) : Rw W (bA g) := ⟨(show 3 < 2 ^ (64 * 1) by decide), (show (1 : Nat) ≤ 9223372036854775807 by decide), fun k hk => ⟨g, 0, rfl, by
  have hk' : k < 1 := hk
  obtain rfl : k = 0 := by omega
  exact bcl h (by simp [wf, wd])⟩⟩
theorem bB_rw {W : World} {g : Nat} (h : W.heap[g]? = some (.cells #[.int .u64 7] 63)) : Rw W (bB g) := ⟨(show 7 < 2 ^ (64 * 1) by decide), (show (1 : Nat) ≤ 9223372036854775807 by decide), fun k hk => ⟨g, 0, rfl, by
  have hk' : k < 1 := hk
  obtain rfl : k = 0 := by omega
  exact bcl h (by simp [wf, wd])⟩⟩
set_option maxRecDepth 100000 in
theorem bAB (g h : Nat) : (roE (bA g) (bB h) 0 5 = 0 ∧ roL (bA g) (bB h) 0 5 = -5 ∧ roH (bA g) (bB h) 0 5 = 10) ∧ roE (bA g) (bB h) 2 1 = 1 ∧ roL (bA g) (bB h) 2 1 = 0 ∧ roH (bA g) (bB h) 2 1 = 0 := by
  refine ⟨⟨by kernel_rfl, by kernel_rfl, by kernel_rfl⟩, by kernel_rfl, by kernel_rfl, by kernel_rfl⟩
set_option maxHeartbeats 1600000 in
set_option maxRecDepth 100000 in
theorem obegun_any (w : World) : Calls Try.prog 6 #[] w fun e w' => e = .returned (.bool true) ∧ Below w.heap.size w w' := by
  obtain ⟨b, hb0⟩ : ∃ b, w.heap.size = b := ⟨_, rfl⟩
  go_enter Try.func6, Try.ntmps6
  go_upto_region 2 with fail
  refine gen_world (fun X => Below w.heap.size w X ∧ X.heap[b]? = some (.cells #[.int .u64 3] 63) ∧ X.heap[b + 1]? = some (.cells #[.int .u64 7] 63) ∧ X.rowIs (b + 2) 68 4 (qf (bA b) (bB (b + 1)))) ⟨by repeat (first | (with_reducible exact Below.refl _ _) | (with_reducible refine bl_alloc ?_ _) | (with_reducible refine Below.drew ?_) | (with_reducible refine bl_drewN ?_ _) | (with_reducible refine bl_set ?_ (by omega) _) | (with_reducible refine bl_step ?_ (by assumption))), old_at (old_at (new_at (by simp [hb0]) _) _) _, old_at (new_at (by simp [hb0]) _) _, by have := q_new ((w.alloc (.cells #[.int .u64 3] 63)).alloc (.cells #[.int .u64 7] 63)) (bA b) (bB (b + 1)) 68; rw [show ((w.alloc (.cells #[.int .u64 3] 63)).alloc (.cells #[.int .u64 7] 63)).heap.size = b + 2 by simp [hb0]] at this; exact this⟩ ?_
  rintro X ⟨BX, h3, h7, RX⟩
  have C1 := brow_any (bA b) (bB (b + 1)) 0 5 X (bA_rw h3) (bB_rw h7)
  rw [(bAB b (b + 1)).1.1, (bAB b (b + 1)).1.2.1, (bAB b (b + 1)).1.2.2] at C1
  have a0 := q0 RX
  have a1 := q1 RX
  have a2 := q2 RX
  have a3 := q3 RX
  go_wp2_with fail
  refine C1.mono ?_
  rintro e x1 ⟨rfl, hb⟩
  replace BX := bl_step BX hb
  replace h3 := keepb hb h3
  replace h7 := keepb hb h7
  replace RX := World.rowIs.of_block RX (hb.block _ RX.lt)
  clear hb C1 a0 a1 a2 a3 X
  obtain ⟨c, hc⟩ : ∃ c, x1.heap.size = c := ⟨_, rfl⟩
  go_upto_region 3 with fail
  refine gen_world (fun X => Below w.heap.size w X ∧ X.heap[b]? = some (.cells #[.int .u64 3] 63) ∧ X.heap[b + 1]? = some (.cells #[.int .u64 7] 63) ∧ X.rowIs (b + 2) 68 4 (qf (bA b) (bB (b + 1))) ∧ X.rowIs c 42 2 (duf (-5) 10)) ⟨by repeat (first | (with_reducible exact Below.refl _ _) | (with_reducible refine bl_alloc ?_ _) | (with_reducible refine Below.drew ?_) | (with_reducible refine bl_drewN ?_ _) | (with_reducible refine bl_set ?_ (by omega) _) | (with_reducible refine bl_step ?_ (by assumption))), old_at h3 _, old_at h7 _, RX.alloc _, by rw [← hc]; exact du_new _ _ _ _⟩ ?_
  clear BX h3 h7 RX
  rintro X ⟨BX, h3, h7, RX, RC⟩
  have C1 := brow_any (bA b) (bB (b + 1)) 2 1 X (bA_rw h3) (bB_rw h7)
  rw [(bAB b (b + 1)).2.1, (bAB b (b + 1)).2.2.1, (bAB b (b + 1)).2.2.2] at C1
  have a0 := q0 RX
  have a1 := q1 RX
  have a2 := q2 RX
  have a3 := q3 RX
  go_wp2_with fail
  refine C1.mono ?_
  rintro e x2 ⟨rfl, hb⟩
  replace BX := bl_step BX hb
  replace RC := World.rowIs.of_block RC (hb.block _ RC.lt)
  clear hb C1 a0 a1 a2 a3 h3 h7 RX X
  go_upto_region 4 with fail
  refine gen_world (fun X => Below w.heap.size w X ∧ X.rowIs c 42 2 (duf (-5) 10)) ⟨by repeat (first | (with_reducible exact Below.refl _ _) | (with_reducible refine bl_alloc ?_ _) | (with_reducible refine Below.drew ?_) | (with_reducible refine bl_drewN ?_ _) | (with_reducible refine bl_set ?_ (by omega) _) | (with_reducible refine bl_step ?_ (by assumption))), RC.alloc _⟩ ?_
  clear BX RC
  rintro X ⟨BX, RC⟩
  go_wp2_with fail
  refine (tiny_any X).mono ?_
  rintro e x3 ⟨rfl, TB, hb⟩
  replace BX := bl_step BX hb
  replace RC := World.rowIs.of_block RC (hb.block _ RC.lt)
  clear hb
  generalize X.heap.size = B at *
  have C2 := bnet_any (tiN B) x3 (tiW TB) (fun i hi => Nat.le_refl 6)
  rw [(ti_ok B).1, (ti_ok B).2] at C2
  go_wp2_with fail
  refine C2.mono ?_
  rintro e x4 ⟨v, rfl, hb, hv⟩
  obtain ⟨G, gs, -, rfl, YL⟩ := hv.2 (ti_ok B).1
  replace BX := bl_step BX hb
  replace RC := World.rowIs.of_block RC (hb.block _ RC.lt)
  have LR : Lrr x4 G 0 1 (fun _ => 2) tiF tiH := fun i hi => by
    obtain rfl : i = 0 := by omega
    obtain ⟨g', o', cp, e1, e2, e3⟩ := YL.lrr (k := (tiN B).ml) (Nat.le_refl _) (ti_ok B).1 0 (show 0 < 1 by decide)
    have t := ti_r B
    refine ⟨g', o', cp, ?_, (show (2 : Nat) ≤ 9223372036854775807 by decide), fun j hj => ?_⟩
    · rw [e1]; congr 2
    · have := e3 j (by show j < cN (tiN B) 1; rw [t.1]; exact hj)
      rw [← (t.2 j hj).1, ← (t.2 j hj).2]
      exact this
  have HLR := hid1 LR
  clear hb hv YL LR C2 TB
  have eml : (tiN B).ml = 1 := rfl
  obtain ⟨d, hd⟩ : ∃ d, x4.heap.size = d := ⟨_, rfl⟩
  go_upto_region 6 with fail
  refine gen_world (fun X => Below w.heap.size w X ∧ X.rowIs c 42 2 (duf (-5) 10) ∧ Lrr X G 0 1 (fun _ => 2) tiF tiH ∧ Lrr X (d + 1) 0 1 (fun _ => 2) tiF tiH) ⟨by repeat (first | (with_reducible exact Below.refl _ _) | (with_reducible refine bl_alloc ?_ _) | (with_reducible refine Below.drew ?_) | (with_reducible refine bl_drewN ?_ _) | (with_reducible refine bl_set ?_ (by omega) _) | (with_reducible refine bl_step ?_ (by assumption))), (RC.alloc _).alloc _, HLR.out.keep (bl_alloc (bl_alloc (Below.refl _ _) _) _), fun i hi => by
    obtain rfl : i = 0 := by omega
    have q1 : ((x4.alloc (.cells #[.int .i64 (-250), .int .i64 260, .int .i64 (-389), .int .i64 376] 42)).alloc (.cells #[.slice (some ⟨d, 0, none⟩) 2 2] 40)).heap[d]? = some (.cells #[.int .i64 (-250), .int .i64 260, .int .i64 (-389), .int .i64 376] 42) := old_at (new_at hd _) _
    have q2 : ((x4.alloc (.cells #[.int .i64 (-250), .int .i64 260, .int .i64 (-389), .int .i64 376] 42)).alloc (.cells #[.slice (some ⟨d, 0, none⟩) 2 2] 40)).heap[d + 1]? = some (.cells #[.slice (some ⟨d, 0, none⟩) 2 2] 40) := new_at (by simp [hd]) _
    refine ⟨d, 0, 2, bcl q2 rfl, (show (2 : Nat) ≤ 9223372036854775807 by decide), fun j hj => ?_⟩
    have hj' : j < 2 := hj
    rcases (show j = 0 ∨ j = 1 by omega) with rfl | rfl <;> exact ⟨bcl q1 rfl, bcl q1 rfl⟩⟩ ?_
  clear BX RC HLR
  rintro X ⟨BX, RC, L1, L2⟩
  have C2 := bnet_any emN X (emW X) (fun i hi => absurd hi (Nat.not_lt_zero i))
  rw [em_no.1, em_no.2] at C2
  have HEM : Hid (¬ chE emN = 0) := hid1 (by rw [em_no.1]; decide)
  go_wp2_with fail
  refine C2.mono ?_
  rintro e x5 ⟨v, rfl, hb, hv⟩
  obtain rfl := hv.1 HEM.out
  replace BX := bl_step BX hb
  replace RC := World.rowIs.of_block RC (hb.block _ RC.lt)
  have CE := eqR_same 1 (by decide) (fun _ => 2) tiF tiH G 0 (d + 1) 0 1 1 x5 (L1.keep hb) (L2.keep hb)
  clear hb hv L1 L2 C2
  have c0 := du0 RC
  have c1 := du1 RC
  go_wp2_with fail
  refine CE.mono ?_
  rintro e x6 ⟨rfl, hb⟩
  replace BX := bl_step BX hb
  go_wp2_with fail
  go_ret
  exact ⟨rfl, BX⟩
end Go.Proofs.Ytnhhcdkejknnmaa.Nn
/- planeOf, Planes. -/
namespace Go.Proofs.Ytnhhcdkejknnmaa
open Go.RowKit

/-- Bit p of a number of eight bits. -/
def plb (l : List Int) (p i : Nat) : Bool := ((ia l i % 256).toNat).testBit p
theorem plb_is (v : Int) (p : Nat) : (bits .and .u8 (v % 256 / 2 ^ p) 1 == 1) = ((v % 256).toNat).testBit p := by
  have e : v % 256 = (((v % 256).toNat : Nat) : Int) := by omega
  have hx : (v % 256).toNat < 256 := by omega
  generalize (v % 256).toNat = x at *
  rw [e]
  have e2 : (x : Int) / 2 ^ p = ((x / 2 ^ p : Nat) : Int) := by simp
  rw [e2]
  have e3 : bits .and .u8 ((x / 2 ^ p : Nat) : Int) 1 = _ := u8_and_nat (x / 2 ^ p) 1 (Nat.lt_of_le_of_lt (Nat.div_le_self _ _) hx) (by decide)
  rw [e3, Nat.and_one_is_mod, Nat.testBit_eq_decide_div_mod_eq]
  rcases Nat.mod_two_eq_zero_or_one (x / 2 ^ p) with h | h <;> simp [h]
theorem bn_set {f : Nat → Bool} {k : Nat} (h : f k = true) : bn f (k + 1) = bn f k ||| 2 ^ k := by simp only [bn]; rw [if_pos h]
theorem bn_not {f : Nat → Bool} {k : Nat} (h : f k = false) : bn f (k + 1) = bn f k := by simp only [bn]; rw [if_neg (by simp [h])]; simp

end Go.Proofs.Ytnhhcdkejknnmaa
/- Planes. -/
namespace Go.Proofs.Ytnhhcdkejknnmaa
open Go.RowKit

/-- Eight rows of bits as a value, and as cells. -/
abbrev pv (P : Nat → Bt) : Value := .agg #[.int .i64 (P 0).n, .slice (P 0).ao (P 0).m (P 0).cap, .int .i64 (P 1).n, .slice (P 1).ao (P 1).m (P 1).cap, .int .i64 (P 2).n, .slice (P 2).ao (P 2).m (P 2).cap, .int .i64 (P 3).n, .slice (P 3).ao (P 3).m (P 3).cap, .int .i64 (P 4).n, .slice (P 4).ao (P 4).m (P 4).cap, .int .i64 (P 5).n, .slice (P 5).ao (P 5).m (P 5).cap, .int .i64 (P 6).n, .slice (P 6).ao (P 6).m (P 6).cap, .int .i64 (P 7).n, .slice (P 7).ao (P 7).m (P 7).cap]
def pfc (P : Nat → Bt) : Nat → Value := fun j => if j % 2 = 0 then .int .i64 (P (j / 2)).n else .slice (P (j / 2)).ao (P (j / 2)).m (P (j / 2)).cap
theorem pfc_even (P : Nat → Bt) (p : Nat) : pfc P (p * 2) = .int .i64 (P p).n := by
  unfold pfc; rw [if_pos (by omega), show p * 2 / 2 = p by omega]
theorem pfc_odd (P : Nat → Bt) (p : Nat) : pfc P (p * 2 + 1) = .slice (P p).ao (P p).m (P p).cap := by
  unfold pfc; rw [if_neg (by omega), show (p * 2 + 1) / 2 = p by omega]
theorem p_new (w : World) (P : Nat → Bt) (t : TypeId) : (w.alloc (.cells #[.int .i64 (P 0).n, .slice (P 0).ao (P 0).m (P 0).cap, .int .i64 (P 1).n, .slice (P 1).ao (P 1).m (P 1).cap, .int .i64 (P 2).n, .slice (P 2).ao (P 2).m (P 2).cap, .int .i64 (P 3).n, .slice (P 3).ao (P 3).m (P 3).cap, .int .i64 (P 4).n, .slice (P 4).ao (P 4).m (P 4).cap, .int .i64 (P 5).n, .slice (P 5).ao (P 5).m (P 5).cap, .int .i64 (P 6).n, .slice (P 6).ao (P 6).m (P 6).cap, .int .i64 (P 7).n, .slice (P 7).ao (P 7).m (P 7).cap] t)).rowIs w.heap.size t 16 (pfc P) :=
  World.rowIs_alloc w _ t _ (fun i hi => by
    rcases i with _ | _ | _ | _ | _ | _ | _ | _ | _ | _ | _ | _ | _ | _ | _ | _ | i
    · rfl
    · rfl
    · rfl
    · rfl
    · rfl
    · rfl
    · rfl
    · rfl
    · rfl
    · rfl
    · rfl
    · rfl
    · rfl
    · rfl
    · rfl
    · rfl
    · simp at hi; omega)
/-- All sixteen cells. -/
def C16 (w : World) (b : Nat) (P : Nat → Bt) : Prop := w.cell? ⟨b, 0, none⟩ = some (.int .i64 (P 0).n) ∧ w.cell? ⟨b, 1, none⟩ = some (.slice (P 0).ao (P 0).m (P 0).cap) ∧ w.cell? ⟨b, 2, none⟩ = some (.int .i64 (P 1).n) ∧ w.cell? ⟨b, 3, none⟩ = some (.slice (P 1).ao (P 1).m (P 1).cap) ∧ w.cell? ⟨b, 4, none⟩ = some (.int .i64 (P 2).n) ∧ w.cell? ⟨b, 5, none⟩ = some (.slice (P 2).ao (P 2).m (P 2).cap) ∧ w.cell? ⟨b, 6, none⟩ = some (.int .i64 (P 3).n) ∧ w.cell? ⟨b, 7, none⟩ = some (.slice (P 3).ao (P 3).m (P 3).cap) ∧ w.cell? ⟨b, 8, none⟩ = some (.int .i64 (P 4).n) ∧ w.cell? ⟨b, 9, none⟩ = some (.slice (P 4).ao (P 4).m (P 4).cap) ∧ w.cell? ⟨b, 10, none⟩ = some (.int .i64 (P 5).n) ∧ w.cell? ⟨b, 11, none⟩ = some (.slice (P 5).ao (P 5).m (P 5).cap) ∧ w.cell? ⟨b, 12, none⟩ = some (.int .i64 (P 6).n) ∧ w.cell? ⟨b, 13, none⟩ = some (.slice (P 6).ao (P 6).m (P 6).cap) ∧ w.cell? ⟨b, 14, none⟩ = some (.int .i64 (P 7).n) ∧ w.cell? ⟨b, 15, none⟩ = some (.slice (P 7).ao (P 7).m (P 7).cap)
theorem c16 {w : World} {b t : Nat} {P : Nat → Bt} (h : w.rowIs b t 16 (pfc P)) : C16 w b P :=
  ⟨h.cell (by omega), h.cell (by omega), h.cell (by omega), h.cell (by omega), h.cell (by omega), h.cell (by omega), h.cell (by omega), h.cell (by omega), h.cell (by omega), h.cell (by omega), h.cell (by omega), h.cell (by omega), h.cell (by omega), h.cell (by omega), h.cell (by omega), h.cell (by omega)⟩
/-- The first k of the planes. -/
def frt (N : Nat) (G : Nat → Nat) (k : Nat) : Nat → Bt := fun p => if p < k then ob N (G p) 0 else zb
def upd (G : Nat → Nat) (k g : Nat) : Nat → Nat := fun p => if p = k then g else G p
theorem upd_same (G : Nat → Nat) (k g : Nat) : upd G k g k = g := by unfold upd; rw [if_pos rfl]
theorem upd_ne {G : Nat → Nat} {k g p : Nat} (h : p ≠ k) : upd G k g p = G p := by unfold upd; rw [if_neg h]
theorem frt_step {N k g : Nat} {G : Nat → Nat} (j : Nat) : (if j = k * 2 + 1 then Value.slice (some ⟨g, 0, none⟩) (nw N) (nw N) else if j = k * 2 then Value.int .i64 N else pfc (frt N G k) j) = pfc (frt N (upd G k g) (k + 1)) j := by
  unfold pfc frt
  by_cases e1 : j = k * 2 + 1
  · rw [if_pos e1, if_neg (by omega), show j / 2 = k by omega, if_pos (by omega), upd_same]
  · rw [if_neg e1]
    by_cases e2 : j = k * 2
    · rw [if_pos e2, if_pos (by omega), show j / 2 = k by omega, if_pos (by omega)]
    · have e3 : ¬ j / 2 = k := by omega
      have e4 : (j / 2 < k + 1) ↔ (j / 2 < k) := by omega
      rw [if_neg e2, upd_ne e3]
      simp only [e4]
end Go.Proofs.Ytnhhcdkejknnmaa
/- Numbers. -/
namespace Go.Proofs.Ytnhhcdkejknnmaa
open Go.RowKit
attribute [local go_sem ↓] Go.wp_at_zero Go.wp_at_succ

def aF (P : Nat → Bt) (len : Int) : Bool := (List.range 8).all fun p => ftB (P p).n (P p).m (P p).N len
theorem aF_iff (P : Nat → Bt) (len : Int) : aF P len = true ↔ ∀ p, p < 8 → ftB (P p).n (P p).m (P p).N len = true := by simp [aF, List.all_eq_true]
def nmE (A B : Bt) (P : Nat → Bt) : Int := if dck A B ≠ 0 then dck A B else if aF P A.n = true then 0 else 20
def nmV (A B : Bt) (P : Nat → Bt) : Int := if nmE A B P = 0 then npl A.N B.N (fun p => (P p).N) A.n.toNat 8 else 0
theorem nmE_bad {A B : Bt} {P : Nat → Bt} (h : dck A B ≠ 0) : nmE A B P = dck A B := by unfold nmE; rw [if_pos h]
theorem nmV_bad {A B : Bt} {P : Nat → Bt} (h : nmE A B P ≠ 0) : nmV A B P = 0 := by unfold nmV; rw [if_neg h]
theorem eight {p : Nat → Prop} {i : Nat} (h : i < 8) (h0 : p 0) (h1 : p 1) (h2 : p 2) (h3 : p 3) (h4 : p 4) (h5 : p 5) (h6 : p 6) (h7 : p 7) : p i := by
  match i, h with
  | 0, _ => exact h0
  | 1, _ => exact h1
  | 2, _ => exact h2
  | 3, _ => exact h3
  | 4, _ => exact h4
  | 5, _ => exact h5
  | 6, _ => exact h6
  | 7, _ => exact h7
theorem pw_bd {p : Nat} (h : p < 8) : -128 ≤ pw p ∧ pw p ≤ 64 := eight (p := fun p => -128 ≤ pw p ∧ pw p ≤ 64) h (by decide) (by decide) (by decide) (by decide) (by decide) (by decide) (by decide) (by decide)
theorem mul_bd {a b : Int} {n : Nat} (ha : -128 ≤ a ∧ a ≤ 64) (hb : -(n : Int) ≤ b ∧ b ≤ n) : -(128 * (n : Int)) ≤ a * b ∧ a * b ≤ 128 * n := by
  have h1 : (a * b).natAbs ≤ 128 * n := by
    rw [Int.natAbs_mul]
    exact Nat.mul_le_mul (by omega) (by omega)
  omega
theorem npl_bd (S M : Nat) (P : Nat → Nat) (n : Nat) : ∀ q : Nat, q ≤ 8 → -(128 * (q : Int) * n) ≤ npl S M P n q ∧ npl S M P n q ≤ 128 * (q : Int) * n
  | 0, _ => by simp [npl]
  | q + 1, h => by
    have := npl_bd S M P n q (by omega)
    have := mul_bd (pw_bd (show q < 8 by omega)) (tq_bd (M &&& P q) S (P q) n)
    have e : 128 * ((q + 1 : Nat) : Int) * n = 128 * (q : Int) * n + 128 * n := by
      rw [Int.natCast_add, Int.mul_add, Int.add_mul]; simp
    simp only [npl]; rw [e]; omega
theorem npl_lim (S M : Nat) (P : Nat → Nat) {n q : Nat} (hn : n ≤ 16777216) (hq : q ≤ 8) : -17179869184 ≤ npl S M P n q ∧ npl S M P n q ≤ 17179869184 := by
  have := npl_bd S M P n q hq
  have h1 : 128 * (q : Int) * n ≤ 17179869184 := by
    have h2 : 128 * q * n ≤ 128 * 8 * 16777216 := Nat.mul_le_mul (Nat.mul_le_mul (Nat.le_refl _) hq) hn
    have h3 : ((128 * q * n : Nat) : Int) = 128 * (q : Int) * n := by simp
    omega
  omega

theorem qp_new (w : World) (A B : Bt) (P : Nat → Bt) (t u : TypeId) : ((w.alloc (.cells #[.int .i64 A.n, .slice A.ao A.m A.cap, .int .i64 B.n, .slice B.ao B.m B.cap] t)).alloc (.cells #[.int .i64 (P 0).n, .slice (P 0).ao (P 0).m (P 0).cap, .int .i64 (P 1).n, .slice (P 1).ao (P 1).m (P 1).cap, .int .i64 (P 2).n, .slice (P 2).ao (P 2).m (P 2).cap, .int .i64 (P 3).n, .slice (P 3).ao (P 3).m (P 3).cap, .int .i64 (P 4).n, .slice (P 4).ao (P 4).m (P 4).cap, .int .i64 (P 5).n, .slice (P 5).ao (P 5).m (P 5).cap, .int .i64 (P 6).n, .slice (P 6).ao (P 6).m (P 6).cap, .int .i64 (P 7).n, .slice (P 7).ao (P 7).m (P 7).cap] u)).rowIs (w.heap.size + 1) u 16 (pfc P) := by
  have := p_new (w.alloc (.cells #[.int .i64 A.n, .slice A.ao A.m A.cap, .int .i64 B.n, .slice B.ao B.m B.cap] t)) P u
  rw [World.size_alloc] at this
  exact this
theorem kpn {W X : World} {bx t bz u v0 : Nat} {A B : Bt} {C : Bt} {k : Nat} (h1 : W.rowIs bx t 4 (qf A B)) (h2 : W.rowIs bz u 2 (sf C.n C.ao C.m C.cap)) (h3 : W.cell? ⟨v0, k, none⟩ = some (.int .i64 (pw k))) (hb : Below W.heap.size W X) :
    (X.cell? ⟨bx, 0, none⟩ = some (.int .i64 A.n) ∧ X.cell? ⟨bx, 1, none⟩ = some (.slice A.ao A.m A.cap) ∧ X.cell? ⟨bx, 2, none⟩ = some (.int .i64 B.n) ∧ X.cell? ⟨bx, 3, none⟩ = some (.slice B.ao B.m B.cap)) ∧ (X.cell? ⟨bz, 0, none⟩ = some (.int .i64 C.n) ∧ X.cell? ⟨bz, 1, none⟩ = some (.slice C.ao C.m C.cap)) ∧ X.cell? ⟨v0, k, none⟩ = some (.int .i64 (pw k)) := by
  have r := keepr hb h1
  have s := keepr hb h2
  exact ⟨⟨q0 r, q1 r, q2 r, q3 r⟩, ⟨sf_len s, sf_ws s⟩, keepc hb h3⟩
end Go.Proofs.Ytnhhcdkejknnmaa
/- begun. -/
namespace Go.Proofs.Ytnhhcdkejknnmaa
open Go.RowKit

/-- Rows of four bits. -/
abbrev o4 (g N : Nat) : Bt := ⟨4, some ⟨g, 0, none⟩, 1, 1, N⟩
theorem ob4 (g N : Nat) : ob 4 g N = o4 g N := rfl
theorem four_in {l : List Int} {p : Int → Prop} (h0 : p (ia l 0)) (h1 : p (ia l 1)) (h2 : p (ia l 2)) (h3 : p (ia l 3)) : ∀ i, i < 4 → p (ia l i) := by
  intro i hi
  match i, hi with
  | 0, _ => exact h0
  | 1, _ => exact h1
  | 2, _ => exact h2
  | 3, _ => exact h3
theorem r8_four {w : World} {t : TypeId} (a b c d : Int) : R8 (w.alloc (.cells #[.int .i8 a, .int .i8 b, .int .i8 c, .int .i8 d] t)) (some ⟨w.heap.size, 0, none⟩) [a, b, c, d] := by
  intro k hk
  refine ⟨w.heap.size, 0, rfl, ?_⟩
  rcases k with _ | _ | _ | _ | k
  · simp [go_sem, ia]
  · simp [go_sem, ia]
  · simp [go_sem, ia]
  · simp [go_sem, ia]
  · simp at hk; omega
theorem rw4 {w : World} {g N : Nat} (h : w.rowIs g 63 1 (wf N)) (hN : N < 16) : Rw w (o4 g N) :=
  ⟨by show N < 2 ^ (64 * 1); omega, by show 1 ≤ _; decide, fun k hk => ⟨g, 0, rfl, by rw [Nat.zero_add]; exact h.cell hk⟩⟩
theorem wok1 : Wok [1, 0, -1, 1] 4 := four_in (p := fun x => -1 ≤ x ∧ x ≤ 1) (by decide) (by decide) (by decide) (by decide)
theorem wok2 : Wok [0, 1, 1, -1] 4 := four_in (p := fun x => -1 ≤ x ∧ x ≤ 1) (by decide) (by decide) (by decide) (by decide)
theorem bn4_lt (f : Nat → Bool) : bn f 4 < 16 := bn_lt f 4
theorem w_one (w : World) (o : Obj) (t : TypeId) : ((w.alloc o).alloc (.cells #[.int .u64 1] t)).rowIs (w.heap.size + 1) t 1 (wf 1) := by
  have h : ((w.alloc o).alloc (.cells #[.int .u64 1] t)).rowIs (w.alloc o).heap.size t 1 (wf 1) := World.rowIs_alloc (w.alloc o) _ t _ (fun i hi => by
    rcases i with _ | i
    · rfl
    · simp at hi)
  rw [World.size_alloc] at h
  exact h
theorem sg4 {g1 g2 g : Nat} : sgV (o4 g1 9) (o4 g2 13) (o4 g 1) = 1 := by kernel_rfl
theorem sg4e {g1 g2 g : Nat} : sgE (o4 g1 9) (o4 g2 13) (o4 g 1) = 0 := by kernel_rfl
theorem so4 {g1 g2 g3 g4 : Nat} : soV (o4 g1 9) (o4 g2 13) (o4 g3 6) (o4 g4 14) = -2 := by kernel_rfl
theorem so4e {g1 g2 g3 g4 : Nat} : soE (o4 g1 9) (o4 g2 13) (o4 g3 6) (o4 g4 14) = 0 := by kernel_rfl
theorem nm4 {g1 g2 : Nat} {G : Nat → Nat} : nmV (o4 g1 9) (o4 g2 13) (fun p => o4 (G p) (bn (plb [5, 9, -7, -128] p) 4)) = -116 := by kernel_rfl
theorem nm4e {g1 g2 : Nat} {G : Nat → Nat} : nmE (o4 g1 9) (o4 g2 13) (fun p => o4 (G p) (bn (plb [5, 9, -7, -128] p) 4)) = 0 := by kernel_rfl
end Go.Proofs.Ytnhhcdkejknnmaa
/- Lists of small numbers: own, copied, grown; tame, even, sameSmall. -/
namespace Go.Proofs.Ytnhhcdkejknnmaa
open Go.RowKit

def rowL (f : Nat → Value) (m : Nat) : List Value := (List.range m).map f
theorem rowL_len (f : Nat → Value) (m : Nat) : (rowL f m).length = m * 1 := by simp [rowL]
theorem rowL_get {f : Nat → Value} {m j : Nat} {u : Value} (h : (rowL f m)[j]? = some u) : j < m ∧ u = f j := by
  unfold rowL at h
  rw [List.getElem?_map, Option.map_eq_some_iff] at h
  obtain ⟨x, hx, rfl⟩ := h
  obtain ⟨h1, h2⟩ := List.getElem?_eq_some_iff.1 hx
  simp at h1 h2
  subst h2
  exact ⟨h1, rfl⟩
theorem rowL_at {f : Nat → Value} {m j : Nat} (h : j < m) (v : Value) : (rowL f m ++ [v])[j]? = some (f j) := by
  rw [List.getElem?_append_left (by simpa [rowL] using h)]
  simp [rowL, h]
theorem rowL_last (f : Nat → Value) (m : Nat) (v : Value) : (rowL f m ++ [v])[m]? = some v := by
  rw [List.getElem?_append_right (by simp [rowL])]
  simp [rowL]
theorem rowL_wf {N m : Nat} : ∀ u ∈ rowL (wf N) m, u.oneCell' = true := by
  intro u hu
  obtain ⟨j, hj, e⟩ := List.getElem_of_mem hu
  obtain ⟨_, rfl⟩ := rowL_get (List.getElem?_eq_some_iff.2 ⟨hj, e⟩)
  rfl
/-- An own row, as a row of cells. -/
theorem own_row {w : World} {base e : Nat} {v : Value} {n : Nat} {xs : List Value} (h : w.ownsRow base e 1 v n xs) (hn : 0 < n) :
    ∃ g cap f, v = .slice (some ⟨g, 0, none⟩) n cap ∧ base ≤ g ∧ n ≤ cap ∧ cap ≤ maxLen ∧ w.rowIs g e cap f ∧ ∀ k, k < n → xs[k]? = some (f k) := by
  rcases h.2 with ⟨_, h0⟩ | ⟨g, cap, cur, hv, hb, hg, h4, h5, h6, h7⟩
  · omega
  · refine ⟨g, cap, fun k => cur[k]?.getD undef, hv, hb, h4, h5, ⟨cur, hg, by omega, fun i hi => ?_⟩, fun k hk => ?_⟩
    · simp [Array.getElem?_eq_getElem (show i < cur.size by omega)]
    · rw [← h7, Nat.mul_one, List.getElem?_take_of_lt hk]
      simp [Array.getElem?_eq_getElem (show k < cur.size by omega)]

def i8s (l : List Int) : List Value := l.map (Value.int .i8)
theorem i8s_len (l : List Int) : (i8s l).length = l.length * 1 := by simp [i8s]
theorem i8s_get {l : List Int} {j : Nat} {u : Value} (h : (i8s l)[j]? = some u) : j < l.length ∧ u = .int .i8 (ia l j) := by
  unfold i8s at h
  rw [List.getElem?_map, Option.map_eq_some_iff] at h
  obtain ⟨x, hx, rfl⟩ := h
  obtain ⟨h1, _⟩ := List.getElem?_eq_some_iff.1 hx
  refine ⟨h1, ?_⟩
  unfold ia
  rw [List.getD_eq_getElem?_getD, hx]
  rfl
theorem i8s_at {l : List Int} {j : Nat} (h : j < l.length) : (i8s l)[j]? = some (.int .i8 (ia l j)) := by
  unfold i8s ia
  rw [List.getElem?_map, List.getD_eq_getElem?_getD, List.getElem?_eq_getElem h]
  rfl
theorem i8s_one {l : List Int} : ∀ u ∈ i8s l, u.oneCell' = true := by
  intro u hu
  unfold i8s at hu
  obtain ⟨x, _, rfl⟩ := List.mem_map.1 hu
  rfl
theorem i8s_snoc (l : List Int) (x : Int) : i8s (l ++ [x]) = i8s l ++ [.int .i8 x] := by simp [i8s]
theorem r8_add {w : World} {a : Addr} {l : List Int} (h : R8 w (some a) l) {j : Nat} (hj : j < l.length) : w.cell? (a.add j) = some (.int .i8 (ia l j)) := by
  obtain ⟨g, o, e, c⟩ := h j hj
  obtain rfl : a = ⟨g, o, none⟩ := Option.some.inj e
  by_cases h0 : j = 0
  · subst h0; exact c
  · simp [Addr.add, h0, c]
theorem r8_take {w : World} {ao : Option Addr} {l : List Int} (h : R8 w ao l) (n : Nat) : R8 w ao (l.take n) := by
  intro k hk
  have hk' : k < n ∧ k < l.length := by simp at hk; omega
  obtain ⟨g, o, e, c⟩ := h k hk'.2
  exact ⟨g, o, e, by rw [ia_take hk'.1]; exact c⟩
/-- An own row of small numbers reads as they do. -/
theorem r8_own {w : World} {base : Nat} {v : Value} {l : List Int} (h : w.ownsRow base 61 1 v l.length (i8s l)) : ∃ ao cap, v = .slice ao l.length cap ∧ l.length ≤ cap ∧ cap ≤ maxLen ∧ (ao = none → l.length = 0 ∧ cap = 0) ∧ (∀ a, ao = some a → ∃ g, a = ⟨g, 0, none⟩) ∧ R8 w ao l := by
  rcases Nat.eq_zero_or_pos l.length with h0 | h0
  · rcases h.2 with ⟨h1, _⟩ | ⟨g, cap, cur, hv, _, _, h4, h5, _⟩
    · exact ⟨none, 0, by rw [h0]; exact h1, by omega, by simp [maxLen], fun _ => ⟨h0, rfl⟩, fun _ e => (by cases e), fun k hk => absurd hk (by omega)⟩
    · exact ⟨_, cap, hv, h4, h5, fun e => (by cases e), fun a e => ⟨g, (Option.some.inj e).symm⟩, fun k hk => absurd hk (by omega)⟩
  · obtain ⟨g, cap, f, hv, _, h4, h5, hr, hf⟩ := own_row h h0
    refine ⟨_, cap, hv, h4, h5, fun e => (by cases e), fun a e => ⟨g, (Option.some.inj e).symm⟩, fun k hk => ⟨g, 0, rfl, ?_⟩⟩
    rw [Nat.zero_add]
    refine (hr.cell (by omega)).trans ?_
    have := hf k hk
    rw [i8s_at hk] at this
    exact congrArg some (Option.some.inj this).symm

theorem app_nil {ops : Array Oper} {rest : List Oper} {o : Oper} {a : Act} {Q : Exit → Act → World → Prop} {w : World} (hgd : o.guard = none) (s x : Operand)
    (ho : o.op = .call { callee := .builtin .append, args := #[s, x], argTypes := #[45, 45] }) (hs : a.eval s = .slice none 0 0)
    (bo : Option Addr) (l : List Int) (cb : Nat) (hx : a.eval x = .slice bo l.length cb) (hr : R8 w bo l) (hn : bo = none → l.length = 0 ∧ cb = 0) (hM : l.length ≤ 140737488351232)
    (h : ∀ v' w', w'.ownsRow w.heap.size 61 1 v' l.length (i8s l) → Below w.heap.size w w' → wpList Try.prog ops Q rest (a.put o.dst v') w') : wpList Try.prog ops Q (o :: rest) a w := by
  obtain ⟨i0, hi, hz0, hz1, hz2⟩ := info_parts info_i8
  cases bo with
  | none =>
    obtain ⟨h0, rfl⟩ := hn rfl
    rw [h0] at hx
    refine wpList_append_own_none hgd s x _ ho w.heap.size 61 i0 1 und_i8s hi (.slice none 0 0) 0 [] hs (World.ownsRow_nil _ _ _ _) hx (h _ _ ?_ (Below.refl _ _))
    have e : l = [] := List.eq_nil_of_length_eq_zero h0
    subst e
    exact World.ownsRow_nil _ _ _ _
  | some ad =>
    refine wpList_append_own w hgd s x _ ho w.heap.size 61 i0 (.int .i8 0) 1 1 und_i8s hi hz0 hz1 hz2 rfl (by decide) (.slice none 0 0) 0 [] hs (World.ownsRow_nil _ _ _ _) ad l.length cb (i8s l) hx (i8s_len l)
      (fun j u hu => by obtain ⟨h1, rfl⟩ := i8s_get hu; exact r8_add hr h1) i8s_one (by unfold maxLen; omega) (by omega) (Nat.le_refl _) ?_
    intro v' w' h1 h2 _
    rw [Nat.zero_add, List.nil_append] at h1
    exact h v' w' h1 ((Below.refl _ _).grown h2 (Nat.le_refl _) (fun _ e => by cases e))

/-- One small number appended to a list of one's own. -/
theorem app_one {ops : Array Oper} {rest : List Oper} {o : Oper} {a : Act} {Q : Exit → Act → World → Prop} {w : World} (hgd : o.guard = none) (s x : Operand)
    (ho : o.op = .call { callee := .builtin .append, args := #[s, x], argTypes := #[45, 45] }) (base : Nat) (v : Value) (l : List Int) (hs : a.eval s = v) (hown : w.ownsRow base 61 1 v l.length (i8s l))
    (g : Nat) (y : Int) (cb : Nat) (hx : a.eval x = .slice (some ⟨g, 0, none⟩) 1 cb) (hr : w.cell? ⟨g, 0, none⟩ = some (.int .i8 y)) (hM : l.length < 140737488355328) (hb : base ≤ w.heap.size)
    (h : ∀ v' w', w'.ownsRow base 61 1 v' (l.length + 1) (i8s (l ++ [y])) → w.grownBy w' v.ownBlock → wpList Try.prog ops Q rest (a.put o.dst v') w') : wpList Try.prog ops Q (o :: rest) a w := by
  obtain ⟨i0, hi, hz0, hz1, hz2⟩ := info_parts info_i8
  refine wpList_append_own w hgd s x _ ho base 61 i0 (.int .i8 0) 1 1 und_i8s hi hz0 hz1 hz2 rfl (by decide) v l.length (i8s l) hs hown ⟨g, 0, none⟩ 1 cb [.int .i8 y] hx rfl
    (fun j u hu => ?_) (fun u hu => by simp at hu; subst hu; rfl) (by unfold maxLen; omega) (by omega) hb ?_
  · rcases j with _ | j
    · simp at hu; subst hu; exact hr
    · simp at hu
  · intro v' w' h1 h2 _
    exact h v' w' (by rw [i8s_snoc]; exact h1) h2

/-- Made weights. -/
def tml (l : List Int) : List Int := l.map fun x => x.tmod 2
theorem ia_snoc {l : List Int} {k : Nat} (h : k < l.length) : l.take (k + 1) = l.take k ++ [ia l k] := by
  rw [List.take_succ_eq_append_getElem h]
  congr 2
  unfold ia
  simp [List.getD, h]
theorem tml_len (l : List Int) : (tml l).length = l.length := by simp [tml]
theorem tml_ia {l : List Int} {k : Nat} (h : k < l.length) : ia (tml l) k = (ia l k).tmod 2 := by
  unfold ia tml
  simp [List.getD, h]
theorem tml_take {l : List Int} {k : Nat} (h : k < l.length) : (tml l).take (k + 1) = (tml l).take k ++ [(ia l k).tmod 2] := by
  rw [ia_snoc (by rw [tml_len]; exact h), tml_ia h]
theorem tmod2 (x : Int) : -1 ≤ x.tmod 2 ∧ x.tmod 2 ≤ 1 := by
  rcases Int.le_total 0 x with h | h
  · rw [Int.tmod_eq_emod_of_nonneg h]; omega
  · obtain ⟨y, rfl⟩ : ∃ y, x = -y := ⟨-x, by omega⟩
    rw [Int.neg_tmod, Int.tmod_eq_emod_of_nonneg (by omega)]; omega
theorem r8_nil {w : World} {ao : Option Addr} {l : List Int} (h : R8 w ao l) (h0 : 0 < l.length) : ∃ g o, ao = some ⟨g, o, none⟩ := by
  obtain ⟨g, o, e, _⟩ := h 0 h0
  exact ⟨g, o, e⟩
end Go.Proofs.Ytnhhcdkejknnmaa
/- BoundRows: mathematics. -/
namespace Go.Proofs.Ytnhhcdkejknnmaa
open Go.RowKit

/-- How many of the first k weights are above 0; below 0. -/
def cP (f : Nat → Int) : Nat → Nat
  | 0 => 0
  | k + 1 => cP f k + if 0 < f k then 1 else 0
def cM (f : Nat → Int) : Nat → Nat
  | 0 => 0
  | k + 1 => cM f k + if f k < 0 then 1 else 0
theorem cP_le (f : Nat → Int) : ∀ k, cP f k + cM f k ≤ k
  | 0 => Nat.le_refl _
  | k + 1 => by
    have := cP_le f k
    simp only [cP, cM]
    by_cases h : 0 < f k
    · rw [if_pos h, if_neg (by omega)]; omega
    · rw [if_neg h]; split <;> omega
theorem pc_pk (l : List Int) (N : Nat) : ∀ k, k ≤ N → pc (pk l N) k = cP (ia l) k
  | 0, _ => rfl
  | k + 1, h => by
    simp only [pc, cP]
    rw [pc_pk l N k (by omega), pk_bit]
    by_cases hp : 0 < ia l k
    · rw [if_pos hp]; simp [hp]; omega
    · rw [if_neg hp]; simp [hp]
theorem pc_nz (l : List Int) (N : Nat) : ∀ k, k ≤ N → pc (bn (nz l) N) k = cP (ia l) k + cM (ia l) k
  | 0, _ => rfl
  | k + 1, h => by
    simp only [pc, cP, cM]
    rw [pc_nz l N k (by omega), bn_bit]
    have hk : decide (k < N) = true := decide_eq_true (by omega)
    by_cases hp : 0 < ia l k
    · rw [if_pos hp, if_neg (by omega), hk]; simp [nz, show ia l k ≠ 0 by omega]; omega
    · by_cases hm : ia l k < 0
      · rw [if_neg hp, if_pos hm, hk]; simp [nz, show ia l k ≠ 0 by omega]; omega
      · rw [if_neg hp, if_neg hm, hk]; simp [nz, show ia l k = 0 by omega]
theorem pk_sub (l : List Int) (N : Nat) : pk l N &&& bn (nz l) N = pk l N := by
  refine Nat.eq_of_testBit_eq fun i => ?_
  rw [Nat.testBit_and, pk_bit, bn_bit]
  by_cases hp : 0 < ia l i
  · simp [nz, hp, show ia l i ≠ 0 by omega]
  · simp [hp]
theorem dck_ob4 {n g1 g2 S M : Nat} (h1 : n ≤ 16777216) (hS : S < 2 ^ n) (hM : M < 2 ^ n) (h : S &&& M = S) : dck (ob n g1 S) (ob n g2 M) = 0 := by
  have c1 := chk_ok h1 hS
  have c2 := chk_ok h1 hM
  unfold dck
  rw [if_neg (by simp [ftB, c1, c2]), if_pos h]
theorem mulS {p : Nat} {x : Int} (hp : p ≤ 300) (hx : -1000000 ≤ x ∧ x ≤ 1000000) : -300000000 ≤ (p : Int) * x ∧ (p : Int) * x ≤ 300000000 := by
  have h1 : (p : Int) * x ≤ 300 * 1000000 := by
    by_cases h0 : 0 ≤ x
    · exact Int.le_trans (Int.mul_le_mul_of_nonneg_right (show (p : Int) ≤ 300 by omega) h0) (Int.mul_le_mul_of_nonneg_left (by omega) (by decide))
    · exact Int.le_trans (Int.mul_nonpos_of_nonneg_of_nonpos (by omega) (by omega)) (by decide)
  have h2 : (p : Int) * (-x) ≤ 300 * 1000000 := by
    by_cases h0 : 0 ≤ -x
    · exact Int.le_trans (Int.mul_le_mul_of_nonneg_right (show (p : Int) ≤ 300 by omega) h0) (Int.mul_le_mul_of_nonneg_left (by omega) (by decide))
    · exact Int.le_trans (Int.mul_nonpos_of_nonneg_of_nonpos (by omega) (by omega)) (by decide)
  rw [Int.mul_neg] at h2
  omega
/-- What Row tells of packed weights. -/
theorem row_pack {l : List Int} {N g1 g2 : Nat} {lo hi : Int} (h1 : N ≤ 300) (hl : -1000000 ≤ lo) (hlh : lo ≤ hi) (hh : hi ≤ 1000000) :
    roE (ob N g1 (pk l N)) (ob N g2 (bn (nz l) N)) lo hi = 0 ∧ roL (ob N g1 (pk l N)) (ob N g2 (bn (nz l) N)) lo hi = (cP (ia l) N : Nat) * lo - (cM (ia l) N : Nat) * hi ∧ roH (ob N g1 (pk l N)) (ob N g2 (bn (nz l) N)) lo hi = (cP (ia l) N : Nat) * hi - (cM (ia l) N : Nat) * lo := by
  have hd := dck_ob4 (g1 := g1) (g2 := g2) (show N ≤ 16777216 by omega) (pk_lt l N) (bn_lt (nz l) N) (pk_sub l N)
  have e1 : rP (ob N g1 (pk l N)) = (cP (ia l) N : Nat) := by
    unfold rP
    show ((pc (pk l N) (64 * nw N) : Nat) : Int) = _
    rw [pc_above (pk_lt l N) (nw_le N), pc_pk l N N (Nat.le_refl _)]
  have e2 : rM (ob N g1 (pk l N)) (ob N g2 (bn (nz l) N)) = (cM (ia l) N : Nat) := by
    unfold rM
    show ((pc (bn (nz l) N) (64 * nw N) : Nat) : Int) - ((pc (pk l N) (64 * nw N) : Nat) : Int) = _
    rw [pc_above (pk_lt l N) (nw_le N), pc_pk l N N (Nat.le_refl _), pc_above (bn_lt (nz l) N) (nw_le N), pc_nz l N N (Nat.le_refl _)]
    omega
  have hb := cP_le (ia l) N
  generalize cP (ia l) N = P at *
  generalize cM (ia l) N = Q at *
  have eL : rL (ob N g1 (pk l N)) (ob N g2 (bn (nz l) N)) lo hi = (P : Nat) * lo - (Q : Nat) * hi := by unfold rL; rw [e1, e2]
  have eH : rH (ob N g1 (pk l N)) (ob N g2 (bn (nz l) N)) lo hi = (P : Nat) * hi - (Q : Nat) * lo := by unfold rH; rw [e1, e2]
  have m1 := mulS (p := P) (by omega) (show -1000000 ≤ lo ∧ lo ≤ 1000000 by omega)
  have m2 := mulS (p := P) (by omega) (show -1000000 ≤ hi ∧ hi ≤ 1000000 by omega)
  have m3 := mulS (p := Q) (by omega) (show -1000000 ≤ lo ∧ lo ≤ 1000000 by omega)
  have m4 := mulS (p := Q) (by omega) (show -1000000 ≤ hi ∧ hi ≤ 1000000 by omega)
  have n1 : (P : Int) * lo ≤ P * hi := Int.mul_le_mul_of_nonneg_left hlh (by omega)
  have n2 : (Q : Int) * lo ≤ Q * hi := Int.mul_le_mul_of_nonneg_left hlh (by omega)
  have e3 : roE (ob N g1 (pk l N)) (ob N g2 (bn (nz l) N)) lo hi = 0 := by
    unfold roE
    rw [if_neg (by simpa using hd), if_pos (show maR lo hi from ⟨by omega, hlh, by omega⟩), if_pos]
    rw [eL, eH]
    exact ⟨by omega, by omega, by omega⟩
  refine ⟨e3, ?_, ?_⟩
  · unfold roL; rw [if_pos e3, eL]
  · unfold roH; rw [if_pos e3, eH]
def clV (n lo hi : Int) : Int := if n < lo then lo else if n > hi then hi else n
theorem clV_in {n lo hi : Int} (h : lo ≤ hi) : lo ≤ clV n lo hi ∧ clV n lo hi ≤ hi := by unfold clV; split <;> (try split) <;> omega
end Go.Proofs.Ytnhhcdkejknnmaa
