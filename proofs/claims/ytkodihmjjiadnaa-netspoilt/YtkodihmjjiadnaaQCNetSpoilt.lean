import Derived.Test.YtkodihmjjiadnaaNO6
import Derived.BigQuiet
import Derived.Test.YtkodihmjjiadnaaNP5
import Derived.Test.YtkodihmjjiadnaaOB1
import Derived.Test.YtkodihmjjiadnaaDW7
import Derived.Deep.AppendLies
import Derived.Laws.AppendOwnNone
import Derived.WalkLawsBesides
import Derived.Test.YtkodihmjjiadnaaQBNetSpoilt
import Derived.Lib.SliceRun
import Derived.Laws.CopyOwn
import Derived.Deep.RegionLaw
import Derived.Test.YtkodihmjjiadnaaNO5
/- Lists of lists of reaches that are alike; the network tiny. -/
namespace Go.Proofs.Ytkodihmjjiadnaa.Nn
open Go.RowKit

/-- A list of reaches in memory. -/
def Lr1 (W : World) (g o m : Nat) (f h : Nat → Int) : Prop := ∀ j, j < m → W.cell? ⟨g, o + j * 2, none⟩ = some (.int .i64 (f j)) ∧ W.cell? ⟨g, o + j * 2 + 1, none⟩ = some (.int .i64 (h j))
theorem Lr1.keep {W X : World} {g o m : Nat} {f h : Nat → Int} (r : Lr1 W g o m f h) (hb : Below W.heap.size W X) : Lr1 X g o m f h := fun j hj => ⟨keepc hb (r j hj).1, keepc hb (r j hj).2⟩
/-- A list of lists of reaches in memory. -/
def Lrr (W : World) (g o m : Nat) (C : Nat → Nat) (f h : Nat → Nat → Int) : Prop := ∀ i, i < m → ∃ g' o' cp, W.cell? ⟨g, o + i, none⟩ = some (.slice (some ⟨g', o', none⟩) (C i) cp) ∧ C i ≤ 9223372036854775807 ∧ Lr1 W g' o' (C i) (f i) (h i)
theorem Lrr.keep {W X : World} {g o m : Nat} {C : Nat → Nat} {f h : Nat → Nat → Int} (r : Lrr W g o m C f h) (hb : Below W.heap.size W X) : Lrr X g o m C f h := fun i hi => by
  obtain ⟨g', o', cp, c, hc, hr⟩ := r i hi
  exact ⟨g', o', cp, keepc hb c, hc, hr.keep hb⟩
set_option maxHeartbeats 3200000 in
set_option maxRecDepth 100000 in
theorem eqR_same (m : Nat) (hm : m ≤ 9223372036854775807) (C : Nat → Nat) (f h : Nat → Nat → Int) (g o g2 o2 : Nat) (ca cb : Nat) (w : World) (hA : Lrr w g o m C f h) (hB : Lrr w g2 o2 m C f h) :
    Calls Try.prog 33 #[.slice (some ⟨g, o, none⟩) m ca, .slice (some ⟨g2, o2, none⟩) m cb] w fun e w' => e = .returned (.bool true) ∧ Below w.heap.size w w' := by
  have HA := hid1 hA
  have HB := hid1 hB
  clear hA hB
  go_enter Try.func33, Try.ntmps33
  go_wp2_with fail
  go_loopw [5] (fun i wr => ∃ k : Nat, k ≤ m ∧ i = .int .i64 k ∧ Below w.heap.size w wr) (fun i _ => m - (intOf i).toNat)
  case atStart => exact ⟨0, Nat.zero_le _, rfl, Below.refl _ _⟩
  case round =>
    obtain ⟨k, hk, rfl, BX⟩ := hrel
    by_cases hlt : k < m
    · obtain ⟨ga, oa, cpa, ca', hC, ra⟩ := (HA.out.keep BX) k hlt
      obtain ⟨gb, ob, cpb, cb', -, rb⟩ := (HB.out.keep BX) k hlt
      have ik : (k : Int) < (m : Nat) := by omega
      have ik0 : (0 : Int) ≤ (k : Int) := by omega
      have RA := hid1 (And.intro ca' ra)
      have RB := hid1 (And.intro cb' rb)
      clear ra rb
      generalize C k = c at *
      generalize f k = fk at *
      generalize h k = fh at *
      have HBX := hid1 BX
      clear BX
      go_upto_region 6 with fail
      go_quiet (fail)
      go_wp2_with fail
      clear ca' cb'
      go_loopw [6] (fun i wy => ∃ j : Nat, j ≤ c ∧ i = .int .i64 j ∧ Below wr.heap.size wr wy) (fun i _ => c - (intOf i).toNat)
      case atStart => exact ⟨0, Nat.zero_le _, rfl, by repeat (first | (with_reducible exact Below.refl _ _) | (with_reducible refine bl_alloc ?_ _) | (with_reducible refine Below.drew ?_) | (with_reducible refine bl_drewN ?_ _) | (with_reducible refine bl_set ?_ (by omega) _) | (with_reducible refine bl_step ?_ (by assumption)))⟩
      case round =>
        obtain ⟨j, hj, rfl, BY⟩ := hrel
        have ca' := keepc BY RA.out.1
        have ij0 : (0 : Int) ≤ (j : Int) := by omega
        by_cases hjl : j < c
        · have ij : (j : Int) < (c : Nat) := by omega
          have cb' := keepc BY RB.out.1
          obtain ⟨x0, x1⟩ := (RA.out.2.keep BY) j hjl
          obtain ⟨y0, y1⟩ := (RB.out.2.keep BY) j hjl
          generalize fk j = x at *
          generalize fh j = y at *
          have HBY := hid1 BY
          clear BY
          go_upto_region 11 with fail
          go_quiet (fail)
          go_wp2_with fail
          exact ⟨⟨j + 1, by omega, by go_num, by have := HBY.out; repeat (first | (with_reducible exact Below.refl _ _) | (with_reducible refine bl_alloc ?_ _) | (with_reducible refine Below.drew ?_) | (with_reducible refine bl_drewN ?_ _) | (with_reducible refine bl_set ?_ (by omega) _) | (with_reducible refine bl_step ?_ (by assumption)))⟩, by simp [intOf]; omega⟩
        · have hjN : j = c := by omega
          go_wp2_with fail
          exact ⟨⟨k + 1, by omega, by go_num, bl_step HBX.out BY⟩, by simp [intOf]; omega⟩
    · have hkN : k = m := by omega
      subst hkN
      go_wp2_with fail
      go_ret
      exact ⟨rfl, BX⟩
set_option maxHeartbeats 800000 in
set_option maxRecDepth 100000 in
theorem eqR_nil (ao bo : Option Addr) (ca cb : Nat) (w : World) :
    Calls Try.prog 33 #[.slice ao 0 ca, .slice bo 0 cb] w fun e w' => e = .returned (.bool true) ∧ Below w.heap.size w w' := by
  go_enter Try.func33, Try.ntmps33
  go_wp2_with fail
  go_loopw [5] (fun i wr => i = .int .i64 0 ∧ Below w.heap.size w wr) (fun i _ => 0)
  case atStart => exact ⟨rfl, Below.refl _ _⟩
  case round =>
    obtain ⟨rfl, BX⟩ := hrel
    go_wp2_with fail
    go_ret
    exact ⟨rfl, BX⟩
/-- What Net answers is such a list. -/
theorem cN_le {N : Nt} (hz : chE N = 0) : ∀ i, i ≤ N.ml → 1 ≤ cN N i ∧ cN N i ≤ 4096 := fun i hi => by
  have hall : whE N = 0 ∧ ∀ j, j < N.ml → fl N j = 0 := by
    unfold chE at hz
    by_cases h0 : whE N = 0
    · rw [if_pos h0] at hz; exact ⟨h0, frF_z hz⟩
    · rw [if_neg h0] at hz; exact absurd hz h0
  have := (sp_ok (wh_parts hall.1).2.1 (k := i) (fun j hj => hall.2 j (by omega))).1.2.2
  unfold cN
  omega
theorem Yl.lrr {W : World} {N : Nt} {G k : Nat} {gs : Nat → Nat} (h : Yl W N G gs k) (hk : k ≤ N.ml) (hz : chE N = 0) : Lrr W G 0 k (fun i => cN N (i + 1)) (fun i => yLo (N.lf i) (fanN N i) i) (fun i => yHi (N.lf i) (fanN N i) i) := fun i hi => by
  refine ⟨gs i, 0, cN N (i + 1), ?_, ?_, fun j hj => ?_⟩
  · rw [Nat.zero_add, World.rowIs.cell h.2 (by omega)]
    unfold lsf
    rw [if_pos hi]
  · have := cN_le hz (i + 1) (by omega)
    show cN N (i + 1) ≤ _
    omega
  · have := Rc.at (h.1 i hi).2.2 hj hj
    simpa using this
end Go.Proofs.Ytkodihmjjiadnaa.Nn
/- NETWORKS: THE CHAPTER'S EXAMPLE. -/
namespace Go.Proofs.Ytkodihmjjiadnaa.Nn
open Go.RowKit

def exA (B : Nat) : Ly := ⟨1, 1, 1, 2, 2, 1, 1, 1, 1, 1, 1, 1, some ⟨B + 4, 0, none⟩, 4, 4, some ⟨B + 5, 0, none⟩, 1, 1, none, 0, 0, fun j => [1, -1, -1, 1].getD j 0, fun _ i => [1, 1, 0, 1, 0, 1, 1, 1].getD i 0, fun _ => 0⟩
def exP : Ly := ⟨3, 0, 0, 2, 2, 1, 1, 0, 0, 0, 0, 0, none, 0, 0, none, 0, 0, none, 0, 0, fun _ => 0, fun _ _ => 0, fun _ => 0⟩
def exD (B : Nat) (x : Int) : Ly := ⟨2, 2, 2, 0, 0, 0, 0, 0, 0, 0, 0, 0, some ⟨B + 8, 0, none⟩, 8, 8, none, 0, 0, some ⟨B + 9, 0, none⟩, 2, 2, fun j => [1, 0, -1, 1, 0, 0, 0, 1].getD j 0, fun _ _ => 0, fun j => [x, -4].getD j 0⟩
def exN (B : Nat) (x : Int) : Nt := ⟨⟨#[110]⟩, 2, 2, 1, some ⟨B + 11, 0, none⟩, 3, 3, fun i => match i with | 0 => exA B | 1 => exP | _ => exD B x⟩
abbrev lcs (L : Ly) : List Value := [.int .i64 L.kd, .int .i64 L.wt, .int .i64 L.k, .int .i64 L.r, .int .i64 L.s, .int .i64 L.sy, .int .i64 L.sx, .int .i64 L.t, .int .i64 L.l, .int .i64 L.b, .int .i64 L.q, .int .i64 L.bd, .slice L.aw L.mw L.cw, .slice L.an L.mn L.cn, .slice L.ab L.mb L.cb]
abbrev i8c (l : List Int) : Array Value := (l.map (Value.int .i8)).toArray
abbrev i64c (l : List Int) : Array Value := (l.map (Value.int .i64)).toArray
abbrev exRow (B : Nat) : Array Value := #[.int .i64 (exA B).kd, .int .i64 (exA B).wt, .int .i64 (exA B).k, .int .i64 (exA B).r, .int .i64 (exA B).s, .int .i64 (exA B).sy, .int .i64 (exA B).sx, .int .i64 (exA B).t, .int .i64 (exA B).l, .int .i64 (exA B).b, .int .i64 (exA B).q, .int .i64 (exA B).bd, .slice (exA B).aw (exA B).mw (exA B).cw, .slice (exA B).an (exA B).mn (exA B).cn, .slice (exA B).ab (exA B).mb (exA B).cb, .int .i64 exP.kd, .int .i64 exP.wt, .int .i64 exP.k, .int .i64 exP.r, .int .i64 exP.s, .int .i64 exP.sy, .int .i64 exP.sx, .int .i64 exP.t, .int .i64 exP.l, .int .i64 exP.b, .int .i64 exP.q, .int .i64 exP.bd, .slice exP.aw exP.mw exP.cw, .slice exP.an exP.mn exP.cn, .slice exP.ab exP.mb exP.cb, .int .i64 (exD B 3).kd, .int .i64 (exD B 3).wt, .int .i64 (exD B 3).k, .int .i64 (exD B 3).r, .int .i64 (exD B 3).s, .int .i64 (exD B 3).sy, .int .i64 (exD B 3).sx, .int .i64 (exD B 3).t, .int .i64 (exD B 3).l, .int .i64 (exD B 3).b, .int .i64 (exD B 3).q, .int .i64 (exD B 3).bd, .slice (exD B 3).aw (exD B 3).mw (exD B 3).cw, .slice (exD B 3).an (exD B 3).mn (exD B 3).cn, .slice (exD B 3).ab (exD B 3).mb (exD B 3).cb]
/-- The example's lists lie in memory. -/
def ExB (W : World) (B : Nat) (x : Int) : Prop := W.heap[B + 4]? = some (.cells (i8c [1, -1, -1, 1]) 49) ∧ W.heap[B + 5]? = some (.cells (i64c [1, 1, 0, 1, 0, 1, 1, 1]) 71) ∧ W.heap[B + 8]? = some (.cells (i8c [1, 0, -1, 1, 0, 0, 0, 1]) 49) ∧ W.heap[B + 9]? = some (.cells (i64c [x, -4]) 2) ∧ W.heap[B + 11]? = some (.cells (exRow B) 45)
theorem lt_block {W : World} {b : Nat} {o : Obj} (h : W.heap[b]? = some o) : b < W.heap.size := (Array.getElem?_eq_some_iff.1 h).1
theorem keepb {W w' : World} (hb : Below W.heap.size W w') {b : Nat} {o : Obj} (h : W.heap[b]? = some o) : w'.heap[b]? = some o := (hb.block b (lt_block h)).trans h
theorem ExB.keep {W w' : World} {B : Nat} {x : Int} (h : ExB W B x) (hb : Below W.heap.size W w') : ExB w' B x := ⟨keepb hb h.1, keepb hb h.2.1, keepb hb h.2.2.1, keepb hb h.2.2.2.1, keepb hb h.2.2.2.2⟩
theorem bcl {W : World} {b : Nat} {cs : Array Value} {t : TypeId} (h : W.heap[b]? = some (.cells cs t)) {j : Nat} {v : Value} (e : cs[j]? = some v) : W.cell? ⟨b, j, none⟩ = some v := (block_cell h j).trans e
theorem four' {p : Nat → Prop} {i n : Nat} (h : i < n) (hp : ∀ j : Fin n, p j.1) : p i := hp ⟨i, h⟩
theorem lst_nil {W : World} {L : Ly} (h1 : L.mw = 0) (h2 : L.mn = 0) (h3 : L.mb = 0) : Lst W L := ⟨fun j hj => by omega, fun j hj => by omega, fun j hj => by omega, by omega, by omega, by omega⟩
set_option maxRecDepth 10000 in
theorem exB_A {W : World} {B : Nat} {x : Int} (h : ExB W B x) : Lst W (exA B) := by
  refine ⟨fun j hj => ⟨B + 4, 0, rfl, ?_⟩, fun j hj => ⟨B + 5, 0, rfl, ?_⟩, fun j hj => absurd hj (Nat.not_lt_zero j), (show (4 : Nat) ≤ 9223372036854775807 by decide), (show (1 : Nat) ≤ 9223372036854775807 by decide), (show (0 : Nat) ≤ 9223372036854775807 by decide)⟩
  · change j < 4 at hj
    rcases (show j = 0 ∨ j = 1 ∨ j = 2 ∨ j = 3 by omega) with rfl | rfl | rfl | rfl <;> exact bcl h.1 rfl
  · change j < 1 at hj
    obtain rfl : j = 0 := by omega
    exact ⟨bcl h.2.1 rfl, bcl h.2.1 rfl, bcl h.2.1 rfl, bcl h.2.1 rfl, bcl h.2.1 rfl, bcl h.2.1 rfl, bcl h.2.1 rfl, bcl h.2.1 rfl⟩
set_option maxRecDepth 10000 in
theorem exB_D {W : World} {B : Nat} {x : Int} (h : ExB W B x) : Lst W (exD B x) := by
  refine ⟨fun j hj => ⟨B + 8, 0, rfl, ?_⟩, fun j hj => absurd hj (Nat.not_lt_zero j), fun j hj => ⟨B + 9, 0, rfl, ?_⟩, (show (8 : Nat) ≤ 9223372036854775807 by decide), (show (0 : Nat) ≤ 9223372036854775807 by decide), (show (2 : Nat) ≤ 9223372036854775807 by decide)⟩
  · change j < 8 at hj
    rcases (show j = 0 ∨ j = 1 ∨ j = 2 ∨ j = 3 ∨ j = 4 ∨ j = 5 ∨ j = 6 ∨ j = 7 by omega) with rfl | rfl | rfl | rfl | rfl | rfl | rfl | rfl <;> exact bcl h.2.2.1 rfl
  · change j < 2 at hj
    rcases (show j = 0 ∨ j = 1 by omega) with rfl | rfl <;> exact bcl h.2.2.2.1 rfl
set_option maxRecDepth 10000 in
theorem exW {W : World} {B : Nat} {x : Int} (h : ExB W B x) : NtW W (exN B x) := by
  refine ⟨fun i hi => ⟨B + 11, 0, rfl, ?_⟩, (show (3 : Nat) ≤ 9223372036854775807 by decide), (show (1 : Nat) ≤ 9223372036854775807 by decide)⟩
  change i < 3 at hi
  have hb := h.2.2.2.2
  rcases (show i = 0 ∨ i = 1 ∨ i = 2 by omega) with rfl | rfl | rfl
  · exact ⟨⟨bcl hb rfl, bcl hb rfl, bcl hb rfl, bcl hb rfl, bcl hb rfl, bcl hb rfl, bcl hb rfl, bcl hb rfl, bcl hb rfl, bcl hb rfl, bcl hb rfl, bcl hb rfl, bcl hb rfl, bcl hb rfl, bcl hb rfl⟩, exB_A h⟩
  · exact ⟨⟨bcl hb rfl, bcl hb rfl, bcl hb rfl, bcl hb rfl, bcl hb rfl, bcl hb rfl, bcl hb rfl, bcl hb rfl, bcl hb rfl, bcl hb rfl, bcl hb rfl, bcl hb rfl, bcl hb rfl, bcl hb rfl, bcl hb rfl⟩, lst_nil rfl rfl rfl⟩
  · exact ⟨⟨bcl hb rfl, bcl hb rfl, bcl hb rfl, bcl hb rfl, bcl hb rfl, bcl hb rfl, bcl hb rfl, bcl hb rfl, bcl hb rfl, bcl hb rfl, bcl hb rfl, bcl hb rfl, bcl hb rfl, bcl hb rfl, bcl hb rfl⟩, exB_D h⟩
set_option maxRecDepth 10000 in
theorem ex_ok (B : Nat) : chE (exN B 3) = 0 ∧ chA (exN B 3) = 0 := by
  have h0 : whE (exN B 3) = 0 := by kernel_rfl
  refine ch_ok h0 fun j hj => ?_
  change j < 3 at hj
  rcases (show j = 0 ∨ j = 1 ∨ j = 2 by omega) with rfl | rfl | rfl <;> kernel_rfl
set_option maxRecDepth 10000 in
theorem ex_no (B : Nat) : chE (exN B 2147483644) = 55 ∧ chA (exN B 2147483644) = 2 := by
  have h0 : whE (exN B 2147483644) = 0 := by kernel_rfl
  have h2 : fl (exN B 2147483644) 2 = 55 := by kernel_rfl
  have := ch_at h0 (k := 2) (show 2 < 3 by decide) (fun j hj => by rcases (show j = 0 ∨ j = 1 by omega) with rfl | rfl <;> kernel_rfl) (by rw [h2]; decide)
  rw [h2] at this
  exact this
end Go.Proofs.Ytkodihmjjiadnaa.Nn
/- NETWORKS: THE CHAPTER'S EXAMPLE, MADE. -/
namespace Go.Proofs.Ytkodihmjjiadnaa.Nn
open Go.RowKit

theorem new_at {W : World} {g : Nat} (hg : W.heap.size = g) (o : Obj) : (W.alloc o).heap[g]? = some o := by subst hg; exact new_block W o
theorem old_at {W : World} {g : Nat} {o' : Obj} (h : W.heap[g]? = some o') (o : Obj) : (W.alloc o).heap[g]? = some o' := (old_block W o (lt_block h)).trans h
theorem bfz {W : World} {b : Nat} {cs : Array Value} {t : TypeId} (h : W.heap[b]? = some (.cells cs t)) (j : Nat) : W.frozen? ⟨b, j, none⟩ = false := by simp [World.frozen?, h]
theorem ExB.exc {W w' : World} {B b : Nat} {x : Int} (h : ExB W B x) (hb : Exc b W w') (hne : b ≤ B) : ExB w' B x := ⟨(hb.2 _ (by omega)).trans h.1, (hb.2 _ (by omega)).trans h.2.1, (hb.2 _ (by omega)).trans h.2.2.1, (hb.2 _ (by omega)).trans h.2.2.2.1, (hb.2 _ (by omega)).trans h.2.2.2.2⟩
theorem row_of_block {W : World} {b : Nat} {c : Array Value} {t : TypeId} (h : W.heap[b]? = some (.cells c t)) : W.rowIs b t c.size (fun i => (c[i]?).getD undef) := ⟨c, h, rfl, fun i hi => by simp [hi]⟩
theorem gen_body {P : Program} {fn : Func} {R : Ending → World → Prop} {x : Exit} {a : Act} {W : World} (p : World → Prop) (hp : p W) (h : ∀ W', p W' → bodyPost P fn R x a W') : bodyPost P fn R x a W := h W hp
theorem net_cells {W : World} {g : Nat} {t : TypeId} {f : Nat → Value} {a b c d e : Value} (h : W.rowIs g t 5 f) : (((((W.setCell ⟨g, 0, none⟩ a).setCell ⟨g, 1, none⟩ b).setCell ⟨g, 2, none⟩ c).setCell ⟨g, 3, none⟩ d).setCell ⟨g, 4, none⟩ e).rowIs g t 5 (fun j => match j with | 0 => a | 1 => b | 2 => c | 3 => d | _ => e) :=
  (((((h.set 0 a).set 1 b).set 2 c).set 3 d).set 4 e).congr fun i hi => by
    rcases (show i = 0 ∨ i = 1 ∨ i = 2 ∨ i = 3 ∨ i = 4 by omega) with rfl | rfl | rfl | rfl | rfl <;> rfl
abbrev netZ : Obj := .cells #[.string ⟨#[]⟩, .int .i64 0, .int .i64 0, .int .i64 0, .slice none 0 0] 28
abbrev layO (L : Ly) : Obj := .cells #[.int .i64 L.kd, .int .i64 L.wt, .int .i64 L.k, .int .i64 L.r, .int .i64 L.s, .int .i64 L.sy, .int .i64 L.sx, .int .i64 L.t, .int .i64 L.l, .int .i64 L.b, .int .i64 L.q, .int .i64 L.bd, .slice L.aw L.mw L.cw, .slice L.an L.mn L.cn, .slice L.ab L.mb L.cb] 45
noncomputable def rgE : Code := (Try.f18.body.bind (regionOf 7)).getD .skip
abbrev row3 (LA LB LC : Ly) : Array Value := #[.int .i64 LA.kd, .int .i64 LA.wt, .int .i64 LA.k, .int .i64 LA.r, .int .i64 LA.s, .int .i64 LA.sy, .int .i64 LA.sx, .int .i64 LA.t, .int .i64 LA.l, .int .i64 LA.b, .int .i64 LA.q, .int .i64 LA.bd, .slice LA.aw LA.mw LA.cw, .slice LA.an LA.mn LA.cn, .slice LA.ab LA.mb LA.cb, .int .i64 LB.kd, .int .i64 LB.wt, .int .i64 LB.k, .int .i64 LB.r, .int .i64 LB.s, .int .i64 LB.sy, .int .i64 LB.sx, .int .i64 LB.t, .int .i64 LB.l, .int .i64 LB.b, .int .i64 LB.q, .int .i64 LB.bd, .slice LB.aw LB.mw LB.cw, .slice LB.an LB.mn LB.cn, .slice LB.ab LB.mb LB.cb, .int .i64 LC.kd, .int .i64 LC.wt, .int .i64 LC.k, .int .i64 LC.r, .int .i64 LC.s, .int .i64 LC.sy, .int .i64 LC.sx, .int .i64 LC.t, .int .i64 LC.l, .int .i64 LC.b, .int .i64 LC.q, .int .i64 LC.bd, .slice LC.aw LC.mw LC.cw, .slice LC.an LC.mn LC.cn, .slice LC.ab LC.mb LC.cb]
set_option maxHeartbeats 3200000 in
set_option maxRecDepth 100000 in
theorem ex_seven (u1 u2 u3 u7 u8 u9 u10 u11 u12 u13 u14 u15 u16 u17 u18 u19 u20 u21 u22 u23 u24 u25 u26 u27 u28 u29 : Value) (g ga gb gc : Nat) (LA LB LC : Ly) (Z : World) (Q : Exit → Act → World → Prop) (hA : Lp Z ga LA) (hB : Lp Z gb LB) (hC : Lp Z gc LC) (r0 : Z.heap[g]? = some netZ)
    (hQ : Hid (∀ X, Exc g Z X → X.rowIs g 28 5 (fun j => match j with | 0 => .string ⟨#[110]⟩ | 1 => .int .i64 2 | 2 => .int .i64 2 | 3 => .int .i64 1 | _ => .slice (some ⟨Z.heap.size, 0, none⟩) 3 3) → X.tape = Z.tape ∧ X.os = Z.os ∧ X.output = Z.output → Q .normal ⟨#[.pointer (some ⟨g, 0, none⟩), u1, u2, u3, .pointer (some ⟨ga, 0, none⟩), .pointer (some ⟨gb, 0, none⟩), .pointer (some ⟨gc, 0, none⟩), u7, u8, u9, u10, u11, u12, u13, u14, u15, u16, u17, u18, u19, u20, u21, u22, u23, .agg #[.int .i64 2, .int .i64 2, .int .i64 1], .agg #[.int .i64 LA.kd, .int .i64 LA.wt, .int .i64 LA.k, .int .i64 LA.r, .int .i64 LA.s, .int .i64 LA.sy, .int .i64 LA.sx, .int .i64 LA.t, .int .i64 LA.l, .int .i64 LA.b, .int .i64 LA.q, .int .i64 LA.bd, .slice LA.aw LA.mw LA.cw, .slice LA.an LA.mn LA.cn, .slice LA.ab LA.mb LA.cb], .agg #[.int .i64 LB.kd, .int .i64 LB.wt, .int .i64 LB.k, .int .i64 LB.r, .int .i64 LB.s, .int .i64 LB.sy, .int .i64 LB.sx, .int .i64 LB.t, .int .i64 LB.l, .int .i64 LB.b, .int .i64 LB.q, .int .i64 LB.bd, .slice LB.aw LB.mw LB.cw, .slice LB.an LB.mn LB.cn, .slice LB.ab LB.mb LB.cb], .agg #[.int .i64 LC.kd, .int .i64 LC.wt, .int .i64 LC.k, .int .i64 LC.r, .int .i64 LC.s, .int .i64 LC.sy, .int .i64 LC.sx, .int .i64 LC.t, .int .i64 LC.l, .int .i64 LC.b, .int .i64 LC.q, .int .i64 LC.bd, .slice LC.aw LC.mw LC.cw, .slice LC.an LC.mn LC.cn, .slice LC.ab LC.mb LC.cb], .slice (some ⟨Z.heap.size, 0, none⟩) 3 3, .agg #[.string ⟨#[110]⟩, .int .i64 2, .int .i64 2, .int .i64 1, .slice (some ⟨Z.heap.size, 0, none⟩) 3 3]], []⟩ (X.alloc (.cells (row3 LA LB LC) 45)))) :
    Code.wp Try.prog rgE Q ⟨#[.pointer (some ⟨g, 0, none⟩), u1, u2, u3, .pointer (some ⟨ga, 0, none⟩), .pointer (some ⟨gb, 0, none⟩), .pointer (some ⟨gc, 0, none⟩), u7, u8, u9, u10, u11, u12, u13, u14, u15, u16, u17, u18, u19, u20, u21, u22, u23, u24, u25, u26, u27, u28, u29], []⟩ Z := by
  have HR := hid1 (row_of_block r0)
  have hlt := lt_block r0
  have n0 := bcl r0 (j := 0) rfl; have n1 := bcl r0 (j := 1) rfl; have n2 := bcl r0 (j := 2) rfl; have n3 := bcl r0 (j := 3) rfl; have n4 := bcl r0 (j := 4) rfl
  have z0 := bfz r0 0; have z1 := bfz r0 1; have z2 := bfz r0 2; have z3 := bfz r0 3; have z4 := bfz r0 4
  clear r0
  obtain ⟨a0, a1, a2, a3, a4, a5, a6, a7, a8, a9, a10, a11, a12, a13, a14⟩ := hA
  obtain ⟨b0, b1, b2, b3, b4, b5, b6, b7, b8, b9, b10, b11, b12, b13, b14⟩ := hB
  obtain ⟨d0, d1, d2, d3, d4, d5, d6, d7, d8, d9, d10, d11, d12, d13, d14⟩ := hC
  conv => arg 2; whnf
  go_wp2_with fail
  exact hQ.out _ ((((((Exc.refl g Z).set _ _).set _ _).set _ _).set _ _).set _ _) (net_cells HR.out) ⟨rfl, rfl, rfl⟩
end Go.Proofs.Ytkodihmjjiadnaa.Nn
/- bound.Row. -/
namespace Go.Proofs.Ytkodihmjjiadnaa
open Go.RowKit

theorem pcO_and (A B : Nat) : ∀ n, pc (A &&& B) n ≤ pc B n
  | 0 => Nat.le_refl _
  | n + 1 => by
    have ih := pcO_and A B n
    simp only [pc]
    rw [Nat.testBit_and]
    cases A.testBit n <;> cases B.testBit n <;> simp <;> omega
set_option maxHeartbeats 800000 in
set_option maxRecDepth 100000 in
theorem ofRow_any (A B : Bt) (w : World) (hA : Rw w A) (hB : Rw w B) (ha : A.m ≤ 262144) (hb : B.m ≤ 262144) :
    Calls Try.prog 50 #[rwv A B] w fun e w' => e = .returned (duo (pc A.N (64 * A.m) : Nat) ((pc B.N (64 * B.m) : Nat) - (pc A.N (64 * A.m) : Nat))) ∧ Below w.heap.size w w' := by
  have p1 := pcO_bd (N := A.N) (Nat.le_refl A.m)
  have p2 := pcO_bd (N := B.N) (Nat.le_refl B.m)
  have CA := hid1 (fun W (h : Below w.heap.size w W) => bones_any A.ao A.m A.cap A.N W ha (hA.below h).2.2)
  have CB := hid1 (fun W (h : Below w.heap.size w W) => bones_any B.ao B.m B.cap B.N W hb (hB.below h).2.2)
  clear hA hB
  generalize pc A.N (64 * A.m) = P at *
  generalize pc B.N (64 * B.m) = Q at *
  go_enter Try.func50, Try.ntmps50
  go_wp2_with fail
  refine (CA.out _ (by repeat (first | (with_reducible exact Below.refl _ _) | (with_reducible refine bl_alloc ?_ _) | (with_reducible refine Below.drew ?_) | (with_reducible refine bl_drewN ?_ _) | (with_reducible refine bl_set ?_ (by omega) _) | (with_reducible refine bl_step ?_ (by assumption))))).mono ?_
  rintro e w1 ⟨rfl, rfl⟩
  go_wp2_with fail
  refine (CB.out _ (by repeat (first | (with_reducible exact Below.refl _ _) | (with_reducible refine bl_alloc ?_ _) | (with_reducible refine Below.drew ?_) | (with_reducible refine bl_drewN ?_ _) | (with_reducible refine bl_set ?_ (by omega) _) | (with_reducible refine bl_step ?_ (by assumption))))).mono ?_
  rintro e w1 ⟨rfl, rfl⟩
  go_wp2_with fail
  refine bodyPost_ret (v := duo (P : Nat) ((Q : Nat) - (P : Nat))) (by simp [results, Try.results50, go_sem]) rfl ⟨rfl, ?_⟩
  repeat (first | exact Below.refl _ _ | refine bl_alloc ?_ _ | refine Below.drew ?_ | refine bl_drewN ?_ _ | refine bl_set ?_ (by omega) _ | refine bl_step ?_ (by assumption))
/-- How many weights are plus; minus. -/
def rP (A : Bt) : Int := (pc A.N (64 * A.m) : Nat)
def rM (A B : Bt) : Int := (pc B.N (64 * B.m) : Nat) - (pc A.N (64 * A.m) : Nat)
def rL (A B : Bt) (lo hi : Int) : Int := rP A * lo - rM A B * hi
def rH (A B : Bt) (lo hi : Int) : Int := rP A * hi - rM A B * lo
/-- What Row tells. -/
def roE (A B : Bt) (lo hi : Int) : Int := if dck A B ≠ 0 then dck A B else if maR lo hi then (if maR (rL A B lo hi) (rH A B lo hi) then 0 else 55) else 1
def roL (A B : Bt) (lo hi : Int) : Int := if roE A B lo hi = 0 then rL A B lo hi else 0
def roH (A B : Bt) (lo hi : Int) : Int := if roE A B lo hi = 0 then rH A B lo hi else 0
theorem mulO {p x : Int} (hp : 0 ≤ p ∧ p ≤ 16777216) (hx : -2147483647 ≤ x ∧ x ≤ 2147483647) : -36028797018963968 ≤ p * x ∧ p * x ≤ 36028797018963968 := by
  have h1 : p * x ≤ 16777216 * 2147483647 := by
    by_cases h0 : 0 ≤ x
    · exact Int.le_trans (Int.mul_le_mul_of_nonneg_right hp.2 h0) (Int.mul_le_mul_of_nonneg_left hx.2 (by decide))
    · exact Int.le_trans (Int.mul_nonpos_of_nonneg_of_nonpos hp.1 (by omega)) (by decide)
  have h2 : p * (-x) ≤ 16777216 * 2147483647 := by
    by_cases h0 : 0 ≤ -x
    · exact Int.le_trans (Int.mul_le_mul_of_nonneg_right hp.2 h0) (Int.mul_le_mul_of_nonneg_left (by omega) (by decide))
    · exact Int.le_trans (Int.mul_nonpos_of_nonneg_of_nonpos hp.1 (by omega)) (by decide)
  rw [Int.mul_neg] at h2
  omega
theorem rB {A B : Bt} (h : dck A B = 0) : (0 ≤ rP A ∧ rP A ≤ 16777216) ∧ (0 ≤ rM A B ∧ rM A B ≤ 16777216) := by
  obtain ⟨n, e1, e2, hn, m1, m2, l1, l2, ha⟩ := dck_zero h
  unfold rP rM
  have q1 := pc_le B.N (64 * B.m)
  have a1 : pc A.N (64 * A.m) = pc A.N n := pc_above l1 (by rw [m1]; exact nw_le n)
  have a2 : pc B.N (64 * B.m) = pc B.N n := pc_above l2 (by rw [m2]; exact nw_le n)
  have a3 := pcO_and A.N B.N n
  rw [ha] at a3
  have a4 := pc_le A.N n
  have a5 := pc_le B.N n
  rw [a1, a2]
  omega
theorem dck_m {A B : Bt} (h : dck A B = 0) : A.m ≤ 262144 ∧ B.m ≤ 262144 := by
  obtain ⟨n, e1, e2, hn, m1, m2, l1, l2, ha⟩ := dck_zero h
  have := nw_bd hn
  rw [m1, m2]; unfold nw at *; omega
theorem kpO {V Y : World} {b2 b3 t2 t3 : Nat} {A B : Bt} {lo hi : Int} (h2 : V.rowIs b2 t2 4 (qf A B)) (h3 : V.rowIs b3 t3 2 (duf lo hi)) (hb : Below V.heap.size V Y) :
    (Y.cell? ⟨b2, 0, none⟩ = some (.int .i64 A.n) ∧ Y.cell? ⟨b2, 1, none⟩ = some (.slice A.ao A.m A.cap) ∧ Y.cell? ⟨b2, 2, none⟩ = some (.int .i64 B.n) ∧ Y.cell? ⟨b2, 3, none⟩ = some (.slice B.ao B.m B.cap)) ∧ (Y.cell? ⟨b3, 0, none⟩ = some (.int .i64 lo) ∧ Y.cell? ⟨b3, 1, none⟩ = some (.int .i64 hi)) :=
  ⟨⟨q0 (keepr hb h2), q1 (keepr hb h2), q2 (keepr hb h2), q3 (keepr hb h2)⟩, du0 (keepr hb h3), du1 (keepr hb h3)⟩
theorem du_set {w : World} {b t : Nat} {x y : Int} (h : w.rowIs b t 2 (duf x y)) (u v : Int) : ((w.setCell ⟨b, 0, none⟩ (.int .i64 u)).setCell ⟨b, 1, none⟩ (.int .i64 v)).rowIs b t 2 (duf u v) := by
  have h1 := (h.set 0 (.int .i64 u)).set 1 (.int .i64 v)
  refine h1.congr fun i hi => ?_
  rcases i with _ | _ | i
  · rfl
  · rfl
  · omega
end Go.Proofs.Ytkodihmjjiadnaa
/- bound.Row, walked. -/
namespace Go.Proofs.Ytkodihmjjiadnaa
open Go.RowKit

theorem kmeet_of {J K : Act → World → Prop} {Q : Exit → Act → World → Prop} {a : Act} {w : World} (hK : ∀ a' w', Met J a' w' → K a' w') (h : Met J a w) : Exit.then K Q Exit.normal a w := hK _ _ h
set_option maxHeartbeats 1600000 in
set_option maxRecDepth 100000 in
theorem brow_any (A B : Bt) (lo hi : Int) (w : World) (hA : Rw w A) (hB : Rw w B) :
    Calls Try.prog 31 #[rwv A B, duo lo hi] w fun e w' => e = .returned (.tuple #[duo (roL A B lo hi) (roH A B lo hi), .int .i64 (roE A B lo hi)]) ∧ Below w.heap.size w w' := by
  have HA := hid1 hA
  have HB := hid1 hB
  clear hA hB
  by_cases hd : dck A B = 0
  · have CD := hid1 (fun W (h : Below w.heap.size w W) => dcheck_any A B W (HA.out.below h) (HB.out.below h))
    rw [hd] at CD
    by_cases hm : maR lo hi
    · have e1 : roE A B lo hi = if maR (rL A B lo hi) (rH A B lo hi) then 0 else 55 := by unfold roE; rw [if_neg (by simpa using hd), if_pos hm]
      have hq := rB hd
      have CO := hid1 (fun W (h : Below w.heap.size w W) => ofRow_any A B W (HA.out.below h) (HB.out.below h) (dck_m hd).1 (dck_m hd).2)
      have k1 := mulO hq.1 ⟨hm.1, by have := hm.2; omega⟩
      have k2 := mulO hq.2 ⟨by have := hm.1; have := hm.2; omega, hm.2.2⟩
      have k3 := mulO hq.1 ⟨by have := hm.1; have := hm.2; omega, hm.2.2⟩
      have k4 := mulO hq.2 ⟨hm.1, by have := hm.2; omega⟩
      have CT := hid1 (fun W => times_any (rP A) (rM A B) lo hi W k1 k2 k3 k4)
      have HL : Hid (rL A B lo hi = rP A * lo - rM A B * hi) := hid1 rfl
      have HH : Hid (rH A B lo hi = rP A * hi - rM A B * lo) := hid1 rfl
      rw [← HL.out, ← HH.out] at CT
      have CM := hid1 (fun W => mayBe_any lo hi W)
      rw [decide_eq_true hm] at CM
      have CN := hid1 (fun W => mayBe_any (rL A B lo hi) (rH A B lo hi) W)
      have HE := hid1 e1
      have HV1 : Hid (roL A B lo hi = if roE A B lo hi = 0 then rL A B lo hi else 0) := hid1 rfl
      have HV2 : Hid (roH A B lo hi = if roE A B lo hi = 0 then rH A B lo hi else 0) := hid1 rfl
      change Hid (∀ W, _ → Calls _ _ _ _ (fun e w' => e = .returned (duo (rP A) (rM A B)) ∧ _)) at CO
      clear e1 hd hm hq k1 k2 k3 k4 HL HH
      generalize rP A = p at *
      generalize rM A B = q at *
      generalize roE A B lo hi = E at *
      generalize roL A B lo hi = vL at *
      generalize roH A B lo hi = vH at *
      generalize rL A B lo hi = L at *
      generalize rH A B lo hi = H at *
      go_enter Try.func31, Try.ntmps31
      go_wp2_with fail
      refine gen_calls (fun X => Below w.heap.size w X ∧ X.rowIs w.heap.size 85 4 (qf A B) ∧ X.rowIs (w.heap.size + 1) 61 2 (duf lo hi) ∧ X.rowIs (w.heap.size + 1 + 1) 61 2 (duf 0 0)) ⟨by repeat (first | (with_reducible exact Below.refl _ _) | (with_reducible refine bl_alloc ?_ _) | (with_reducible refine Below.drew ?_) | (with_reducible refine bl_drewN ?_ _) | (with_reducible refine bl_set ?_ (by omega) _) | (with_reducible refine bl_step ?_ (by assumption))), ((q_new w A B _).alloc _).alloc _, by have := (du_new (w.alloc (.cells #[.int .i64 A.n, .slice A.ao A.m A.cap, .int .i64 B.n, .slice B.ao B.m B.cap] 85)) lo hi 61).alloc (.cells #[.int .i64 0, .int .i64 0] 61); simpa using this, by have := du_new ((w.alloc (.cells #[.int .i64 A.n, .slice A.ao A.m A.cap, .int .i64 B.n, .slice B.ao B.m B.cap] 85)).alloc (.cells #[.int .i64 lo, .int .i64 hi] 61)) 0 0 61; simpa using this⟩ ?_
      rintro X ⟨BX, R0, R1, R2⟩
      obtain ⟨b, hb0⟩ : ∃ b, w.heap.size = b := ⟨_, rfl⟩
      rw [hb0] at R0 R1 R2 ⊢
      refine (CD.out X BX).mono ?_
      rintro e w1 ⟨rfl, hb⟩
      replace BX := bl_step BX hb
      replace R0 := keepr hb R0
      replace R1 := keepr hb R1
      replace R2 := keepr hb R2
      clear hb
      have l0 := du0 R1
      have l1 := du1 R1
      go_wp2_with fail
      refine (CM.out w1).mono ?_
      rintro e w2 ⟨rfl, hb⟩
      replace BX := bl_step BX hb
      replace R0 := keepr hb R0
      replace R1 := keepr hb R1
      replace R2 := keepr hb R2
      clear hb l0 l1
      have HR0 := hid1 R0
      have HR1 := hid1 R1
      have HR2 := hid1 R2
      have HBX := hid1 BX
      have a0 := q0 R0
      have a1 := q1 R0
      have a2 := q2 R0
      have a3 := q3 R0
      have l0 := du0 R1
      have l1 := du1 R1
      have lX := R2.lt
      clear R0 R1 R2 BX
      have hfo := follows
      go_upto_region 6 with fail
      go_cut [7] from 18 to 22 (fun s7 wx => ∃ bM, s7 = .pointer (some ⟨bM, 0, none⟩) ∧ w2.heap.size ≤ bM ∧ wx.rowIs bM 61 2 (duf L H) ∧ Below w2.heap.size w2 wx)
      case first =>
        go_region_held3 (fun Y => (Y.cell? ⟨b, 0, none⟩ = some (.int .i64 A.n) ∧ Y.cell? ⟨b, 1, none⟩ = some (.slice A.ao A.m A.cap) ∧ Y.cell? ⟨b, 2, none⟩ = some (.int .i64 B.n) ∧ Y.cell? ⟨b, 3, none⟩ = some (.slice B.ao B.m B.cap)) ∧ (Y.cell? ⟨b + 1, 0, none⟩ = some (.int .i64 lo) ∧ Y.cell? ⟨b + 1, 1, none⟩ = some (.int .i64 hi)))
          (((try dsimp only); (with_reducible refine kpO (V := w2) HR0.out HR1.out ?_); repeat (first | (with_reducible exact Below.refl _ _) | (with_reducible assumption) | (with_reducible refine Below.drew ?_) | (with_reducible refine bl_alloc ?_ _) | (with_reducible refine bl_set ?_ (by first | exact Nat.le_refl _ | exact by1.size | exact by2.size) _))))
          (first
          | (go_at_call 50; refine (CO.out _ (bl_step HBX.out (by repeat (first | (with_reducible exact Below.refl _ _) | (with_reducible refine Below.drew ?_) | (with_reducible refine bl_alloc ?_ _))))).mono ?_; rintro e y1 ⟨rfl, hb1⟩; have by1 : Below w2.heap.size w2 y1 := (bl_step (by repeat (first | (with_reducible exact Below.refl _ _) | (with_reducible refine Below.drew ?_) | (with_reducible refine bl_alloc ?_ _))) hb1); have HB1 := hid1 hb1; (try (have VR := keepr HB1.out (du_new w2 0 0 61).drew; have HVR := hid1 VR; clear VR)); clear hb1)
          | (go_at_call 51; refine (CT.out _).mono ?_; rintro e y2 ⟨rfl, hb2⟩; have by2 : Below w2.heap.size w2 y2 := (bl_step (by repeat (first | (with_reducible assumption) | (with_reducible refine Below.drew ?_) | (with_reducible refine bl_alloc ?_ _))) hb2); have HB2 := hid1 hb2; (first | (have VR := keepr HB2.out HVR.out) | (have VR := keepr HB2.out HVR.out.drew) | (have VR := keepr HB2.out (du_new y1 0 0 61)) | (have VR := keepr HB2.out (du_new y1 0 0 61).drew) | skip); (try (have v0 := du0 VR; have v1 := du1 VR; have f0 := VR.frozen 0; have f1 := VR.frozen 1; have HVS := hid1 VR; clear VR)); clear hb2))
        all_goals (refine kmeet_of (by assumption) ?_; go_meet)
        · exact ⟨_, rfl, by2.size, du_new _ _ _ _, bl_alloc by2 _⟩
        all_goals (first | exact ⟨_, rfl, Nat.le_refl _, du_set HVS.out _ _, bl_set (bl_set by2 (Nat.le_refl _) _) (Nat.le_refl _) _⟩ | exact ⟨_, rfl, by1.size, du_set HVS.out _ _, bl_set (bl_set by2 by1.size _) by1.size _⟩)
      case rest =>
        obtain ⟨bM, rfl, gM, RM, Bc⟩ := hcut
        replace HBX := hid1 (bl_step HBX.out Bc)
        replace HR2 := hid1 (keepr Bc HR2.out)
        clear HR0 HR1 Bc a0 a1 a2 a3 l0 l1
        have m0 := du0 RM
        have m1 := du1 RM
        go_wp2_with fail
        refine (CN.out wc).mono ?_
        rintro e w3 ⟨rfl, hb⟩
        replace HBX := hid1 (bl_step HBX.out hb)
        replace HR2 := hid1 (keepr hb HR2.out)
        replace RM := keepr hb RM
        clear hb m0 m1
        have m0 := du0 RM
        have m1 := du1 RM
        have r0 := du0 HR2.out
        have r1 := du1 HR2.out
        have f0 := HR2.out.frozen 0
        have f1 := HR2.out.frozen 1
        have nb : b + 1 + 1 ≠ bM := by omega
        have nb2 : bM ≠ b + 1 + 1 := by omega
        by_cases hr : maR L H
        · rw [if_pos hr] at HE
          have e1 := HE.out
          have e2 : vL = L := by rw [HV1.out, if_pos e1]
          have e3 : vH = H := by rw [HV2.out, if_pos e1]
          rw [decide_eq_true hr]
          subst e1 e2 e3
          clear HV1 HV2 HE
          go_wp2_with fail
          refine bodyPost_ret (v := .tuple #[duo vL vH, .int .i64 0]) (by simp [results, Try.results31, go_sem, *]) rfl ⟨rfl, ?_⟩
          exact bl_set (bl_set HBX.out (by omega) _) (by omega) _
        · rw [if_neg hr] at HE
          have e1 := HE.out
          have e2 : vL = 0 := by rw [HV1.out, if_neg (by rw [e1]; decide)]
          have e3 : vH = 0 := by rw [HV2.out, if_neg (by rw [e1]; decide)]
          rw [decide_eq_false hr]
          subst e1 e2 e3
          clear HV1 HV2 HE
          go_wp2_with fail
          refine bodyPost_ret (v := .tuple #[duo 0 0, .int .i64 55]) (by simp [results, Try.results31, go_sem, *]) rfl ⟨rfl, ?_⟩
          exact bl_set (bl_set HBX.out (by omega) _) (by omega) _
    · have e1 : roE A B lo hi = 1 := by unfold roE; rw [if_neg (by simpa using hd), if_neg hm]
      have e2 : roL A B lo hi = 0 := by unfold roL; rw [if_neg (by rw [e1]; decide)]
      have e3 : roH A B lo hi = 0 := by unfold roH; rw [if_neg (by rw [e1]; decide)]
      rw [e1, e2, e3]
      have CM := hid1 (fun W => mayBe_any lo hi W)
      rw [decide_eq_false hm] at CM
      clear e1 e2 e3 hd hm
      go_enter Try.func31, Try.ntmps31
      go_wp2_with fail
      refine gen_calls (fun X => Below w.heap.size w X ∧ X.rowIs w.heap.size 85 4 (qf A B) ∧ X.rowIs (w.heap.size + 1) 61 2 (duf lo hi) ∧ X.rowIs (w.heap.size + 1 + 1) 61 2 (duf 0 0)) ⟨by repeat (first | (with_reducible exact Below.refl _ _) | (with_reducible refine bl_alloc ?_ _) | (with_reducible refine Below.drew ?_) | (with_reducible refine bl_drewN ?_ _) | (with_reducible refine bl_set ?_ (by omega) _) | (with_reducible refine bl_step ?_ (by assumption))), ((q_new w A B _).alloc _).alloc _, by have := (du_new (w.alloc (.cells #[.int .i64 A.n, .slice A.ao A.m A.cap, .int .i64 B.n, .slice B.ao B.m B.cap] 85)) lo hi 61).alloc (.cells #[.int .i64 0, .int .i64 0] 61); simpa using this, by have := du_new ((w.alloc (.cells #[.int .i64 A.n, .slice A.ao A.m A.cap, .int .i64 B.n, .slice B.ao B.m B.cap] 85)).alloc (.cells #[.int .i64 lo, .int .i64 hi] 61)) 0 0 61; simpa using this⟩ ?_
      rintro X ⟨BX, R0, R1, R2⟩
      obtain ⟨b, hb0⟩ : ∃ b, w.heap.size = b := ⟨_, rfl⟩
      rw [hb0] at R0 R1 R2 ⊢
      refine (CD.out X BX).mono ?_
      rintro e w1 ⟨rfl, hb⟩
      replace BX := bl_step BX hb
      replace R0 := keepr hb R0
      replace R1 := keepr hb R1
      replace R2 := keepr hb R2
      clear hb
      have l0 := du0 R1
      have l1 := du1 R1
      go_wp2_with fail
      refine (CM.out w1).mono ?_
      rintro e w2 ⟨rfl, hb⟩
      replace BX := bl_step BX hb
      replace R0 := keepr hb R0
      replace R1 := keepr hb R1
      replace R2 := keepr hb R2
      clear hb l0 l1
      have r0 := du0 R2
      have r1 := du1 R2
      have f0 := R2.frozen 0
      have f1 := R2.frozen 1
      clear R0 R1
      go_wp2_with fail
      refine bodyPost_ret (v := .tuple #[duo 0 0, .int .i64 1]) (by simp [results, Try.results31, go_sem, *]) rfl ⟨rfl, ?_⟩
      exact bl_set (bl_set BX (by omega) _) (by omega) _
  · have e1 : roE A B lo hi = dck A B := by unfold roE; rw [if_pos hd]
    have e2 : roL A B lo hi = 0 := by unfold roL; rw [if_neg (by rw [e1]; exact hd)]
    have e3 : roH A B lo hi = 0 := by unfold roH; rw [if_neg (by rw [e1]; exact hd)]
    rw [e1, e2, e3]
    have CD := hid1 (fun W (h : Below w.heap.size w W) => dcheck_any A B W (HA.out.below h) (HB.out.below h))
    have hx2 : (dck A B != 0) = true := by simpa using hd
    clear e1 e2 e3 hd
    generalize dck A B = x at *
    go_enter Try.func31, Try.ntmps31
    go_wp2_with fail
    refine gen_calls (fun X => Below w.heap.size w X ∧ X.rowIs w.heap.size 85 4 (qf A B) ∧ X.rowIs (w.heap.size + 1) 61 2 (duf lo hi) ∧ X.rowIs (w.heap.size + 1 + 1) 61 2 (duf 0 0)) ⟨by repeat (first | (with_reducible exact Below.refl _ _) | (with_reducible refine bl_alloc ?_ _) | (with_reducible refine Below.drew ?_) | (with_reducible refine bl_drewN ?_ _) | (with_reducible refine bl_set ?_ (by omega) _) | (with_reducible refine bl_step ?_ (by assumption))), ((q_new w A B _).alloc _).alloc _, by have := (du_new (w.alloc (.cells #[.int .i64 A.n, .slice A.ao A.m A.cap, .int .i64 B.n, .slice B.ao B.m B.cap] 85)) lo hi 61).alloc (.cells #[.int .i64 0, .int .i64 0] 61); simpa using this, by have := du_new ((w.alloc (.cells #[.int .i64 A.n, .slice A.ao A.m A.cap, .int .i64 B.n, .slice B.ao B.m B.cap] 85)).alloc (.cells #[.int .i64 lo, .int .i64 hi] 61)) 0 0 61; simpa using this⟩ ?_
    rintro X ⟨BX, R0, R1, R2⟩
    obtain ⟨b, hb0⟩ : ∃ b, w.heap.size = b := ⟨_, rfl⟩
    rw [hb0] at R0 R1 R2 ⊢
    refine (CD.out X BX).mono ?_
    rintro e w1 ⟨rfl, hb⟩
    replace BX := bl_step BX hb
    replace R0 := keepr hb R0
    replace R1 := keepr hb R1
    replace R2 := keepr hb R2
    clear hb
    have r0 := du0 R2
    have r1 := du1 R2
    have f0 := R2.frozen 0
    have f1 := R2.frozen 1
    clear R0 R1
    go_wp2_with fail
    refine bodyPost_ret (v := .tuple #[duo 0 0, .int .i64 x]) (by simp [results, Try.results31, go_sem, *]) rfl ⟨rfl, ?_⟩
    exact bl_set (bl_set BX (by omega) _) (by omega) _
end Go.Proofs.Ytkodihmjjiadnaa
/- BOUND: WHAT EVERY STATEMENT ASKS AHEAD. -/
namespace Go.Proofs.Ytkodihmjjiadnaa.Nn
open Go.RowKit

def tiL (B : Nat) : Ly := ⟨2, 2, 2, 0, 0, 0, 0, 0, 0, 0, 0, 0, some ⟨B + 1, 0, none⟩, 6, 6, none, 0, 0, some ⟨B + 2, 0, none⟩, 2, 2, fun j => [1, 0, -1, 1, 1, 1].getD j 0, fun _ _ => 0, fun j => [5, -5].getD j 0⟩
def tiN (B : Nat) : Nt := ⟨⟨#[116, 105, 110, 121]⟩, 1, 1, 3, some ⟨B + 3, 0, none⟩, 1, 1, fun _ => tiL B⟩
/-- Its lists lie in memory. -/
def TiB (W : World) (B : Nat) : Prop := W.heap[B + 1]? = some (.cells (i8c [1, 0, -1, 1, 1, 1]) 49) ∧ W.heap[B + 2]? = some (.cells (i64c [5, -5]) 2) ∧ W.heap[B + 3]? = some (layO (tiL B))
theorem TiB.keep {W w' : World} {B : Nat} (h : TiB W B) (hb : Below W.heap.size W w') : TiB w' B := ⟨keepb hb h.1, keepb hb h.2.1, keepb hb h.2.2⟩
set_option maxRecDepth 10000 in
theorem tiW {W : World} {B : Nat} (h : TiB W B) : NtW W (tiN B) := by
  refine ⟨fun i hi => ⟨B + 3, 0, rfl, ?_⟩, (show (1 : Nat) ≤ 9223372036854775807 by decide), (show (4 : Nat) ≤ 9223372036854775807 by decide)⟩
  change i < 1 at hi
  have hb := h.2.2
  obtain rfl : i = 0 := by omega
  refine ⟨⟨bcl hb rfl, bcl hb rfl, bcl hb rfl, bcl hb rfl, bcl hb rfl, bcl hb rfl, bcl hb rfl, bcl hb rfl, bcl hb rfl, bcl hb rfl, bcl hb rfl, bcl hb rfl, bcl hb rfl, bcl hb rfl, bcl hb rfl⟩, ⟨fun j hj => ⟨B + 1, 0, rfl, ?_⟩, fun j hj => absurd hj (Nat.not_lt_zero j), fun j hj => ⟨B + 2, 0, rfl, ?_⟩, (show (6 : Nat) ≤ 9223372036854775807 by decide), (show (0 : Nat) ≤ 9223372036854775807 by decide), (show (2 : Nat) ≤ 9223372036854775807 by decide)⟩⟩
  · change j < 6 at hj
    rcases (show j = 0 ∨ j = 1 ∨ j = 2 ∨ j = 3 ∨ j = 4 ∨ j = 5 by omega) with rfl | rfl | rfl | rfl | rfl | rfl <;> exact bcl h.1 rfl
  · change j < 2 at hj
    rcases (show j = 0 ∨ j = 1 by omega) with rfl | rfl <;> exact bcl h.2.1 rfl
set_option maxRecDepth 10000 in
theorem ti_ok (B : Nat) : chE (tiN B) = 0 ∧ chA (tiN B) = 0 := by
  have h0 : whE (tiN B) = 0 := by kernel_rfl
  refine ch_ok h0 fun j hj => ?_
  change j < 1 at hj
  obtain rfl : j = 0 := by omega
  kernel_rfl
def tiF (_ j : Nat) : Int := [-250, -389].getD j 0
def tiH (_ j : Nat) : Int := [260, 376].getD j 0
set_option maxRecDepth 10000 in
theorem ti_r (B : Nat) : cN (tiN B) 1 = 2 ∧ ∀ j, j < 2 → yLo (tiL B) (fanN (tiN B) 0) 0 j = tiF 0 j ∧ yHi (tiL B) (fanN (tiN B) 0) 0 j = tiH 0 j := by
  refine ⟨by kernel_rfl, fun j hj => ?_⟩
  rcases (show j = 0 ∨ j = 1 by omega) with rfl | rfl <;> exact ⟨by kernel_rfl, by kernel_rfl⟩
def emN : Nt := ⟨⟨#[]⟩, 0, 0, 0, none, 0, 0, fun _ => tiL 0⟩
theorem emW (W : World) : NtW W emN := ⟨fun i hi => absurd hi (Nat.not_lt_zero i), (show (0 : Nat) ≤ 9223372036854775807 by decide), (show (0 : Nat) ≤ 9223372036854775807 by decide)⟩
theorem em_no : chE emN = 50 ∧ chA emN = -1 := ch_whole (by decide)
set_option maxHeartbeats 1600000 in
set_option maxRecDepth 100000 in
theorem tiny_any (w : World) : Calls Try.prog 32 #[] w fun e w' => e = .returned (ntv (tiN w.heap.size)) ∧ TiB w' w.heap.size ∧ Below w.heap.size w w' := by
  obtain ⟨B, hB⟩ : ∃ B, w.heap.size = B := ⟨_, rfl⟩
  go_enter Try.func32, Try.ntmps32
  go_wp2_with fail
  refine bodyPost_ret (v := ntv (tiN B)) (by simp [results, Try.results32, go_sem, tiN, hB]) rfl ⟨by rw [hB], ?_, by repeat (first | (with_reducible exact Below.refl _ _) | (with_reducible refine bl_alloc ?_ _) | (with_reducible refine Below.drew ?_) | (with_reducible refine bl_drewN ?_ _) | (with_reducible refine bl_set ?_ (by omega) _) | (with_reducible refine bl_step ?_ (by assumption)))⟩
  rw [hB]
  exact ⟨old_at (old_at (new_at (by simp [hB]) _) _) _, old_at (new_at (by simp [hB]) _) _, new_at (by simp [hB]) _⟩
abbrev bA (g : Nat) : Bt := ⟨4, some ⟨g, 0, none⟩, 1, 1, 3⟩
abbrev bB (g : Nat) : Bt := ⟨4, some ⟨g, 0, none⟩, 1, 1, 7⟩
theorem bA_rw {W : World} {g : Nat} (h : W.heap[g]? = some (.cells #[.int .u64 3] 80)) : Rw W (bA g) := ⟨(show 3 < 2 ^ (64 * 1) by decide), (show (1 : Nat) ≤ 9223372036854775807 by decide), fun k hk => ⟨g, 0, rfl, by
  have hk' : k < 1 := hk
  obtain rfl : k = 0 := by omega
  exact bcl h (by simp [wf, wd])⟩⟩
theorem bB_rw {W : World} {g : Nat} (h : W.heap[g]? = some (.cells #[.int .u64 7] 80)) : Rw W (bB g) := ⟨(show 7 < 2 ^ (64 * 1) by decide), (show (1 : Nat) ≤ 9223372036854775807 by decide), fun k hk => ⟨g, 0, rfl, by
  have hk' : k < 1 := hk
  obtain rfl : k = 0 := by omega
  exact bcl h (by simp [wf, wd])⟩⟩
set_option maxRecDepth 100000 in
theorem bAB (g h : Nat) : (roE (bA g) (bB h) 0 5 = 0 ∧ roL (bA g) (bB h) 0 5 = -5 ∧ roH (bA g) (bB h) 0 5 = 10) ∧ roE (bA g) (bB h) 2 1 = 1 ∧ roL (bA g) (bB h) 2 1 = 0 ∧ roH (bA g) (bB h) 2 1 = 0 := by
  refine ⟨⟨by kernel_rfl, by kernel_rfl, by kernel_rfl⟩, by kernel_rfl, by kernel_rfl, by kernel_rfl⟩
set_option maxHeartbeats 1600000 in
set_option maxRecDepth 100000 in
theorem obegun_any (w : World) : Calls Try.prog 14 #[] w fun e w' => e = .returned (.bool true) ∧ Below w.heap.size w w' := by
  obtain ⟨b, hb0⟩ : ∃ b, w.heap.size = b := ⟨_, rfl⟩
  go_enter Try.func14, Try.ntmps14
  go_upto_region 2 with fail
  refine gen_world (fun X => Below w.heap.size w X ∧ X.heap[b]? = some (.cells #[.int .u64 3] 80) ∧ X.heap[b + 1]? = some (.cells #[.int .u64 7] 80) ∧ X.rowIs (b + 2) 85 4 (qf (bA b) (bB (b + 1)))) ⟨by repeat (first | (with_reducible exact Below.refl _ _) | (with_reducible refine bl_alloc ?_ _) | (with_reducible refine Below.drew ?_) | (with_reducible refine bl_drewN ?_ _) | (with_reducible refine bl_set ?_ (by omega) _) | (with_reducible refine bl_step ?_ (by assumption))), old_at (old_at (new_at (by simp [hb0]) _) _) _, old_at (new_at (by simp [hb0]) _) _, by have := q_new ((w.alloc (.cells #[.int .u64 3] 80)).alloc (.cells #[.int .u64 7] 80)) (bA b) (bB (b + 1)) 85; rw [show ((w.alloc (.cells #[.int .u64 3] 80)).alloc (.cells #[.int .u64 7] 80)).heap.size = b + 2 by simp [hb0]] at this; exact this⟩ ?_
  rintro X ⟨BX, h3, h7, RX⟩
  have C1 := brow_any (bA b) (bB (b + 1)) 0 5 X (bA_rw h3) (bB_rw h7)
  rw [(bAB b (b + 1)).1.1, (bAB b (b + 1)).1.2.1, (bAB b (b + 1)).1.2.2] at C1
  have a0 := q0 RX
  have a1 := q1 RX
  have a2 := q2 RX
  have a3 := q3 RX
  go_wp2_with fail
  refine C1.mono ?_
  rintro e x1 ⟨rfl, hb⟩
  replace BX := bl_step BX hb
  replace h3 := keepb hb h3
  replace h7 := keepb hb h7
  replace RX := World.rowIs.of_block RX (hb.block _ RX.lt)
  clear hb C1 a0 a1 a2 a3 X
  obtain ⟨c, hc⟩ : ∃ c, x1.heap.size = c := ⟨_, rfl⟩
  go_upto_region 3 with fail
  refine gen_world (fun X => Below w.heap.size w X ∧ X.heap[b]? = some (.cells #[.int .u64 3] 80) ∧ X.heap[b + 1]? = some (.cells #[.int .u64 7] 80) ∧ X.rowIs (b + 2) 85 4 (qf (bA b) (bB (b + 1))) ∧ X.rowIs c 61 2 (duf (-5) 10)) ⟨by repeat (first | (with_reducible exact Below.refl _ _) | (with_reducible refine bl_alloc ?_ _) | (with_reducible refine Below.drew ?_) | (with_reducible refine bl_drewN ?_ _) | (with_reducible refine bl_set ?_ (by omega) _) | (with_reducible refine bl_step ?_ (by assumption))), old_at h3 _, old_at h7 _, RX.alloc _, by rw [← hc]; exact du_new _ _ _ _⟩ ?_
  clear BX h3 h7 RX
  rintro X ⟨BX, h3, h7, RX, RC⟩
  have C1 := brow_any (bA b) (bB (b + 1)) 2 1 X (bA_rw h3) (bB_rw h7)
  rw [(bAB b (b + 1)).2.1, (bAB b (b + 1)).2.2.1, (bAB b (b + 1)).2.2.2] at C1
  have a0 := q0 RX
  have a1 := q1 RX
  have a2 := q2 RX
  have a3 := q3 RX
  go_wp2_with fail
  refine C1.mono ?_
  rintro e x2 ⟨rfl, hb⟩
  replace BX := bl_step BX hb
  replace RC := World.rowIs.of_block RC (hb.block _ RC.lt)
  clear hb C1 a0 a1 a2 a3 h3 h7 RX X
  go_upto_region 4 with fail
  refine gen_world (fun X => Below w.heap.size w X ∧ X.rowIs c 61 2 (duf (-5) 10)) ⟨by repeat (first | (with_reducible exact Below.refl _ _) | (with_reducible refine bl_alloc ?_ _) | (with_reducible refine Below.drew ?_) | (with_reducible refine bl_drewN ?_ _) | (with_reducible refine bl_set ?_ (by omega) _) | (with_reducible refine bl_step ?_ (by assumption))), RC.alloc _⟩ ?_
  clear BX RC
  rintro X ⟨BX, RC⟩
  go_wp2_with fail
  refine (tiny_any X).mono ?_
  rintro e x3 ⟨rfl, TB, hb⟩
  replace BX := bl_step BX hb
  replace RC := World.rowIs.of_block RC (hb.block _ RC.lt)
  clear hb
  generalize X.heap.size = B at *
  have C2 := bnet_any (tiN B) x3 (tiW TB) (fun i hi => Nat.le_refl 6)
  rw [(ti_ok B).1, (ti_ok B).2] at C2
  go_wp2_with fail
  refine C2.mono ?_
  rintro e x4 ⟨v, rfl, hb, hv⟩
  obtain ⟨G, gs, -, rfl, YL⟩ := hv.2 (ti_ok B).1
  replace BX := bl_step BX hb
  replace RC := World.rowIs.of_block RC (hb.block _ RC.lt)
  have LR : Lrr x4 G 0 1 (fun _ => 2) tiF tiH := fun i hi => by
    obtain rfl : i = 0 := by omega
    obtain ⟨g', o', cp, e1, e2, e3⟩ := YL.lrr (k := (tiN B).ml) (Nat.le_refl _) (ti_ok B).1 0 (show 0 < 1 by decide)
    have t := ti_r B
    refine ⟨g', o', cp, ?_, (show (2 : Nat) ≤ 9223372036854775807 by decide), fun j hj => ?_⟩
    · rw [e1]; congr 2
    · have := e3 j (by show j < cN (tiN B) 1; rw [t.1]; exact hj)
      rw [← (t.2 j hj).1, ← (t.2 j hj).2]
      exact this
  have HLR := hid1 LR
  clear hb hv YL LR C2 TB
  have eml : (tiN B).ml = 1 := rfl
  obtain ⟨d, hd⟩ : ∃ d, x4.heap.size = d := ⟨_, rfl⟩
  go_upto_region 6 with fail
  refine gen_world (fun X => Below w.heap.size w X ∧ X.rowIs c 61 2 (duf (-5) 10) ∧ Lrr X G 0 1 (fun _ => 2) tiF tiH ∧ Lrr X (d + 1) 0 1 (fun _ => 2) tiF tiH) ⟨by repeat (first | (with_reducible exact Below.refl _ _) | (with_reducible refine bl_alloc ?_ _) | (with_reducible refine Below.drew ?_) | (with_reducible refine bl_drewN ?_ _) | (with_reducible refine bl_set ?_ (by omega) _) | (with_reducible refine bl_step ?_ (by assumption))), (RC.alloc _).alloc _, HLR.out.keep (bl_alloc (bl_alloc (Below.refl _ _) _) _), fun i hi => by
    obtain rfl : i = 0 := by omega
    have q1 : ((x4.alloc (.cells #[.int .i64 (-250), .int .i64 260, .int .i64 (-389), .int .i64 376] 61)).alloc (.cells #[.slice (some ⟨d, 0, none⟩) 2 2] 59)).heap[d]? = some (.cells #[.int .i64 (-250), .int .i64 260, .int .i64 (-389), .int .i64 376] 61) := old_at (new_at hd _) _
    have q2 : ((x4.alloc (.cells #[.int .i64 (-250), .int .i64 260, .int .i64 (-389), .int .i64 376] 61)).alloc (.cells #[.slice (some ⟨d, 0, none⟩) 2 2] 59)).heap[d + 1]? = some (.cells #[.slice (some ⟨d, 0, none⟩) 2 2] 59) := new_at (by simp [hd]) _
    refine ⟨d, 0, 2, bcl q2 rfl, (show (2 : Nat) ≤ 9223372036854775807 by decide), fun j hj => ?_⟩
    have hj' : j < 2 := hj
    rcases (show j = 0 ∨ j = 1 by omega) with rfl | rfl <;> exact ⟨bcl q1 rfl, bcl q1 rfl⟩⟩ ?_
  clear BX RC HLR
  rintro X ⟨BX, RC, L1, L2⟩
  have C2 := bnet_any emN X (emW X) (fun i hi => absurd hi (Nat.not_lt_zero i))
  rw [em_no.1, em_no.2] at C2
  have HEM : Hid (¬ chE emN = 0) := hid1 (by rw [em_no.1]; decide)
  go_wp2_with fail
  refine C2.mono ?_
  rintro e x5 ⟨v, rfl, hb, hv⟩
  obtain rfl := hv.1 HEM.out
  replace BX := bl_step BX hb
  replace RC := World.rowIs.of_block RC (hb.block _ RC.lt)
  have CE := eqR_same 1 (by decide) (fun _ => 2) tiF tiH G 0 (d + 1) 0 1 1 x5 (L1.keep hb) (L2.keep hb)
  clear hb hv L1 L2 C2
  have c0 := du0 RC
  have c1 := du1 RC
  go_wp2_with fail
  refine CE.mono ?_
  rintro e x6 ⟨rfl, hb⟩
  replace BX := bl_step BX hb
  go_wp2_with fail
  go_ret
  exact ⟨rfl, BX⟩
end Go.Proofs.Ytkodihmjjiadnaa.Nn
/- planeOf, Planes. -/
namespace Go.Proofs.Ytkodihmjjiadnaa
open Go.RowKit

/-- Bit p of a number of eight bits. -/
def plb (l : List Int) (p i : Nat) : Bool := ((ia l i % 256).toNat).testBit p
theorem plb_is (v : Int) (p : Nat) : (bits .and .u8 (v % 256 / 2 ^ p) 1 == 1) = ((v % 256).toNat).testBit p := by
  have e : v % 256 = (((v % 256).toNat : Nat) : Int) := by omega
  have hx : (v % 256).toNat < 256 := by omega
  generalize (v % 256).toNat = x at *
  rw [e]
  have e2 : (x : Int) / 2 ^ p = ((x / 2 ^ p : Nat) : Int) := by simp
  rw [e2]
  have e3 : bits .and .u8 ((x / 2 ^ p : Nat) : Int) 1 = _ := u8_and_nat (x / 2 ^ p) 1 (Nat.lt_of_le_of_lt (Nat.div_le_self _ _) hx) (by decide)
  rw [e3, Nat.and_one_is_mod, Nat.testBit_eq_decide_div_mod_eq]
  rcases Nat.mod_two_eq_zero_or_one (x / 2 ^ p) with h | h <;> simp [h]
theorem bn_set {f : Nat → Bool} {k : Nat} (h : f k = true) : bn f (k + 1) = bn f k ||| 2 ^ k := by simp only [bn]; rw [if_pos h]
theorem bn_not {f : Nat → Bool} {k : Nat} (h : f k = false) : bn f (k + 1) = bn f k := by simp only [bn]; rw [if_neg (by simp [h])]; simp

end Go.Proofs.Ytkodihmjjiadnaa
/- Planes. -/
namespace Go.Proofs.Ytkodihmjjiadnaa
open Go.RowKit

/-- Eight rows of bits as a value, and as cells. -/
abbrev pv (P : Nat → Bt) : Value := .agg #[.int .i64 (P 0).n, .slice (P 0).ao (P 0).m (P 0).cap, .int .i64 (P 1).n, .slice (P 1).ao (P 1).m (P 1).cap, .int .i64 (P 2).n, .slice (P 2).ao (P 2).m (P 2).cap, .int .i64 (P 3).n, .slice (P 3).ao (P 3).m (P 3).cap, .int .i64 (P 4).n, .slice (P 4).ao (P 4).m (P 4).cap, .int .i64 (P 5).n, .slice (P 5).ao (P 5).m (P 5).cap, .int .i64 (P 6).n, .slice (P 6).ao (P 6).m (P 6).cap, .int .i64 (P 7).n, .slice (P 7).ao (P 7).m (P 7).cap]
def pfc (P : Nat → Bt) : Nat → Value := fun j => if j % 2 = 0 then .int .i64 (P (j / 2)).n else .slice (P (j / 2)).ao (P (j / 2)).m (P (j / 2)).cap
theorem pfc_even (P : Nat → Bt) (p : Nat) : pfc P (p * 2) = .int .i64 (P p).n := by
  unfold pfc; rw [if_pos (by omega), show p * 2 / 2 = p by omega]
theorem pfc_odd (P : Nat → Bt) (p : Nat) : pfc P (p * 2 + 1) = .slice (P p).ao (P p).m (P p).cap := by
  unfold pfc; rw [if_neg (by omega), show (p * 2 + 1) / 2 = p by omega]
theorem p_new (w : World) (P : Nat → Bt) (t : TypeId) : (w.alloc (.cells #[.int .i64 (P 0).n, .slice (P 0).ao (P 0).m (P 0).cap, .int .i64 (P 1).n, .slice (P 1).ao (P 1).m (P 1).cap, .int .i64 (P 2).n, .slice (P 2).ao (P 2).m (P 2).cap, .int .i64 (P 3).n, .slice (P 3).ao (P 3).m (P 3).cap, .int .i64 (P 4).n, .slice (P 4).ao (P 4).m (P 4).cap, .int .i64 (P 5).n, .slice (P 5).ao (P 5).m (P 5).cap, .int .i64 (P 6).n, .slice (P 6).ao (P 6).m (P 6).cap, .int .i64 (P 7).n, .slice (P 7).ao (P 7).m (P 7).cap] t)).rowIs w.heap.size t 16 (pfc P) :=
  World.rowIs_alloc w _ t _ (fun i hi => by
    rcases i with _ | _ | _ | _ | _ | _ | _ | _ | _ | _ | _ | _ | _ | _ | _ | _ | i
    · rfl
    · rfl
    · rfl
    · rfl
    · rfl
    · rfl
    · rfl
    · rfl
    · rfl
    · rfl
    · rfl
    · rfl
    · rfl
    · rfl
    · rfl
    · rfl
    · simp at hi; omega)
/-- All sixteen cells. -/
def C16 (w : World) (b : Nat) (P : Nat → Bt) : Prop := w.cell? ⟨b, 0, none⟩ = some (.int .i64 (P 0).n) ∧ w.cell? ⟨b, 1, none⟩ = some (.slice (P 0).ao (P 0).m (P 0).cap) ∧ w.cell? ⟨b, 2, none⟩ = some (.int .i64 (P 1).n) ∧ w.cell? ⟨b, 3, none⟩ = some (.slice (P 1).ao (P 1).m (P 1).cap) ∧ w.cell? ⟨b, 4, none⟩ = some (.int .i64 (P 2).n) ∧ w.cell? ⟨b, 5, none⟩ = some (.slice (P 2).ao (P 2).m (P 2).cap) ∧ w.cell? ⟨b, 6, none⟩ = some (.int .i64 (P 3).n) ∧ w.cell? ⟨b, 7, none⟩ = some (.slice (P 3).ao (P 3).m (P 3).cap) ∧ w.cell? ⟨b, 8, none⟩ = some (.int .i64 (P 4).n) ∧ w.cell? ⟨b, 9, none⟩ = some (.slice (P 4).ao (P 4).m (P 4).cap) ∧ w.cell? ⟨b, 10, none⟩ = some (.int .i64 (P 5).n) ∧ w.cell? ⟨b, 11, none⟩ = some (.slice (P 5).ao (P 5).m (P 5).cap) ∧ w.cell? ⟨b, 12, none⟩ = some (.int .i64 (P 6).n) ∧ w.cell? ⟨b, 13, none⟩ = some (.slice (P 6).ao (P 6).m (P 6).cap) ∧ w.cell? ⟨b, 14, none⟩ = some (.int .i64 (P 7).n) ∧ w.cell? ⟨b, 15, none⟩ = some (.slice (P 7).ao (P 7).m (P 7).cap)
theorem c16 {w : World} {b t : Nat} {P : Nat → Bt} (h : w.rowIs b t 16 (pfc P)) : C16 w b P :=
  ⟨h.cell (by omega), h.cell (by omega), h.cell (by omega), h.cell (by omega), h.cell (by omega), h.cell (by omega), h.cell (by omega), h.cell (by omega), h.cell (by omega), h.cell (by omega), h.cell (by omega), h.cell (by omega), h.cell (by omega), h.cell (by omega), h.cell (by omega), h.cell (by omega)⟩
/-- The first k of the planes. -/
def frt (N : Nat) (G : Nat → Nat) (k : Nat) : Nat → Bt := fun p => if p < k then ob N (G p) 0 else zb
def upd (G : Nat → Nat) (k g : Nat) : Nat → Nat := fun p => if p = k then g else G p
theorem upd_same (G : Nat → Nat) (k g : Nat) : upd G k g k = g := by unfold upd; rw [if_pos rfl]
theorem upd_ne {G : Nat → Nat} {k g p : Nat} (h : p ≠ k) : upd G k g p = G p := by unfold upd; rw [if_neg h]
theorem frt_step {N k g : Nat} {G : Nat → Nat} (j : Nat) : (if j = k * 2 + 1 then Value.slice (some ⟨g, 0, none⟩) (nw N) (nw N) else if j = k * 2 then Value.int .i64 N else pfc (frt N G k) j) = pfc (frt N (upd G k g) (k + 1)) j := by
  unfold pfc frt
  by_cases e1 : j = k * 2 + 1
  · rw [if_pos e1, if_neg (by omega), show j / 2 = k by omega, if_pos (by omega), upd_same]
  · rw [if_neg e1]
    by_cases e2 : j = k * 2
    · rw [if_pos e2, if_pos (by omega), show j / 2 = k by omega, if_pos (by omega)]
    · have e3 : ¬ j / 2 = k := by omega
      have e4 : (j / 2 < k + 1) ↔ (j / 2 < k) := by omega
      rw [if_neg e2, upd_ne e3]
      simp only [e4]
end Go.Proofs.Ytkodihmjjiadnaa
/- Numbers. -/
namespace Go.Proofs.Ytkodihmjjiadnaa
open Go.RowKit
attribute [local go_sem ↓] Go.wp_at_zero Go.wp_at_succ

def aF (P : Nat → Bt) (len : Int) : Bool := (List.range 8).all fun p => ftB (P p).n (P p).m (P p).N len
theorem aF_iff (P : Nat → Bt) (len : Int) : aF P len = true ↔ ∀ p, p < 8 → ftB (P p).n (P p).m (P p).N len = true := by simp [aF, List.all_eq_true]
def nmE (A B : Bt) (P : Nat → Bt) : Int := if dck A B ≠ 0 then dck A B else if aF P A.n = true then 0 else 20
def nmV (A B : Bt) (P : Nat → Bt) : Int := if nmE A B P = 0 then npl A.N B.N (fun p => (P p).N) A.n.toNat 8 else 0
theorem nmE_bad {A B : Bt} {P : Nat → Bt} (h : dck A B ≠ 0) : nmE A B P = dck A B := by unfold nmE; rw [if_pos h]
theorem nmV_bad {A B : Bt} {P : Nat → Bt} (h : nmE A B P ≠ 0) : nmV A B P = 0 := by unfold nmV; rw [if_neg h]
theorem eight {p : Nat → Prop} {i : Nat} (h : i < 8) (h0 : p 0) (h1 : p 1) (h2 : p 2) (h3 : p 3) (h4 : p 4) (h5 : p 5) (h6 : p 6) (h7 : p 7) : p i := by
  match i, h with
  | 0, _ => exact h0
  | 1, _ => exact h1
  | 2, _ => exact h2
  | 3, _ => exact h3
  | 4, _ => exact h4
  | 5, _ => exact h5
  | 6, _ => exact h6
  | 7, _ => exact h7
theorem pw_bd {p : Nat} (h : p < 8) : -128 ≤ pw p ∧ pw p ≤ 64 := eight (p := fun p => -128 ≤ pw p ∧ pw p ≤ 64) h (by decide) (by decide) (by decide) (by decide) (by decide) (by decide) (by decide) (by decide)
theorem mul_bd {a b : Int} {n : Nat} (ha : -128 ≤ a ∧ a ≤ 64) (hb : -(n : Int) ≤ b ∧ b ≤ n) : -(128 * (n : Int)) ≤ a * b ∧ a * b ≤ 128 * n := by
  have h1 : (a * b).natAbs ≤ 128 * n := by
    rw [Int.natAbs_mul]
    exact Nat.mul_le_mul (by omega) (by omega)
  omega
theorem npl_bd (S M : Nat) (P : Nat → Nat) (n : Nat) : ∀ q : Nat, q ≤ 8 → -(128 * (q : Int) * n) ≤ npl S M P n q ∧ npl S M P n q ≤ 128 * (q : Int) * n
  | 0, _ => by simp [npl]
  | q + 1, h => by
    have := npl_bd S M P n q (by omega)
    have := mul_bd (pw_bd (show q < 8 by omega)) (tq_bd (M &&& P q) S (P q) n)
    have e : 128 * ((q + 1 : Nat) : Int) * n = 128 * (q : Int) * n + 128 * n := by
      rw [Int.natCast_add, Int.mul_add, Int.add_mul]; simp
    simp only [npl]; rw [e]; omega
theorem npl_lim (S M : Nat) (P : Nat → Nat) {n q : Nat} (hn : n ≤ 16777216) (hq : q ≤ 8) : -17179869184 ≤ npl S M P n q ∧ npl S M P n q ≤ 17179869184 := by
  have := npl_bd S M P n q hq
  have h1 : 128 * (q : Int) * n ≤ 17179869184 := by
    have h2 : 128 * q * n ≤ 128 * 8 * 16777216 := Nat.mul_le_mul (Nat.mul_le_mul (Nat.le_refl _) hq) hn
    have h3 : ((128 * q * n : Nat) : Int) = 128 * (q : Int) * n := by simp
    omega
  omega

theorem qp_new (w : World) (A B : Bt) (P : Nat → Bt) (t u : TypeId) : ((w.alloc (.cells #[.int .i64 A.n, .slice A.ao A.m A.cap, .int .i64 B.n, .slice B.ao B.m B.cap] t)).alloc (.cells #[.int .i64 (P 0).n, .slice (P 0).ao (P 0).m (P 0).cap, .int .i64 (P 1).n, .slice (P 1).ao (P 1).m (P 1).cap, .int .i64 (P 2).n, .slice (P 2).ao (P 2).m (P 2).cap, .int .i64 (P 3).n, .slice (P 3).ao (P 3).m (P 3).cap, .int .i64 (P 4).n, .slice (P 4).ao (P 4).m (P 4).cap, .int .i64 (P 5).n, .slice (P 5).ao (P 5).m (P 5).cap, .int .i64 (P 6).n, .slice (P 6).ao (P 6).m (P 6).cap, .int .i64 (P 7).n, .slice (P 7).ao (P 7).m (P 7).cap] u)).rowIs (w.heap.size + 1) u 16 (pfc P) := by
  have := p_new (w.alloc (.cells #[.int .i64 A.n, .slice A.ao A.m A.cap, .int .i64 B.n, .slice B.ao B.m B.cap] t)) P u
  rw [World.size_alloc] at this
  exact this
theorem kpn {W X : World} {bx t bz u v0 : Nat} {A B : Bt} {C : Bt} {k : Nat} (h1 : W.rowIs bx t 4 (qf A B)) (h2 : W.rowIs bz u 2 (sf C.n C.ao C.m C.cap)) (h3 : W.cell? ⟨v0, k, none⟩ = some (.int .i64 (pw k))) (hb : Below W.heap.size W X) :
    (X.cell? ⟨bx, 0, none⟩ = some (.int .i64 A.n) ∧ X.cell? ⟨bx, 1, none⟩ = some (.slice A.ao A.m A.cap) ∧ X.cell? ⟨bx, 2, none⟩ = some (.int .i64 B.n) ∧ X.cell? ⟨bx, 3, none⟩ = some (.slice B.ao B.m B.cap)) ∧ (X.cell? ⟨bz, 0, none⟩ = some (.int .i64 C.n) ∧ X.cell? ⟨bz, 1, none⟩ = some (.slice C.ao C.m C.cap)) ∧ X.cell? ⟨v0, k, none⟩ = some (.int .i64 (pw k)) := by
  have r := keepr hb h1
  have s := keepr hb h2
  exact ⟨⟨q0 r, q1 r, q2 r, q3 r⟩, ⟨sf_len s, sf_ws s⟩, keepc hb h3⟩
end Go.Proofs.Ytkodihmjjiadnaa
/- begun. -/
namespace Go.Proofs.Ytkodihmjjiadnaa
open Go.RowKit

/-- Rows of four bits. -/
abbrev o4 (g N : Nat) : Bt := ⟨4, some ⟨g, 0, none⟩, 1, 1, N⟩
theorem ob4 (g N : Nat) : ob 4 g N = o4 g N := rfl
theorem four_in {l : List Int} {p : Int → Prop} (h0 : p (ia l 0)) (h1 : p (ia l 1)) (h2 : p (ia l 2)) (h3 : p (ia l 3)) : ∀ i, i < 4 → p (ia l i) := by
  intro i hi
  match i, hi with
  | 0, _ => exact h0
  | 1, _ => exact h1
  | 2, _ => exact h2
  | 3, _ => exact h3
theorem r8_four {w : World} {t : TypeId} (a b c d : Int) : R8 (w.alloc (.cells #[.int .i8 a, .int .i8 b, .int .i8 c, .int .i8 d] t)) (some ⟨w.heap.size, 0, none⟩) [a, b, c, d] := by
  intro k hk
  refine ⟨w.heap.size, 0, rfl, ?_⟩
  rcases k with _ | _ | _ | _ | k
  · simp [go_sem, ia]
  · simp [go_sem, ia]
  · simp [go_sem, ia]
  · simp [go_sem, ia]
  · simp at hk; omega
theorem rw4 {w : World} {g N : Nat} (h : w.rowIs g 80 1 (wf N)) (hN : N < 16) : Rw w (o4 g N) :=
  ⟨by show N < 2 ^ (64 * 1); omega, by show 1 ≤ _; decide, fun k hk => ⟨g, 0, rfl, by rw [Nat.zero_add]; exact h.cell hk⟩⟩
theorem wok1 : Wok [1, 0, -1, 1] 4 := four_in (p := fun x => -1 ≤ x ∧ x ≤ 1) (by decide) (by decide) (by decide) (by decide)
theorem wok2 : Wok [0, 1, 1, -1] 4 := four_in (p := fun x => -1 ≤ x ∧ x ≤ 1) (by decide) (by decide) (by decide) (by decide)
theorem bn4_lt (f : Nat → Bool) : bn f 4 < 16 := bn_lt f 4
theorem w_one (w : World) (o : Obj) (t : TypeId) : ((w.alloc o).alloc (.cells #[.int .u64 1] t)).rowIs (w.heap.size + 1) t 1 (wf 1) := by
  have h : ((w.alloc o).alloc (.cells #[.int .u64 1] t)).rowIs (w.alloc o).heap.size t 1 (wf 1) := World.rowIs_alloc (w.alloc o) _ t _ (fun i hi => by
    rcases i with _ | i
    · rfl
    · simp at hi)
  rw [World.size_alloc] at h
  exact h
theorem sg4 {g1 g2 g : Nat} : sgV (o4 g1 9) (o4 g2 13) (o4 g 1) = 1 := by kernel_rfl
theorem sg4e {g1 g2 g : Nat} : sgE (o4 g1 9) (o4 g2 13) (o4 g 1) = 0 := by kernel_rfl
theorem so4 {g1 g2 g3 g4 : Nat} : soV (o4 g1 9) (o4 g2 13) (o4 g3 6) (o4 g4 14) = -2 := by kernel_rfl
theorem so4e {g1 g2 g3 g4 : Nat} : soE (o4 g1 9) (o4 g2 13) (o4 g3 6) (o4 g4 14) = 0 := by kernel_rfl
theorem nm4 {g1 g2 : Nat} {G : Nat → Nat} : nmV (o4 g1 9) (o4 g2 13) (fun p => o4 (G p) (bn (plb [5, 9, -7, -128] p) 4)) = -116 := by kernel_rfl
theorem nm4e {g1 g2 : Nat} {G : Nat → Nat} : nmE (o4 g1 9) (o4 g2 13) (fun p => o4 (G p) (bn (plb [5, 9, -7, -128] p) 4)) = 0 := by kernel_rfl
end Go.Proofs.Ytkodihmjjiadnaa
/- Lists of small numbers: own, copied, grown; tame, even, sameSmall. -/
namespace Go.Proofs.Ytkodihmjjiadnaa
open Go.RowKit

def rowL (f : Nat → Value) (m : Nat) : List Value := (List.range m).map f
theorem rowL_len (f : Nat → Value) (m : Nat) : (rowL f m).length = m * 1 := by simp [rowL]
theorem rowL_get {f : Nat → Value} {m j : Nat} {u : Value} (h : (rowL f m)[j]? = some u) : j < m ∧ u = f j := by
  unfold rowL at h
  rw [List.getElem?_map, Option.map_eq_some_iff] at h
  obtain ⟨x, hx, rfl⟩ := h
  obtain ⟨h1, h2⟩ := List.getElem?_eq_some_iff.1 hx
  simp at h1 h2
  subst h2
  exact ⟨h1, rfl⟩
theorem rowL_at {f : Nat → Value} {m j : Nat} (h : j < m) (v : Value) : (rowL f m ++ [v])[j]? = some (f j) := by
  rw [List.getElem?_append_left (by simpa [rowL] using h)]
  simp [rowL, h]
theorem rowL_last (f : Nat → Value) (m : Nat) (v : Value) : (rowL f m ++ [v])[m]? = some v := by
  rw [List.getElem?_append_right (by simp [rowL])]
  simp [rowL]
theorem rowL_wf {N m : Nat} : ∀ u ∈ rowL (wf N) m, u.oneCell' = true := by
  intro u hu
  obtain ⟨j, hj, e⟩ := List.getElem_of_mem hu
  obtain ⟨_, rfl⟩ := rowL_get (List.getElem?_eq_some_iff.2 ⟨hj, e⟩)
  rfl
/-- An own row, as a row of cells. -/
theorem own_row {w : World} {base e : Nat} {v : Value} {n : Nat} {xs : List Value} (h : w.ownsRow base e 1 v n xs) (hn : 0 < n) :
    ∃ g cap f, v = .slice (some ⟨g, 0, none⟩) n cap ∧ base ≤ g ∧ n ≤ cap ∧ cap ≤ maxLen ∧ w.rowIs g e cap f ∧ ∀ k, k < n → xs[k]? = some (f k) := by
  rcases h.2 with ⟨_, h0⟩ | ⟨g, cap, cur, hv, hb, hg, h4, h5, h6, h7⟩
  · omega
  · refine ⟨g, cap, fun k => cur[k]?.getD undef, hv, hb, h4, h5, ⟨cur, hg, by omega, fun i hi => ?_⟩, fun k hk => ?_⟩
    · simp [Array.getElem?_eq_getElem (show i < cur.size by omega)]
    · rw [← h7, Nat.mul_one, List.getElem?_take_of_lt hk]
      simp [Array.getElem?_eq_getElem (show k < cur.size by omega)]

def i8s (l : List Int) : List Value := l.map (Value.int .i8)
theorem i8s_len (l : List Int) : (i8s l).length = l.length * 1 := by simp [i8s]
theorem i8s_get {l : List Int} {j : Nat} {u : Value} (h : (i8s l)[j]? = some u) : j < l.length ∧ u = .int .i8 (ia l j) := by
  unfold i8s at h
  rw [List.getElem?_map, Option.map_eq_some_iff] at h
  obtain ⟨x, hx, rfl⟩ := h
  obtain ⟨h1, _⟩ := List.getElem?_eq_some_iff.1 hx
  refine ⟨h1, ?_⟩
  unfold ia
  rw [List.getD_eq_getElem?_getD, hx]
  rfl
theorem i8s_at {l : List Int} {j : Nat} (h : j < l.length) : (i8s l)[j]? = some (.int .i8 (ia l j)) := by
  unfold i8s ia
  rw [List.getElem?_map, List.getD_eq_getElem?_getD, List.getElem?_eq_getElem h]
  rfl
theorem i8s_one {l : List Int} : ∀ u ∈ i8s l, u.oneCell' = true := by
  intro u hu
  unfold i8s at hu
  obtain ⟨x, _, rfl⟩ := List.mem_map.1 hu
  rfl
theorem i8s_snoc (l : List Int) (x : Int) : i8s (l ++ [x]) = i8s l ++ [.int .i8 x] := by simp [i8s]
theorem r8_add {w : World} {a : Addr} {l : List Int} (h : R8 w (some a) l) {j : Nat} (hj : j < l.length) : w.cell? (a.add j) = some (.int .i8 (ia l j)) := by
  obtain ⟨g, o, e, c⟩ := h j hj
  obtain rfl : a = ⟨g, o, none⟩ := Option.some.inj e
  by_cases h0 : j = 0
  · subst h0; exact c
  · simp [Addr.add, h0, c]
theorem r8_take {w : World} {ao : Option Addr} {l : List Int} (h : R8 w ao l) (n : Nat) : R8 w ao (l.take n) := by
  intro k hk
  have hk' : k < n ∧ k < l.length := by simp at hk; omega
  obtain ⟨g, o, e, c⟩ := h k hk'.2
  exact ⟨g, o, e, by rw [ia_take hk'.1]; exact c⟩
/-- An own row of small numbers reads as they do. -/
theorem r8_own {w : World} {base : Nat} {v : Value} {l : List Int} (h : w.ownsRow base 49 1 v l.length (i8s l)) : ∃ ao cap, v = .slice ao l.length cap ∧ l.length ≤ cap ∧ cap ≤ maxLen ∧ (ao = none → l.length = 0 ∧ cap = 0) ∧ (∀ a, ao = some a → ∃ g, a = ⟨g, 0, none⟩) ∧ R8 w ao l := by
  rcases Nat.eq_zero_or_pos l.length with h0 | h0
  · rcases h.2 with ⟨h1, _⟩ | ⟨g, cap, cur, hv, _, _, h4, h5, _⟩
    · exact ⟨none, 0, by rw [h0]; exact h1, by omega, by simp [maxLen], fun _ => ⟨h0, rfl⟩, fun _ e => (by cases e), fun k hk => absurd hk (by omega)⟩
    · exact ⟨_, cap, hv, h4, h5, fun e => (by cases e), fun a e => ⟨g, (Option.some.inj e).symm⟩, fun k hk => absurd hk (by omega)⟩
  · obtain ⟨g, cap, f, hv, _, h4, h5, hr, hf⟩ := own_row h h0
    refine ⟨_, cap, hv, h4, h5, fun e => (by cases e), fun a e => ⟨g, (Option.some.inj e).symm⟩, fun k hk => ⟨g, 0, rfl, ?_⟩⟩
    rw [Nat.zero_add]
    refine (hr.cell (by omega)).trans ?_
    have := hf k hk
    rw [i8s_at hk] at this
    exact congrArg some (Option.some.inj this).symm

theorem app_nil {ops : Array Oper} {rest : List Oper} {o : Oper} {a : Act} {Q : Exit → Act → World → Prop} {w : World} (hgd : o.guard = none) (s x : Operand)
    (ho : o.op = .call { callee := .builtin .append, args := #[s, x], argTypes := #[41, 41] }) (hs : a.eval s = .slice none 0 0)
    (bo : Option Addr) (l : List Int) (cb : Nat) (hx : a.eval x = .slice bo l.length cb) (hr : R8 w bo l) (hn : bo = none → l.length = 0 ∧ cb = 0) (hM : l.length ≤ 140737488351232)
    (h : ∀ v' w', w'.ownsRow w.heap.size 49 1 v' l.length (i8s l) → Below w.heap.size w w' → wpList Try.prog ops Q rest (a.put o.dst v') w') : wpList Try.prog ops Q (o :: rest) a w := by
  obtain ⟨i0, hi, hz0, hz1, hz2⟩ := info_parts info_i8
  cases bo with
  | none =>
    obtain ⟨h0, rfl⟩ := hn rfl
    rw [h0] at hx
    refine wpList_append_own_none hgd s x _ ho w.heap.size 49 i0 1 und_i8s hi (.slice none 0 0) 0 [] hs (World.ownsRow_nil _ _ _ _) hx (h _ _ ?_ (Below.refl _ _))
    have e : l = [] := List.eq_nil_of_length_eq_zero h0
    subst e
    exact World.ownsRow_nil _ _ _ _
  | some ad =>
    refine wpList_append_own w hgd s x _ ho w.heap.size 49 i0 (.int .i8 0) 1 1 und_i8s hi hz0 hz1 hz2 rfl (by decide) (.slice none 0 0) 0 [] hs (World.ownsRow_nil _ _ _ _) ad l.length cb (i8s l) hx (i8s_len l)
      (fun j u hu => by obtain ⟨h1, rfl⟩ := i8s_get hu; exact r8_add hr h1) i8s_one (by unfold maxLen; omega) (by omega) (Nat.le_refl _) ?_
    intro v' w' h1 h2 _
    rw [Nat.zero_add, List.nil_append] at h1
    exact h v' w' h1 ((Below.refl _ _).grown h2 (Nat.le_refl _) (fun _ e => by cases e))

/-- One small number appended to a list of one's own. -/
theorem app_one {ops : Array Oper} {rest : List Oper} {o : Oper} {a : Act} {Q : Exit → Act → World → Prop} {w : World} (hgd : o.guard = none) (s x : Operand)
    (ho : o.op = .call { callee := .builtin .append, args := #[s, x], argTypes := #[41, 41] }) (base : Nat) (v : Value) (l : List Int) (hs : a.eval s = v) (hown : w.ownsRow base 49 1 v l.length (i8s l))
    (g : Nat) (y : Int) (cb : Nat) (hx : a.eval x = .slice (some ⟨g, 0, none⟩) 1 cb) (hr : w.cell? ⟨g, 0, none⟩ = some (.int .i8 y)) (hM : l.length < 140737488355328) (hb : base ≤ w.heap.size)
    (h : ∀ v' w', w'.ownsRow base 49 1 v' (l.length + 1) (i8s (l ++ [y])) → w.grownBy w' v.ownBlock → wpList Try.prog ops Q rest (a.put o.dst v') w') : wpList Try.prog ops Q (o :: rest) a w := by
  obtain ⟨i0, hi, hz0, hz1, hz2⟩ := info_parts info_i8
  refine wpList_append_own w hgd s x _ ho base 49 i0 (.int .i8 0) 1 1 und_i8s hi hz0 hz1 hz2 rfl (by decide) v l.length (i8s l) hs hown ⟨g, 0, none⟩ 1 cb [.int .i8 y] hx rfl
    (fun j u hu => ?_) (fun u hu => by simp at hu; subst hu; rfl) (by unfold maxLen; omega) (by omega) hb ?_
  · rcases j with _ | j
    · simp at hu; subst hu; exact hr
    · simp at hu
  · intro v' w' h1 h2 _
    exact h v' w' (by rw [i8s_snoc]; exact h1) h2

/-- Made weights. -/
def tml (l : List Int) : List Int := l.map fun x => x.tmod 2
theorem ia_snoc {l : List Int} {k : Nat} (h : k < l.length) : l.take (k + 1) = l.take k ++ [ia l k] := by
  rw [List.take_succ_eq_append_getElem h]
  congr 2
  unfold ia
  simp [List.getD, h]
theorem tml_len (l : List Int) : (tml l).length = l.length := by simp [tml]
theorem tml_ia {l : List Int} {k : Nat} (h : k < l.length) : ia (tml l) k = (ia l k).tmod 2 := by
  unfold ia tml
  simp [List.getD, h]
theorem tml_take {l : List Int} {k : Nat} (h : k < l.length) : (tml l).take (k + 1) = (tml l).take k ++ [(ia l k).tmod 2] := by
  rw [ia_snoc (by rw [tml_len]; exact h), tml_ia h]
theorem tmod2 (x : Int) : -1 ≤ x.tmod 2 ∧ x.tmod 2 ≤ 1 := by
  rcases Int.le_total 0 x with h | h
  · rw [Int.tmod_eq_emod_of_nonneg h]; omega
  · obtain ⟨y, rfl⟩ : ∃ y, x = -y := ⟨-x, by omega⟩
    rw [Int.neg_tmod, Int.tmod_eq_emod_of_nonneg (by omega)]; omega
theorem r8_nil {w : World} {ao : Option Addr} {l : List Int} (h : R8 w ao l) (h0 : 0 < l.length) : ∃ g o, ao = some ⟨g, o, none⟩ := by
  obtain ⟨g, o, e, _⟩ := h 0 h0
  exact ⟨g, o, e⟩
end Go.Proofs.Ytkodihmjjiadnaa
/- BoundRows: mathematics. -/
namespace Go.Proofs.Ytkodihmjjiadnaa
open Go.RowKit

/-- How many of the first k weights are above 0; below 0. -/
def cP (f : Nat → Int) : Nat → Nat
  | 0 => 0
  | k + 1 => cP f k + if 0 < f k then 1 else 0
def cM (f : Nat → Int) : Nat → Nat
  | 0 => 0
  | k + 1 => cM f k + if f k < 0 then 1 else 0
theorem cP_le (f : Nat → Int) : ∀ k, cP f k + cM f k ≤ k
  | 0 => Nat.le_refl _
  | k + 1 => by
    have := cP_le f k
    simp only [cP, cM]
    by_cases h : 0 < f k
    · rw [if_pos h, if_neg (by omega)]; omega
    · rw [if_neg h]; split <;> omega
theorem pc_pk (l : List Int) (N : Nat) : ∀ k, k ≤ N → pc (pk l N) k = cP (ia l) k
  | 0, _ => rfl
  | k + 1, h => by
    simp only [pc, cP]
    rw [pc_pk l N k (by omega), pk_bit]
    by_cases hp : 0 < ia l k
    · rw [if_pos hp]; simp [hp]; omega
    · rw [if_neg hp]; simp [hp]
theorem pc_nz (l : List Int) (N : Nat) : ∀ k, k ≤ N → pc (bn (nz l) N) k = cP (ia l) k + cM (ia l) k
  | 0, _ => rfl
  | k + 1, h => by
    simp only [pc, cP, cM]
    rw [pc_nz l N k (by omega), bn_bit]
    have hk : decide (k < N) = true := decide_eq_true (by omega)
    by_cases hp : 0 < ia l k
    · rw [if_pos hp, if_neg (by omega), hk]; simp [nz, show ia l k ≠ 0 by omega]; omega
    · by_cases hm : ia l k < 0
      · rw [if_neg hp, if_pos hm, hk]; simp [nz, show ia l k ≠ 0 by omega]; omega
      · rw [if_neg hp, if_neg hm, hk]; simp [nz, show ia l k = 0 by omega]
theorem pk_sub (l : List Int) (N : Nat) : pk l N &&& bn (nz l) N = pk l N := by
  refine Nat.eq_of_testBit_eq fun i => ?_
  rw [Nat.testBit_and, pk_bit, bn_bit]
  by_cases hp : 0 < ia l i
  · simp [nz, hp, show ia l i ≠ 0 by omega]
  · simp [hp]
theorem dck_ob4 {n g1 g2 S M : Nat} (h1 : n ≤ 16777216) (hS : S < 2 ^ n) (hM : M < 2 ^ n) (h : S &&& M = S) : dck (ob n g1 S) (ob n g2 M) = 0 := by
  have c1 := chk_ok h1 hS
  have c2 := chk_ok h1 hM
  unfold dck
  rw [if_neg (by simp [ftB, c1, c2]), if_pos h]
theorem mulS {p : Nat} {x : Int} (hp : p ≤ 300) (hx : -1000000 ≤ x ∧ x ≤ 1000000) : -300000000 ≤ (p : Int) * x ∧ (p : Int) * x ≤ 300000000 := by
  have h1 : (p : Int) * x ≤ 300 * 1000000 := by
    by_cases h0 : 0 ≤ x
    · exact Int.le_trans (Int.mul_le_mul_of_nonneg_right (show (p : Int) ≤ 300 by omega) h0) (Int.mul_le_mul_of_nonneg_left (by omega) (by decide))
    · exact Int.le_trans (Int.mul_nonpos_of_nonneg_of_nonpos (by omega) (by omega)) (by decide)
  have h2 : (p : Int) * (-x) ≤ 300 * 1000000 := by
    by_cases h0 : 0 ≤ -x
    · exact Int.le_trans (Int.mul_le_mul_of_nonneg_right (show (p : Int) ≤ 300 by omega) h0) (Int.mul_le_mul_of_nonneg_left (by omega) (by decide))
    · exact Int.le_trans (Int.mul_nonpos_of_nonneg_of_nonpos (by omega) (by omega)) (by decide)
  rw [Int.mul_neg] at h2
  omega
/-- What Row tells of packed weights. -/
theorem row_pack {l : List Int} {N g1 g2 : Nat} {lo hi : Int} (h1 : N ≤ 300) (hl : -1000000 ≤ lo) (hlh : lo ≤ hi) (hh : hi ≤ 1000000) :
    roE (ob N g1 (pk l N)) (ob N g2 (bn (nz l) N)) lo hi = 0 ∧ roL (ob N g1 (pk l N)) (ob N g2 (bn (nz l) N)) lo hi = (cP (ia l) N : Nat) * lo - (cM (ia l) N : Nat) * hi ∧ roH (ob N g1 (pk l N)) (ob N g2 (bn (nz l) N)) lo hi = (cP (ia l) N : Nat) * hi - (cM (ia l) N : Nat) * lo := by
  have hd := dck_ob4 (g1 := g1) (g2 := g2) (show N ≤ 16777216 by omega) (pk_lt l N) (bn_lt (nz l) N) (pk_sub l N)
  have e1 : rP (ob N g1 (pk l N)) = (cP (ia l) N : Nat) := by
    unfold rP
    show ((pc (pk l N) (64 * nw N) : Nat) : Int) = _
    rw [pc_above (pk_lt l N) (nw_le N), pc_pk l N N (Nat.le_refl _)]
  have e2 : rM (ob N g1 (pk l N)) (ob N g2 (bn (nz l) N)) = (cM (ia l) N : Nat) := by
    unfold rM
    show ((pc (bn (nz l) N) (64 * nw N) : Nat) : Int) - ((pc (pk l N) (64 * nw N) : Nat) : Int) = _
    rw [pc_above (pk_lt l N) (nw_le N), pc_pk l N N (Nat.le_refl _), pc_above (bn_lt (nz l) N) (nw_le N), pc_nz l N N (Nat.le_refl _)]
    omega
  have hb := cP_le (ia l) N
  generalize cP (ia l) N = P at *
  generalize cM (ia l) N = Q at *
  have eL : rL (ob N g1 (pk l N)) (ob N g2 (bn (nz l) N)) lo hi = (P : Nat) * lo - (Q : Nat) * hi := by unfold rL; rw [e1, e2]
  have eH : rH (ob N g1 (pk l N)) (ob N g2 (bn (nz l) N)) lo hi = (P : Nat) * hi - (Q : Nat) * lo := by unfold rH; rw [e1, e2]
  have m1 := mulS (p := P) (by omega) (show -1000000 ≤ lo ∧ lo ≤ 1000000 by omega)
  have m2 := mulS (p := P) (by omega) (show -1000000 ≤ hi ∧ hi ≤ 1000000 by omega)
  have m3 := mulS (p := Q) (by omega) (show -1000000 ≤ lo ∧ lo ≤ 1000000 by omega)
  have m4 := mulS (p := Q) (by omega) (show -1000000 ≤ hi ∧ hi ≤ 1000000 by omega)
  have n1 : (P : Int) * lo ≤ P * hi := Int.mul_le_mul_of_nonneg_left hlh (by omega)
  have n2 : (Q : Int) * lo ≤ Q * hi := Int.mul_le_mul_of_nonneg_left hlh (by omega)
  have e3 : roE (ob N g1 (pk l N)) (ob N g2 (bn (nz l) N)) lo hi = 0 := by
    unfold roE
    rw [if_neg (by simpa using hd), if_pos (show maR lo hi from ⟨by omega, hlh, by omega⟩), if_pos]
    rw [eL, eH]
    exact ⟨by omega, by omega, by omega⟩
  refine ⟨e3, ?_, ?_⟩
  · unfold roL; rw [if_pos e3, eL]
  · unfold roH; rw [if_pos e3, eH]
def clV (n lo hi : Int) : Int := if n < lo then lo else if n > hi then hi else n
theorem clV_in {n lo hi : Int} (h : lo ≤ hi) : lo ≤ clV n lo hi ∧ clV n lo hi ≤ hi := by unfold clV; split <;> (try split) <;> omega
end Go.Proofs.Ytkodihmjjiadnaa
/- BOUND MET: what the walk wants. -/
namespace Go.Proofs.Ytkodihmjjiadnaa.Nn
open Go.RowKit

def pkV (f : Nat → Int) (m i : Nat) (n : Int) : Int := if m = 0 then 0 else f (i % m) % n
theorem pkV_in {f : Nat → Int} {m i : Nat} {n : Int} (hn : 1 ≤ n) : 0 ≤ pkV f m i n ∧ pkV f m i n < n := by
  unfold pkV
  split
  · omega
  · exact ⟨Int.emod_nonneg _ (by omega), Int.emod_lt_of_pos _ (by omega)⟩
set_option maxHeartbeats 800000 in
set_option maxRecDepth 100000 in
theorem pick17_any (ao : Option Addr) (m cap : Nat) (f : Nat → Int) (i : Nat) (n : Int) (hm : m ≤ 9223372036854775807) (hi : i ≤ 1000000) (hn : 1 ≤ n ∧ n ≤ 256) (w : World) (h : RB w ao m f) :
    Calls Try.prog 16 #[.slice ao m cap, .int .i64 i, .int .i64 n] w fun e w' => e = .returned (.int .i64 (pkV f m i n)) ∧ w' = w := by
  by_cases h0 : m = 0
  · subst h0
    have e : pkV f 0 i n = 0 := if_pos rfl
    rw [e]
    clear e h
    go_enter Try.func16, Try.ntmps16
    go_wp2_with fail
    go_ret
    exact ⟨rfl, rfl⟩
  · have e : pkV f m i n = f (i % m) % n := if_neg h0
    rw [e]
    clear e
    obtain ⟨g, o, rfl, c, x0, x1⟩ := h (i % m) (Nat.mod_lt _ (by omega))
    have q1 : ((i : Int)).tmod (m : Int) = ((i % m : Nat) : Int) := by rw [Int.tmod_eq_emod_of_nonneg (by omega)]; rfl
    have hlt : i % m < m := Nat.mod_lt _ (by omega)
    have hle : i % m ≤ i := Nat.mod_le _ _
    obtain ⟨r, hr⟩ : ∃ r, i % m = r := ⟨_, rfl⟩
    rw [hr] at c x0 x1 q1 hlt hle ⊢
    generalize f r = x at *
    have q2 : x.tmod n = x % n := Int.tmod_eq_emod_of_nonneg x0
    have i0 : (0 : Int) < (m : Int) := by omega
    have i1 : (r : Int) < (m : Int) := by omega
    have i2 : (0 : Int) ≤ (r : Int) := by omega
    have i3 : ¬ (m : Int) = 0 := by omega
    have i4 : ¬ n = 0 := by omega
    clear hr h0
    go_enter Try.func16, Try.ntmps16
    go_wp2_with fail
    go_ret
    exact ⟨rfl, rfl⟩
/-- The sums of the two inputs are both ends. -/
def loX (f : Nat → Int) (j : Nat) : Int := if f j < 0 then 127 else -128
def hiX (f : Nat → Int) (j : Nat) : Int := if f j < 0 then -128 else 127
theorem sm_lo {f : Nat → Int} : ∀ {m : Nat}, (∀ j, j < m → -1 ≤ f j ∧ f j ≤ 1) → smV f (loX f) m = (cnW f 1 m : Nat) * (-128) - (cnW f (-1) m : Nat) * 127
  | 0, _ => rfl
  | m + 1, h => by
    have ih := sm_lo (m := m) fun j hj => h j (by omega)
    have h3 := h m (by omega)
    simp only [smV, cnW, loX]
    rw [ih]
    rcases (show f m = -1 ∨ f m = 0 ∨ f m = 1 by omega) with e | e | e <;> simp [e] <;> omega
theorem sm_hi {f : Nat → Int} : ∀ {m : Nat}, (∀ j, j < m → -1 ≤ f j ∧ f j ≤ 1) → smV f (hiX f) m = (cnW f 1 m : Nat) * 127 - (cnW f (-1) m : Nat) * (-128)
  | 0, _ => rfl
  | m + 1, h => by
    have ih := sm_hi (m := m) fun j hj => h j (by omega)
    have h3 := h m (by omega)
    simp only [smV, cnW, hiX]
    rw [ih]
    rcases (show f m = -1 ∨ f m = 0 ∨ f m = 1 by omega) with e | e | e <;> simp [e] <;> omega
theorem info_i8P : (Try.prog.info? 49).map (fun i => (i.zero, i.size, i.bytes)) = some (some (.int .i8 0), 1, 1) := by kernel_rfl
theorem und_i8P : Try.prog.underlying 41 = some (.slice 49) := by kernel_rfl
def i8L (l : List Int) : List Value := l.map (Value.int .i8)
theorem i8L_snoc (l : List Int) (x : Int) : i8L (l ++ [x]) = i8L l ++ [.int .i8 x] := by simp [i8L]
theorem step_app8 {ops : Array Oper} {o : Oper} {a : Act} {w : World} {K : Act → World → Prop} {Q : Exit → Act → World → Prop} {E : Prop} (hgd : o.guard = none) (s x : Operand)
    (ho : o.op = .call { callee := .builtin .append, args := #[s, x], argTypes := #[41, 41] }) (base : Nat) (v : Value) (l : List Int) (n : Nat) (hs : a.eval s = v) (hown : w.ownsRow base 49 1 v n (i8L l))
    (g : Nat) (y : Int) (cb : Nat) (hx : a.eval x = .slice (some ⟨g, 0, none⟩) 1 cb) (hr : w.cell? ⟨g, 0, none⟩ = some (.int .i8 y)) (hM : n ≤ 1000000000) (hb : base ≤ w.heap.size)
    (h : ∀ v' w', w'.ownsRow base 49 1 v' (n + 1) (i8L (l ++ [y])) → w.grownBy w' v.ownBlock → K (a.put o.dst v') w') : if Region.wanted o (yielded ops a.tmps) = true then Oper.wp Try.prog o a w K Q else E := by
  have hw : Region.wanted o (yielded ops a.tmps) = true := by simp [Region.wanted, hgd]
  rw [if_pos hw]
  obtain ⟨i0, hi, hz0, hz1, hz2⟩ := info_parts info_i8P
  obtain ⟨v', w', hr2, h2, h3, h4, h5⟩ := run_append_own_at (P := Try.prog) w base 41 o.type 49 i0 (.int .i8 0) 1 1 und_i8P hi hz0 hz1 hz2 rfl (by decide) v n (i8L l) hown ⟨g, 0, none⟩ 1 cb [.int .i8 y] rfl
    (fun j u hu => by
      rcases j with _ | j
      · simp at hu; subst hu; exact hr
      · simp at hu) (fun u hu => by simp at hu; subst hu; rfl) (by unfold maxLen; omega) (by omega) hb
  unfold Oper.wp execOp
  simp only [ho, resolve, invoke, builtin, Sem.run_bind, Sem.run_pure, Result.andThen_ok, List.map_toArray, List.map_cons, List.map_nil, hs, hx, hr2]
  exact h v' w' (by rw [i8L_snoc]; exact h2) h3
theorem own_isP {W : World} {b T s n : Nat} {v : Value} {xs : List Value} (h : W.ownsRow b T s v n xs) : ∃ a c, v = .slice a n c := by
  rcases h.2 with ⟨e, hn⟩ | ⟨g, c, _, e, _⟩
  · exact ⟨none, 0, by rw [e, hn]⟩
  · exact ⟨_, _, e⟩
theorem info_u8P : (Try.prog.info? 5).map (fun i => (i.zero, i.size, i.bytes)) = some (some (.int .u8 0), 1, 1) := by kernel_rfl
theorem und_u8P : Try.prog.underlying 22 = some (.slice 5) := by kernel_rfl
def u8L (l : List Int) : List Value := l.map (Value.int .u8)
theorem u8L_snoc (l : List Int) (x : Int) : u8L (l ++ [x]) = u8L l ++ [.int .u8 x] := by simp [u8L]
theorem app_u8P {ops : Array Oper} {rest : List Oper} {o : Oper} {a : Act} {Q : Exit → Act → World → Prop} {w : World} (hgd : o.guard = none) (s x : Operand)
    (ho : o.op = .call { callee := .builtin .append, args := #[s, x], argTypes := #[22, 22] }) (base : Nat) (v : Value) (l : List Int) (n : Nat) (hs : a.eval s = v) (hown : w.ownsRow base 5 1 v n (u8L l))
    (g : Nat) (y : Int) (cb : Nat) (hx : a.eval x = .slice (some ⟨g, 0, none⟩) 1 cb) (hr : w.cell? ⟨g, 0, none⟩ = some (.int .u8 y)) (hM : n ≤ 1000000000) (hb : base ≤ w.heap.size)
    (h : ∀ v' w', w'.ownsRow base 5 1 v' (n + 1) (u8L (l ++ [y])) → w.grownBy w' v.ownBlock → (v'.ownBlock = v.ownBlock ∨ v'.ownBlock = some w.heap.size) → wpList Try.prog ops Q rest (a.put o.dst v') w') : wpList Try.prog ops Q (o :: rest) a w := by
  obtain ⟨i0, hi, hz0, hz1, hz2⟩ := info_parts info_u8P
  refine wpList_append_own_at w hgd s x _ ho base 5 i0 (.int .u8 0) 1 1 und_u8P hi hz0 hz1 hz2 rfl (by decide) v n (u8L l) hs hown ⟨g, 0, none⟩ 1 cb [.int .u8 y] hx rfl
    (fun j u hu => ?_) (fun u hu => by simp at hu; subst hu; rfl) (by unfold maxLen; omega) (by omega) hb ?_
  · rcases j with _ | j
    · simp at hu; subst hu; exact hr
    · simp at hu
  · intro v' w' h1 h2 _ h3
    exact h v' w' (by rw [u8L_snoc]; exact h1) h2 h3
end Go.Proofs.Ytkodihmjjiadnaa.Nn
/- NETWORKS THAT ARE MADE: pick, weights, norms, after. -/
namespace Go.Proofs.Ytkodihmjjiadnaa.Nn
open Go.RowKit

set_option maxHeartbeats 800000 in
set_option maxRecDepth 100000 in
theorem pick5_nat (ao : Option Addr) (m cap : Nat) (f : Nat → Int) (i : Nat) (n : Int) (hm : m ≤ 9223372036854775807) (hi : i ≤ 1000000) (hn : 1 ≤ n ∧ n ≤ 256) (w : World) (h : RB w ao m f) :
    Calls Try.prog 20 #[.slice ao m cap, .int .i64 i, .int .i64 n] w fun e w' => e = .returned (.int .i64 (pkV f m i n)) ∧ w' = w := by
  by_cases h0 : m = 0
  · subst h0
    have e : pkV f 0 i n = 0 := if_pos rfl
    rw [e]
    clear e h
    go_enter Try.func20, Try.ntmps20
    go_wp2_with fail
    go_ret
    exact ⟨rfl, rfl⟩
  · have e : pkV f m i n = f (i % m) % n := if_neg h0
    rw [e]
    clear e
    obtain ⟨g, o, rfl, c, x0, x1⟩ := h (i % m) (Nat.mod_lt _ (by omega))
    have q1 : ((i : Int)).tmod (m : Int) = ((i % m : Nat) : Int) := by rw [Int.tmod_eq_emod_of_nonneg (by omega)]; rfl
    have hlt : i % m < m := Nat.mod_lt _ (by omega)
    have hle : i % m ≤ i := Nat.mod_le _ _
    obtain ⟨r, hr⟩ : ∃ r, i % m = r := ⟨_, rfl⟩
    rw [hr] at c x0 x1 q1 hlt hle ⊢
    generalize f r = x at *
    have q2 : x.tmod n = x % n := Int.tmod_eq_emod_of_nonneg x0
    have i0 : (0 : Int) < (m : Int) := by omega
    have i1 : (r : Int) < (m : Int) := by omega
    have i2 : (0 : Int) ≤ (r : Int) := by omega
    have i3 : ¬ (m : Int) = 0 := by omega
    have i4 : ¬ n = 0 := by omega
    clear hr h0
    go_enter Try.func20, Try.ntmps20
    go_wp2_with fail
    go_ret
    exact ⟨rfl, rfl⟩
/-- What pick answers, as a number of a number. -/
def pk5 (f : Nat → Int) (m : Nat) (i n : Int) : Int := pkV f m i.toNat n
theorem pk5_in (f : Nat → Int) (m : Nat) (i : Int) {n : Int} (hn : 1 ≤ n) : 0 ≤ pk5 f m i n ∧ pk5 f m i n ≤ n - 1 := by have := pkV_in (f := f) (m := m) (i := i.toNat) hn; unfold pk5; omega
theorem pick5_any (ao : Option Addr) (m cap : Nat) (f : Nat → Int) (hm : m ≤ 9223372036854775807) (i n : Int) (hi : 0 ≤ i ∧ i ≤ 1000000) (hn : 1 ≤ n ∧ n ≤ 256) (w : World) (h : RB w ao m f) :
    Calls Try.prog 20 #[.slice ao m cap, .int .i64 i, .int .i64 n] w fun e w' => e = .returned (.int .i64 (pk5 f m i n)) ∧ w' = w := by
  obtain ⟨k, rfl⟩ := Int.eq_ofNat_of_zero_le hi.1
  exact pick5_nat ao m cap f k n hm (by omega) hn w h
theorem app_i8P {ops : Array Oper} {rest : List Oper} {o : Oper} {a : Act} {Q : Exit → Act → World → Prop} {w : World} (hgd : o.guard = none) (s x : Operand)
    (ho : o.op = .call { callee := .builtin .append, args := #[s, x], argTypes := #[41, 41] }) (base : Nat) (v : Value) (l : List Int) (n : Nat) (hs : a.eval s = v) (hown : w.ownsRow base 49 1 v n (i8L l))
    (g : Nat) (y : Int) (cb : Nat) (hx : a.eval x = .slice (some ⟨g, 0, none⟩) 1 cb) (hr : w.cell? ⟨g, 0, none⟩ = some (.int .i8 y)) (hM : n ≤ 1000000000) (hb : base ≤ w.heap.size)
    (h : ∀ v' w', w'.ownsRow base 49 1 v' (n + 1) (i8L (l ++ [y])) → w.grownBy w' v.ownBlock → wpList Try.prog ops Q rest (a.put o.dst v') w') : wpList Try.prog ops Q (o :: rest) a w := by
  obtain ⟨i0, hi, hz0, hz1, hz2⟩ := info_parts info_i8P
  refine wpList_append_own_at w hgd s x _ ho base 49 i0 (.int .i8 0) 1 1 und_i8P hi hz0 hz1 hz2 rfl (by decide) v n (i8L l) hs hown ⟨g, 0, none⟩ 1 cb [.int .i8 y] hx rfl
    (fun j u hu => ?_) (fun u hu => by simp at hu; subst hu; rfl) (by unfold maxLen; omega) (by omega) hb ?_
  · rcases j with _ | j
    · simp at hu; subst hu; exact hr
    · simp at hu
  · intro v' w' h1 h2 _ _
    exact h v' w' (by rw [i8L_snoc]; exact h1) h2
theorem i8_idD {z : Int} (h1 : -128 ≤ z) (h2 : z ≤ 127) : IntKind.i8.wrap z = z := by
  simp [IntKind.wrap, IntKind.bits, IntKind.signed]
  omega
/-- The weights that are made. -/
def wgV (f : Nat → Int) (m : Nat) (kd : Int) (j : Nat) : Int := if pk5 f m (3 * j + 1) 3 - 1 = 0 ∧ kd = 1 then 1 else pk5 f m (3 * j + 1) 3 - 1
def wgL (f : Nat → Int) (m : Nat) (kd : Int) (n : Nat) : List Int := (List.range n).map (wgV f m kd)
theorem wgL_succ (f : Nat → Int) (m : Nat) (kd : Int) (i : Nat) : wgL f m kd (i + 1) = wgL f m kd i ++ [wgV f m kd i] := by unfold wgL; rw [List.range_succ, List.map_append]; rfl
theorem wgV_ok (f : Nat → Int) (m : Nat) (kd : Int) (j : Nat) : okW kd (wgV f m kd j) := by
  have := pk5_in f m (3 * j + 1) (n := 3) (by decide)
  unfold okW wgV
  split
  · omega
  · omega
set_option maxHeartbeats 1600000 in
set_option maxRecDepth 100000 in
theorem weights5_any (ao : Option Addr) (m cap : Nat) (f : Nat → Int) (hm : m ≤ 9223372036854775807) (N : Nat) (kd : Int) (hN : N ≤ 100000) (w : World) (h : RB w ao m f) :
    Calls Try.prog 22 #[.int .i64 N, .int .i64 kd, .slice ao m cap] w fun e w' => ∃ v, e = .returned v ∧ w'.ownsRow w.heap.size 49 1 v N (i8L (wgL f m kd N)) ∧ Below w.heap.size w w' := by
  have CP := hid1 (fun i n hi hn W (hW : Below w.heap.size w W) => pick5_any ao m cap f hm i n hi hn W (h.keep hW))
  clear h
  go_enter Try.func22, Try.ntmps22
  go_wp2_with fail
  go_loopw [7, 8] (fun lv iv wr => ∃ (i : Nat) (la : Option Addr) (lc : Nat), i ≤ N ∧ lv = .slice la i lc ∧ iv = .int .i64 i ∧ Below w.heap.size w wr ∧ Hid (wr.ownsRow w.heap.size 49 1 (.slice la i lc) i (i8L (wgL f m kd i)))) (fun _ iv _ => N - (intOf iv).toNat)
  case atStart => exact ⟨0, none, 0, Nat.zero_le _, rfl, rfl, Below.refl _ _, hid1 (World.ownsRow_nil _ _ _ _)⟩
  case round =>
    obtain ⟨i, la, lc, hi, rfl, rfl, BX, HO⟩ := hrel
    have ii0 : (0 : Int) ≤ (i : Int) := by omega
    by_cases hlt : i < N
    · have ii : (i : Int) < (N : Int) := by omega
      have hpk := pk5_in f m (3 * i + 1) (n := 3) (by decide)
      have HSU := hid1 (wgL_succ f m kd i)
      have C1 := CP.out (3 * i + 1) 3 (by omega) (by decide) wr BX
      have e1 : wgV f m kd i = if pk5 f m (3 * i + 1) 3 - 1 = 0 ∧ kd = 1 then 1 else pk5 f m (3 * i + 1) 3 - 1 := rfl
      obtain ⟨y, hy⟩ : ∃ y, pk5 f m (3 * i + 1) 3 = y := ⟨_, rfl⟩
      rw [hy] at C1 hpk e1
      rw [e1] at HSU
      clear hy e1
      have C2 := hid1 C1
      clear C1
      have wA : IntKind.i64.wrap (3 * (i : Int)) = 3 * (i : Int) := by rw [IntKind.wrap_i64]; omega
      have wB : IntKind.i64.wrap (3 * (i : Int) + 1) = 3 * (i : Int) + 1 := by rw [IntKind.wrap_i64]; omega
      have wI : IntKind.i64.wrap (y - 1) = y - 1 := by rw [IntKind.wrap_i64]; omega
      have wJ : IntKind.i8.wrap (y - 1) = y - 1 := i8_idD (by omega) (by omega)
      obtain ⟨z, hz⟩ : ∃ z, (if y - 1 = 0 ∧ kd = 1 then (1 : Int) else y - 1) = z := ⟨_, rfl⟩
      rw [hz] at HSU
      have HZ := hid1 hz
      clear hz
      by_cases hy1 : y - 1 = 0
      · by_cases hk1 : kd = 1
        · have ez : z = 1 := by rw [← HZ.out, if_pos ⟨hy1, hk1⟩]
          have b1 : (y - 1 == 0) = true := by simpa using hy1
          have b2 : (kd == 1) = true := by simpa using hk1
          clear hy1 hk1 HZ
          subst ez
          go_wp2_with (first | (go_at_call 20; refine C2.out.mono ?_; rintro e y0 ⟨rfl, rfl⟩) | (at_builtin; refine app_i8P rfl _ _ rfl w.heap.size (.slice la i lc) (wgL f m kd i) i (by go_simp) (own_bl HO.out (bl_alloc (Below.refl _ _) _)) y0.heap.size 1 1 (by go_simp) (by simp [go_sem]) (by omega) (by have := BX.size; simp; omega) ?_; intro v3 y3 own3 gr3; obtain ⟨a3, c3, rfl⟩ := own_isP own3; have H3 := hid1 own3; have B3 : Below w.heap.size w y3 := gr_bel gr3 (bl_alloc BX _) (fun q hq => (HO.out.lt q hq).1); clear own3 gr3))
          exact ⟨⟨i + 1, a3, c3, by omega, rfl, by go_num, B3, hid1 (by rw [HSU.out]; exact H3.out)⟩, by simp [intOf]; omega⟩
        · have ez : z = y - 1 := by rw [← HZ.out, if_neg (fun h => hk1 h.2)]
          have b1 : (y - 1 == 0) = true := by simpa using hy1
          have b2 : (kd == 1) = false := by simpa using hk1
          clear hy1 hk1 HZ
          subst ez
          go_wp2_with (first | (go_at_call 20; refine C2.out.mono ?_; rintro e y0 ⟨rfl, rfl⟩) | (at_builtin; refine app_i8P rfl _ _ rfl w.heap.size (.slice la i lc) (wgL f m kd i) i (by go_simp) (own_bl HO.out (bl_alloc (Below.refl _ _) _)) y0.heap.size (y - 1) 1 (by go_simp) (by simp [go_sem]) (by omega) (by have := BX.size; simp; omega) ?_; intro v3 y3 own3 gr3; obtain ⟨a3, c3, rfl⟩ := own_isP own3; have H3 := hid1 own3; have B3 : Below w.heap.size w y3 := gr_bel gr3 (bl_alloc BX _) (fun q hq => (HO.out.lt q hq).1); clear own3 gr3))
          exact ⟨⟨i + 1, a3, c3, by omega, rfl, by go_num, B3, hid1 (by rw [HSU.out]; exact H3.out)⟩, by simp [intOf]; omega⟩
      · have ez : z = y - 1 := by rw [← HZ.out, if_neg (fun h => hy1 h.1)]
        have b1 : (y - 1 == 0) = false := by simpa using hy1
        clear hy1 HZ
        subst ez
        go_wp2_with (first | (go_at_call 20; refine C2.out.mono ?_; rintro e y0 ⟨rfl, rfl⟩) | (at_builtin; refine app_i8P rfl _ _ rfl w.heap.size (.slice la i lc) (wgL f m kd i) i (by go_simp) (own_bl HO.out (bl_alloc (Below.refl _ _) _)) y0.heap.size (y - 1) 1 (by go_simp) (by simp [go_sem]) (by omega) (by have := BX.size; simp; omega) ?_; intro v3 y3 own3 gr3; obtain ⟨a3, c3, rfl⟩ := own_isP own3; have H3 := hid1 own3; have B3 : Below w.heap.size w y3 := gr_bel gr3 (bl_alloc BX _) (fun q hq => (HO.out.lt q hq).1); clear own3 gr3))
        exact ⟨⟨i + 1, a3, c3, by omega, rfl, by go_num, B3, hid1 (by rw [HSU.out]; exact H3.out)⟩, by simp [intOf]; omega⟩
    · have hiN : i = N := by omega
      subst hiN
      go_wp2_with fail
      go_ret
      exact ⟨_, rfl, HO.out, BX⟩
end Go.Proofs.Ytkodihmjjiadnaa.Nn
/- NETWORKS THAT ARE MADE: norms, after. -/
namespace Go.Proofs.Ytkodihmjjiadnaa.Nn
open Go.RowKit

theorem info_nrD : (Try.prog.info? 71).map (fun i => (i.zero, i.size, i.bytes)) = some (some (.agg #[.int .i64 0, .int .i64 0, .int .i64 0, .int .i64 0, .int .i64 0, .int .i64 0, .int .i64 0, .int .i64 0]), 8, 64) := by kernel_rfl
theorem und_nrD : Try.prog.underlying 42 = some (.slice 71) := by kernel_rfl
/-- Norms, eight cells each. -/
def nmC (ns : Nat → Int) : List Value := [.int .i64 (ns 0), .int .i64 (ns 1), .int .i64 (ns 2), .int .i64 (ns 3), .int .i64 (ns 4), .int .i64 (ns 5), .int .i64 (ns 6), .int .i64 (ns 7)]
def nmL (ns : Nat → Nat → Int) : Nat → List Value
  | 0 => []
  | n + 1 => nmL ns n ++ nmC (ns n)
theorem app_nrD {ops : Array Oper} {rest : List Oper} {o : Oper} {a : Act} {Q : Exit → Act → World → Prop} {w : World} (hgd : o.guard = none) (s x : Operand)
    (ho : o.op = .call { callee := .builtin .append, args := #[s, x], argTypes := #[42, 42] }) (base : Nat) (v : Value) (xs : List Value) (n : Nat) (hs : a.eval s = v) (hown : w.ownsRow base 71 8 v n xs)
    (g : Nat) (y : Nat → Int) (cb : Nat) (hx : a.eval x = .slice (some ⟨g, 0, none⟩) 1 cb) (hr : w.cell? ⟨g, 0, none⟩ = some (.int .i64 (y 0)) ∧ w.cell? ⟨g, 1, none⟩ = some (.int .i64 (y 1)) ∧ w.cell? ⟨g, 2, none⟩ = some (.int .i64 (y 2)) ∧ w.cell? ⟨g, 3, none⟩ = some (.int .i64 (y 3)) ∧ w.cell? ⟨g, 4, none⟩ = some (.int .i64 (y 4)) ∧ w.cell? ⟨g, 5, none⟩ = some (.int .i64 (y 5)) ∧ w.cell? ⟨g, 6, none⟩ = some (.int .i64 (y 6)) ∧ w.cell? ⟨g, 7, none⟩ = some (.int .i64 (y 7))) (hM : n ≤ 1000000000) (hb : base ≤ w.heap.size)
    (h : ∀ v' w', w'.ownsRow base 71 8 v' (n + 1) (xs ++ nmC y) → w.grownBy w' v.ownBlock → wpList Try.prog ops Q rest (a.put o.dst v') w') : wpList Try.prog ops Q (o :: rest) a w := by
  obtain ⟨i0, hi, hz0, hz1, hz2⟩ := info_parts info_nrD
  obtain ⟨r0, r1, r2, r3, r4, r5, r6, r7⟩ := hr
  refine wpList_append_own_at w hgd s x _ ho base 71 i0 _ 8 64 und_nrD hi hz0 hz1 hz2 rfl (by decide) v n xs hs hown ⟨g, 0, none⟩ 1 cb (nmC y) hx rfl
    (fun j u hu => ?_) (fun u hu => by simp [nmC] at hu; rcases hu with rfl | rfl | rfl | rfl | rfl | rfl | rfl | rfl <;> rfl) (by unfold maxLen; omega) (by omega) hb ?_
  · rcases j with _ | _ | _ | _ | _ | _ | _ | _ | j
    · simp [nmC] at hu; subst hu; exact r0
    · simp [nmC] at hu; subst hu; exact r1
    · simp [nmC] at hu; subst hu; exact r2
    · simp [nmC] at hu; subst hu; exact r3
    · simp [nmC] at hu; subst hu; exact r4
    · simp [nmC] at hu; subst hu; exact r5
    · simp [nmC] at hu; subst hu; exact r6
    · simp [nmC] at hu; subst hu; exact r7
    · simp [nmC] at hu
  · intro v' w' h1 h2 _ _
    exact h v' w' h1 h2
/-- The norms that are made. -/
def nsV (f : Nat → Int) (m : Nat) (at' : Int) (i : Nat) (c : Nat) : Int := match c with
  | 0 => pk5 f m (at' + i) 7 - 3
  | 1 => 1 + pk5 f m (at' + i + 1) 4
  | 2 => pk5 f m (at' + i + 2) 9 - 4
  | 3 => 3
  | 4 => pk5 f m (at' + i + 3) 9 - 4
  | 5 => 2
  | 6 => 1 + i
  | _ => 2
theorem nsV_ok (f : Nat → Int) (m : Nat) (at' : Int) (i : Nat) (hi : i ≤ 1000) : noE (nsV f m at' i 0) (nsV f m at' i 1) (nsV f m at' i 2) (nsV f m at' i 3) (nsV f m at' i 4) (nsV f m at' i 5) (nsV f m at' i 6) (nsV f m at' i 7) = 0 := by
  have h1 := pk5_in f m (at' + i) (n := 7) (by decide)
  have h2 := pk5_in f m (at' + i + 1) (n := 4) (by decide)
  have h3 := pk5_in f m (at' + i + 2) (n := 9) (by decide)
  have h4 := pk5_in f m (at' + i + 3) (n := 9) (by decide)
  show noE (pk5 f m (at' + i) 7 - 3) (1 + pk5 f m (at' + i + 1) 4) (pk5 f m (at' + i + 2) 9 - 4) 3 (pk5 f m (at' + i + 3) 9 - 4) 2 (1 + i) 2 = 0
  unfold noE Fr
  rw [if_pos (by omega), if_neg (by omega)]
set_option maxHeartbeats 1600000 in
set_option maxRecDepth 100000 in
theorem norms5_any (ao : Option Addr) (m cap : Nat) (f : Nat → Int) (hm : m ≤ 9223372036854775807) (N : Nat) (at' : Int) (hN : N ≤ 1000) (ha : 0 ≤ at' ∧ at' ≤ 10000) (w : World) (h : RB w ao m f) :
    Calls Try.prog 21 #[.int .i64 N, .slice ao m cap, .int .i64 at'] w fun e w' => ∃ v, e = .returned v ∧ w'.ownsRow w.heap.size 71 8 v N (nmL (nsV f m at') N) ∧ Below w.heap.size w w' := by
  have CP := hid1 (fun i n hi hn W (hW : Below w.heap.size w W) => pick5_any ao m cap f hm i n hi hn W (h.keep hW))
  clear h
  go_enter Try.func21, Try.ntmps21
  go_wp2_with fail
  go_loopw [7, 8] (fun lv iv wr => ∃ (i : Nat) (la : Option Addr) (lc : Nat), i ≤ N ∧ lv = .slice la i lc ∧ iv = .int .i64 i ∧ Below w.heap.size w wr ∧ Hid (wr.ownsRow w.heap.size 71 8 (.slice la i lc) i (nmL (nsV f m at') i))) (fun _ iv _ => N - (intOf iv).toNat)
  case atStart => exact ⟨0, none, 0, Nat.zero_le _, rfl, rfl, Below.refl _ _, hid1 (World.ownsRow_nil _ _ _ _)⟩
  case round =>
    obtain ⟨i, la, lc, hi, rfl, rfl, BX, HO⟩ := hrel
    have ii0 : (0 : Int) ≤ (i : Int) := by omega
    by_cases hlt : i < N
    · have ii : (i : Int) < (N : Int) := by omega
      have HSU : Hid (nmL (nsV f m at') (i + 1) = nmL (nsV f m at') i ++ nmC (nsV f m at' i)) := hid1 rfl
      have h1 := pk5_in f m (at' + i) (n := 7) (by decide)
      have h2 := pk5_in f m (at' + i + 1) (n := 4) (by decide)
      have h3 := pk5_in f m (at' + i + 2) (n := 9) (by decide)
      have h4 := pk5_in f m (at' + i + 3) (n := 9) (by decide)
      have C1 := hid1 (fun W hW => CP.out (at' + i) 7 (by omega) (by decide) W (bl_step BX hW))
      have C2 := hid1 (fun W hW => CP.out (at' + i + 1) 4 (by omega) (by decide) W (bl_step BX hW))
      have C3 := hid1 (fun W hW => CP.out (at' + i + 2) 9 (by omega) (by decide) W (bl_step BX hW))
      have C4 := hid1 (fun W hW => CP.out (at' + i + 3) 9 (by omega) (by decide) W (bl_step BX hW))
      have HE : Hid (nmC (nsV f m at' i) = nmC (fun c => match c with | 0 => pk5 f m (at' + i) 7 - 3 | 1 => 1 + pk5 f m (at' + i + 1) 4 | 2 => pk5 f m (at' + i + 2) 9 - 4 | 3 => 3 | 4 => pk5 f m (at' + i + 3) 9 - 4 | 5 => 2 | 6 => 1 + i | _ => 2)) := hid1 rfl
      generalize pk5 f m (at' + i) 7 = y1 at *
      generalize pk5 f m (at' + i + 1) 4 = y2 at *
      generalize pk5 f m (at' + i + 2) 9 = y3 at *
      generalize pk5 f m (at' + i + 3) 9 = y4 at *
      obtain ⟨q0, hq0⟩ : ∃ q, at' + i = q := ⟨_, rfl⟩
      rw [hq0] at C1 C2 C3 C4
      obtain ⟨q1, hq1⟩ : ∃ q, q0 + 1 = q := ⟨_, rfl⟩
      obtain ⟨q2, hq2⟩ : ∃ q, q0 + 2 = q := ⟨_, rfl⟩
      obtain ⟨q3, hq3⟩ : ∃ q, q0 + 3 = q := ⟨_, rfl⟩
      rw [hq1] at C2
      rw [hq2] at C3
      rw [hq3] at C4
      have w0 : IntKind.i64.wrap (at' + (i : Int)) = q0 := by rw [IntKind.wrap_i64]; omega
      have w1 : IntKind.i64.wrap (q0 + 1) = q1 := by rw [IntKind.wrap_i64]; omega
      have w2 : IntKind.i64.wrap (q0 + 2) = q2 := by rw [IntKind.wrap_i64]; omega
      have w3 : IntKind.i64.wrap (q0 + 3) = q3 := by rw [IntKind.wrap_i64]; omega
      have w4 : IntKind.i64.wrap (y1 - 3) = y1 - 3 := by rw [IntKind.wrap_i64]; omega
      have w5 : IntKind.i64.wrap (1 + y2) = 1 + y2 := by rw [IntKind.wrap_i64]; omega
      have w6 : IntKind.i64.wrap (y3 - 4) = y3 - 4 := by rw [IntKind.wrap_i64]; omega
      have w7 : IntKind.i64.wrap (y4 - 4) = y4 - 4 := by rw [IntKind.wrap_i64]; omega
      have w8 : IntKind.i64.wrap (1 + (i : Int)) = 1 + (i : Int) := by rw [IntKind.wrap_i64]; omega
      clear hq0 hq1 hq2 hq3 h1 h2 h3 h4
      obtain ⟨Y, hY⟩ : ∃ Y : Nat → Int, Y = (fun c => match c with | 0 => y1 - 3 | 1 => 1 + y2 | 2 => y3 - 4 | 3 => 3 | 4 => y4 - 4 | 5 => 2 | 6 => 1 + (i : Int) | _ => 2) := ⟨_, rfl⟩
      rw [← hY] at HE
      have Y0 : y1 - 3 = Y 0 := (congrFun hY 0).symm
      have Y1 : 1 + y2 = Y 1 := (congrFun hY 1).symm
      have Y2 : y3 - 4 = Y 2 := (congrFun hY 2).symm
      have Y3 : (3 : Int) = Y 3 := (congrFun hY 3).symm
      have Y4 : y4 - 4 = Y 4 := (congrFun hY 4).symm
      have Y5 : (2 : Int) = Y 5 := (congrFun hY 5).symm
      have Y6 : 1 + (i : Int) = Y 6 := (congrFun hY 6).symm
      have Y7 : (2 : Int) = Y 7 := (congrFun hY 7).symm
      have HY := hid1 (show Y 0 = y1 - 3 ∧ Y 1 = 1 + y2 ∧ Y 2 = y3 - 4 ∧ Y 3 = 3 ∧ Y 4 = y4 - 4 ∧ Y 5 = 2 ∧ Y 6 = 1 + (i : Int) ∧ Y 7 = 2 from ⟨Y0.symm, Y1.symm, Y2.symm, Y3.symm, Y4.symm, Y5.symm, Y6.symm, Y7.symm⟩)
      clear Y0 Y1 Y2 Y3 Y4 Y5 Y6 Y7 hY
      go_wp2_with fail
      refine (C1.out _ (by repeat (first | (with_reducible exact Below.refl _ _) | (with_reducible refine bl_alloc ?_ _) | (with_reducible refine Below.drew ?_) | (with_reducible refine bl_drewN ?_ _) | (with_reducible refine bl_set ?_ (by omega) _) | (with_reducible refine bl_step ?_ (by assumption))))).mono ?_
      rintro e z1 ⟨rfl, rfl⟩
      go_wp2_with fail
      refine (C2.out _ (by repeat (first | (with_reducible exact Below.refl _ _) | (with_reducible refine bl_alloc ?_ _) | (with_reducible refine Below.drew ?_) | (with_reducible refine bl_drewN ?_ _) | (with_reducible refine bl_set ?_ (by omega) _) | (with_reducible refine bl_step ?_ (by assumption))))).mono ?_
      rintro e z2 ⟨rfl, rfl⟩
      go_wp2_with fail
      refine (C3.out _ (by repeat (first | (with_reducible exact Below.refl _ _) | (with_reducible refine bl_alloc ?_ _) | (with_reducible refine Below.drew ?_) | (with_reducible refine bl_drewN ?_ _) | (with_reducible refine bl_set ?_ (by omega) _) | (with_reducible refine bl_step ?_ (by assumption))))).mono ?_
      rintro e z3 ⟨rfl, rfl⟩
      go_wp2_with fail
      refine (C4.out _ (by repeat (first | (with_reducible exact Below.refl _ _) | (with_reducible refine bl_alloc ?_ _) | (with_reducible refine Below.drew ?_) | (with_reducible refine bl_drewN ?_ _) | (with_reducible refine bl_set ?_ (by omega) _) | (with_reducible refine bl_step ?_ (by assumption))))).mono ?_
      rintro e z4 ⟨rfl, rfl⟩
      go_wp2_with (at_builtin; refine app_nrD rfl _ _ rfl w.heap.size (.slice la i lc) (nmL (nsV f m at') i) i (by go_simp) (own_bl HO.out (by repeat (first | (with_reducible exact Below.refl _ _) | (with_reducible refine bl_alloc ?_ _) | (with_reducible refine Below.drew ?_) | (with_reducible refine bl_drewN ?_ _) | (with_reducible refine bl_set ?_ (by omega) _) | (with_reducible refine bl_step ?_ (by assumption))))) (z2.heap.size + 1 + 1 + 1) Y 1 (by go_simp) (by obtain ⟨y0, y1, y2, y3, y4, y5, y6, y7⟩ := HY.out; rw [y0, y1, y2, y3, y4, y5, y6, y7]; simp [go_sem]) (by omega) (by have := BX.size; simp; omega) ?_; intro v3 y3 own3 gr3; obtain ⟨a3, c3, rfl⟩ := own_isP own3; have H3 := hid1 own3; have B3 : Below w.heap.size w y3 := gr_bel gr3 (bl_step BX (by repeat (first | (with_reducible exact Below.refl _ _) | (with_reducible refine bl_alloc ?_ _) | (with_reducible refine Below.drew ?_) | (with_reducible refine bl_drewN ?_ _) | (with_reducible refine bl_set ?_ (by omega) _) | (with_reducible refine bl_step ?_ (by assumption))))) (fun q hq => (HO.out.lt q hq).1); clear own3 gr3)
      exact ⟨⟨i + 1, a3, c3, by omega, rfl, by go_num, B3, hid1 (by rw [HSU.out, HE.out]; exact H3.out)⟩, by simp [intOf]; omega⟩
    · have hiN : i = N := by omega
      subst hiN
      go_wp2_with fail
      go_ret
      exact ⟨_, rfl, HO.out, BX⟩
end Go.Proofs.Ytkodihmjjiadnaa.Nn
/- NETWORKS THAT ARE MADE: after. -/
namespace Go.Proofs.Ytkodihmjjiadnaa.Nn
open Go.RowKit

/-- The shape behind a layer that is made. -/
def afH (L : Ly) (h : Int) : Int := if L.kd = 2 then 1 else (h + L.t + L.b - L.r) / L.sy + 1
def afV (L : Ly) (v : Int) : Int := if L.kd = 2 then 1 else (v + L.l + L.q - L.s) / L.sx + 1
set_option maxHeartbeats 1600000 in
set_option maxRecDepth 100000 in
theorem after_any2 (L : Ly) (h v c0 c : Int) (hh : 0 ≤ h ∧ h ≤ 4096) (hv : 0 ≤ v ∧ v ≤ 4096) (hw : L.kd = 2 ∨ (WOk L.r L.s L.sy L.sx L.t L.l L.b L.q ∧ L.r ≤ h + L.t + L.b ∧ L.s ≤ v + L.l + L.q)) (w : World) :
    Calls Try.prog 11 #[shp h v c0, lyv L, .int .i64 c] w fun e w' => e = .returned (shp (afH L h) (afV L v) c) ∧ Below w.heap.size w w' := by
  obtain ⟨kd, wt, k, r, s, sy, sx, t, l, b, q, bd, aw, mw, cw, an, mn, cn, ab, mb, cb, ws, ns, bs⟩ := L
  unfold afH afV
  dsimp only at hw ⊢
  by_cases h2 : kd = 2
  · rw [if_pos h2, if_pos h2]
    subst h2
    clear hw
    go_enter Try.func11, Try.ntmps11
    go_wp2_with fail
    simp only [bodyPost, results, Try.results11]
    simp [go_sem]
    repeat (first | (with_reducible exact Below.refl _ _) | (with_reducible refine bl_alloc ?_ _) | (with_reducible refine Below.drew ?_) | (with_reducible refine bl_drewN ?_ _) | (with_reducible refine bl_set ?_ (by omega) _) | (with_reducible refine bl_step ?_ (by assumption)))
  · rw [if_neg h2, if_neg h2]
    have b2 : (kd == 2) = false := by simpa using h2
    have hw := hw.resolve_left h2
    obtain ⟨⟨⟨⟨r1, r2⟩, ⟨y1, y2⟩, ⟨t1, t2⟩, ⟨b1, b3⟩⟩, ⟨⟨s1, s2⟩, ⟨x1, x2⟩, ⟨l1, l2⟩, ⟨q1, q2⟩⟩⟩, hR, hS⟩ := hw
    have a1 : IntKind.i64.wrap (h + t) = h + t := by rw [IntKind.wrap_i64]; omega
    have a2 : IntKind.i64.wrap (h + t + b) = h + t + b := by rw [IntKind.wrap_i64]; omega
    have a3 : IntKind.i64.wrap (h + t + b - r) = h + t + b - r := by rw [IntKind.wrap_i64]; omega
    have a4 : IntKind.i64.wrap (v + l) = v + l := by rw [IntKind.wrap_i64]; omega
    have a5 : IntKind.i64.wrap (v + l + q) = v + l + q := by rw [IntKind.wrap_i64]; omega
    have a6 : IntKind.i64.wrap (v + l + q - s) = v + l + q - s := by rw [IntKind.wrap_i64]; omega
    have d1 : (h + t + b - r).tdiv sy = (h + t + b - r) / sy := Int.tdiv_eq_ediv_of_nonneg (by omega)
    have d2 : (v + l + q - s).tdiv sx = (v + l + q - s) / sx := Int.tdiv_eq_ediv_of_nonneg (by omega)
    have c1 : 0 ≤ (h + t + b - r) / sy ∧ (h + t + b - r) / sy ≤ 5000 := ⟨Int.ediv_nonneg (by omega) (by omega), Int.le_trans (Int.ediv_le_self _ (by omega)) (by omega)⟩
    have c2 : 0 ≤ (v + l + q - s) / sx ∧ (v + l + q - s) / sx ≤ 5000 := ⟨Int.ediv_nonneg (by omega) (by omega), Int.le_trans (Int.ediv_le_self _ (by omega)) (by omega)⟩
    generalize (h + t + b - r) / sy = A at *
    generalize (v + l + q - s) / sx = B at *
    have a7 : IntKind.i64.wrap A = A := by rw [IntKind.wrap_i64]; omega
    have a8 : IntKind.i64.wrap B = B := by rw [IntKind.wrap_i64]; omega
    have a9 : IntKind.i64.wrap (A + 1) = A + 1 := by rw [IntKind.wrap_i64]; omega
    have a10 : IntKind.i64.wrap (B + 1) = B + 1 := by rw [IntKind.wrap_i64]; omega
    have n1 : ¬ sy = 0 := by omega
    have n2 : ¬ sx = 0 := by omega
    clear hh hv r1 r2 y1 y2 t1 t2 b1 b3 s1 s2 x1 x2 l1 l2 q1 q2 hR hS c1 c2 h2
    go_enter Try.func11, Try.ntmps11
    go_upto_region 4 with fail
    refine still_tailP 32 (by decide +kernel) ?_
    repeat still_step
    refine wpStill_nil ?_
    go_wp2
    simp only [bodyPost, results, Try.results11]
    simp [go_sem]
    repeat (first | (with_reducible exact Below.refl _ _) | (with_reducible refine bl_alloc ?_ _) | (with_reducible refine Below.drew ?_) | (with_reducible refine bl_drewN ?_ _) | (with_reducible refine bl_set ?_ (by omega) _) | (with_reducible refine bl_step ?_ (by assumption)))
end Go.Proofs.Ytkodihmjjiadnaa.Nn
/- PLAIN: what a window sees. -/
namespace Go.Proofs.Ytkodihmjjiadnaa.Nn
open Go.RowKit

/-- copy into a row of words, from p on, out of any cells. -/
theorem copy_64 {w : World} {G T p L n s c d : Nat} {a : Addr} {f h : Nat → Value} (hp : p + d ≤ T) (hL : d = Nat.min s L) (r : w.rowIs G 2 T f) (hs : ∀ j, j < d → w.cell? (a.add j) = some (h j)) (h1 : ∀ k, (h k).oneCell' = true) :
    ∃ w', (∀ ty, (Builtin.copy_ #[43, 43] ty #[.slice (some ⟨G, p, none⟩) L n, .slice (some a) s c]).run Try.prog w = .ok (.int .i64 d) w') ∧ w'.rowIs G 2 T (fun j => if p ≤ j ∧ j < p + d then h (j - p) else f j) ∧ w.grownBy w' (some G) := by
  obtain ⟨cur, hb, hsz, hc⟩ := r
  have hlen : ((List.range d).map h).length = d := by simp
  refine ⟨w.setRow G (cur.toList.take p ++ (List.range d).map h ++ cur.toList.drop (p + d)).toArray, fun ty => ?_, ⟨(cur.toList.take p ++ (List.range d).map h ++ cur.toList.drop (p + d)).toArray, ?_, ?_, ?_⟩, ?_⟩
  · have := run_copy_row (P := Try.prog) w 43 43 ty 2 G p L n a s c cur 2 ((List.range d).map h) und_i64s (by
      obtain ⟨i, hi, _, hz, _⟩ := info_parts info_i64
      rw [hi]; simp [hz]) hb (by rw [hlen]; exact hL) (fun j v hv => by
        rw [List.getElem?_map] at hv
        by_cases hj : j < d
        · rw [List.getElem?_range hj] at hv
          cases hv
          exact hs j hj
        · rw [List.getElem?_eq_none (by simpa using hj)] at hv
          cases hv) (by rw [hlen]; omega) (fun v hv => by
        obtain ⟨k, _, rfl⟩ := List.mem_map.1 hv
        exact h1 k)
    rw [hlen] at this
    exact this
  · exact setRow_heap w G _ _ _ _ hb
  · simp; omega
  · intro i hi
    rw [List.getElem?_toArray]
    show _ = some (if p ≤ i ∧ i < p + d then h (i - p) else f i)
    have hcl : cur.toList.length = T := by simpa using hsz
    by_cases e1 : i < p
    · rw [if_neg (by omega), List.getElem?_append_left (by simp; omega), List.getElem?_append_left (by simp; omega), List.getElem?_take_of_lt e1]
      simpa using hc i hi
    · by_cases e2 : i < p + d
      · rw [if_pos (by omega), List.getElem?_append_left (by simp; omega), List.getElem?_append_right (by simp; omega)]
        simp only [List.length_take, hcl]
        rw [show min p T = p by omega, List.getElem?_map, List.getElem?_range (by omega)]
        rfl
      · rw [if_neg (by omega), List.getElem?_append_right (by simp; omega)]
        simp only [List.length_append, List.length_take, hcl, hlen]
        rw [show min p T = p by omega, List.getElem?_drop, show p + d + (i - (p + d)) = i by omega]
        simpa using hc i hi
  · exact ⟨rfl, rfl, rfl, by simp [World.setRow], fun k hk hne => setRow_other w G k _ (fun e => hne (by rw [e]))⟩

/-- Does the place (r, s) of a window at (y, x) lie within H times V? -/
def Inw (y x : Int) (H V : Nat) (r s : Nat) : Prop := (0 ≤ y + r ∧ y + r < H) ∧ (0 ≤ x + s ∧ x + s < V)
instance (y x : Int) (H V r s : Nat) : Decidable (Inw y x H V r s) := by unfold Inw; infer_instance
/-- What is seen at the place j of the list, up to the row rr and its column ss; the border elsewhere. -/
def lkU (y x bd : Int) (H V C S : Nat) (val : Nat → Int) (rr ss : Nat) (j : Nat) : Int :=
  if Inw y x H V (j / C / S) (j / C % S) ∧ (j / C / S < rr ∨ (j / C / S = rr ∧ j / C % S < ss)) then val (((y + (j / C / S : Nat)).toNat * V + (x + (j / C % S : Nat)).toNat) * C + j % C) else bd
/-- What is seen. -/
def lkW (y x bd : Int) (H V C S : Nat) (val : Nat → Int) (j : Nat) : Int :=
  if Inw y x H V (j / C / S) (j / C % S) then val (((y + (j / C / S : Nat)).toNat * V + (x + (j / C % S : Nat)).toNat) * C + j % C) else bd
theorem lkU_first {y x bd : Int} {H V C S : Nat} {val : Nat → Int} {rr ss : Nat} (h : rr = 0 ∨ y + rr ≤ 0) (h2 : ss = 0 ∨ x + ss ≤ 0) (j : Nat) : lkU y x bd H V C S val rr ss j = bd := by
  unfold lkU
  rw [if_neg]
  rintro ⟨h1, h3⟩
  generalize j / C / S = r at h1 h3
  generalize j / C % S = s at h1 h3
  unfold Inw at h1
  omega
theorem lkU_last {y x bd : Int} {H V C S R : Nat} {val : Nat → Int} {rr ss : Nat} (hC : 1 ≤ C) (hS : 1 ≤ S) (h : (R : Int) ≤ rr ∨ (H : Int) ≤ y + rr) {j : Nat} (hj : j < R * S * C) : lkU y x bd H V C S val rr ss j = lkW y x bd H V C S val j := by
  unfold lkU lkW
  have hq : j / C < R * S := (Nat.div_lt_iff_lt_mul (by omega)).2 hj
  have hr : j / C / S < R := (Nat.div_lt_iff_lt_mul (by omega)).2 hq
  by_cases hi : Inw y x H V (j / C / S) (j / C % S)
  · rw [if_pos hi, if_pos ⟨hi, .inl (by unfold Inw at hi; omega)⟩]
  · rw [if_neg hi, if_neg (fun h => hi h.1)]
theorem lkU_row {y x bd : Int} {H V C S : Nat} {val : Nat → Int} {rr ss : Nat} (hS : 1 ≤ S) (h : (S : Int) ≤ ss ∨ (V : Int) ≤ x + ss) (t : Nat) (ht : x + t ≤ 0 ∨ t = 0) (j : Nat) : lkU y x bd H V C S val rr ss j = lkU y x bd H V C S val (rr + 1) t j := by
  unfold lkU
  have hs : j / C % S < S := Nat.mod_lt _ (by omega)
  have e : (Inw y x H V (j / C / S) (j / C % S) ∧ (j / C / S < rr ∨ (j / C / S = rr ∧ j / C % S < ss))) ↔ (Inw y x H V (j / C / S) (j / C % S) ∧ (j / C / S < rr + 1 ∨ (j / C / S = rr + 1 ∧ j / C % S < t))) := by
    unfold Inw
    omega
  by_cases hi : Inw y x H V (j / C / S) (j / C % S) ∧ (j / C / S < rr ∨ (j / C / S = rr ∧ j / C % S < ss))
  · rw [if_pos hi, if_pos (e.1 hi)]
  · rw [if_neg hi, if_neg (fun h => hi (e.2 h))]
theorem lkU_step {y x bd : Int} {H V C S : Nat} {val : Nat → Int} {rr ss a b : Nat} (hC : 1 ≤ C) (hss : ss < S) (hi : Inw y x H V rr ss) (ha : y + rr = a) (hb : x + ss = b) (j : Nat) :
    (if (rr * S + ss) * C ≤ j ∧ j < (rr * S + ss) * C + C then Value.int .i64 (val ((a * V + b) * C + (j - (rr * S + ss) * C))) else Value.int .i64 (lkU y x bd H V C S val rr ss j)) = Value.int .i64 (lkU y x bd H V C S val rr (ss + 1) j) := by
  have hS : 1 ≤ S := by omega
  by_cases hj : (rr * S + ss) * C ≤ j ∧ j < (rr * S + ss) * C + C
  · rw [if_pos hj]
    have q : j / C = rr * S + ss := by
      apply Nat.div_eq_of_lt_le
      · rw [Nat.mul_comm] at hj; rw [Nat.mul_comm]; omega
      · have : (rr * S + ss + 1) * C = (rr * S + ss) * C + C := Nat.succ_mul _ _
        omega
    have hm : j % C = j - (rr * S + ss) * C := by have := Nat.div_add_mod j C; rw [q, Nat.mul_comm] at this; omega
    have q1 : (rr * S + ss) / S = rr := by rw [Nat.mul_comm, Nat.mul_add_div (by omega), Nat.div_eq_of_lt hss]; omega
    have q2 : (rr * S + ss) % S = ss := by rw [Nat.mul_comm, Nat.mul_add_mod, Nat.mod_eq_of_lt hss]
    unfold lkU
    rw [q, q1, q2, if_pos ⟨hi, .inr ⟨rfl, by omega⟩⟩, hm, ha, hb]
    rfl
  · rw [if_neg hj]
    have hne : ¬ (j / C / S = rr ∧ j / C % S = ss) := by
      rintro ⟨h1, h2⟩
      have e1 := Nat.div_add_mod (j / C) S
      rw [h1, h2] at e1
      have e2 := Nat.div_add_mod j C
      rw [← e1] at e2
      have e3 := Nat.mod_lt j (show 0 < C by omega)
      rw [Nat.mul_comm C, Nat.mul_comm S] at e2
      omega
    unfold lkU
    congr 1
    by_cases hh : Inw y x H V (j / C / S) (j / C % S) ∧ (j / C / S < rr ∨ (j / C / S = rr ∧ j / C % S < ss))
    · rw [if_pos hh, if_pos ⟨hh.1, by omega⟩]
    · rw [if_neg hh, if_neg (fun h => hh ⟨h.1, by omega⟩)]
end Go.Proofs.Ytkodihmjjiadnaa.Nn
/- PLAIN: look. -/
namespace Go.Proofs.Ytkodihmjjiadnaa.Nn
open Go.RowKit

abbrev bdf (bd : Int) (f : Nat → Value) (k : Nat) : Nat → Value := fun j => if j < k then .int .i64 bd else f j
theorem addP (b o n : Nat) : Addr.add ⟨b, o, none⟩ n = ⟨b, o + n, none⟩ := by
  unfold Addr.add
  by_cases h : n = 0
  · subst h; rfl
  · rw [if_neg h]
theorem gr_set {w Y : World} {c j : Nat} {u : Value} (h : w.grownBy Y (some c)) : w.grownBy (Y.setCell ⟨c, j, none⟩ u) (some c) :=
  ⟨h.os, h.tape, h.output, by simpa using h.size, fun n hn hne => (Below.heap_setCell _ _ _ _ (fun e => hne (by rw [e]))).trans (h.block n hn hne)⟩
set_option maxHeartbeats 6400000 in
set_option maxRecDepth 100000 in
theorem look_any (L : Ly) (R S H V C T : Nat) (hR : L.r = R) (hS : L.s = S) (hRb : 1 ≤ R ∧ R ≤ 15) (hSb : 1 ≤ S ∧ S ≤ 15) (hC : 1 ≤ C ∧ C ≤ 4096) (hH : H ≤ 4096) (hV : V ≤ 4096) (hn : H * V * C ≤ 16777216) (hT : R * S * C = T) (tc : Nat) (y x : Int) (hy : -1000000 ≤ y ∧ y ≤ 1000000) (hx : -1000000 ≤ x ∧ x ≤ 1000000)
    (xo : Option Addr) (xc : Nat) (hxc : H * V * C ≤ xc) (htc : T ≤ tc) (val : Nat → Int) (G : Nat) (f : Nat → Value) (w : World) (hr : w.rowIs G 2 T f) (hv : R64 w xo (H * V * C) val) (hG : ∀ g o, xo = some ⟨g, o, none⟩ → g ≠ G) :
    Calls Try.prog 103 #[lyv L, tnv H V C xo (H * V * C) xc, .int .i64 y, .int .i64 x, .slice (some ⟨G, 0, none⟩) T tc] w fun e w' => e = .returned (.tuple #[]) ∧ w'.rowIs G 2 T (fun j => .int .i64 (lkW y x L.bd H V C S val j)) ∧ w.grownBy w' (some G) := by
  have HR := hid1 hR
  have HS := hid1 hS
  have HT := hid1 hT
  have HROW := hid1 hr
  have HV := hid1 hv
  have HG := hid1 hG
  have lG := hr.lt
  have hTb : T ≤ 1000000 := by
    rw [← hT]
    have h1 : R * S ≤ 225 := Nat.mul_le_mul hRb.2 hSb.2
    exact Nat.le_trans (Nat.mul_le_mul h1 hC.2) (by decide)
  obtain ⟨N, hN⟩ : ∃ N, H * V * C = N := ⟨_, rfl⟩
  rw [hN] at hn hxc ⊢
  have HN := hid1 hN
  rw [hN] at HV
  clear hR hS hT hr hv hG hN
  obtain ⟨b, hb0⟩ : ∃ b, w.heap.size = b := ⟨_, rfl⟩
  go_enter Try.func103, Try.ntmps103
  go_upto_region 1 with fail
  refine gen_world (fun X => Below w.heap.size w X ∧ Lp X b L ∧ X.rowIs (b + 1) 99 4 (tnf H V C xo N xc)) ⟨by repeat (first | (with_reducible exact Below.refl _ _) | (with_reducible refine bl_alloc ?_ _) | (with_reducible refine Below.drew ?_) | (with_reducible refine bl_drewN ?_ _) | (with_reducible refine bl_set ?_ (by omega) _) | (with_reducible refine bl_step ?_ (by assumption))), (lp_new' hb0 L _).keep (bl_alloc (Below.refl _ _) _), by have := tn_new (w.alloc (lyo L)) H V C xo N xc 99; rw [show (w.alloc (lyo L)).heap.size = b + 1 by simp [hb0]] at this; exact this⟩ ?_
  rintro X ⟨BX, LX, TX⟩
  have K1 := hid1 LX
  have K2 := hid1 TX
  have K3 := hid1 (World.rowIs.of_block HROW.out (BX.block _ lG))
  have K4 := hid1 (gr_below (gr_refl w (some G)) BX)
  have lb1 := TX.lt
  clear LX TX BX HROW
  go_wp2_with fail
  go_loopw [21] (fun iv wr => ∃ k : Nat, k ≤ T ∧ iv = .int .i64 k ∧ b + 1 < wr.heap.size ∧ Hid (Lp wr b L) ∧ Hid (wr.rowIs (b + 1) 99 4 (tnf H V C xo N xc)) ∧ Hid (wr.rowIs G 2 T (bdf L.bd f k)) ∧ Hid (w.grownBy wr (some G))) (fun iv _ => T - (intOf iv).toNat)
  case atStart => exact ⟨0, Nat.zero_le _, rfl, lb1, K1, K2, hid1 (K3.out.congr fun j _ => by simp), K4⟩
  case round =>
    clear K1 K2 K3 K4 lb1
    obtain ⟨k, hk, rfl, lb1, K1, K2, K3, K4⟩ := hrel
    have ik0 : (0 : Int) ≤ (k : Int) := by omega
    by_cases hlt : k < T
    · as_aux_lemma =>
      have ik : (k : Int) < (T : Int) := by omega
      have l11 : wr.cell? ⟨b, 11, none⟩ = some (.int .i64 L.bd) := K1.out.2.2.2.2.2.2.2.2.2.2.2.1
      have r0 := K3.out.cell hlt
      have f0 := K3.out.frozen k
      simp only [bdf] at r0
      go_wp2_with fail
      exact ⟨⟨k + 1, by omega, by go_num, by simpa using lb1, hid1 (K1.out.of_block (Below.heap_setCell _ _ _ _ (by show b ≠ G; omega))), hid1 (K2.out.setOther (by show b + 1 ≠ G; omega) _), hid1 ((K3.out.set k _).congr fun j _ => by
        by_cases e : j = k
        · rw [if_pos e]; simp [bdf, e]
        · rw [if_neg e]; simp only [bdf]; by_cases e2 : j < k
          · rw [if_pos e2, if_pos (by omega)]
          · rw [if_neg e2, if_neg (by omega)]), hid1 (gr_set K4.out)⟩, by simp [intOf]; omega⟩
    · have hkT : k = T := by omega
      have K3' : Hid (wr.rowIs G 2 T (fun _ => .int .i64 L.bd)) := hid1 (K3.out.congr fun j hj => by simp only [bdf]; rw [if_pos (by omega)])
      clear K3
      have r3 : wr.cell? ⟨b, 3, none⟩ = some (.int .i64 (R : Int)) := by rw [← HR.out]; exact K1.out.2.2.2.1
      have r4 : wr.cell? ⟨b, 4, none⟩ = some (.int .i64 (S : Int)) := by rw [← HS.out]; exact K1.out.2.2.2.2.1
      obtain ⟨t0, t1, t2, t3⟩ := tn_cells K2.out
      have W1 := hid1 (within_any y R H (by omega) (by omega) wr)
      have W2 := hid1 (within_any x S V (by omega) (by omega) wr)
      obtain ⟨top, etop⟩ := Int.eq_ofNat_of_zero_le (show 0 ≤ max 0 (-y) by omega)
      obtain ⟨lef', elef⟩ := Int.eq_ofNat_of_zero_le (show 0 ≤ max 0 (-x) by omega)
      obtain ⟨bot, ebot⟩ : ∃ q, min (R : Int) (H - y) = q := ⟨_, rfl⟩
      obtain ⟨rig, erig⟩ : ∃ q, min (S : Int) (V - x) = q := ⟨_, rfl⟩
      rw [etop, ebot] at W1
      rw [elef, erig] at W2
      go_wp2_with fail
      refine W1.out.mono ?_
      rintro e w1 ⟨rfl, hw1⟩
      rw [hw1]
      go_wp2_with fail
      refine W2.out.mono ?_
      rintro e w2 ⟨rfl, hw2⟩
      rw [hw2]
      go_wp2_with fail
      clear hw1 hw2 w1 w2 W1 W2 r3
      have K5 : Hid (wr.rowIs G 2 T (fun j => .int .i64 (lkU y x L.bd H V C S val top lef' j))) := hid1 (K3'.out.congr fun j _ => by rw [lkU_first (by omega) (by omega)])
      clear K3'
      go_loopw [16] (fun rv wy => ∃ rr : Nat, rv = .int .i64 rr ∧ top ≤ rr ∧ b + 1 < wy.heap.size ∧ Hid (Lp wy b L) ∧ Hid (wy.rowIs (b + 1) 99 4 (tnf H V C xo N xc)) ∧ Hid (wy.rowIs G 2 T (fun j => .int .i64 (lkU y x L.bd H V C S val rr lef' j))) ∧ Hid (w.grownBy wy (some G))) (fun rv _ => (bot - intOf rv).toNat)
      case atStart => exact ⟨top, rfl, Nat.le_refl _, lb1, K1, K2, K5, K4⟩
      case round =>
        clear K1 K2 K4 K5 lb1 r4 t0 t1 t2 t3
        obtain ⟨rr, rfl, hrr, lb1, K1, K2, K5, K4⟩ := hrel
        have ir0 : (0 : Int) ≤ (rr : Int) := by omega
        by_cases hlr : (rr : Int) < bot
        · go_wp2_with fail
          go_loopw [17] (fun sv wz => ∃ ss : Nat, sv = .int .i64 ss ∧ lef' ≤ ss ∧ b + 1 < wz.heap.size ∧ Hid (Lp wz b L) ∧ Hid (wz.rowIs (b + 1) 99 4 (tnf H V C xo N xc)) ∧ Hid (wz.rowIs G 2 T (fun j => .int .i64 (lkU y x L.bd H V C S val rr ss j))) ∧ Hid (w.grownBy wz (some G))) (fun sv _ => (rig - intOf sv).toNat)
          case atStart => exact ⟨lef', rfl, Nat.le_refl _, lb1, K1, K2, K5, K4⟩
          case round =>
            clear K1 K2 K4 K5 lb1
            obtain ⟨ss, rfl, hss, lb1, K1, K2, K5, K4⟩ := hrel
            have is0 : (0 : Int) ≤ (ss : Int) := by omega
            by_cases hls : (ss : Int) < rig
            · as_aux_lemma =>
              obtain ⟨a, ea⟩ := Int.eq_ofNat_of_zero_le (show 0 ≤ y + rr by omega)
              obtain ⟨q, eq⟩ := Int.eq_ofNat_of_zero_le (show 0 ≤ x + ss by omega)
              have haH : a < H := by omega
              have hqV : q < V := by omega
              have hin : Inw y x H V rr ss := ⟨by omega, by omega⟩
              have hrR : rr < R := by omega
              have hsS : ss < S := by omega
              have hD : rr * S + ss < R * S := by have := Nat.mul_le_mul_right S (show rr + 1 ≤ R by omega); rw [Nat.succ_mul] at this; omega
              have hE : (rr * S + ss) * C + C ≤ T := by rw [← HT.out]; have := Nat.mul_le_mul_right C (show rr * S + ss + 1 ≤ R * S by omega); rw [Nat.succ_mul] at this; exact this
              have hA : a * V + q < H * V := by have := Nat.mul_le_mul_right V (show a + 1 ≤ H by omega); rw [Nat.succ_mul] at this; omega
              have hF : (a * V + q) * C + C ≤ N := by rw [← HN.out]; have := Nat.mul_le_mul_right C (show a * V + q + 1 ≤ H * V by omega); rw [Nat.succ_mul] at this; exact this
              have HST := hid1 (fun j => lkU_step (bd := L.bd) (val := val) (y := y) (x := x) hC.1 hsS hin ea eq j)
              have hkk : H * V ≤ 16777216 := Nat.le_trans (Nat.mul_le_mul hH hV) (by decide)
              obtain ⟨AV, eAV⟩ : ∃ z, a * V = z := ⟨_, rfl⟩
              obtain ⟨RS, eRS⟩ : ∃ z, rr * S = z := ⟨_, rfl⟩
              rw [eAV] at hA hF HST
              rw [eRS] at hD hE HST
              obtain ⟨B, eB⟩ : ∃ z, AV + q = z := ⟨_, rfl⟩
              obtain ⟨D, eD⟩ : ∃ z, RS + ss = z := ⟨_, rfl⟩
              rw [eB] at hA hF HST
              rw [eD] at hD hE HST
              obtain ⟨FM, eFM⟩ : ∃ z, B * C = z := ⟨_, rfl⟩
              obtain ⟨E, eE⟩ : ∃ z, D * C = z := ⟨_, rfl⟩
              rw [eFM] at hF HST
              rw [eE] at hE HST
              have p1 : IntKind.i64.wrap (y + (rr : Int)) = (a : Int) := by rw [IntKind.wrap_i64]; omega
              have p2 : IntKind.i64.wrap ((a : Int) * (V : Int)) = (AV : Int) := by rw [IntKind.wrap_i64, ← eAV]; push_cast; have := eAV; omega
              have p3 : IntKind.i64.wrap ((AV : Int) + x) = (AV : Int) + x := by rw [IntKind.wrap_i64]; omega
              have p4 : IntKind.i64.wrap ((AV : Int) + x + (ss : Int)) = (B : Int) := by rw [IntKind.wrap_i64]; omega
              have p5 : IntKind.i64.wrap ((B : Int) * (C : Int)) = (FM : Int) := by rw [IntKind.wrap_i64, ← eFM]; push_cast; have := eFM; omega
              obtain ⟨FE, eFE⟩ : ∃ z, FM + C = z := ⟨_, rfl⟩
              have p6 : IntKind.i64.wrap ((FM : Int) + (C : Int)) = (FE : Int) := by rw [IntKind.wrap_i64]; omega
              have hrs : R * S ≤ 225 := Nat.mul_le_mul hRb.2 hSb.2
              have hRSb : RS ≤ 1000 := by omega
              have s1 : IntKind.i64.wrap ((rr : Int) * (S : Int)) = (RS : Int) := by rw [IntKind.wrap_i64, ← eRS]; push_cast; have := eRS; omega
              have s2 : IntKind.i64.wrap ((RS : Int) + (ss : Int)) = (D : Int) := by rw [IntKind.wrap_i64]; omega
              have s3 : IntKind.i64.wrap ((D : Int) * (C : Int)) = (E : Int) := by rw [IntKind.wrap_i64, ← eE]; push_cast; have := eE; omega
              have hR6 : R64 wr xo N val := fun k hk => by
                obtain ⟨g, o, e1, c1⟩ := HV.out k hk
                exact ⟨g, o, e1, K4.out.cell c1 (fun e => HG.out g o e1 (by simpa using e))⟩
              obtain ⟨g, o, ex, -⟩ := hR6 0 (by omega)
              obtain ⟨W', hcp, hrw, hgr⟩ := copy_64 (w := wr.drew) (G := G) (T := T) (p := E) (L := T - E) (n := tc - E) (s := C) (c := xc - FM) (d := C) (a := ⟨g, o + FM, none⟩) (f := fun j => .int .i64 (lkU y x L.bd H V C S val rr ss j)) (h := fun k => .int .i64 (val (FM + k))) hE (show C = min C (T - E) by omega) K5.out.drew (fun k hk => by
                obtain ⟨g', o', e1, c1⟩ := hR6 (FM + k) (by omega)
                rw [ex] at e1
                cases e1
                rw [addP, Nat.add_assoc]
                exact c1) (fun k => rfl)
              have hrow2 : Hid (W'.rowIs G 2 T (fun j => .int .i64 (lkU y x L.bd H V C S val rr (ss + 1) j))) := hid1 (hrw.congr fun j _ => HST.out j)
              have hgr2 : Hid (w.grownBy W' (some G)) := hid1 (gr_step (gr_below K4.out (Below.drew (Below.refl _ _))) hgr (.inl rfl))
              have hz2 := hgr.size
              have hL2 : Hid (Lp W' b L) := hid1 ((K1.out.keep (Below.drew (Below.refl _ _))).of_block (hgr.block b (show b < wr.heap.size by omega) (fun e => by cases e; omega)))
              have hT2 : Hid (W'.rowIs (b + 1) 99 4 (tnf H V C xo N xc)) := hid1 (World.rowIs.of_block K2.out.drew (hgr.block (b + 1) (show b + 1 < wr.heap.size by omega) (fun e => by cases e; omega)))
              have r4 : wr.cell? ⟨b, 4, none⟩ = some (.int .i64 (S : Int)) := by rw [← HS.out]; exact K1.out.2.2.2.2.1
              obtain ⟨t0, t1, t2, t3⟩ := tn_cells K2.out
              rw [ex] at t3
              have nE : ¬ tc = E := by omega
              have nF : ¬ xc = FM := by omega
              have iE : (E : Int) ≤ (T : Int) := by omega
              have iE2 : (T : Int) ≤ (tc : Int) := by omega
              have iF : (FM : Int) ≤ (FE : Int) := by omega
              have iF2 : (FE : Int) ≤ (xc : Int) := by omega
              have eFC : FE - FM = C := by omega
              clear eAV eRS eB eD eFM eE eFE hrw hgr hR6 ex HST hin ea eq
              go_upto_region 16 with fail
              refine still_tailP 18 (by kernel_rfl) ?_
              simp only [List.take_succ_cons, List.take_zero, List.drop_succ_cons, List.drop_zero]
              repeat still_step
              refine wpStill_nil ?_
              go_wp2
              exact ⟨⟨ss + 1, by go_num, by omega, by simp at hz2; omega, hL2, hT2, hrow2, hgr2⟩, by simp [intOf]; omega⟩
            · have hE2 := hid1 (fun j => lkU_row (bd := L.bd) (val := val) (y := y) (x := x) (H := H) (V := V) (C := C) (S := S) (rr := rr) (ss := ss) hSb.1 (by omega) lef' (by omega) j)
              go_wp2_with fail
              exact ⟨⟨rr + 1, by go_num, by omega, lb1, K1, K2, hid1 (K5.out.congr fun j _ => by rw [hE2.out j]), K4⟩, by simp [intOf]; omega⟩
        · go_wp2_with fail
          refine bodyPost_end (v := .tuple #[]) (by simp [results, go_sem]) rfl ⟨rfl, K5.out.congr fun j hj => by rw [lkU_last (R := R) hC.1 hSb.1 (by omega) (by rw [HT.out]; exact hj)], K4.out⟩
end Go.Proofs.Ytkodihmjjiadnaa.Nn
/- PLAIN: slide. -/
namespace Go.Proofs.Ytkodihmjjiadnaa.Nn
open Go.RowKit

/-- The first block of four that a call makes, and the three behind it, are as they were; nothing outside memory has turned. -/
structure Fo (b : Nat) (w w' : World) : Prop where
  os : w'.os = w.os
  tape : w'.tape = w.tape
  output : w'.output = w.output
  size : w.heap.size ≤ w'.heap.size
  block : ∀ k, b ≤ k → k < b + 4 → w'.heap[k]? = w.heap[k]?
theorem sh_block {W X : World} {g o : Nat} {h v c : Int} (k : Sh W g o h v c) (e : X.heap[g]? = W.heap[g]?) : Sh X g o h v c :=
  ⟨(World.cell?_of_block (w := W) e).trans k.1, (World.cell?_of_block (w := W) e).trans k.2.1, (World.cell?_of_block (w := W) e).trans k.2.2⟩
/-- What is seen at the k-th place, row by row. -/
def plW (L : Ly) (H V C S OW : Nat) (val : Nat → Int) (k j : Nat) : Int := lkW ((k / OW : Nat) * L.sy - L.t) ((k % OW : Nat) * L.sx - L.l) L.bd H V C S val j
set_option maxHeartbeats 6400000 in
set_option maxRecDepth 100000 in
theorem pslide_any (L : Ly) (R S H V C T OH OW : Nat) (oc : Int) (hR : L.r = R) (hS : L.s = S) (hRb : 1 ≤ R ∧ R ≤ 15) (hSb : 1 ≤ S ∧ S ≤ 15) (hC : 1 ≤ C ∧ C ≤ 4096) (hH : H ≤ 4096) (hV : V ≤ 4096) (hn : H * V * C ≤ 16777216) (hT : R * S * C = T) (hOH : 1 ≤ OH ∧ OH ≤ 4096) (hOW : 1 ≤ OW ∧ OW ≤ 4096) (hsy : 0 ≤ L.sy ∧ L.sy ≤ 15) (hsx : 0 ≤ L.sx ∧ L.sx ≤ 15) (ht : 0 ≤ L.t ∧ L.t ≤ 15) (hl : 0 ≤ L.l ∧ L.l ≤ 15)
    (xo : Option Addr) (xc : Nat) (hxc : H * V * C ≤ xc) (val : Nat → Int) (F : Nat) (c1 c2 : Value) (hcf : ∀ (args : Array Value) (w : World), (callFunc F args).run Try.prog w = .ok (.enter F args) w) (Inv : Nat → World → Prop) (w : World) (hv : ∀ k W, Inv k W → R64 W xo (H * V * C) val)
    (hkp : ∀ k W X, Inv k W → w.heap.size + 4 ≤ W.heap.size → W.grownBy X (some (w.heap.size + 3)) → Inv k X) (hxl : ∀ g o, xo = some ⟨g, o, none⟩ → g < w.heap.size) (h0 : ∀ X, Below w.heap.size w X → Inv 0 X)
    (htell : ∀ k W, k < OH * OW → Inv k W → w.heap.size + 4 ≤ W.heap.size → W.rowIs (w.heap.size + 3) 2 T (fun j => .int .i64 (plW L H V C S OW val k j)) → Calls Try.prog F #[.slice (some ⟨w.heap.size + 3, 0, none⟩) T T, c1, c2] W fun e w' => e = .returned (.tuple #[]) ∧ Inv (k + 1) w' ∧ Fo w.heap.size W w') :
    Calls Try.prog 96 #[lyv L, tnv H V C xo (H * V * C) xc, shp OH OW oc, .func (.func F) #[] #[c1, c2]] w fun e w' => e = .returned (.tuple #[]) ∧ Inv (OH * OW) w' := by
  have HR := hid1 hR
  have HS := hid1 hS
  have HT := hid1 hT
  have HV := hid1 hv
  have HKP := hid1 hkp
  have HXL := hid1 hxl
  have H00 := hid1 h0
  have HTL := hid1 htell
  have hTb : T ≤ 1000000 := by
    rw [← hT]
    have h1 : R * S ≤ 225 := Nat.mul_le_mul hRb.2 hSb.2
    exact Nat.le_trans (Nat.mul_le_mul h1 hC.2) (by decide)
  have hrs : R * S ≤ 225 := Nat.mul_le_mul hRb.2 hSb.2
  obtain ⟨RS, eRS⟩ : ∃ z, R * S = z := ⟨_, rfl⟩
  have q1 : IntKind.i64.wrap ((R : Int) * (S : Int)) = (RS : Int) := by rw [IntKind.wrap_i64, ← eRS]; push_cast; have := eRS; omega
  have q2 : IntKind.i64.wrap ((RS : Int) * (C : Int)) = (T : Int) := by
    have e : (RS : Int) * (C : Int) = (T : Int) := by rw [← eRS, ← hT]; push_cast; rfl
    rw [IntKind.wrap_i64]; omega
  clear hT hv hkp hxl h0 htell eRS hR hS
  obtain ⟨b, hb0⟩ : ∃ b, w.heap.size = b := ⟨_, rfl⟩
  rw [hb0] at HTL HKP
  go_enter Try.func96, Try.ntmps96
  go_upto_region 1 with fail
  refine gen_world (fun X => Below w.heap.size w X ∧ Lp X b L ∧ X.rowIs (b + 1) 99 4 (tnf H V C xo (H * V * C) xc) ∧ Sh X (b + 2) 0 OH OW oc ∧ X.heap.size = b + 3) ⟨by repeat (first | (with_reducible exact Below.refl _ _) | (with_reducible refine bl_alloc ?_ _) | (with_reducible refine Below.drew ?_) | (with_reducible refine bl_drewN ?_ _) | (with_reducible refine bl_set ?_ (by omega) _) | (with_reducible refine bl_step ?_ (by assumption))), (lp_new' hb0 L _).keep (bl_alloc (bl_alloc (Below.refl _ _) _) _), by have := (tn_new (w.alloc (lyo L)) H V C xo (H * V * C) xc 99).alloc (sho OH OW oc); rw [show (w.alloc (lyo L)).heap.size = b + 1 by simp [hb0]] at this; exact this, by have := sh_new ((w.alloc (lyo L)).alloc (.cells #[.int .i64 H, .int .i64 V, .int .i64 C, .slice xo (H * V * C) xc] 99)) OH OW oc 25; rw [show ((w.alloc (lyo L)).alloc (.cells #[.int .i64 H, .int .i64 V, .int .i64 C, .slice xo (H * V * C) xc] 99)).heap.size = b + 2 by simp [hb0]] at this; exact this, by simp [hb0]⟩ ?_
  rintro X ⟨BX, LX, TX, SX, zX⟩
  obtain ⟨i0, hi, hz0, hz1, hz2⟩ := info_parts info_i64
  obtain ⟨Y, mk, BY, RY, zY⟩ : ∃ Y, (Instr.makeSlice 43 (.int .i64 (T : Int)) (.int .i64 (T : Int))).run Try.prog X = .ok (.slice (some ⟨b + 3, 0, none⟩) T T) Y ∧ Below X.heap.size X Y ∧ Y.rowIs (b + 3) 2 T (fun _ => .int .i64 0) ∧ Y.heap.size = b + 4 := by
    have := run_make X 43 2 i0 _ und_i64s hi hz0 .i64 .i64 (T : Int) (T : Int) (by omega) (by omega) (by rw [hz2]; omega) (by omega)
    rw [Int.toNat_natCast, hz1, zX] at this
    refine ⟨_, this, bl_alloc (Below.refl _ _) _, ?_, by simp [zX]⟩
    have r := World.rowIs_made X (.int .i64 0) (T * 1) 2
    rw [zX, Nat.mul_one] at r
    rw [Nat.mul_one]
    exact r
  have BB := bl_step BX BY
  have hL3 : X.cell? ⟨b, 3, none⟩ = some (.int .i64 (R : Int)) := by rw [← HR.out]; exact LX.2.2.2.1
  have hL4 : X.cell? ⟨b, 4, none⟩ = some (.int .i64 (S : Int)) := by rw [← HS.out]; exact LX.2.2.2.2.1
  obtain ⟨t0, t1, t2, t3⟩ := tn_cells TX
  have K1 := hid1 (LX.keep BY)
  have K2 := hid1 (World.rowIs.of_block TX (BY.block _ TX.lt))
  have K3 := hid1 (SX.keep BY)
  have K4 := hid1 RY
  have K5 := hid1 (H00.out Y BB)
  have s0 := K3.out.1
  clear LX TX SX BX RY BB
  obtain ⟨N, hN⟩ : ∃ N, H * V * C = N := ⟨_, rfl⟩
  rw [hN] at hn hxc K2 HV ⊢
  have HN := hid1 hN
  clear hN
  go_wp2_with fail
  clear mk hL3 hL4 t0 t1 t2 t3 s0
  go_loopw [25] (fun yv wr => ∃ yy : Nat, yy ≤ OH ∧ yv = .int .i64 yy ∧ b + 4 ≤ wr.heap.size ∧ Hid (Lp wr b L) ∧ Hid (wr.rowIs (b + 1) 99 4 (tnf H V C xo N xc)) ∧ Hid (Sh wr (b + 2) 0 OH OW oc) ∧ Hid (∃ f, wr.rowIs (b + 3) 2 T f) ∧ Hid (Inv (yy * OW) wr)) (fun yv _ => OH - (intOf yv).toNat)
  case atStart => exact ⟨0, Nat.zero_le _, rfl, by omega, K1, K2, K3, hid1 ⟨_, K4.out⟩, hid1 (by rw [Nat.zero_mul]; exact K5.out)⟩
  case round =>
    clear K1 K2 K3 K4 K5 zX zY BY
    obtain ⟨yy, hyy, rfl, lz, K1, K2, K3, K4, K5⟩ := hrel
    have iy0 : (0 : Int) ≤ (yy : Int) := by omega
    by_cases hly : yy < OH
    · have iy : (yy : Int) < (OH : Int) := by omega
      have s1 := K3.out.2.1
      go_wp2_with fail
      clear s1
      go_loopw [30] (fun xv wy => ∃ xx : Nat, xx ≤ OW ∧ xv = .int .i64 xx ∧ b + 4 ≤ wy.heap.size ∧ Hid (Lp wy b L) ∧ Hid (wy.rowIs (b + 1) 99 4 (tnf H V C xo N xc)) ∧ Hid (Sh wy (b + 2) 0 OH OW oc) ∧ Hid (∃ f, wy.rowIs (b + 3) 2 T f) ∧ Hid (Inv (yy * OW + xx) wy)) (fun xv _ => OW - (intOf xv).toNat)
      case atStart => exact ⟨0, Nat.zero_le _, rfl, lz, K1, K2, K3, K4, K5⟩
      case round =>
        clear K1 K2 K3 K4 K5 lz
        obtain ⟨xx, hxx, rfl, lz, K1, K2, K3, K4, K5⟩ := hrel
        have ix0 : (0 : Int) ≤ (xx : Int) := by omega
        by_cases hlx : xx < OW
        · as_aux_lemma =>
          have ix : (xx : Int) < (OW : Int) := by omega
          obtain ⟨f, RF⟩ := K4.out
          obtain ⟨c0, c1', c2', c3, c4, c5, c6, c7, c8, c9, c10, c11, c12, c13, c14⟩ := K1.out
          obtain ⟨t0, t1, t2, t3⟩ := tn_cells K2.out
          have m1 : (0 : Int) ≤ (yy : Int) * L.sy ∧ (yy : Int) * L.sy ≤ 61440 := ⟨Int.mul_nonneg (by omega) hsy.1, Int.le_trans (Int.mul_le_mul (show (yy : Int) ≤ 4096 by omega) hsy.2 hsy.1 (by decide)) (by decide)⟩
          have m2 : (0 : Int) ≤ (xx : Int) * L.sx ∧ (xx : Int) * L.sx ≤ 61440 := ⟨Int.mul_nonneg (by omega) hsx.1, Int.le_trans (Int.mul_le_mul (show (xx : Int) ≤ 4096 by omega) hsx.2 hsx.1 (by decide)) (by decide)⟩
          have hkk : yy * OW + xx < OH * OW := by have := Nat.mul_le_mul_right OW (show yy + 1 ≤ OH by omega); rw [Nat.succ_mul] at this; omega
          have hd1 : (yy * OW + xx) / OW = yy := by rw [Nat.mul_comm, Nat.mul_add_div (by omega), Nat.div_eq_of_lt hlx]; omega
          have hd2 : (yy * OW + xx) % OW = xx := by rw [Nat.mul_comm, Nat.mul_add_mod, Nat.mod_eq_of_lt hlx]
          have HPW : Hid (∀ j, plW L H V C S OW val (yy * OW + xx) j = lkW ((yy : Int) * L.sy - L.t) ((xx : Int) * L.sx - L.l) L.bd H V C S val j) := hid1 (fun j => by unfold plW; rw [hd1, hd2])
          have CL := hid1 (look_any L R S H V C T HR.out HS.out hRb hSb hC hH hV (by rw [HN.out]; exact hn) HT.out T ((yy : Int) * L.sy - L.t) ((xx : Int) * L.sx - L.l) (by omega) (by omega) xo xc (by rw [HN.out]; exact hxc) (Nat.le_refl _) val (b + 3) f wr RF (by rw [HN.out]; exact HV.out _ _ K5.out) (fun g o e => by have := HXL.out g o e; omega))
          rw [HN.out] at CL
          clear hd1 hd2 RF
          obtain ⟨a1, ea1⟩ : ∃ z, (yy : Int) * L.sy = z := ⟨_, rfl⟩
          obtain ⟨a2, ea2⟩ : ∃ z, (xx : Int) * L.sx = z := ⟨_, rfl⟩
          rw [ea1] at m1 CL HPW
          rw [ea2] at m2 CL HPW
          have w1 : IntKind.i64.wrap ((yy : Int) * L.sy) = a1 := by rw [IntKind.wrap_i64, ea1]; omega
          have w2 : IntKind.i64.wrap ((xx : Int) * L.sx) = a2 := by rw [IntKind.wrap_i64, ea2]; omega
          have w3 : IntKind.i64.wrap (a1 - L.t) = a1 - L.t := by rw [IntKind.wrap_i64]; omega
          have w4 : IntKind.i64.wrap (a2 - L.l) = a2 - L.l := by rw [IntKind.wrap_i64]; omega
          clear ea1 ea2
          go_wp2_with fail
          refine CL.out.mono ?_
          rintro e z1 ⟨rfl, R1, g1⟩
          have J5 := hid1 (HKP.out _ _ _ K5.out lz g1)
          have hz1' := g1.size
          have J1 := hid1 (K1.out.of_block (g1.block b (by omega) (fun e => absurd (Option.some.inj e) (by omega))))
          have J2 := hid1 (World.rowIs.of_block K2.out (g1.block (b + 1) (by omega) (fun e => absurd (Option.some.inj e) (by omega))))
          have J3 := hid1 (sh_block K3.out (g1.block (b + 2) (by omega) (fun e => absurd (Option.some.inj e) (by omega))))
          have J4 := hid1 (World.rowIs.congr R1 fun j _ => by rw [← HPW.out j])
          clear R1 g1 CL c0 c1' c2' c3 c4 c5 c6 c7 c8 c9 c10 c11 c12 c13 c14 t0 t1 t2 t3
          go_wp2_with fail
          refine (HTL.out _ z1 hkk J5.out (by omega) J4.out).mono ?_
          rintro e z2 ⟨rfl, I2, F2⟩
          have hz2' := F2.size
          have E1 := hid1 (J1.out.of_block (F2.block b (by omega) (by omega)))
          have E2 := hid1 (World.rowIs.of_block J2.out (F2.block (b + 1) (by omega) (by omega)))
          have E3 := hid1 (sh_block J3.out (F2.block (b + 2) (by omega) (by omega)))
          have E4 : Hid (∃ f, z2.rowIs (b + 3) 2 T f) := hid1 ⟨_, World.rowIs.of_block J4.out (F2.block (b + 3) (by omega) (by omega))⟩
          have E5 := hid1 I2
          clear I2 F2
          go_wp2_with fail
          exact ⟨⟨xx + 1, by omega, by go_num, by omega, E1, E2, E3, E4, E5⟩, by simp [intOf]; omega⟩
        · have hxe : OW = xx := by omega
          go_wp2_with fail
          exact ⟨⟨yy + 1, by omega, by go_num, lz, K1, K2, K3, K4, hid1 (by rw [Nat.succ_mul]; rw [← hxe] at K5; exact K5.out)⟩, by simp [intOf]; omega⟩
    · have hye : yy = OH := by omega
      go_wp2_with fail
      refine bodyPost_end (v := .tuple #[]) (by simp [results, go_sem]) rfl ⟨rfl, by rw [hye] at K5; exact K5.out⟩
end Go.Proofs.Ytkodihmjjiadnaa.Nn
/- PLAIN: the closure of convolve. -/
namespace Go.Proofs.Ytkodihmjjiadnaa.Nn
open Go.RowKit

theorem row_ownP {W : World} {c t n base e s m : Nat} {f : Nat → Value} {v : Value} {xs : List Value} (h : W.rowIs c t n f) (h2 : W.ownsRow base e s v m xs) (hne : t ≠ e) : v.ownBlock ≠ some c := fun he => by
  rcases h2.2 with ⟨e', _⟩ | ⟨g, c', cu, e', _, hg, _⟩
  · subst e'; cases he
  · subst e'
    have : g = c := by simpa [Value.ownBlock] using he
    subst this
    obtain ⟨cur, hb, _⟩ := h
    rw [hb] at hg
    simp at hg
    exact hne hg.2
theorem own_is64 {W : World} {b T s n : Nat} {v : Value} {xs : List Value} (h : W.ownsRow b T s v n xs) : ∃ a c, v = .slice a n c := by
  rcases h.2 with ⟨e, hn⟩ | ⟨g, c, _, e, _⟩
  · exact ⟨none, 0, by rw [e, hn]⟩
  · exact ⟨_, _, e⟩
theorem own_setne {W : World} {base e size n c j : Nat} {v u : Value} {xs : List Value} (h : W.ownsRow base e size v n xs) (hc : v.ownBlock ≠ some c) : (W.setCell ⟨c, j, none⟩ u).ownsRow base e size v n xs :=
  h.kept (row := some c) ⟨rfl, rfl, rfl, by simp, fun k _ hne => Below.heap_setCell _ _ _ _ (fun e => hne (by rw [e]))⟩ (.inr hc)
/-- All outputs at the first k places. -/
def cvL (L : Ly) (T K : Nat) (x : Nat → Nat → Int) : Nat → List Int
  | 0 => []
  | k + 1 => cvL L T K x k ++ ouL L T (x k) K
/-- What stands behind k places: values in the cell cv, in memory that is none of slide's blocks. -/
def Cvi (w0 : World) (b0 bs cv T K : Nat) (L : Ly) (x : Nat → Nat → Int) (k : Nat) (W : World) : Prop :=
  Below w0.heap.size w0 W ∧ Lp W b0 L ∧ ∃ u, W.rowIs cv 43 1 (fun _ => u) ∧ W.ownsRow w0.heap.size 2 1 u (k * K) (i64L (cvL L T K x k)) ∧ ∀ q, u.ownBlock = some q → (q < bs ∨ bs + 4 ≤ q) ∧ q ≠ b0
theorem Cvi.kp {w0 W X : World} {b0 bs cv T K k : Nat} {L : Ly} {x : Nat → Nat → Int} (h : Cvi w0 b0 bs cv T K L x k W) (h0 : w0.heap.size ≤ bs) (hb : b0 < bs) (hc : cv < bs) (hg : W.grownBy X (some (bs + 3))) : Cvi w0 b0 bs cv T K L x k X := by
  obtain ⟨h1, h2, u, h3, h4, h5⟩ := h
  refine ⟨gr_bel hg h1 (fun k e => by cases e; omega), h2.of_block (hg.block b0 (lt_of_cell h2.1) (fun e => absurd (Option.some.inj e) (by omega))), u, World.rowIs.of_block h3 (hg.block cv h3.lt (fun e => absurd (Option.some.inj e) (by omega))), h4.kept hg ?_, h5⟩
  cases hu : u.ownBlock with
  | none => exact .inl rfl
  | some q => exact .inr (fun e => by cases e; have := (h5 _ hu).1; omega)
set_option maxHeartbeats 3200000 in
set_option maxRecDepth 100000 in
theorem conv1_any (L : Ly) (K T : Nat) (hK : L.k = K) (h1 : 1 ≤ K) (h2 : K ≤ 4096) (hw : L.mw = K * T) (hT1 : 1 ≤ T) (hm : K * T ≤ 16777216) (hcw : L.mw ≤ L.cw) (hws : ∀ j, j < L.mw → -1 ≤ L.ws j ∧ L.ws j ≤ 1) (w0 : World) (hL : Lst w0 L) (b0 bs cv : Nat) (hbb : b0 < bs) (hcb : cv < bs) (hc0 : w0.heap.size ≤ cv) (hbc : b0 ≠ cv) (x : Nat → Nat → Int) (k : Nat) (hx : ∀ j, j < T → -128 ≤ x k j ∧ x k j ≤ 128) (hbe : ∀ o, o < K → BeOk L T (x k) o) (hkK : k * K ≤ 100000000) (W : World) (hI : Cvi w0 b0 bs cv T K L x k W) (hz : bs + 4 ≤ W.heap.size) (hs : W.rowIs (bs + 3) 2 T (fun j => .int .i64 (x k j))) :
    Calls Try.prog 97 #[.slice (some ⟨bs + 3, 0, none⟩) T T, .pointer (some ⟨cv, 0, none⟩), .pointer (some ⟨b0, 0, none⟩)] W fun e w' => e = .returned (.tuple #[]) ∧ Cvi w0 b0 bs cv T K L x (k + 1) w' ∧ Fo bs W w' := by
  obtain ⟨i1, i2, u, i3, i4, i5⟩ := hI
  have hub : ∀ q, u.ownBlock = some q → w0.heap.size ≤ q ∧ q < W.heap.size := i4.lt
  have hucv := row_ownP i3 i4 (by decide)
  have CW := hid1 (pweigh_any L K T hK h1 h2 hw hT1 hm hcw hws (some ⟨bs + 3, 0, none⟩) T (x k) hx hbe u (k * K) w0.heap.size (cvL L T K x k) hkK W i4 i1.size (fun X hX => ⟨hL.keep (gr_bel hX i1 (fun q hq => (hub q hq).1)), fun j hj => ⟨bs + 3, 0, rfl, by
    rw [Nat.zero_add]
    exact (World.cell?_of_block (w := W) (hX.block (bs + 3) (by omega) (fun e => by have := (i5 (bs + 3) e.symm).1; omega))).trans (hs.cell hj)⟩⟩))
  have HI := hid1 (And.intro i1 (And.intro i2 (And.intro i3 (And.intro i4 i5))))
  have HUB := hid1 hub
  have HUC := hid1 hucv
  have c0 : W.cell? ⟨cv, 0, none⟩ = some u := i3.cell (i := 0) (by decide)
  obtain ⟨l0, l1, l2, l3, l4, l5, l6, l7, l8, l9, l10, l11, l12, l13, l14⟩ := i2
  obtain ⟨ua, uc, eu⟩ := own_is64 i4
  clear hK hw hws hx hbe hs i1 i3 i4 i5 hub hucv hL
  subst eu
  go_enter Try.func97, Try.ntmps97
  go_wp2_with fail
  refine CW.out.mono ?_
  rintro e y ⟨v', rfl, ov, gr, hat⟩
  obtain ⟨i1, i2, i3, i4, i5⟩ := HI.out
  have rcv : y.rowIs cv 43 1 (fun _ => .slice ua (k * K) uc) := World.rowIs.of_block i3 (gr.block cv i3.lt (fun e => HUC.out e.symm))
  have hvcv := row_ownP rcv ov (by decide)
  obtain ⟨va, vc, ev⟩ := own_is64 ov
  subst ev
  have m0 : y.cell? ⟨cv, 0, none⟩ = some (.slice ua (k * K) uc) := rcv.cell (i := 0) (by decide)
  have fz := rcv.frozen 0
  have zy := gr.size
  have lcv := rcv.lt
  have E1 : Hid (Cvi w0 b0 bs cv T K L x (k + 1) (y.setCell ⟨cv, 0, none⟩ (.slice va (k * K + K) vc))) := hid1 (by
    refine ⟨bl_set (gr_bel gr i1 (fun q hq => (HUB.out q hq).1)) hc0 _, (i2.of_block (gr.block b0 (by omega) (fun e => (i5 b0 e.symm).2 rfl))).of_block (Below.heap_setCell _ _ _ _ (by show b0 ≠ cv; exact hbc)), .slice va (k * K + K) vc, (rcv.set 0 (.slice va (k * K + K) vc)).congr fun i hi => ?_, ?_, ?_⟩
    · obtain rfl : i = 0 := by omega
      rfl
    · have := own_setne (c := cv) (j := 0) (u := .slice va (k * K + K) vc) ov hvcv
      rw [Nat.succ_mul]
      exact this
    · intro q hq
      rcases hat with h | ⟨r, h, hr⟩
      · exact i5 q (by rw [← h]; exact hq)
      · rw [h] at hq; cases hq; omega)
  have E2 : Hid (Fo bs W (y.setCell ⟨cv, 0, none⟩ (.slice va (k * K + K) vc))) := hid1 ⟨gr.os, gr.tape, gr.output, by simpa using gr.size, fun q h1 h2 => (Below.heap_setCell _ _ _ _ (by show q ≠ cv; omega)).trans (gr.block q (by omega) (fun e => by have := (i5 q e.symm).1; omega))⟩
  clear i1 i2 i3 i4 i5 gr hat ov rcv HI HUB HUC CW l0 l1 l2 l3 l4 l5 l6 l7 l8 l9 l10 l11 l12 l13 l14
  go_wp2_with fail
  refine bodyPost_end (v := .tuple #[]) (by simp [results, go_sem]) rfl ⟨rfl, E1.out, E2.out⟩
end Go.Proofs.Ytkodihmjjiadnaa.Nn
/- PLAIN: the work of an LConv. -/
namespace Go.Proofs.Ytkodihmjjiadnaa.Nn
open Go.RowKit

set_option maxHeartbeats 3200000 in
set_option maxRecDepth 100000 in
theorem convolve_any (L : Ly) (R S H V C T OH OW K : Nat) (hR : L.r = R) (hS : L.s = S) (hRb : 1 ≤ R ∧ R ≤ 15) (hSb : 1 ≤ S ∧ S ≤ 15) (hC : 1 ≤ C ∧ C ≤ 4096) (hH : H ≤ 4096) (hV : V ≤ 4096) (hn : H * V * C ≤ 16777216) (hT : R * S * C = T) (hOH : 1 ≤ OH ∧ OH ≤ 4096) (hOW : 1 ≤ OW ∧ OW ≤ 4096) (hsy : 0 ≤ L.sy ∧ L.sy ≤ 15) (hsx : 0 ≤ L.sx ∧ L.sx ≤ 15) (ht : 0 ≤ L.t ∧ L.t ≤ 15) (hl : 0 ≤ L.l ∧ L.l ≤ 15)
    (hK : L.k = K) (h1 : 1 ≤ K) (h2 : K ≤ 4096) (hw : L.mw = K * T) (hm : K * T ≤ 16777216) (hcw : L.mw ≤ L.cw) (hws : ∀ j, j < L.mw → -1 ≤ L.ws j ∧ L.ws j ≤ 1) (xo : Option Addr) (xc : Nat) (hxc : H * V * C ≤ xc) (val : Nat → Int)
    (hx : ∀ k j, k < OH * OW → j < T → -128 ≤ plW L H V C S OW val k j ∧ plW L H V C S OW val k j ≤ 128) (hbe : ∀ k o, k < OH * OW → o < K → BeOk L T (plW L H V C S OW val k) o) (hkK : OH * OW * K ≤ 16777216) (oc : Int) (w : World) (hL : Lst w L) (hv : R64 w xo (H * V * C) val) (hxl : ∀ g o, xo = some ⟨g, o, none⟩ → g < w.heap.size) :
    Calls Try.prog 81 #[lyv L, tnv H V C xo (H * V * C) xc, shp OH OW oc] w fun e w' => ∃ v', e = .returned v' ∧ w'.ownsRow w.heap.size 2 1 v' (OH * OW * K) (i64L (cvL L T K (plW L H V C S OW val) (OH * OW))) ∧ Below w.heap.size w w' := by
  have hT1 : 1 ≤ T := by rw [← hT]; exact Nat.mul_pos (Nat.mul_pos hRb.1 hSb.1) hC.1
  obtain ⟨n, hen⟩ := Int.eq_ofNat_of_zero_le (el_bd OH OW oc).1
  have CR := hid1 (fun W => room_any OH OW oc n hen W)
  have CS := hid1 (fun (bs cv : Nat) (W : World) (hb : Below w.heap.size w W) (hz : W.heap.size = bs) (hbb : w.heap.size < bs) (hcb : cv < bs) (hc0 : w.heap.size ≤ cv) (hbc : w.heap.size ≠ cv) (hI : ∀ X, Below W.heap.size W X → Cvi w w.heap.size bs cv T K L (plW L H V C S OW val) 0 X) =>
    pslide_any L R S H V C T OH OW oc hR hS hRb hSb hC hH hV hn hT hOH hOW hsy hsx ht hl xo xc hxc val 97 (.pointer (some ⟨cv, 0, none⟩)) (.pointer (some ⟨w.heap.size, 0, none⟩)) (fun _ _ => rfl) (Cvi w w.heap.size bs cv T K L (plW L H V C S OW val)) W (fun k Z hZ => hv.keep' hZ.1)
      (fun k Z X hZ _ hg => by rw [hz] at hg; exact hZ.kp (by omega) hbb hcb hg) (fun g o e => Nat.lt_of_lt_of_le (hxl g o e) hb.size) hI
      (fun k Z hk hZ hzz hs => by
        rw [hz] at hs hzz ⊢
        have hkk : k * K ≤ OH * OW * K := Nat.mul_le_mul_right K (by omega)
        exact conv1_any L K T hK h1 h2 hw hT1 hm hcw hws w hL w.heap.size bs cv hbb hcb hc0 hbc (plW L H V C S OW val) k (fun j hj => hx k j hk hj) (fun o ho => hbe k o hk ho) (by omega) Z hZ hzz hs))
  clear hR hS hRb hSb hC hH hV hT hOH hOW hsy hsx ht hl hK h1 h2 hw hm hcw hws hxc hx hbe hL hv hxl hen hn
  obtain ⟨N, hN⟩ : ∃ N, H * V * C = N := ⟨_, rfl⟩
  rw [hN] at CS ⊢
  clear hN
  obtain ⟨b, hb0⟩ : ∃ b, w.heap.size = b := ⟨_, rfl⟩
  go_enter Try.func81, Try.ntmps81
  go_upto_region 1 with fail
  refine gen_world (fun X => Below w.heap.size w X ∧ Lp X b L ∧ X.rowIs (b + 1) 99 4 (tnf H V C xo N xc) ∧ Sh X (b + 2) 0 OH OW oc ∧ X.heap.size = b + 3) ⟨by repeat (first | (with_reducible exact Below.refl _ _) | (with_reducible refine bl_alloc ?_ _) | (with_reducible refine Below.drew ?_) | (with_reducible refine bl_drewN ?_ _) | (with_reducible refine bl_set ?_ (by omega) _) | (with_reducible refine bl_step ?_ (by assumption))), (lp_new' hb0 L _).keep (bl_alloc (bl_alloc (Below.refl _ _) _) _), by have := (tn_new (w.alloc (lyo L)) H V C xo N xc 99).alloc (sho OH OW oc); rw [show (w.alloc (lyo L)).heap.size = b + 1 by simp [hb0]] at this; exact this, by have := sh_new ((w.alloc (lyo L)).alloc (.cells #[.int .i64 H, .int .i64 V, .int .i64 C, .slice xo N xc] 99)) OH OW oc 25; rw [show ((w.alloc (lyo L)).alloc (.cells #[.int .i64 H, .int .i64 V, .int .i64 C, .slice xo N xc] 99)).heap.size = b + 2 by simp [hb0]] at this; exact this, by simp [hb0]⟩ ?_
  rintro X ⟨BX, LX, TX, SX, zX⟩
  have s0 := SX.1
  have s1 := SX.2.1
  have s2 := SX.2.2
  have HLX := hid1 LX
  have HTX := hid1 TX
  have HSX := hid1 SX
  clear LX TX
  go_wp2_with fail
  refine (CR.out X).mono ?_
  rintro e y ⟨g, rfl, ow, hb⟩
  have hgl := (ow.lt g rfl)
  obtain ⟨cv, hcv⟩ : ∃ c, y.heap.size = c := ⟨_, rfl⟩
  have hycv : b + 3 ≤ cv := by have := hb.size; omega
  go_upto_region 2 with fail
  refine gen_world (fun Z => Below w.heap.size w Z ∧ Lp Z b L ∧ Z.rowIs (b + 1) 99 4 (tnf H V C xo N xc) ∧ Sh Z (b + 2) 0 OH OW oc ∧ Z.rowIs cv 43 1 (fun _ => .slice (some ⟨g, 0, none⟩) 0 n) ∧ Z.ownsRow w.heap.size 2 1 (.slice (some ⟨g, 0, none⟩) 0 n) 0 [] ∧ Z.heap.size = cv + 1 ∧ g < cv ∧ b + 3 ≤ g) ⟨bl_alloc (bl_step BX hb) _, HLX.out.keep (bl_step hb (bl_alloc (Below.refl _ _) _)), World.rowIs.of_block HTX.out ((bl_step hb (bl_alloc (Below.refl _ _) _)).block _ (World.rowIs.lt HTX.out)), HSX.out.keep (bl_step hb (bl_alloc (Below.refl _ _) _)), by rw [← hcv]; exact World.rowIs_alloc y #[.slice (some ⟨g, 0, none⟩) 0 n] 43 _ (fun i hi => by simp at hi; subst hi; rfl), (ow.mono BX.size).alloc _, by simp [hcv], by omega, by omega⟩ ?_
  clear BX HLX HTX HSX SX s0 s1 s2 ow hb hgl hcv hycv zX
  rintro Z ⟨BZ, LZ, TZ, SZ, RZ, OZ, zZ, hgc, hgb⟩
  rw [hb0] at CS
  have C1 := CS.out (cv + 1) cv Z (by rw [← hb0]; exact BZ) zZ (by omega) (by omega) (by omega) (by omega) (fun X' hX' => ⟨bl_step BZ hX', LZ.keep hX', .slice (some ⟨g, 0, none⟩) 0 n, World.rowIs.of_block RZ (hX'.block _ RZ.lt), by rw [Nat.zero_mul]; exact own_bl OZ hX', fun q hq => by cases hq; exact ⟨.inl (show g < cv + 1 by omega), show g ≠ b by omega⟩⟩)
  obtain ⟨l0, l1, l2, l3, l4, l5, l6, l7, l8, l9, l10, l11, l12, l13, l14⟩ := LZ
  obtain ⟨t0, t1, t2, t3⟩ := tn_cells TZ
  obtain ⟨s0, s1, s2⟩ := SZ
  clear TZ RZ OZ CS CR BZ
  go_wp2_with fail
  refine C1.mono ?_
  rintro e z ⟨rfl, i1, i2, u, i3, i4, i5⟩
  have c0 : z.cell? ⟨cv, 0, none⟩ = some u := i3.cell (i := 0) (by decide)
  have HI1 := hid1 i1
  have HI4 := hid1 i4
  obtain ⟨ua, uc, eu⟩ := own_is64 i4
  subst eu
  clear i1 i2 i3 i4 i5 C1 l0 l1 l2 l3 l4 l5 l6 l7 l8 l9 l10 l11 l12 l13 l14 t0 t1 t2 t3 s0 s1 s2
  go_wp2_with fail
  go_ret
  exact ⟨_, rfl, HI4.out, HI1.out⟩
end Go.Proofs.Ytkodihmjjiadnaa.Nn
/- PLAIN: the closure of pool. -/
namespace Go.Proofs.Ytkodihmjjiadnaa.Nn
open Go.RowKit

/-- The greatest of each channel. -/
def pvC (x : Nat → Int) (C P c : Nat) : List Int := (List.range c).map fun q => hiV x q C P
theorem pvC_succ (x : Nat → Int) (C P c : Nat) : pvC x C P (c + 1) = pvC x C P c ++ [hiV x c C P] := by unfold pvC; rw [List.range_succ, List.map_append]; rfl
def pvL (x : Nat → Nat → Int) (C P : Nat) : Nat → List Int
  | 0 => []
  | k + 1 => pvL x C P k ++ pvC (x k) C P C
def Pvi (w0 : World) (b2 bs cv : Nat) (oh ow : Int) (C P : Nat) (x : Nat → Nat → Int) (k : Nat) (W : World) : Prop :=
  Below w0.heap.size w0 W ∧ Sh W b2 0 oh ow C ∧ ∃ u, W.rowIs cv 43 1 (fun _ => u) ∧ W.ownsRow w0.heap.size 2 1 u (k * C) (i64L (pvL x C P k)) ∧ ∀ q, u.ownBlock = some q → (q < bs ∨ bs + 4 ≤ q) ∧ q ≠ b2
theorem Pvi.kp {w0 W X : World} {b2 bs cv C P k : Nat} {oh ow : Int} {x : Nat → Nat → Int} (h : Pvi w0 b2 bs cv oh ow C P x k W) (h0 : w0.heap.size ≤ bs) (hb : b2 < bs) (hc : cv < bs) (hg : W.grownBy X (some (bs + 3))) : Pvi w0 b2 bs cv oh ow C P x k X := by
  obtain ⟨h1, h2, u, h3, h4, h5⟩ := h
  refine ⟨gr_bel hg h1 (fun k e => by cases e; omega), sh_block h2 (hg.block b2 (lt_of_cell h2.1) (fun e => absurd (Option.some.inj e) (by omega))), u, World.rowIs.of_block h3 (hg.block cv h3.lt (fun e => absurd (Option.some.inj e) (by omega))), h4.kept hg ?_, h5⟩
  cases hu : u.ownBlock with
  | none => exact .inl rfl
  | some q => exact .inr (fun e => by cases e; have := (h5 _ hu).1; omega)
set_option maxHeartbeats 3200000 in
set_option maxRecDepth 100000 in
theorem pool1_any (C P T : Nat) (hC : 1 ≤ C ∧ C ≤ 4096) (hT : T = (P + 1) * C) (hTb : T ≤ 16777216) (w0 : World) (b2 bs cv : Nat) (hcb : cv < bs) (hc0 : w0.heap.size ≤ cv) (hbc : b2 ≠ cv) (oh ow : Int) (x : Nat → Nat → Int) (k : Nat) (hkK : k * C ≤ 100000000) (W : World) (hI : Pvi w0 b2 bs cv oh ow C P x k W) (hz : bs + 4 ≤ W.heap.size) (hs : W.rowIs (bs + 3) 2 T (fun j => .int .i64 (x k j))) :
    Calls Try.prog 99 #[.slice (some ⟨bs + 3, 0, none⟩) T T, .pointer (some ⟨b2, 0, none⟩), .pointer (some ⟨cv, 0, none⟩)] W fun e w' => e = .returned (.tuple #[]) ∧ Pvi w0 b2 bs cv oh ow C P x (k + 1) w' ∧ Fo bs W w' := by
  obtain ⟨i1, i2, u, i3, i4, i5⟩ := hI
  have HT := hid1 hT
  have HS := hid1 hs
  have K1 := hid1 i1
  have K2 := hid1 i2
  have K3 := hid1 i3
  have K4 := hid1 i4
  have K5 := hid1 i5
  have s2 := i2.2.2
  obtain ⟨ua, uc, eu⟩ := own_is64 i4
  subst eu
  clear i1 i2 i3 i4 i5 hT hs
  go_enter Try.func99, Try.ntmps99
  go_wp2_with fail
  go_loopw [7] (fun v7 wr => ∃ (c : Nat) (ua : Option Addr) (uc : Nat), c ≤ C ∧ v7 = .int .i64 c ∧ Hid (Below w0.heap.size w0 wr) ∧ Hid (Sh wr b2 0 oh ow C) ∧ Hid (wr.rowIs cv 43 1 (fun _ => .slice ua (k * C + c) uc)) ∧ Hid (wr.ownsRow w0.heap.size 2 1 (.slice ua (k * C + c) uc) (k * C + c) (i64L (pvL x C P k ++ pvC (x k) C P c))) ∧ Hid (∀ q, (Value.slice ua (k * C + c) uc).ownBlock = some q → (q < bs ∨ bs + 4 ≤ q) ∧ q ≠ b2) ∧ Hid (Fo bs W wr)) (fun v7 _ => C - (intOf v7).toNat)
  case atStart => exact ⟨0, ua, uc, Nat.zero_le _, rfl, K1, K2, K3, hid1 (by rw [Nat.add_zero, show pvC (x k) C P 0 = [] from rfl, List.append_nil]; exact K4.out), K5, hid1 ⟨rfl, rfl, rfl, Nat.le_refl _, fun _ _ _ => rfl⟩⟩
  case round =>
    clear K1 K2 K3 K4 K5 s2
    obtain ⟨c, ua, uc, hc, rfl, K1, K2, K3, K4, K5, K6⟩ := hrel
    have ic0 : (0 : Int) ≤ (c : Int) := by omega
    by_cases hlt : c < C
    · as_aux_lemma =>
      have ic : (c : Int) < (C : Int) := by omega
      have s2 := K2.out.2.2
      have c0 : wr.cell? ⟨cv, 0, none⟩ = some (.slice ua (k * C + c) uc) := K3.out.cell (i := 0) (by decide)
      have zF := K6.out.size
      have hR : R64 wr (some ⟨bs + 3, 0, none⟩) T (x k) := fun j hj => ⟨bs + 3, 0, rfl, by
        rw [Nat.zero_add]
        exact (World.cell?_of_block (w := W) (K6.out.block (bs + 3) (by omega) (by omega))).trans (HS.out.cell hj)⟩
      have CH := hid1 (highest_any (some ⟨bs + 3, 0, none⟩) T T c C P (x k) wr.drew hTb (by omega) hlt HT.out hR)
      have HSU := hid1 (pvC_succ (x k) C P c)
      obtain ⟨hv, ehv⟩ : ∃ z, hiV (x k) c C P = z := ⟨_, rfl⟩
      rw [ehv] at CH HSU
      have hcvn := row_ownP K3.out K4.out (by decide)
      have HCV := hid1 hcvn
      have lcv := K3.out.lt
      have lb2 := lt_of_cell K2.out.1
      have HUB := hid1 (K4.out.lt)
      have zB := K1.out.size
      obtain ⟨n, en⟩ : ∃ n, k * C + c = n := ⟨_, rfl⟩
      have hnb : n ≤ 1000000000 := by omega
      rw [en] at c0 K3 K4 K5 HCV HUB
      clear ehv hR hcvn
      go_upto_region 3 with fail
      go_region_law (first
        | (refine step_appP rfl (.tmp 10) (.tmp 16) rfl w0.heap.size (.slice ua n uc) (pvL x C P k ++ pvC (x k) C P c) n (by go_simp) (own_bl K4.out (by repeat (first | (with_reducible exact Below.refl _ _) | (with_reducible refine Below.drew ?_) | (with_reducible refine bl_alloc ?_ _)))) wr.heap.size hv 1 (by go_simp) (by simp [go_sem]) hnb (by simp; omega) ?_; intro v3 y3 own3 gr3 at3; obtain ⟨a3, c3, rfl⟩ := own_is64 own3; have rcv := World.rowIs.of_block K3.out ((gr3.block cv (by simp; omega) (fun e => HCV.out e.symm)).trans ((show Below wr.heap.size wr _ from (by repeat (first | (with_reducible exact Below.refl _ _) | (with_reducible refine Below.drew ?_) | (with_reducible refine bl_alloc ?_ _)))).block cv lcv)); have m0 : y3.cell? ⟨cv, 0, none⟩ = some (.slice ua n uc) := rcv.cell (i := 0) (by decide); have fz := rcv.frozen 0; have RCV := hid1 rcv; have O3 := hid1 own3; have BW := hid1 (gr_bel gr3 (show Below w0.heap.size w0 _ from bl_step K1.out (by repeat (first | (with_reducible exact Below.refl _ _) | (with_reducible refine Below.drew ?_) | (with_reducible refine bl_alloc ?_ _)))) (fun q hq => (HUB.out q hq).1)); have GB := hid1 (show ∀ q, q < wr.heap.size → (Value.slice ua n uc).ownBlock ≠ some q → y3.heap[q]? = wr.heap[q]? from fun q hq hne => (gr3.block q (by simp; omega) (fun e => hne e.symm)).trans ((show Below wr.heap.size wr _ from (by repeat (first | (with_reducible exact Below.refl _ _) | (with_reducible refine Below.drew ?_) | (with_reducible refine bl_alloc ?_ _)))).block q hq)); have TO := hid1 (show y3.os = wr.os ∧ y3.tape = wr.tape ∧ y3.output = wr.output from ⟨gr3.os, gr3.tape, gr3.output⟩); have z3 := gr3.size; have A3 := hid1 at3; clear own3 gr3 at3 rcv)
        | (go_simp; go_at_call 100; refine CH.out.mono ?_; rintro e y0 ⟨rfl, rfl⟩))
      all_goals
        have z3' : wr.heap.size ≤ y3.heap.size := by simp at z3; omega
        have hvcv := row_ownP RCV.out O3.out (by decide)
        have e1 : k * C + (c + 1) = n + 1 := by omega
        have E1 : Hid (Below w0.heap.size w0 (y3.setCell ⟨cv, 0, none⟩ (.slice a3 (n + 1) c3))) := hid1 (bl_set BW.out hc0 _)
        have E2 : Hid (Sh (y3.setCell ⟨cv, 0, none⟩ (.slice a3 (n + 1) c3)) b2 0 oh ow C) := hid1 (sh_block K2.out ((Below.heap_setCell _ _ _ _ (by show b2 ≠ cv; exact hbc)).trans (GB.out b2 lb2 (fun e => (K5.out b2 e).2 rfl))))
        have E3 : Hid ((y3.setCell ⟨cv, 0, none⟩ (.slice a3 (n + 1) c3)).rowIs cv 43 1 (fun _ => .slice a3 (k * C + (c + 1)) c3)) := hid1 ((RCV.out.set 0 (.slice a3 (n + 1) c3)).congr fun i hi => by (have h0 : i = 0 := by omega); subst h0; rw [e1]; rfl)
        have E4 : Hid ((y3.setCell ⟨cv, 0, none⟩ (.slice a3 (n + 1) c3)).ownsRow w0.heap.size 2 1 (.slice a3 (k * C + (c + 1)) c3) (k * C + (c + 1)) (i64L (pvL x C P k ++ pvC (x k) C P (c + 1)))) := hid1 (by rw [e1, HSU.out, ← List.append_assoc]; exact own_setne O3.out hvcv)
        have E5 : Hid (∀ q, (Value.slice a3 (k * C + (c + 1)) c3).ownBlock = some q → (q < bs ∨ bs + 4 ≤ q) ∧ q ≠ b2) := hid1 (by
          rw [e1]
          intro q hq
          rcases A3.out with h | h
          · exact K5.out q (by rw [← h]; exact hq)
          · rw [h] at hq
            have hq' := Option.some.inj hq
            simp at hq'
            omega)
        have E6 : Hid (Fo bs W (y3.setCell ⟨cv, 0, none⟩ (.slice a3 (n + 1) c3))) := hid1 ⟨TO.out.1.trans K6.out.os, TO.out.2.1.trans K6.out.tape, TO.out.2.2.trans K6.out.output, by simp; omega, fun q h1 h2 => (Below.heap_setCell _ _ _ _ (by show q ≠ cv; omega)).trans ((GB.out q (by omega) (fun e => by have := (K5.out q e).1; omega)).trans (K6.out.block q h1 h2))⟩
        go_wp2
        exact ⟨⟨c + 1, a3, c3, by omega, by go_num, E1, E2, E3, E4, E5, E6⟩, by simp [intOf]; omega⟩
    · have hcC : c = C := by omega
      subst hcC
      have e1 : (k + 1) * c = k * c + c := Nat.succ_mul _ _
      go_wp2_with fail
      refine bodyPost_end (v := .tuple #[]) (by simp [results, go_sem]) rfl ⟨rfl, ⟨K1.out, K2.out, _, K3.out, by rw [e1]; exact K4.out, K5.out⟩, K6.out⟩
end Go.Proofs.Ytkodihmjjiadnaa.Nn
/- PLAIN: the work of an LPool. -/
namespace Go.Proofs.Ytkodihmjjiadnaa.Nn
open Go.RowKit

set_option maxHeartbeats 3200000 in
set_option maxRecDepth 100000 in
theorem ppool_any (L : Ly) (R S H V C T OH OW : Nat) (hR : L.r = R) (hS : L.s = S) (hRb : 1 ≤ R ∧ R ≤ 15) (hSb : 1 ≤ S ∧ S ≤ 15) (hC : 1 ≤ C ∧ C ≤ 4096) (hH : H ≤ 4096) (hV : V ≤ 4096) (hn : H * V * C ≤ 16777216) (hT : R * S * C = T) (hOH : 1 ≤ OH ∧ OH ≤ 4096) (hOW : 1 ≤ OW ∧ OW ≤ 4096) (hsy : 0 ≤ L.sy ∧ L.sy ≤ 15) (hsx : 0 ≤ L.sx ∧ L.sx ≤ 15) (ht : 0 ≤ L.t ∧ L.t ≤ 15) (hl : 0 ≤ L.l ∧ L.l ≤ 15)
    (xo : Option Addr) (xc : Nat) (hxc : H * V * C ≤ xc) (val : Nat → Int) (hkK : OH * OW * C ≤ 16777216) (w : World) (hv : R64 w xo (H * V * C) val) (hxl : ∀ g o, xo = some ⟨g, o, none⟩ → g < w.heap.size) :
    Calls Try.prog 83 #[lyv L, tnv H V C xo (H * V * C) xc, shp OH OW C] w fun e w' => ∃ v', e = .returned v' ∧ w'.ownsRow w.heap.size 2 1 v' (OH * OW * C) (i64L (pvL (plW L H V C S OW val) C (R * S - 1) (OH * OW))) ∧ Below w.heap.size w w' := by
  have hRS : 1 ≤ R * S := Nat.mul_pos hRb.1 hSb.1
  have hTP : T = (R * S - 1 + 1) * C := by rw [← hT, Nat.sub_add_cancel hRS]
  have hTb : T ≤ 16777216 := by
    rw [← hT]
    exact Nat.le_trans (Nat.mul_le_mul (Nat.mul_le_mul hRb.2 hSb.2) hC.2) (by decide)
  obtain ⟨n, hen⟩ := Int.eq_ofNat_of_zero_le (el_bd OH OW C).1
  have CR := hid1 (fun W => room_any OH OW C n hen W)
  have CS := hid1 (fun (bs cv : Nat) (W : World) (hb : Below w.heap.size w W) (hz : W.heap.size = bs) (hbb : w.heap.size + 2 < bs) (hcb : cv < bs) (hc0 : w.heap.size ≤ cv) (hbc : w.heap.size + 2 ≠ cv) (hI : ∀ X, Below W.heap.size W X → Pvi w (w.heap.size + 2) bs cv OH OW C (R * S - 1) (plW L H V C S OW val) 0 X) =>
    pslide_any L R S H V C T OH OW C hR hS hRb hSb hC hH hV hn hT hOH hOW hsy hsx ht hl xo xc hxc val 99 (.pointer (some ⟨w.heap.size + 2, 0, none⟩)) (.pointer (some ⟨cv, 0, none⟩)) (fun _ _ => rfl) (Pvi w (w.heap.size + 2) bs cv OH OW C (R * S - 1) (plW L H V C S OW val)) W (fun k Z hZ => hv.keep' hZ.1)
      (fun k Z X hZ _ hg => by rw [hz] at hg; exact hZ.kp (by omega) hbb hcb hg) (fun g o e => Nat.lt_of_lt_of_le (hxl g o e) hb.size) hI
      (fun k Z hk hZ hzz hs => by
        rw [hz] at hs hzz ⊢
        have hkk : k * C ≤ OH * OW * C := Nat.mul_le_mul_right C (by omega)
        exact pool1_any C (R * S - 1) T hC hTP hTb w (w.heap.size + 2) bs cv hcb hc0 hbc OH OW (plW L H V C S OW val) k (by omega) Z hZ hzz hs))
  clear hR hS hRb hSb hC hH hV hT hOH hOW hsy hsx ht hl hxc hv hxl hen hn hRS hTP hTb hkK
  obtain ⟨N, hN⟩ : ∃ N, H * V * C = N := ⟨_, rfl⟩
  rw [hN] at CS ⊢
  clear hN
  obtain ⟨b, hb0⟩ : ∃ b, w.heap.size = b := ⟨_, rfl⟩
  go_enter Try.func83, Try.ntmps83
  go_upto_region 1 with fail
  refine gen_world (fun X => Below w.heap.size w X ∧ Lp X b L ∧ X.rowIs (b + 1) 99 4 (tnf H V C xo N xc) ∧ Sh X (b + 2) 0 OH OW C ∧ X.heap.size = b + 3) ⟨by repeat (first | (with_reducible exact Below.refl _ _) | (with_reducible refine bl_alloc ?_ _) | (with_reducible refine Below.drew ?_) | (with_reducible refine bl_drewN ?_ _) | (with_reducible refine bl_set ?_ (by omega) _) | (with_reducible refine bl_step ?_ (by assumption))), (lp_new' hb0 L _).keep (bl_alloc (bl_alloc (Below.refl _ _) _) _), by have := (tn_new (w.alloc (lyo L)) H V C xo N xc 99).alloc (sho OH OW C); rw [show (w.alloc (lyo L)).heap.size = b + 1 by simp [hb0]] at this; exact this, by have := sh_new ((w.alloc (lyo L)).alloc (.cells #[.int .i64 H, .int .i64 V, .int .i64 C, .slice xo N xc] 99)) OH OW C 25; rw [show ((w.alloc (lyo L)).alloc (.cells #[.int .i64 H, .int .i64 V, .int .i64 C, .slice xo N xc] 99)).heap.size = b + 2 by simp [hb0]] at this; exact this, by simp [hb0]⟩ ?_
  rintro X ⟨BX, LX, TX, SX, zX⟩
  have s0 := SX.1
  have s1 := SX.2.1
  have s2 := SX.2.2
  have HLX := hid1 LX
  have HTX := hid1 TX
  have HSX := hid1 SX
  clear LX TX
  go_wp2_with fail
  refine (CR.out X).mono ?_
  rintro e y ⟨g, rfl, ow, hb⟩
  have hgl := (ow.lt g rfl)
  obtain ⟨cv, hcv⟩ : ∃ c, y.heap.size = c := ⟨_, rfl⟩
  have hycv : b + 3 ≤ cv := by have := hb.size; omega
  go_upto_region 2 with fail
  refine gen_world (fun Z => Below w.heap.size w Z ∧ Lp Z b L ∧ Z.rowIs (b + 1) 99 4 (tnf H V C xo N xc) ∧ Sh Z (b + 2) 0 OH OW C ∧ Z.rowIs cv 43 1 (fun _ => .slice (some ⟨g, 0, none⟩) 0 n) ∧ Z.ownsRow w.heap.size 2 1 (.slice (some ⟨g, 0, none⟩) 0 n) 0 [] ∧ Z.heap.size = cv + 1 ∧ g < cv ∧ b + 3 ≤ g) ⟨bl_alloc (bl_step BX hb) _, HLX.out.keep (bl_step hb (bl_alloc (Below.refl _ _) _)), World.rowIs.of_block HTX.out ((bl_step hb (bl_alloc (Below.refl _ _) _)).block _ (World.rowIs.lt HTX.out)), HSX.out.keep (bl_step hb (bl_alloc (Below.refl _ _) _)), by rw [← hcv]; exact World.rowIs_alloc y #[.slice (some ⟨g, 0, none⟩) 0 n] 43 _ (fun i hi => by simp at hi; subst hi; rfl), (ow.mono BX.size).alloc _, by simp [hcv], by omega, by omega⟩ ?_
  clear BX HLX HTX HSX SX s0 s1 s2 ow hb hgl hcv zX
  rintro Z ⟨BZ, LZ, TZ, SZ, RZ, OZ, zZ, hgc, hgb⟩
  rw [hb0] at CS
  have C1 := CS.out (cv + 1) cv Z (by rw [← hb0]; exact BZ) zZ (by omega) (by omega) (by omega) (by omega) (fun X' hX' => ⟨bl_step BZ hX', SZ.keep hX', .slice (some ⟨g, 0, none⟩) 0 n, World.rowIs.of_block RZ (hX'.block _ RZ.lt), by rw [Nat.zero_mul]; exact own_bl OZ hX', fun q hq => by cases hq; exact ⟨.inl (show g < cv + 1 by omega), show g ≠ b + 2 by omega⟩⟩)
  obtain ⟨l0, l1, l2, l3, l4, l5, l6, l7, l8, l9, l10, l11, l12, l13, l14⟩ := LZ
  obtain ⟨t0, t1, t2, t3⟩ := tn_cells TZ
  obtain ⟨s0, s1, s2⟩ := SZ
  clear TZ RZ OZ CS CR BZ
  go_wp2_with fail
  refine C1.mono ?_
  rintro e z ⟨rfl, i1, i2, u, i3, i4, i5⟩
  have c0 : z.cell? ⟨cv, 0, none⟩ = some u := i3.cell (i := 0) (by decide)
  have HI1 := hid1 i1
  have HI4 := hid1 i4
  obtain ⟨ua, uc, eu⟩ := own_is64 i4
  subst eu
  clear i1 i2 i3 i4 i5 C1 l0 l1 l2 l3 l4 l5 l6 l7 l8 l9 l10 l11 l12 l13 l14 t0 t1 t2 t3 s0 s1 s2
  go_wp2_with fail
  go_ret
  exact ⟨_, rfl, HI4.out, HI1.out⟩
end Go.Proofs.Ytkodihmjjiadnaa.Nn
/- PLAIN: what the works make, as lists; bounds. -/
namespace Go.Proofs.Ytkodihmjjiadnaa.Nn
open Go.RowKit

theorem range_getD (l : List Int) : ∀ n, l.length = n → (List.range n).map (fun j => l.getD j 0) = l := by
  rintro n rfl
  refine List.ext_getElem (by simp) fun i h1 h2 => ?_
  simp [List.getD, h2]
theorem ouL_len (L : Ly) (T K : Nat) (x : Nat → Int) : (ouL L T x K).length = K := by simp [ouL]
theorem cvL_len (L : Ly) (T K : Nat) (x : Nat → Nat → Int) : ∀ k, (cvL L T K x k).length = k * K
  | 0 => by simp [cvL]
  | k + 1 => by rw [cvL, List.length_append, cvL_len L T K x k, ouL_len, Nat.succ_mul]
theorem pvC_len (x : Nat → Int) (C P c : Nat) : (pvC x C P c).length = c := by simp [pvC]
theorem pvL_len (x : Nat → Nat → Int) (C P : Nat) : ∀ k, (pvL x C P k).length = k * C
  | 0 => by simp [pvL]
  | k + 1 => by rw [pvL, List.length_append, pvL_len x C P k, pvC_len, Nat.succ_mul]
/-- What a window sees keeps the bounds of what comes in and of the border. -/
theorem lkW_bd {y x bd : Int} {H V C S : Nat} {val : Nat → Int} {lo hi : Int} (hC : 1 ≤ C) (hv : ∀ j, j < H * V * C → lo ≤ val j ∧ val j ≤ hi) (hb : lo ≤ bd ∧ bd ≤ hi) (j : Nat) : lo ≤ lkW y x bd H V C S val j ∧ lkW y x bd H V C S val j ≤ hi := by
  unfold lkW
  by_cases h : Inw y x H V (j / C / S) (j / C % S)
  · rw [if_pos h]
    have hm : j % C < C := Nat.mod_lt _ (by omega)
    generalize j / C / S = r at *
    generalize j / C % S = s at *
    unfold Inw at h
    have ha : (y + r).toNat < H := by omega
    have hq : (x + s).toNat < V := by omega
    refine hv _ ?_
    generalize (y + r).toNat = a at *
    generalize (x + s).toNat = q at *
    have hA : a * V + q < H * V := by have := Nat.mul_le_mul_right V (show a + 1 ≤ H by omega); rw [Nat.succ_mul] at this; omega
    have hF : (a * V + q) * C + C ≤ H * V * C := by have := Nat.mul_le_mul_right C (show a * V + q + 1 ≤ H * V by omega); rw [Nat.succ_mul] at this; exact this
    omega
  · rw [if_neg h]; exact hb
theorem plW_bd {L : Ly} {H V C S OW : Nat} {val : Nat → Int} {lo hi : Int} (hC : 1 ≤ C) (hv : ∀ j, j < H * V * C → lo ≤ val j ∧ val j ≤ hi) (hb : lo ≤ L.bd ∧ L.bd ≤ hi) (k j : Nat) : lo ≤ plW L H V C S OW val k j ∧ plW L H V C S OW val k j ≤ hi := lkW_bd hC hv hb j
theorem hiV_bd {x : Nat → Int} {lo hi : Int} {c s : Nat} : ∀ p, (∀ j, j < (p + 1) * s → lo ≤ x j ∧ x j ≤ hi) → c < s → lo ≤ hiV x c s p ∧ hiV x c s p ≤ hi
  | 0, h, hc => by
    have := h c (by omega)
    simpa [hiV] using this
  | p + 1, h, hc => by
    have ih := hiV_bd p (fun j hj => h j (by rw [Nat.succ_mul]; omega)) hc
    have h2 := h (c + (p + 1) * s) (by rw [Nat.succ_mul (p + 1)]; omega)
    simp only [hiV]
    omega
end Go.Proofs.Ytkodihmjjiadnaa.Nn
/- PLAIN: the work of an LDense of any network that may be. -/
namespace Go.Proofs.Ytkodihmjjiadnaa.Nn
open Go.RowKit

/-- The weights of a layer without a fault; how it ends. -/
theorem lay_ws {L : Ly} {S : Sp} (h : faE L S = 0) (h3 : ¬ L.kd = 3) : (∀ j, j < L.mw → -1 ≤ L.ws j ∧ L.ws j ≤ 1) ∧ (((L.mb : Int) = L.k ∧ L.mn = 0) ∨ (L.mb = 0 ∧ (L.mn : Int) = L.k)) := by
  unfold faE at h
  by_cases h1 : L.kd = 1
  · rw [if_pos h1] at h
    have h := frF_z h
    have e7 : wsE L S = 0 := h 7 (by decide)
    have e8 : nmE L = 0 := h 8 (by decide)
    have e7 := zero_else (by decide) e7
    have e8 := (zero_else (by decide) e8).1
    exact ⟨fun j hj => (e7.2 j hj).1, .inr ⟨e8.2, e8.1⟩⟩
  · rw [if_neg h1] at h
    by_cases h2 : L.kd = 2
    · rw [if_pos h2] at h
      have h := frF_z h
      have e4 : wsE L S = 0 := h 4 (by decide)
      have e5 : enE L S = 0 := h 5 (by decide)
      have e4 := zero_else (by decide) e4
      refine ⟨fun j hj => (e4.2 j hj).1, ?_⟩
      unfold enE at e5
      by_cases hl : S.la = true
      · rw [if_pos hl] at e5
        exact .inl (zero_else (by decide) e5)
      · rw [if_neg hl] at e5
        have e5 := (zero_else (by decide) e5).1
        exact .inr ⟨e5.2, e5.1⟩
    · rw [if_neg h2, if_neg h3] at h; cases h
/-- What become wants, of every output of a layer without a fault. -/
theorem be_ok {L : Ly} {S : Sp} (hs : SpOk S) (h : faE L S = 0) (h3 : ¬ L.kd = 3) {F : Nat} (hF : fan L S.h S.v S.c = F) {x : Nat → Int} (hx : ∀ j, j < F → -128 ≤ x j ∧ x j ≤ 128) {k : Nat} (hk : (k : Int) < L.k) : BeOk L F x k := by
  obtain ⟨-, -, K, F', eK, eF, k1, k2, hw, f1, hm, hmb, hbs⟩ := lay_w hs h h3
  obtain rfl : F' = F := by omega
  obtain ⟨hws, hend⟩ := lay_ws h h3
  have hkK : k < K := by omega
  have hkm2 : k * F' + F' ≤ K * F' := by have := Nat.mul_le_mul_right F' (show k + 1 ≤ K by omega); rw [Nat.succ_mul] at this; exact this
  have sb := sm_bd (f := fun j => L.ws (k * F' + j)) (g := x) (m := F') (fun j hj => hws _ (by omega)) hx F' (Nat.le_refl _)
  have hF2 : F' ≤ 16777216 := Nat.le_trans (Nat.le_mul_of_pos_left F' (by omega)) hm
  rcases hend with ⟨e1, e2⟩ | ⟨e1, e2⟩
  · exact .inl ⟨by omega, by omega, by omega, by have := hbs k (by omega); omega⟩
  · exact .inr ⟨e1, by omega⟩
theorem wrk_dense (N : Nt) (sz : Nat → Nat) (val : Nat → Nat → Int) {i : Nat} (hs : SpOk (sp N i)) (h0 : fl N i = 0) (hc : (N.lf i).mw ≤ (N.lf i).cw) (hk : (N.lf i).kd = 2) (hsz0 : sz i = fanN N i) (hsz1 : sz (i + 1) = cN N (i + 1)) (hval : ∀ j, j < sz (i + 1) → val (i + 1) j = ouV (N.lf i) (fanN N i) (val i) j) (hb : ∀ j, j < sz i → -128 ≤ val i j ∧ val i j ≤ 128) : Wrk N sz val i := by
  have h3 : ¬ (N.lf i).kd = 3 := by omega
  obtain ⟨-, e1, K, F, eK, eF, k1, k2, hw, f1, hm, hmb, hbs⟩ := lay_w hs h0 h3
  have hc' : (sp N (i + 1)).c = oC (N.lf i) (sp N i).h (sp N i).v (sp N i).c := rfl
  have e2 : cN N (i + 1) = K := by unfold cN; rw [hc', e1, eK]; rfl
  have e3 : fanN N i = F := by unfold fanN; rw [eF]; rfl
  rw [e2] at hsz1
  rw [e3] at hsz0 hval
  refine ⟨.inr (.inl hk), by omega, fun W xo xc _ hL hR => ?_⟩
  rw [hsz0] at hR hb ⊢
  rw [hsz1] at hval ⊢
  have hp : plF (N.lf i).kd = 82 := by unfold plF; rw [if_neg (by omega), if_pos hk]
  rw [hp]
  refine (connect_any (N.lf i) K F eK k1 k2 hw f1 hm hc (lay_ws h0 h3).1 xo xc (val i) hb (fun k hkk => be_ok hs h0 h3 eF hb (by omega)) _ _ _ _ _ _ W hL hR).mono ?_
  rintro e w' ⟨v', rfl, o', hb'⟩
  refine ⟨v', rfl, ?_, hb'⟩
  have el : ouL (N.lf i) F (val i) K = (List.range K).map (val (i + 1)) := by
    unfold ouL
    exact List.map_congr_left fun j hj => (hval j (by simpa using hj)).symm
  rw [← el]
  exact o'
end Go.Proofs.Ytkodihmjjiadnaa.Nn
/- PLAIN: what every network that may be makes of an input, layer by layer; each layer's work. -/
namespace Go.Proofs.Ytkodihmjjiadnaa.Nn
open Go.RowKit

/-- How many elements there are ahead of a layer. -/
def szN (N : Nt) (i : Nat) : Nat := (sp N i).h.toNat * (sp N i).v.toNat * cN N i
/-- What a layer makes of what comes in. -/
def opN (L : Ly) (H V C F OW : Nat) (x : Nat → Int) (j : Nat) : Int :=
  if L.kd = 2 then ouV L F x j else if L.kd = 1 then ouV L F (plW L H V C L.s.toNat OW x (j / L.k.toNat)) (j % L.k.toNat) else hiV (plW L H V C L.s.toNat OW x (j / C)) (j % C) C (L.r.toNat * L.s.toNat - 1)
/-- The elements ahead of a layer. -/
def valN (N : Nt) (x : Nat → Int) : Nat → Nat → Int
  | 0 => x
  | i + 1 => opN (N.lf i) (sp N i).h.toNat (sp N i).v.toNat (cN N i) (fanN N i) (sp N (i + 1)).v.toNat (valN N x i)
theorem flat_range (K : Nat) (hK : 1 ≤ K) (g : Nat → Nat → Int) (k : Nat) : (List.range (k * K)).map (fun j => g (j / K) (j % K)) ++ (List.range K).map (g k) = (List.range ((k + 1) * K)).map (fun j => g (j / K) (j % K)) := by
  rw [Nat.succ_mul, List.range_add, List.map_append, List.map_map]
  congr 1
  refine List.map_congr_left fun o ho => ?_
  have ho : o < K := by simpa using ho
  show g k o = g ((k * K + o) / K) ((k * K + o) % K)
  rw [Nat.mul_comm k K, Nat.mul_add_div (by omega), Nat.mul_add_mod, Nat.div_eq_of_lt ho, Nat.mod_eq_of_lt ho]
  rfl
theorem cvL_map (L : Ly) (T K : Nat) (hK : 1 ≤ K) (x : Nat → Nat → Int) : ∀ k, cvL L T K x k = (List.range (k * K)).map fun j => ouV L T (x (j / K)) (j % K)
  | 0 => by simp [cvL]
  | k + 1 => by
    rw [cvL, cvL_map L T K hK x k]
    exact flat_range K hK (fun a o => ouV L T (x a) o) k
theorem pvL_map (x : Nat → Nat → Int) (C P : Nat) (hC : 1 ≤ C) : ∀ k, pvL x C P k = (List.range (k * C)).map fun j => hiV (x (j / C)) (j % C) C P
  | 0 => by simp [pvL]
  | k + 1 => by
    rw [pvL, pvL_map x C P hC k]
    exact flat_range C hC (fun a o => hiV (x a) o C P) k
theorem chk_prod {h v c : Int} (e : chk h v c = 0) : Sides h v c ∧ h * v * c ≤ 16777216 := by
  unfold chk at e
  by_cases hs : Sides h v c
  · rw [if_pos hs] at e
    by_cases h2 : h * v * c > 16777216
    · rw [if_pos h2] at e; cases e
    · exact ⟨hs, by omega⟩
  · rw [if_neg hs] at e; cases e
theorem sl_chk {h v c r s sy sx t l b q k : Int} (e : slE h v c r s sy sx t l b q k = 0) : chk h v c = 0 ∧ WOk r s sy sx t l b q ∧ chk (stN h t b r sy) (stN v l q s sx) k = 0 := by
  unfold slE at e
  by_cases h1 : chk h v c ≠ 0
  · rw [if_pos h1] at e; exact absurd e h1
  · rw [if_neg h1] at e
    by_cases h2 : k < 1 ∨ k > 4096
    · rw [if_pos h2] at e; cases e
    · rw [if_neg h2] at e
      by_cases h3 : ¬ WOk r s sy sx t l b q
      · rw [if_pos h3] at e; cases e
      · rw [if_neg h3] at e
        by_cases h4 : mn2 (stN h t b r sy) (stN v l q s sx) = 0
        · rw [if_pos h4] at e; cases e
        · rw [if_neg h4] at e
          exact ⟨Classical.not_not.1 h1, Classical.not_not.1 h3, e⟩
/-- The window of a layer that has one, without a fault. -/
theorem win_ok {L : Ly} {S : Sp} (h : faE L S = 0) (h2 : ¬ L.kd = 2) : oE L S.h S.v S.c = 0 ∧ slE S.h S.v S.c L.r L.s L.sy L.sx L.t L.l L.b L.q (if L.kd = 3 then S.c else L.k) = 0 ∧ (L.bd = 0 ∨ L.bd = 1 ∨ L.bd = -1) ∧ S.la = false ∧ (L.kd = 1 ∨ L.kd = 3) ∧ (L.kd = 3 → S.fs = false) := by
  have A : oE L S.h S.v S.c = 0 ∧ (L.bd = 0 ∨ L.bd = 1 ∨ L.bd = -1) ∧ S.la = false ∧ (L.kd = 1 ∨ L.kd = 3) ∧ (L.kd = 3 → S.fs = false) := by
    unfold faE at h
    by_cases h1 : L.kd = 1
    · rw [if_pos h1] at h
      have h := frF_z h
      have e0 : (if S.la = true then (51 : Int) else 0) = 0 := h 0 (by decide)
      have e3 : boE L = 0 := h 3 (by decide)
      have e3 := zero_else (by decide) e3
      refine ⟨h 4 (by decide), by omega, ?_, .inl h1, fun h3 => by omega⟩
      cases hl : S.la
      · rfl
      · rw [hl] at e0; simp at e0
    · rw [if_neg h1, if_neg h2] at h
      by_cases h3 : L.kd = 3
      · rw [if_pos h3] at h
        have h := frF_z h
        have e0 : (if S.fs = true then (51 : Int) else 0) = 0 := h 0 (by decide)
        have e1 : (if S.la = true then (51 : Int) else 0) = 0 := h 1 (by decide)
        have e2 : owE L = 0 := h 2 (by decide)
        have e2 := zero_else (by decide) e2
        refine ⟨h 5 (by decide), .inl e2.1.2.2, ?_, .inr h3, fun _ => ?_⟩
        · cases hl : S.la
          · rfl
          · rw [hl] at e1; simp at e1
        · cases hl : S.fs
          · rfl
          · rw [hl] at e0; simp at e0
      · rw [if_neg h3] at h; cases h
  refine ⟨A.1, ?_, A.2⟩
  have := A.1
  unfold oE at this
  rwa [if_neg h2] at this
theorem nat_le3 {a b c : Nat} (h : (a : Int) * b * c ≤ 16777216) : a * b * c ≤ 16777216 := by
  have h2 : ((a * b * c : Nat) : Int) ≤ 16777216 := by rw [Int.natCast_mul, Int.natCast_mul]; exact h
  omega
theorem r64_lt {W : World} {xo : Option Addr} {n : Nat} {f : Nat → Int} (h : R64 W xo n f) (hn : 1 ≤ n) : ∀ g o, xo = some ⟨g, o, none⟩ → g < W.heap.size := by
  intro g o e
  obtain ⟨g', o', e', hc⟩ := h 0 (by omega)
  rw [e'] at e
  cases e
  exact lt_of_cell hc
theorem wrk_conv (N : Nt) (x : Nat → Int) {i : Nat} (hs : SpOk (sp N i)) (h0 : fl N i = 0) (hc : (N.lf i).mw ≤ (N.lf i).cw) (hk : (N.lf i).kd = 1) (hb : ∀ j, j < szN N i → -128 ≤ valN N x i j ∧ valN N x i j ≤ 128) : Wrk N (szN N) (valN N x) i := by
  have h3 : ¬ (N.lf i).kd = 3 := by omega
  have h2 : ¬ (N.lf i).kd = 2 := by omega
  obtain ⟨-, e1, K, F, eK, eF, k1, k2, hw, f1, hm, hmb, hbs⟩ := lay_w hs h0 h3
  obtain ⟨qo, q1, q2, -⟩ := win_ok h0 h2
  rw [if_neg h3] at q1
  obtain ⟨c1, cw, c2⟩ := sl_chk q1
  have eh : (sp N (i + 1)).h = stN (sp N i).h (N.lf i).t (N.lf i).b (N.lf i).r (N.lf i).sy := by show oH _ _ _ _ = _; unfold oH; rw [if_neg h2, if_pos qo]
  have ev : (sp N (i + 1)).v = stN (sp N i).v (N.lf i).l (N.lf i).q (N.lf i).s (N.lf i).sx := by show oV _ _ _ _ = _; unfold oV; rw [if_neg h2, if_pos qo]
  have ec : (sp N (i + 1)).c = (K : Int) := by show oC _ _ _ _ = _; rw [e1, eK]
  rw [← eh, ← ev, eK] at c2
  obtain ⟨s1, p1⟩ := chk_prod c1
  obtain ⟨s2, p2⟩ := chk_prod c2
  obtain ⟨⟨w1, w2, w3, w4⟩, ⟨w5, w6, w7, w8⟩⟩ := cw
  obtain ⟨⟨a1, a2⟩, ⟨a3, a4⟩, ⟨a5, a6⟩⟩ := s1
  obtain ⟨⟨a7, a8⟩, ⟨a9, a10⟩, -⟩ := s2
  obtain ⟨H, eH⟩ := Int.eq_ofNat_of_zero_le (show 0 ≤ (sp N i).h by omega)
  obtain ⟨V, eV⟩ := Int.eq_ofNat_of_zero_le (show 0 ≤ (sp N i).v by omega)
  obtain ⟨C, eC⟩ := Int.eq_ofNat_of_zero_le (show 0 ≤ (sp N i).c by omega)
  obtain ⟨OH, eOH⟩ := Int.eq_ofNat_of_zero_le (show 0 ≤ (sp N (i + 1)).h by omega)
  obtain ⟨OW, eOW⟩ := Int.eq_ofNat_of_zero_le (show 0 ≤ (sp N (i + 1)).v by omega)
  obtain ⟨R, eR⟩ := Int.eq_ofNat_of_zero_le (show 0 ≤ (N.lf i).r by omega)
  obtain ⟨S, eS⟩ := Int.eq_ofNat_of_zero_le (show 0 ≤ (N.lf i).s by omega)
  have hz0 : szN N i = H * V * C := by unfold szN cN; rw [eH, eV, eC]; rfl
  have hz1 : szN N (i + 1) = OH * OW * K := by unfold szN cN; rw [eOH, eOW, ec]; rfl
  have eT : R * S * C = F := by
    unfold fan at eF
    rw [if_neg h2, eR, eS, eC] at eF
    exact_mod_cast eF
  have hv : ∀ j, valN N x (i + 1) j = ouV (N.lf i) F (plW (N.lf i) H V C S OW (valN N x i) (j / K)) (j % K) := by
    intro j
    show opN _ _ _ _ _ _ _ _ = _
    unfold opN fanN cN
    rw [if_neg h2, if_pos hk, eF, eH, eV, eC, eOW, eS, eK]
    rfl
  rw [eH, eV, eC] at p1
  rw [eOH, eOW] at p2
  have p1 : H * V * C ≤ 16777216 := nat_le3 p1
  have p2 : OH * OW * K ≤ 16777216 := nat_le3 p2
  rw [hz0] at hb
  have hpl : ∀ k j, -128 ≤ plW (N.lf i) H V C S OW (valN N x i) k j ∧ plW (N.lf i) H V C S OW (valN N x i) k j ≤ 128 := fun k j => plW_bd (by omega) hb (by omega) k j
  have hp1 : 1 ≤ OH * OW * K := Nat.mul_pos (Nat.mul_pos (by omega) (by omega)) k1
  have hp0 : 1 ≤ H * V * C := Nat.mul_pos (Nat.mul_pos (by omega) (by omega)) (by omega)
  refine ⟨.inl hk, by rw [hz1]; exact hp1, fun W xo xc hxc hL hR => ?_⟩
  have hp : plF (N.lf i).kd = 81 := by unfold plF; rw [if_pos hk]
  rw [hz0] at hxc hR ⊢
  rw [hp, hz1, eH, eV, eC, eOH, eOW, ec]
  have el : (List.range (OH * OW * K)).map (valN N x (i + 1)) = cvL (N.lf i) F K (plW (N.lf i) H V C S OW (valN N x i)) (OH * OW) := by
    rw [cvL_map _ _ _ k1]
    exact List.map_congr_left fun j _ => hv j
  rw [el]
  exact convolve_any (N.lf i) R S H V C F OH OW K eR eS (by omega) (by omega) (by omega) (by omega) (by omega) p1 eT (by omega) (by omega) (by omega) (by omega) (by omega) (by omega) eK k1 k2 hw hm hc (lay_ws h0 h3).1 xo xc hxc (valN N x i) (fun k j _ _ => hpl k j) (fun k o _ ho => be_ok hs h0 h3 eF (fun j _ => hpl k j) (by omega)) p2 K W hL hR (r64_lt hR hp0)
theorem wrk_pool (N : Nt) (x : Nat → Int) {i : Nat} (h0 : fl N i = 0) (hk : (N.lf i).kd = 3) : Wrk N (szN N) (valN N x) i := by
  have h2 : ¬ (N.lf i).kd = 2 := by omega
  obtain ⟨qo, q1, q2, -⟩ := win_ok h0 h2
  rw [if_pos hk] at q1
  obtain ⟨c1, cw, c2⟩ := sl_chk q1
  have eh : (sp N (i + 1)).h = stN (sp N i).h (N.lf i).t (N.lf i).b (N.lf i).r (N.lf i).sy := by show oH _ _ _ _ = _; unfold oH; rw [if_neg h2, if_pos qo]
  have ev : (sp N (i + 1)).v = stN (sp N i).v (N.lf i).l (N.lf i).q (N.lf i).s (N.lf i).sx := by show oV _ _ _ _ = _; unfold oV; rw [if_neg h2, if_pos qo]
  have ec : (sp N (i + 1)).c = (sp N i).c := lay_p h0 hk
  rw [← eh, ← ev] at c2
  obtain ⟨s1, p1⟩ := chk_prod c1
  obtain ⟨s2, p2⟩ := chk_prod c2
  obtain ⟨⟨w1, w2, w3, w4⟩, ⟨w5, w6, w7, w8⟩⟩ := cw
  obtain ⟨⟨a1, a2⟩, ⟨a3, a4⟩, ⟨a5, a6⟩⟩ := s1
  obtain ⟨⟨a7, a8⟩, ⟨a9, a10⟩, -⟩ := s2
  obtain ⟨H, eH⟩ := Int.eq_ofNat_of_zero_le (show 0 ≤ (sp N i).h by omega)
  obtain ⟨V, eV⟩ := Int.eq_ofNat_of_zero_le (show 0 ≤ (sp N i).v by omega)
  obtain ⟨C, eC⟩ := Int.eq_ofNat_of_zero_le (show 0 ≤ (sp N i).c by omega)
  obtain ⟨OH, eOH⟩ := Int.eq_ofNat_of_zero_le (show 0 ≤ (sp N (i + 1)).h by omega)
  obtain ⟨OW, eOW⟩ := Int.eq_ofNat_of_zero_le (show 0 ≤ (sp N (i + 1)).v by omega)
  obtain ⟨R, eR⟩ := Int.eq_ofNat_of_zero_le (show 0 ≤ (N.lf i).r by omega)
  obtain ⟨S, eS⟩ := Int.eq_ofNat_of_zero_le (show 0 ≤ (N.lf i).s by omega)
  have hz0 : szN N i = H * V * C := by unfold szN cN; rw [eH, eV, eC]; rfl
  have hz1 : szN N (i + 1) = OH * OW * C := by unfold szN cN; rw [eOH, eOW, ec, eC]; rfl
  have hv : ∀ j, valN N x (i + 1) j = hiV (plW (N.lf i) H V C S OW (valN N x i) (j / C)) (j % C) C (R * S - 1) := by
    intro j
    show opN _ _ _ _ _ _ _ _ = _
    unfold opN fanN cN
    rw [if_neg h2, if_neg (by omega), eH, eV, eC, eOW, eS, eR]
    rfl
  rw [eH, eV, eC] at p1
  rw [eOH, eOW, eC] at p2
  have p1 : H * V * C ≤ 16777216 := nat_le3 p1
  have p2 : OH * OW * C ≤ 16777216 := nat_le3 p2
  have hp1 : 1 ≤ OH * OW * C := Nat.mul_pos (Nat.mul_pos (by omega) (by omega)) (by omega)
  have hp0 : 1 ≤ H * V * C := Nat.mul_pos (Nat.mul_pos (by omega) (by omega)) (by omega)
  refine ⟨.inr (.inr hk), by rw [hz1]; exact hp1, fun W xo xc hxc hL hR => ?_⟩
  have hp : plF (N.lf i).kd = 83 := by unfold plF; rw [if_neg (by omega), if_neg h2]
  rw [hz0] at hxc hR ⊢
  rw [hp, hz1, ec, eH, eV, eC, eOH, eOW]
  have el : (List.range (OH * OW * C)).map (valN N x (i + 1)) = pvL (plW (N.lf i) H V C S OW (valN N x i)) C (R * S - 1) (OH * OW) := by
    rw [pvL_map _ _ _ (by omega)]
    exact List.map_congr_left fun j _ => hv j
  rw [el]
  exact ppool_any (N.lf i) R S H V C (R * S * C) OH OW eR eS (by omega) (by omega) (by omega) (by omega) (by omega) p1 rfl (by omega) (by omega) (by omega) (by omega) (by omega) (by omega) xo xc hxc (valN N x i) p2 W hR (r64_lt hR hp0)
theorem la_sp (N : Nt) : ∀ i, (sp N i).la = decide (N.ml = i + 1) ∧ (sp N i).fs = decide (i = 0)
  | 0 => ⟨rfl, rfl⟩
  | i + 1 => ⟨rfl, by simp [sp]⟩
theorem be_pm {L : Ly} {k : Nat} (h : L.mb = 0) (x : Int) : beV L k x = 1 ∨ beV L k x = -1 := by
  unfold beV
  rw [if_neg (by omega)]
  split
  · exact .inl rfl
  · exact .inr rfl
theorem fl_all {N : Nt} (hz : chE N = 0) : whE N = 0 ∧ ∀ i, i < N.ml → fl N i = 0 := by
  have h0 : whE N = 0 := by
    unfold chE at hz
    by_cases h0 : whE N = 0
    · exact h0
    · rw [if_neg h0] at hz; exact absurd hz h0
  refine ⟨h0, ?_⟩
  unfold chE at hz
  rw [if_pos h0] at hz
  exact frF_z hz
theorem sp_all {N : Nt} (hz : chE N = 0) : ∀ i, i ≤ N.ml → SpOk (sp N i) := by
  intro i hi
  obtain ⟨h0, hf⟩ := fl_all hz
  exact sp_ok (wh_parts h0).2.1 fun j hj => hf j (by omega)
/-- The elements ahead of a layer keep their reach. -/
theorem val_bd (N : Nt) (x : Nat → Int) (hz : chE N = 0) (hx : ∀ j, j < szN N 0 → -128 ≤ x j ∧ x j ≤ 127) : ∀ i, i < N.ml → ∀ j, j < szN N i → inL i ≤ valN N x i j ∧ valN N x i j ≤ inH i
  | 0, _, j, hj => hx j hj
  | i + 1, hi, j, hj => by
    obtain ⟨hw0, hf⟩ := fl_all hz
    have h0 := hf i (by omega)
    have hs := sp_all hz i (by omega)
    have hin : ∀ j, j < szN N i → inL i ≤ valN N x i j ∧ valN N x i j ≤ inH i := val_bd N x hz hx i (by omega)
    have hla : (sp N i).la = false := by rw [(la_sp N i).1]; simp; omega
    have key : -1 ≤ valN N x (i + 1) j ∧ valN N x (i + 1) j ≤ 1 := by
      show -1 ≤ opN _ _ _ _ _ _ _ _ ∧ opN _ _ _ _ _ _ _ _ ≤ 1
      unfold opN
      by_cases h3 : (N.lf i).kd = 3
      · rw [if_neg (by omega), if_neg (by omega)]
        obtain ⟨qo, q1, -, -, -, q4⟩ := win_ok h0 (by omega)
        have q4 := q4 h3
        rw [if_pos h3] at q1
        obtain ⟨c1, cw, c2⟩ := sl_chk q1
        obtain ⟨⟨w1, w2, w3, w4⟩, ⟨w5, w6, w7, w8⟩⟩ := cw
        obtain ⟨⟨⟨a1, a2⟩, ⟨a3, a4⟩, ⟨a5, a6⟩⟩, p1⟩ := chk_prod c1
        have hi0 : ¬ i = 0 := by rw [(la_sp N i).2] at q4; simpa using q4
        have hC : 1 ≤ cN N i := by unfold cN; omega
        have hbd : (N.lf i).bd = 0 := by
          unfold fl faE at h0
          rw [if_neg (by omega), if_neg (by omega), if_pos h3] at h0
          have e2 : owE (N.lf i) = 0 := frF_z h0 2 (by decide)
          exact (zero_else (by decide) e2).1.2.2
        have hv : ∀ j, j < (sp N i).h.toNat * (sp N i).v.toNat * cN N i → -1 ≤ valN N x i j ∧ valN N x i j ≤ 1 := by
          intro j hj
          have := hin j hj
          unfold inL inH at this
          rwa [if_neg hi0, if_neg hi0] at this
        refine hiV_bd _ (fun j' _ => ?_) (Nat.mod_lt _ hC)
        exact plW_bd (lo := -1) (hi := 1) hC hv (by omega) _ _
      · have hmb : (N.lf i).mb = 0 := by
          obtain ⟨-, hend⟩ := lay_ws h0 h3
          rcases hend with ⟨e1, e2⟩ | ⟨e1, -⟩
          · exfalso
            obtain ⟨-, -, K, F, eK, eF, k1, -⟩ := lay_w hs h0 h3
            unfold fl faE at h0
            by_cases h1 : (N.lf i).kd = 1
            · rw [if_pos h1] at h0
              have e8 : nmE (N.lf i) = 0 := frF_z h0 8 (by decide)
              have := (zero_else (by decide) e8).1.2
              omega
            · rw [if_neg h1] at h0
              by_cases h2 : (N.lf i).kd = 2
              · rw [if_pos h2] at h0
                have e5 : enE (N.lf i) (sp N i) = 0 := frF_z h0 5 (by decide)
                unfold enE at e5
                rw [hla, if_neg (by simp)] at e5
                have := (zero_else (by decide) e5).1.2
                omega
              · rw [if_neg h2, if_neg h3] at h0; cases h0
          · exact e1
        by_cases h2 : (N.lf i).kd = 2
        · rw [if_pos h2]
          unfold ouV
          rcases be_pm (k := j) hmb (smV (fun j_1 => (N.lf i).ws (j * fanN N i + j_1)) (valN N x i) (fanN N i)) with e | e <;> rw [e] <;> decide
        · have h1 : (N.lf i).kd = 1 := by
            obtain ⟨q, -⟩ := lay_w hs h0 h3
            omega
          rw [if_neg h2, if_pos h1]
          unfold ouV
          rcases be_pm (k := j % (N.lf i).k.toNat) hmb (smV (fun j_1 => (N.lf i).ws (j % (N.lf i).k.toNat * fanN N i + j_1)) (plW (N.lf i) (sp N i).h.toNat (sp N i).v.toNat (cN N i) (N.lf i).s.toNat (sp N (i + 1)).v.toNat (valN N x i) (j / (N.lf i).k.toNat)) (fanN N i)) with e | e <;> rw [e] <;> decide
    unfold inL inH
    rw [if_neg (by omega), if_neg (by omega)]
    exact key
theorem wrk_all (N : Nt) (x : Nat → Int) (hz : chE N = 0) (hc : ∀ i, i < N.ml → (N.lf i).mw ≤ (N.lf i).cw) (hx : ∀ j, j < szN N 0 → -128 ≤ x j ∧ x j ≤ 127) : ∀ i, i < N.ml → Wrk N (szN N) (valN N x) i := by
  intro i hi
  obtain ⟨hw0, hf⟩ := fl_all hz
  have h0 := hf i hi
  have hs := sp_all hz i (by omega)
  have hb : ∀ j, j < szN N i → -128 ≤ valN N x i j ∧ valN N x i j ≤ 128 := by
    intro j hj
    have := val_bd N x hz hx i hi j hj
    unfold inL inH at this
    split at this <;> omega
  by_cases h3 : (N.lf i).kd = 3
  · exact wrk_pool N x h0 h3
  · obtain ⟨q, e1, K, F, eK, eF, -⟩ := lay_w hs h0 h3
    by_cases h2 : (N.lf i).kd = 2
    · refine wrk_dense N (szN N) (valN N x) hs h0 (hc i hi) h2 ?_ ?_ (fun j _ => ?_) hb
      · unfold szN fanN cN fan
        rw [if_pos h2]
        obtain ⟨⟨⟨a1, a2⟩, ⟨a3, a4⟩, ⟨a5, a6⟩⟩, -⟩ := hs
        obtain ⟨H, eH⟩ := Int.eq_ofNat_of_zero_le (show 0 ≤ (sp N i).h by omega)
        obtain ⟨V, eV⟩ := Int.eq_ofNat_of_zero_le (show 0 ≤ (sp N i).v by omega)
        obtain ⟨C, eC⟩ := Int.eq_ofNat_of_zero_le (show 0 ≤ (sp N i).c by omega)
        rw [eH, eV, eC, ← Int.natCast_mul, ← Int.natCast_mul]
        rfl
      · unfold szN
        have e3 : (sp N (i + 1)).h = 1 := by show oH _ _ _ _ = _; unfold oH; rw [if_pos h2]
        have e4 : (sp N (i + 1)).v = 1 := by show oV _ _ _ _ = _; unfold oV; rw [if_pos h2]
        rw [e3, e4]
        simp
      · show opN _ _ _ _ _ _ _ _ = _
        unfold opN
        rw [if_pos h2]
    · exact wrk_conv N x hs h0 (hc i hi) (by omega) hb
/-- The last layer of a network that may be. -/
theorem last_ok {N : Nt} (hz : chE N = 0) {m : Nat} (hm : N.ml = m + 1) : (N.lf m).kd = 2 ∧ ((N.lf m).mb : Int) = (N.lf m).k ∧ (N.lf m).mn = 0 ∧ szN N (m + 1) = (N.lf m).k.toNat ∧ 1 ≤ (N.lf m).k ∧ (N.lf m).k ≤ 4096 ∧ szN N m = fanN N m := by
  obtain ⟨hw0, hf⟩ := fl_all hz
  have h0 := hf m (by omega)
  have hs := sp_all hz m (by omega)
  have hla : (sp N m).la = true := by rw [(la_sp N m).1]; simp; omega
  have h2 : (N.lf m).kd = 2 := by
    by_cases h2 : (N.lf m).kd = 2
    · exact h2
    · have := (win_ok h0 h2).2.2.2.1
      rw [hla] at this; cases this
  have h0' := h0
  unfold fl faE at h0'
  rw [if_neg (by omega), if_pos h2] at h0'
  have e5 : enE (N.lf m) (sp N m) = 0 := frF_z h0' 5 (by decide)
  have e0 : ouE (N.lf m) = 0 := frF_z h0' 0 (by decide)
  have e0 := zero_else (by decide) e0
  unfold enE at e5
  rw [if_pos hla] at e5
  have e5 := zero_else (by decide) e5
  refine ⟨h2, e5.1, e5.2, ?_, e0.1, e0.2, ?_⟩
  · unfold szN cN
    have e3 : (sp N (m + 1)).h = 1 := by show oH _ _ _ _ = _; unfold oH; rw [if_pos h2]
    have e4 : (sp N (m + 1)).v = 1 := by show oV _ _ _ _ = _; unfold oV; rw [if_pos h2]
    have e6 : (sp N (m + 1)).c = (N.lf m).k := by show oC _ _ _ _ = _; unfold oC; rw [if_pos h2]
    rw [e3, e4, e6]
    simp
  · unfold szN fanN cN fan
    rw [if_pos h2]
    obtain ⟨⟨⟨a1, a2⟩, ⟨a3, a4⟩, ⟨a5, a6⟩⟩, -⟩ := hs
    obtain ⟨H, eH⟩ := Int.eq_ofNat_of_zero_le (show 0 ≤ (sp N m).h by omega)
    obtain ⟨V, eV⟩ := Int.eq_ofNat_of_zero_le (show 0 ≤ (sp N m).v by omega)
    obtain ⟨C, eC⟩ := Int.eq_ofNat_of_zero_le (show 0 ≤ (sp N m).c by omega)
    rw [eH, eV, eC, ← Int.natCast_mul, ← Int.natCast_mul]
    rfl
/-- plain.Run OF EVERY NETWORK that may be, over an input of its size. -/
theorem prun_all (N : Nt) (hz : chE N = 0) (hc : ∀ i, i < N.ml → (N.lf i).mw ≤ (N.lf i).cw) (ao : Option Addr) (cap : Nat) (f : Nat → Int) (hf : ∀ j, j < szN N 0 → 0 ≤ f j ∧ f j ≤ 255) (w : World) (hN : NtW w N) (hx : RB w ao (szN N 0) f) :
    Calls Try.prog 17 #[ntv N, .slice ao (szN N 0) cap] w fun e w' => ∃ g cp, e = .returned (.tuple #[.agg #[.slice (some ⟨g, 0, none⟩) (szN N N.ml) cp, .int .i64 (grV (valN N (fun j => s8 (f j)) N.ml) (szN N N.ml))], .int .i64 0]) ∧ w.heap.size ≤ g ∧ R64 w' (some ⟨g, 0, none⟩) (szN N N.ml) (valN N (fun j => s8 (f j)) N.ml) ∧ Below w.heap.size w w' := by
  have h1 := (wh_parts (fl_all hz).1)
  obtain ⟨m, hm⟩ : ∃ m, N.ml = m + 1 := ⟨N.ml - 1, by have := h1.2.2; omega⟩
  have hl := last_ok hz hm
  refine prun_ok N (szN N) (valN N (fun j => s8 (f j))) hz ?_ (wrk_all N _ hz hc fun j hj => ?_) (by rw [hm, hl.2.2.2.1]; omega) ao cap f (fun j _ => rfl) w hN hx
  · unfold elN szN cN
    rw [if_pos h1.2.1]
    obtain ⟨⟨⟨a1, a2⟩, ⟨a3, a4⟩, ⟨a5, a6⟩⟩, -⟩ := chk_prod h1.2.1
    show _ = ((N.h.toNat * N.v.toNat * N.c.toNat : Nat) : Int)
    obtain ⟨H, eH⟩ := Int.eq_ofNat_of_zero_le (show 0 ≤ N.h by omega)
    obtain ⟨V, eV⟩ := Int.eq_ofNat_of_zero_le (show 0 ≤ N.v by omega)
    obtain ⟨C, eC⟩ := Int.eq_ofNat_of_zero_le (show 0 ≤ N.c by omega)
    rw [eH, eV, eC]
    push_cast
    rfl
  · have := hf j hj
    unfold s8
    split <;> omega
end Go.Proofs.Ytkodihmjjiadnaa.Nn
/- NETWORKS THAT ARE MADE: that they may be; how they lie. -/
namespace Go.Proofs.Ytkodihmjjiadnaa.Nn
open Go.RowKit

theorem mul3_le {a b c A B C : Int} (ha : 0 ≤ a ∧ a ≤ A) (hb : 0 ≤ b ∧ b ≤ B) (hc : 0 ≤ c ∧ c ≤ C) : 0 ≤ a * b * c ∧ a * b * c ≤ A * B * C := by
  have h1 : 0 ≤ a * b := Int.mul_nonneg ha.1 hb.1
  have h2 : a * b ≤ A * B := Int.mul_le_mul ha.2 hb.2 hb.1 (by omega)
  exact ⟨Int.mul_nonneg h1 hc.1, Int.mul_le_mul h2 hc.2 hc.1 (by have := Int.mul_nonneg (show 0 ≤ A by omega) (show 0 ≤ B by omega); omega)⟩
/-- A shape that is made: small. -/
def SmS (S : Sp) : Prop := (1 ≤ S.h ∧ S.h ≤ 15) ∧ (1 ≤ S.v ∧ S.v ≤ 15) ∧ (1 ≤ S.c ∧ S.c ≤ 4) ∧ 0 ≤ S.ah ∧ S.ah ≤ 1000000
theorem chk_small {h v c : Int} (a : 1 ≤ h ∧ h ≤ 100) (b : 1 ≤ v ∧ v ≤ 100) (d : 1 ≤ c ∧ c ≤ 100) : chk h v c = 0 := by
  have := mul3_le (a := h) (b := v) (c := c) (A := 100) (B := 100) (C := 100) (by omega) (by omega) (by omega)
  unfold chk
  rw [if_pos (show Sides h v c from ⟨by omega, by omega, by omega⟩), if_neg (by omega)]
theorem st_bd {n bf af wi st : Int} (h : wi ≤ bf + n + af) (h1 : 1 ≤ wi) (h2 : 1 ≤ st) : stN n bf af wi st = (n + bf + af - wi) / st + 1 ∧ 1 ≤ stN n bf af wi st ∧ stN n bf af wi st ≤ bf + n + af := by
  unfold stN
  rw [if_neg (by omega)]
  have e : bf + n + af - wi = n + bf + af - wi := by omega
  rw [e]
  have c1 : 0 ≤ (n + bf + af - wi) / st := Int.ediv_nonneg (by omega) (by omega)
  have c2 : (n + bf + af - wi) / st ≤ n + bf + af - wi := Int.ediv_le_self _ (by omega)
  exact ⟨rfl, by omega, by omega⟩
/-- The window of a layer that is made. -/
theorem sl_made {S : Sp} (hS : SmS S) {L : Ly} {k : Int} (hk : 1 ≤ k ∧ k ≤ 100) (hr : 1 ≤ L.r ∧ L.r ≤ S.h) (hs : 1 ≤ L.s ∧ L.s ≤ S.v) (hy : 1 ≤ L.sy ∧ L.sy ≤ 3) (hx : 1 ≤ L.sx ∧ L.sx ≤ 3) (ht : 0 ≤ L.t ∧ L.t ≤ 2) (hl : L.l = 0) (hb : L.b = 0) (hq : 0 ≤ L.q ∧ L.q ≤ 1) :
    WOk L.r L.s L.sy L.sx L.t L.l L.b L.q ∧ slE S.h S.v S.c L.r L.s L.sy L.sx L.t L.l L.b L.q k = 0 ∧ stN S.h L.t L.b L.r L.sy = (S.h + L.t + L.b - L.r) / L.sy + 1 ∧ stN S.v L.l L.q L.s L.sx = (S.v + L.l + L.q - L.s) / L.sx + 1 ∧ (1 ≤ stN S.h L.t L.b L.r L.sy ∧ stN S.h L.t L.b L.r L.sy ≤ S.h + 2) ∧ (1 ≤ stN S.v L.l L.q L.s L.sx ∧ stN S.v L.l L.q L.s L.sx ≤ S.v + 1) := by
  obtain ⟨a, b, c, -⟩ := hS
  have w : WOk L.r L.s L.sy L.sx L.t L.l L.b L.q := ⟨⟨by omega, by omega, by omega, by omega⟩, ⟨by omega, by omega, by omega, by omega⟩⟩
  obtain ⟨e1, e2, e3⟩ := st_bd (n := S.h) (bf := L.t) (af := L.b) (wi := L.r) (st := L.sy) (by omega) hr.1 hy.1
  obtain ⟨f1, f2, f3⟩ := st_bd (n := S.v) (bf := L.l) (af := L.q) (wi := L.s) (st := L.sx) (by omega) hs.1 hx.1
  refine ⟨w, ?_, e1, f1, ⟨e2, by omega⟩, ⟨f2, by omega⟩⟩
  unfold slE
  rw [if_neg (by rw [chk_small (by omega) (by omega) (by omega)]; decide), if_neg (by omega), if_neg (fun h => h w), if_neg (by unfold mn2; split <;> omega)]
  exact chk_small (by omega) (by omega) hk
/-- The weights, norms and biases of a layer that is made. -/
def WsOk (L : Ly) (F : Int) : Prop := (L.mw : Int) = L.k * F ∧ ∀ j, j < L.mw → okW L.wt (L.ws j)
def NsOk (L : Ly) : Prop := (L.mn : Int) = L.k ∧ L.mb = 0 ∧ ∀ j, j < L.mn → nno L j = 0
theorem made_conv {S : Sp} (hS : SmS S) (hla : S.la = false) {L : Ly} (h1 : L.kd = 1) (hwt : L.wt = 1 ∨ L.wt = 2) (hk : 1 ≤ L.k ∧ L.k ≤ 3) (hr : 1 ≤ L.r ∧ L.r ≤ S.h) (hs : 1 ≤ L.s ∧ L.s ≤ S.v) (hy : 1 ≤ L.sy ∧ L.sy ≤ 3) (hx : 1 ≤ L.sx ∧ L.sx ≤ 3) (ht : 0 ≤ L.t ∧ L.t ≤ 2) (hl : L.l = 0) (hb : L.b = 0) (hq : 0 ≤ L.q ∧ L.q ≤ 1) (hbd : L.bd = 0 ∨ (1 ≤ L.t + L.q ∧ -1 ≤ L.bd ∧ L.bd ≤ 1)) (hw : WsOk L (L.r * L.s * S.c)) (hn : NsOk L) : faE L S = 0 := by
  obtain ⟨w1, w2, -⟩ := sl_made hS (L := L) (k := L.k) (by omega) hr hs hy hx ht hl hb hq
  obtain ⟨a, b, c, d⟩ := hS
  have hf : fan L S.h S.v S.c = L.r * L.s * S.c := by unfold fan; rw [if_neg (by omega)]
  have hwc : wc L S.h S.v S.c = L.k * (L.r * L.s * S.c) := by unfold wc; rw [hf]
  have m1 := mul3_le (a := L.r) (b := L.s) (c := S.c) (A := 15) (B := 15) (C := 4) (by omega) (by omega) (by omega)
  have m2 : L.k * (L.r * L.s * S.c) ≤ 3 * (15 * 15 * 4) := Int.mul_le_mul hk.2 m1.2 m1.1 (by omega)
  unfold faE
  rw [if_pos h1]
  refine frF_ok fun j hj => ?_
  rcases (show j = 0 ∨ j = 1 ∨ j = 2 ∨ j = 3 ∨ j = 4 ∨ j = 5 ∨ j = 6 ∨ j = 7 ∨ j = 8 ∨ j = 9 by omega) with rfl | rfl | rfl | rfl | rfl | rfl | rfl | rfl | rfl | rfl
  · show (if S.la = true then (51 : Int) else 0) = 0
    rw [hla]; rfl
  · exact if_pos (by omega)
  · exact if_pos w1
  · refine if_pos ?_
    unfold Wz
    omega
  · show oE L S.h S.v S.c = 0
    unfold oE
    rw [if_neg (by omega), if_neg (by omega)]
    exact w2
  · exact if_pos hwt
  · show wrE L S = 0
    unfold wrE
    rw [hwc]
    exact if_pos (by omega)
  · show wsE L S = 0
    unfold wsE
    rw [hwc]
    exact if_pos ⟨hw.1, hw.2⟩
  · exact if_pos ⟨⟨hn.1, hn.2.1⟩, hn.2.2⟩
  · show reE L S = 0
    refine if_pos ⟨?_, fun j hj => by rw [hn.2.1] at hj; omega⟩
    unfold lef
    rw [hf]
    split <;> omega
theorem made_dense {S : Sp} (hS : SmS S) {L : Ly} (h2 : L.kd = 2) (hwt : L.wt = 1 ∨ L.wt = 2) (hk : 1 ≤ L.k ∧ L.k ≤ 3) (hz : L.r = 0 ∧ L.s = 0 ∧ L.sy = 0 ∧ L.sx = 0 ∧ L.t = 0 ∧ L.l = 0 ∧ L.b = 0 ∧ L.q = 0) (hbd : L.bd = 0) (hw : WsOk L (S.h * S.v * S.c)) (hn : (S.la = false ∧ NsOk L) ∨ (S.la = true ∧ (L.mb : Int) = L.k ∧ L.mn = 0 ∧ ∀ j, j < L.mb → -100 ≤ L.bs j ∧ L.bs j ≤ 100)) : faE L S = 0 := by
  obtain ⟨a, b, c, d⟩ := hS
  have hf : fan L S.h S.v S.c = S.h * S.v * S.c := by unfold fan; rw [if_pos h2]
  have hwc : wc L S.h S.v S.c = L.k * (S.h * S.v * S.c) := by unfold wc; rw [hf]
  have m1 := mul3_le (a := S.h) (b := S.v) (c := S.c) (A := 15) (B := 15) (C := 4) (by omega) (by omega) (by omega)
  have m2 : L.k * (S.h * S.v * S.c) ≤ 3 * (15 * 15 * 4) := Int.mul_le_mul hk.2 m1.2 m1.1 (by omega)
  unfold faE
  rw [if_neg (by omega), if_pos h2]
  refine frF_ok fun j hj => ?_
  rcases (show j = 0 ∨ j = 1 ∨ j = 2 ∨ j = 3 ∨ j = 4 ∨ j = 5 ∨ j = 6 by omega) with rfl | rfl | rfl | rfl | rfl | rfl | rfl
  · exact if_pos (by omega)
  · exact if_pos ⟨hz, hbd⟩
  · exact if_pos hwt
  · show wrE L S = 0
    unfold wrE
    rw [hwc]
    exact if_pos (by omega)
  · show wsE L S = 0
    unfold wsE
    rw [hwc]
    exact if_pos ⟨hw.1, hw.2⟩
  · show enE L S = 0
    unfold enE
    rcases hn with ⟨e, hn⟩ | ⟨e, hn⟩
    · rw [if_neg (by rw [e]; decide)]
      exact if_pos ⟨⟨hn.1, hn.2.1⟩, hn.2.2⟩
    · rw [if_pos e]
      exact if_pos ⟨hn.1, hn.2.1⟩
  · show reE L S = 0
    have hl : 2147000000 ≤ lef L S := by
      unfold lef
      rw [hf]
      split <;> omega
    refine if_pos ⟨by omega, fun j hj => ?_⟩
    unfold bok
    rcases hn with ⟨e, hn⟩ | ⟨e, hn⟩
    · rw [hn.2.1] at hj; omega
    · have := hn.2.2 j hj
      omega
theorem made_pool {S : Sp} (hS : SmS S) (hla : S.la = false) (hfs : S.fs = false) {L : Ly} (h3 : L.kd = 3) (hz : (L.k = 0 ∧ L.wt = 0 ∧ L.bd = 0) ∧ L.mw = 0 ∧ L.mn = 0 ∧ L.mb = 0) (hr : 1 ≤ L.r ∧ L.r ≤ S.h) (hs : 1 ≤ L.s ∧ L.s ≤ S.v) (hy : 1 ≤ L.sy ∧ L.sy ≤ 3) (hx : 1 ≤ L.sx ∧ L.sx ≤ 3) (hw : Wz L) : faE L S = 0 := by
  obtain ⟨z1, z2, z3, z4⟩ := hw
  obtain ⟨w1, w2, -⟩ := sl_made hS (L := L) (k := S.c) (by have := hS.2.2.1; omega) hr hs hy hx (by omega) z2 z3 (by omega)
  unfold faE
  rw [if_neg (by omega), if_neg (by omega), if_pos h3]
  refine frF_ok fun j hj => ?_
  rcases (show j = 0 ∨ j = 1 ∨ j = 2 ∨ j = 3 ∨ j = 4 ∨ j = 5 by omega) with rfl | rfl | rfl | rfl | rfl | rfl
  · show (if S.fs = true then (51 : Int) else 0) = 0
    rw [hfs]; rfl
  · show (if S.la = true then (51 : Int) else 0) = 0
    rw [hla]; rfl
  · exact if_pos hz
  · exact if_pos w1
  · exact if_pos ⟨z1, z2, z3, z4⟩
  · show oE L S.h S.v S.c = 0
    unfold oE
    rw [if_neg (by omega), if_pos h3]
    exact w2
/-- What comes out of a layer that is made, as after tells it. -/
theorem made_out {S : Sp} (hS : SmS S) {L : Ly} (h0 : faE L S = 0) (hw : L.kd = 2 ∨ ((1 ≤ L.r ∧ L.r ≤ S.h) ∧ (1 ≤ L.s ∧ L.s ≤ S.v) ∧ (1 ≤ L.sy ∧ L.sy ≤ 3) ∧ (1 ≤ L.sx ∧ L.sx ≤ 3) ∧ (0 ≤ L.t ∧ L.t ≤ 2) ∧ L.l = 0 ∧ L.b = 0 ∧ 0 ≤ L.q ∧ L.q ≤ 1)) :
    (L.kd = 2 ∨ (WOk L.r L.s L.sy L.sx L.t L.l L.b L.q ∧ L.r ≤ S.h + L.t + L.b ∧ L.s ≤ S.v + L.l + L.q)) ∧ oH L S.h S.v S.c = afH L S.h ∧ oV L S.h S.v S.c = afV L S.v ∧ (1 ≤ oH L S.h S.v S.c ∧ oH L S.h S.v S.c ≤ S.h + 2) ∧ (1 ≤ oV L S.h S.v S.c ∧ oV L S.h S.v S.c ≤ S.v + 1) ∧ oC L S.h S.v S.c = (if L.kd = 3 then S.c else L.k) := by
  have hS' := hS
  obtain ⟨a, b, c, d⟩ := hS'
  by_cases h2 : L.kd = 2
  · have e1 : oH L S.h S.v S.c = 1 := by unfold oH; rw [if_pos h2]
    have e2 : oV L S.h S.v S.c = 1 := by unfold oV; rw [if_pos h2]
    have e3 : oC L S.h S.v S.c = L.k := by unfold oC; rw [if_pos h2]
    have e4 : afH L S.h = 1 := by unfold afH; rw [if_pos h2]
    have e5 : afV L S.v = 1 := by unfold afV; rw [if_pos h2]
    rw [e1, e2, e3, e4, e5, if_neg (by omega)]
    exact ⟨.inl h2, rfl, rfl, by omega, by omega, rfl⟩
  · obtain ⟨hr, hs, hy, hx, ht, hl, hb, hq⟩ := hw.resolve_left h2
    obtain ⟨qo, q1, -⟩ := win_ok h0 h2
    obtain ⟨w1, -, e1, e2, e3, e4⟩ := sl_made hS (L := L) (k := 1) (by omega) hr hs hy hx ht hl hb hq
    have f1 : oH L S.h S.v S.c = stN S.h L.t L.b L.r L.sy := by unfold oH; rw [if_neg h2, if_pos qo]
    have f2 : oV L S.h S.v S.c = stN S.v L.l L.q L.s L.sx := by unfold oV; rw [if_neg h2, if_pos qo]
    have f3 : oC L S.h S.v S.c = (if L.kd = 3 then S.c else L.k) := by unfold oC; rw [if_neg h2, if_pos qo]
    have e6 : afH L S.h = stN S.h L.t L.b L.r L.sy := by unfold afH; rw [if_neg h2, e1]
    have e7 : afV L S.v = stN S.v L.l L.q L.s L.sx := by unfold afV; rw [if_neg h2, e2]
    rw [f1, f2, f3, e6, e7]
    exact ⟨.inr ⟨w1, by omega, by omega⟩, rfl, rfl, e3, e4, rfl⟩
/-- The network that is made: its name. -/
def nmX : ByteArray := ⟨#[78, 101, 116, 95, 55, 45, 120]⟩
theorem nmX_ok : nmB nmX = true := by decide +kernel
abbrev mkN (H V C : Int) (M : Nat) (al : Option Addr) (cl : Nat) (lf : Nat → Ly) : Nt := ⟨nmX, H, V, C, al, M, cl, lf⟩
theorem sp_mk (H V C : Int) (M : Nat) (al al' : Option Addr) (cl cl' : Nat) (lf lf' : Nat → Ly) : ∀ i, (∀ j, j < i → lf j = lf' j) → sp (mkN H V C M al cl lf) i = sp (mkN H V C M al' cl' lf') i
  | 0, _ => rfl
  | i + 1, h => by
    have ih := sp_mk H V C M al al' cl cl' lf lf' i fun j hj => h j (by omega)
    have e := h i (by omega)
    simp only [sp, mkN] at ih ⊢
    rw [ih, e]
/-- A network under way: its first i layers have no fault. -/
def Mk (H V C : Int) (M i : Nat) (lf : Nat → Ly) : Prop :=
  (∀ j, j < i → fl (mkN H V C M none 0 lf) j = 0 ∧ (lf j).mw ≤ (lf j).cw ∧ (sp (mkN H V C M none 0 lf) j).h ≤ 5 + 2 * j) ∧ (1 ≤ (sp (mkN H V C M none 0 lf) i).h ∧ (sp (mkN H V C M none 0 lf) i).h ≤ 5 + 2 * i) ∧ (1 ≤ (sp (mkN H V C M none 0 lf) i).v ∧ (sp (mkN H V C M none 0 lf) i).v ≤ 5 + i) ∧ (1 ≤ (sp (mkN H V C M none 0 lf) i).c ∧ (sp (mkN H V C M none 0 lf) i).c ≤ 4) ∧ (0 ≤ (sp (mkN H V C M none 0 lf) i).ah ∧ (sp (mkN H V C M none 0 lf) i).ah ≤ 10000 * i)
theorem Mk.sms {H V C : Int} {M i : Nat} {lf : Nat → Ly} (h : Mk H V C M i lf) (hi : i ≤ 4) : SmS (sp (mkN H V C M none 0 lf) i) := by
  obtain ⟨-, a, b, c, d⟩ := h
  exact ⟨by omega, by omega, by omega, by omega⟩
def sn (lf : Nat → Ly) (i : Nat) (L : Ly) : Nat → Ly := fun j => if j = i then L else lf j
theorem sn_ne {lf : Nat → Ly} {i : Nat} {L : Ly} {j : Nat} (h : j < i) : sn lf i L j = lf j := if_neg (by omega)
theorem sn_eq {lf : Nat → Ly} {i : Nat} {L : Ly} : sn lf i L i = L := if_pos rfl
theorem Mk.snoc {H V C : Int} {M i : Nat} {lf : Nat → Ly} (h : Mk H V C M i lf) (hi : i ≤ 3) {L : Ly} (h0 : faE L (sp (mkN H V C M none 0 lf) i) = 0) (hc : L.mw ≤ L.cw) (hk : 0 ≤ L.k ∧ L.k ≤ 3)
    (hw : L.kd = 2 ∨ ((1 ≤ L.r ∧ L.r ≤ (sp (mkN H V C M none 0 lf) i).h) ∧ (1 ≤ L.s ∧ L.s ≤ (sp (mkN H V C M none 0 lf) i).v) ∧ (1 ≤ L.sy ∧ L.sy ≤ 3) ∧ (1 ≤ L.sx ∧ L.sx ≤ 3) ∧ (0 ≤ L.t ∧ L.t ≤ 2) ∧ L.l = 0 ∧ L.b = 0 ∧ 0 ≤ L.q ∧ L.q ≤ 1)) : Mk H V C M (i + 1) (sn lf i L) ∧ (sp (mkN H V C M none 0 (sn lf i L)) (i + 1)).h = afH L (sp (mkN H V C M none 0 lf) i).h ∧ (sp (mkN H V C M none 0 (sn lf i L)) (i + 1)).v = afV L (sp (mkN H V C M none 0 lf) i).v ∧ (sp (mkN H V C M none 0 (sn lf i L)) (i + 1)).c = (if L.kd = 3 then (sp (mkN H V C M none 0 lf) i).c else L.k) := by
  have hS := h.sms (by omega)
  have es : ∀ j, j ≤ i → sp (mkN H V C M none 0 (sn lf i L)) j = sp (mkN H V C M none 0 lf) j := fun j hj => sp_mk _ _ _ _ _ _ _ _ _ _ j fun q hq => sn_ne (by omega)
  obtain ⟨-, q1, q2, q3, q4, q5⟩ := made_out hS h0 hw
  have hst := sp_step (L := L) ⟨⟨by have := hS.1; omega, by have := hS.2.1; omega, by have := hS.2.2.1; omega⟩, by have := hS.2.2.2; omega⟩ h0
  have hfk : 0 ≤ fan L (sp (mkN H V C M none 0 lf) i).h (sp (mkN H V C M none 0 lf) i).v (sp (mkN H V C M none 0 lf) i).c ∧ fan L (sp (mkN H V C M none 0 lf) i).h (sp (mkN H V C M none 0 lf) i).v (sp (mkN H V C M none 0 lf) i).c ≤ 15 * 15 * 4 := by
    obtain ⟨a, b, c, d⟩ := hS
    unfold fan
    split
    · exact mul3_le (by omega) (by omega) (by omega)
    · have hw := hw.resolve_left (by assumption)
      exact mul3_le (by omega) (by omega) (by omega)
  have hwc : 0 ≤ wc L (sp (mkN H V C M none 0 lf) i).h (sp (mkN H V C M none 0 lf) i).v (sp (mkN H V C M none 0 lf) i).c ∧ wc L (sp (mkN H V C M none 0 lf) i).h (sp (mkN H V C M none 0 lf) i).v (sp (mkN H V C M none 0 lf) i).c ≤ 3 * (15 * 15 * 4) := by
    unfold wc
    exact ⟨Int.mul_nonneg hk.1 hfk.1, Int.mul_le_mul hk.2 hfk.2 hfk.1 (by omega)⟩
  have eH : (sp (mkN H V C M none 0 (sn lf i L)) (i + 1)).h = oH L (sp (mkN H V C M none 0 lf) i).h (sp (mkN H V C M none 0 lf) i).v (sp (mkN H V C M none 0 lf) i).c := by
    show oH (sn lf i L i) _ _ _ = _
    rw [sn_eq, es i (Nat.le_refl _)]
  have eV : (sp (mkN H V C M none 0 (sn lf i L)) (i + 1)).v = oV L (sp (mkN H V C M none 0 lf) i).h (sp (mkN H V C M none 0 lf) i).v (sp (mkN H V C M none 0 lf) i).c := by
    show oV (sn lf i L i) _ _ _ = _
    rw [sn_eq, es i (Nat.le_refl _)]
  have eC : (sp (mkN H V C M none 0 (sn lf i L)) (i + 1)).c = oC L (sp (mkN H V C M none 0 lf) i).h (sp (mkN H V C M none 0 lf) i).v (sp (mkN H V C M none 0 lf) i).c := by
    show oC (sn lf i L i) _ _ _ = _
    rw [sn_eq, es i (Nat.le_refl _)]
  have eA : (sp (mkN H V C M none 0 (sn lf i L)) (i + 1)).ah = (sp (mkN H V C M none 0 lf) i).ah + wc L (sp (mkN H V C M none 0 lf) i).h (sp (mkN H V C M none 0 lf) i).v (sp (mkN H V C M none 0 lf) i).c := by
    show (sp (mkN H V C M none 0 (sn lf i L)) i).ah + wc (sn lf i L i) _ _ _ = _
    rw [sn_eq, es i (Nat.le_refl _)]
  obtain ⟨h1, h2, h3, h4, h5⟩ := h
  refine ⟨⟨fun j hj => ?_, ?_, ?_, ?_, ?_⟩, by rw [eH, q1], by rw [eV, q2], by rw [eC, q5]⟩
  · by_cases hji : j = i
    · subst hji
      refine ⟨?_, by rw [sn_eq]; exact hc, by rw [es j (Nat.le_refl _)]; exact h2.2⟩
      show faE (sn lf j L j) _ = 0
      rw [sn_eq, es j (Nat.le_refl _)]
      exact h0
    · obtain ⟨g1, g2, g3⟩ := h1 j (by omega)
      refine ⟨?_, by rw [sn_ne (by omega)]; exact g2, by rw [es j (by omega)]; exact g3⟩
      show faE (sn lf i L j) _ = 0
      rw [sn_ne (by omega), es j (by omega)]
      exact g1
  · rw [eH]; push_cast; omega
  · rw [eV]; push_cast; omega
  · rw [eC]
    have := hst.1.2.2
    rw [q5] at this ⊢
    split <;> omega
  · rw [eA]; push_cast; omega
end Go.Proofs.Ytkodihmjjiadnaa.Nn
/- NETWORKS THAT ARE MADE: how they lie in memory. -/
namespace Go.Proofs.Ytkodihmjjiadnaa.Nn
open Go.RowKit

/-- Lists of pieces. -/
def rl (F : Nat → List Value) : Nat → List Value
  | 0 => []
  | n + 1 => rl F n ++ F n
theorem rl_len {F : Nat → List Value} {s : Nat} (h : ∀ j, (F j).length = s) : ∀ n, (rl F n).length = n * s
  | 0 => by simp [rl]
  | n + 1 => by rw [rl, List.length_append, rl_len h n, h, Nat.succ_mul]
theorem rl_get {F : Nat → List Value} {s : Nat} (h : ∀ j, (F j).length = s) : ∀ n {j c : Nat}, j < n → c < s → (rl F n)[j * s + c]? = (F j)[c]?
  | 0, j, c, hj, hc => by omega
  | n + 1, j, c, hj, hc => by
    rw [rl]
    by_cases hjn : j < n
    · have hl : j * s + s ≤ n * s := by have := Nat.mul_le_mul_right s (show j + 1 ≤ n by omega); rw [Nat.succ_mul] at this; exact this
      rw [List.getElem?_append_left (by rw [rl_len h]; omega)]
      exact rl_get h n hjn hc
    · obtain rfl : j = n := by omega
      rw [List.getElem?_append_right (by rw [rl_len h]; omega), rl_len h, Nat.add_sub_cancel_left]
theorem rl_congr {F G : Nat → List Value} : ∀ n, (∀ j, j < n → F j = G j) → rl F n = rl G n
  | 0, _ => rfl
  | n + 1, h => by rw [rl, rl, rl_congr n fun j hj => h j (by omega), h n (by omega)]
theorem nmL_rl (ns : Nat → Nat → Int) : ∀ n, nmL ns n = rl (fun j => nmC (ns j)) n
  | 0 => rfl
  | n + 1 => by rw [nmL, rl, nmL_rl ns n]
/-- A layer's fifteen cells. -/
def lyC (L : Ly) : List Value := [.int .i64 L.kd, .int .i64 L.wt, .int .i64 L.k, .int .i64 L.r, .int .i64 L.s, .int .i64 L.sy, .int .i64 L.sx, .int .i64 L.t, .int .i64 L.l, .int .i64 L.b, .int .i64 L.q, .int .i64 L.bd, .slice L.aw L.mw L.cw, .slice L.an L.mn L.cn, .slice L.ab L.mb L.cb]
abbrev lyLs (lf : Nat → Ly) (n : Nat) : List Value := rl (fun j => lyC (lf j)) n
theorem own_cellsS {W : World} {base e s n uc : Nat} {ua : Option Addr} {xs : List Value} (h : W.ownsRow base e s (.slice ua n uc) n xs) (hn : 1 ≤ n) : ∃ g, ua = some ⟨g, 0, none⟩ ∧ n ≤ uc ∧ base ≤ g ∧ g < W.heap.size ∧ ∀ k, k < n * s → W.cell? ⟨g, k, none⟩ = xs[k]? := by
  rcases h.2 with ⟨_, h0⟩ | ⟨g, cap, cur, hv, hb, hg, h4, h5, h6, h7⟩
  · omega
  · cases hv
    refine ⟨g, rfl, h4, hb, (Array.getElem?_eq_some_iff.1 hg).1, fun k hk => ?_⟩
    rw [← h7, List.getElem?_take_of_lt hk]
    rw [Array.getElem?_toList]
    simp [World.cell?, hg]
theorem own_setD {W : World} {base e size n c j : Nat} {v : Value} {xs : List Value} {u : Value} (h : W.ownsRow base e size v n xs) (hc : c < base) : (W.setCell ⟨c, j, none⟩ u).ownsRow base e size v n xs :=
  h.kept (row := some c) ⟨rfl, rfl, rfl, by simp, fun k _ hne => Below.heap_setCell _ _ _ _ (fun e => hne (by rw [e]))⟩ (by
    cases hv : v.ownBlock with
    | none => exact .inl rfl
    | some q => exact .inr (fun e => by cases e; have := (h.lt c hv).1; omega))
theorem own_neD {W : World} {b1 b2 e1 e2 s1 s2 n1 n2 : Nat} {v1 v2 : Value} {x1 x2 : List Value} (h1 : W.ownsRow b1 e1 s1 v1 n1 x1) (h2 : W.ownsRow b2 e2 s2 v2 n2 x2) (hne : e1 ≠ e2) : v1.ownBlock = none ∨ v1.ownBlock ≠ v2.ownBlock := by
  rcases h1.2 with ⟨e, _⟩ | ⟨g, c, cu, e, _, hg, _⟩
  · subst e; exact .inl rfl
  · refine .inr fun he => ?_
    rcases h2.2 with ⟨e', _⟩ | ⟨g', c', cu', e', _, hg', _⟩
    · subst e e'; cases he
    · subst e e'
      have : g = g' := by simpa [Value.ownBlock] using he
      subst this
      rw [hg] at hg'
      simp at hg'
      exact hne hg'.2
/-- A layer's lists, each in memory of its own. -/
def Lo (W : World) (base : Nat) (L : Ly) : Prop := W.ownsRow base 49 1 (.slice L.aw L.mw L.cw) L.mw (i8L ((List.range L.mw).map L.ws)) ∧ W.ownsRow base 71 8 (.slice L.an L.mn L.cn) L.mn (nmL L.ns L.mn) ∧ W.ownsRow base 2 1 (.slice L.ab L.mb L.cb) L.mb (i64L ((List.range L.mb).map L.bs))
theorem Lo.mono {W : World} {b1 b2 : Nat} {L : Ly} (h : Lo W b1 L) (hb : b2 ≤ b1) : Lo W b2 L := ⟨h.1.mono hb, h.2.1.mono hb, h.2.2.mono hb⟩
theorem Lo.bl {W X : World} {base : Nat} {L : Ly} (h : Lo W base L) (hb : Below W.heap.size W X) : Lo X base L := ⟨own_bl h.1 hb, own_bl h.2.1 hb, own_bl h.2.2 hb⟩
theorem Lo.set {W : World} {base c j : Nat} {L : Ly} {u : Value} (h : Lo W base L) (hc : c < base) : Lo (W.setCell ⟨c, j, none⟩ u) base L := ⟨own_setD h.1 hc, own_setD h.2.1 hc, own_setD h.2.2 hc⟩
theorem Lo.but {W X : World} {base c : Nat} {L : Ly} (h : Lo W base L) (hg : W.grownBy X (some c)) (hc : c < base) : Lo X base L := by
  have k : ∀ {e s n : Nat} {v : Value} {xs : List Value}, W.ownsRow base e s v n xs → X.ownsRow base e s v n xs := fun {e s n v xs} h => h.kept hg (by
    cases hv : v.ownBlock with
    | none => exact .inl rfl
    | some q => exact .inr (fun e => by cases e; have := (h.lt c hv).1; omega))
  exact ⟨k h.1, k h.2.1, k h.2.2⟩
theorem Lo.grow {W X : World} {base b2 s2 n2 e2 : Nat} {v2 : Value} {x2 : List Value} {L : Ly} (h : Lo W base L) (h2 : W.ownsRow b2 e2 s2 v2 n2 x2) (h8 : 49 ≠ e2) (hn : 71 ≠ e2) (h6 : 2 ≠ e2) (hg : W.grownBy X v2.ownBlock) : Lo X base L :=
  ⟨h.1.kept hg (own_neD h.1 h2 h8), h.2.1.kept hg (own_neD h.2.1 h2 hn), h.2.2.kept hg (own_neD h.2.2 h2 h6)⟩
theorem Lo.lst {W : World} {base : Nat} {L : Ly} (h : Lo W base L) (h1 : L.mw ≤ 1000000) (h2 : L.mn ≤ 1000000) (h3 : L.mb ≤ 1000000) : Lst W L := by
  refine ⟨fun j hj => ?_, fun j hj => ?_, fun j hj => ?_, by omega, by omega, by omega⟩
  · obtain ⟨g, e, -, -, -, hc⟩ := own_cellsS h.1 (by omega)
    refine ⟨g, 0, e, ?_⟩
    rw [Nat.zero_add, hc j (by omega)]
    simp [i8L, hj]
  · obtain ⟨g, e, -, -, -, hc⟩ := own_cellsS h.2.1 (by omega)
    refine ⟨g, 0, e, ?_⟩
    have hm : j * 8 + 8 ≤ L.mn * 8 := by omega
    have key : ∀ c, c < 8 → W.cell? ⟨g, 0 + j * 8 + c, none⟩ = (nmC (L.ns j))[c]? := fun c hc' => by
      rw [Nat.zero_add, hc _ (by omega), nmL_rl]
      exact rl_get (s := 8) (fun _ => rfl) L.mn hj hc'
    exact ⟨key 0 (by decide), key 1 (by decide), key 2 (by decide), key 3 (by decide), key 4 (by decide), key 5 (by decide), key 6 (by decide), key 7 (by decide)⟩
  · obtain ⟨g, e, -, -, -, hc⟩ := own_cellsS h.2.2 (by omega)
    refine ⟨g, 0, e, ?_⟩
    rw [Nat.zero_add, hc j (by omega)]
    simp [i64L, hj]
theorem info_lyD : (Try.prog.info? 45).map (fun i => (i.zero, i.size, i.bytes)) = some (some (.agg #[.int .i64 0, .int .i64 0, .int .i64 0, .int .i64 0, .int .i64 0, .int .i64 0, .int .i64 0, .int .i64 0, .int .i64 0, .int .i64 0, .int .i64 0, .int .i64 0, .slice none 0 0, .slice none 0 0, .slice none 0 0]), 15, 168) := by kernel_rfl
theorem und_lyD : Try.prog.underlying 26 = some (.slice 45) := by kernel_rfl
theorem app_lyD {ops : Array Oper} {rest : List Oper} {o : Oper} {a : Act} {Q : Exit → Act → World → Prop} {w : World} (hgd : o.guard = none) (s x : Operand)
    (ho : o.op = .call { callee := .builtin .append, args := #[s, x], argTypes := #[26, 26] }) (base : Nat) (v : Value) (xs : List Value) (n : Nat) (hs : a.eval s = v) (hown : w.ownsRow base 45 15 v n xs)
    (g : Nat) (L : Ly) (cb : Nat) (hx : a.eval x = .slice (some ⟨g, 0, none⟩) 1 cb) (hr : Lp w g L) (hM : n ≤ 1000000000) (hb : base ≤ w.heap.size)
    (h : ∀ v' w', w'.ownsRow base 45 15 v' (n + 1) (xs ++ lyC L) → w.grownBy w' v.ownBlock → wpList Try.prog ops Q rest (a.put o.dst v') w') : wpList Try.prog ops Q (o :: rest) a w := by
  obtain ⟨i0, hi, hz0, hz1, hz2⟩ := info_parts info_lyD
  obtain ⟨r0, r1, r2, r3, r4, r5, r6, r7, r8, r9, r10, r11, r12, r13, r14⟩ := hr
  refine wpList_append_own_at w hgd s x _ ho base 45 i0 _ 15 168 und_lyD hi hz0 hz1 hz2 rfl (by decide) v n xs hs hown ⟨g, 0, none⟩ 1 cb (lyC L) hx rfl
    (fun j u hu => ?_) (fun u hu => by simp [lyC] at hu; rcases hu with rfl | rfl | rfl | rfl | rfl | rfl | rfl | rfl | rfl | rfl | rfl | rfl | rfl | rfl | rfl <;> rfl) (by unfold maxLen; omega) (by omega) hb ?_
  · rcases j with _ | _ | _ | _ | _ | _ | _ | _ | _ | _ | _ | _ | _ | _ | _ | j
    · simp [lyC] at hu; subst hu; exact r0
    · simp [lyC] at hu; subst hu; exact r1
    · simp [lyC] at hu; subst hu; exact r2
    · simp [lyC] at hu; subst hu; exact r3
    · simp [lyC] at hu; subst hu; exact r4
    · simp [lyC] at hu; subst hu; exact r5
    · simp [lyC] at hu; subst hu; exact r6
    · simp [lyC] at hu; subst hu; exact r7
    · simp [lyC] at hu; subst hu; exact r8
    · simp [lyC] at hu; subst hu; exact r9
    · simp [lyC] at hu; subst hu; exact r10
    · simp [lyC] at hu; subst hu; exact r11
    · simp [lyC] at hu; subst hu; exact r12
    · simp [lyC] at hu; subst hu; exact r13
    · simp [lyC] at hu; subst hu; exact r14
    · simp [lyC] at hu
  · intro v' w' h1 h2 _ _
    exact h v' w' h1 h2
/-- A network that lies so is one that may be asked. -/
theorem mk_net {W : World} {base : Nat} {H V C : Int} {M : Nat} {ua : Option Addr} {uc : Nat} {lf : Nat → Ly} (hM : 1 ≤ M ∧ M ≤ 64) (hrow : W.ownsRow base 45 15 (.slice ua M uc) M (lyLs lf M)) (hlo : ∀ j, j < M → Lo W base (lf j) ∧ (lf j).mw ≤ 1000000 ∧ (lf j).mn ≤ 1000000 ∧ (lf j).mb ≤ 1000000) : NtW W (mkN H V C M ua uc lf) := by
  obtain ⟨g, e, -, -, -, hc⟩ := own_cellsS hrow hM.1
  refine ⟨fun j hj => ?_, by show M ≤ _; omega, (show (7 : Nat) ≤ 9223372036854775807 by decide)⟩
  have hj : j < M := hj
  have key : ∀ c, c < 15 → W.cell? ⟨g, 0 + j * 15 + c, none⟩ = (lyC (lf j))[c]? := fun c hc' => by
    rw [Nat.zero_add, hc _ (by omega)]
    exact rl_get (s := 15) (fun _ => rfl) M hj hc'
  obtain ⟨h1, h2, h3, h4⟩ := hlo j hj
  exact ⟨g, 0, e, ⟨key 0 (by decide), key 1 (by decide), key 2 (by decide), key 3 (by decide), key 4 (by decide), key 5 (by decide), key 6 (by decide), key 7 (by decide), key 8 (by decide), key 9 (by decide), key 10 (by decide), key 11 (by decide), key 12 (by decide), key 13 (by decide), key 14 (by decide)⟩, h1.lst h2 h3 h4⟩
end Go.Proofs.Ytkodihmjjiadnaa.Nn
/- NETWORKS THAT ARE MADE: the state under way. -/
namespace Go.Proofs.Ytkodihmjjiadnaa.Nn
open Go.RowKit

def netF (s : ByteArray) (H V C : Int) (u : Value) : Nat → Value := fun i => if i = 0 then .string s else if i = 1 then .int .i64 H else if i = 2 then .int .i64 V else if i = 3 then .int .i64 C else u
def shF (h v c : Int) : Nat → Value := fun i => if i = 0 then .int .i64 h else if i = 1 then .int .i64 v else .int .i64 c
def wnF (r s sy sx : Int) : Nat → Value := fun i => if i = 0 then .int .i64 r else if i = 1 then .int .i64 s else if i = 2 then .int .i64 sy else if i = 3 then .int .i64 sx else .int .i64 0
def lyf (L : Ly) : Nat → Value := fun i => if i = 0 then .int .i64 L.kd else if i = 1 then .int .i64 L.wt else if i = 2 then .int .i64 L.k else if i = 3 then .int .i64 L.r else if i = 4 then .int .i64 L.s else if i = 5 then .int .i64 L.sy else if i = 6 then .int .i64 L.sx else if i = 7 then .int .i64 L.t else if i = 8 then .int .i64 L.l else if i = 9 then .int .i64 L.b else if i = 10 then .int .i64 L.q else if i = 11 then .int .i64 L.bd else if i = 12 then .slice L.aw L.mw L.cw else if i = 13 then .slice L.an L.mn L.cn else .slice L.ab L.mb L.cb
theorem fif {i : Nat} (hi : i < 15) {p : Nat → Prop} (h : p 0 ∧ p 1 ∧ p 2 ∧ p 3 ∧ p 4 ∧ p 5 ∧ p 6 ∧ p 7 ∧ p 8 ∧ p 9 ∧ p 10 ∧ p 11 ∧ p 12 ∧ p 13 ∧ p 14) : p i := by
  obtain ⟨h0, h1, h2, h3, h4, h5, h6, h7, h8, h9, h10, h11, h12, h13, h14⟩ := h
  rcases (show i = 0 ∨ i = 1 ∨ i = 2 ∨ i = 3 ∨ i = 4 ∨ i = 5 ∨ i = 6 ∨ i = 7 ∨ i = 8 ∨ i = 9 ∨ i = 10 ∨ i = 11 ∨ i = 12 ∨ i = 13 ∨ i = 14 by omega) with rfl | rfl | rfl | rfl | rfl | rfl | rfl | rfl | rfl | rfl | rfl | rfl | rfl | rfl | rfl <;> assumption
theorem lyf_new (W : World) (L : Ly) (t : TypeId) : (W.alloc (.cells #[.int .i64 L.kd, .int .i64 L.wt, .int .i64 L.k, .int .i64 L.r, .int .i64 L.s, .int .i64 L.sy, .int .i64 L.sx, .int .i64 L.t, .int .i64 L.l, .int .i64 L.b, .int .i64 L.q, .int .i64 L.bd, .slice L.aw L.mw L.cw, .slice L.an L.mn L.cn, .slice L.ab L.mb L.cb] t)).rowIs W.heap.size t 15 (lyf L) :=
  World.rowIs_alloc W _ t _ fun i hi => by
    have hi' : i < 15 := by simpa using hi
    rcases (show i = 0 ∨ i = 1 ∨ i = 2 ∨ i = 3 ∨ i = 4 ∨ i = 5 ∨ i = 6 ∨ i = 7 ∨ i = 8 ∨ i = 9 ∨ i = 10 ∨ i = 11 ∨ i = 12 ∨ i = 13 ∨ i = 14 by omega) with rfl | rfl | rfl | rfl | rfl | rfl | rfl | rfl | rfl | rfl | rfl | rfl | rfl | rfl | rfl <;> rfl
theorem lyf_newD (W : World) (L : Ly) : ((W.alloc (lyo L)).drew).rowIs W.heap.size 45 15 (lyf L) := World.rowIs.of_block (lyf_new W L _) rfl
theorem lyf_set {W : World} {g : Nat} {t : TypeId} {L : Ly} (h : W.rowIs g t 15 (lyf L)) (L' : Ly) (c : Nat) (u : Value) (e : (if 0 = c then u else lyf L 0) = lyf L' 0 ∧ (if 1 = c then u else lyf L 1) = lyf L' 1 ∧ (if 2 = c then u else lyf L 2) = lyf L' 2 ∧ (if 3 = c then u else lyf L 3) = lyf L' 3 ∧ (if 4 = c then u else lyf L 4) = lyf L' 4 ∧ (if 5 = c then u else lyf L 5) = lyf L' 5 ∧ (if 6 = c then u else lyf L 6) = lyf L' 6 ∧ (if 7 = c then u else lyf L 7) = lyf L' 7 ∧ (if 8 = c then u else lyf L 8) = lyf L' 8 ∧ (if 9 = c then u else lyf L 9) = lyf L' 9 ∧ (if 10 = c then u else lyf L 10) = lyf L' 10 ∧ (if 11 = c then u else lyf L 11) = lyf L' 11 ∧ (if 12 = c then u else lyf L 12) = lyf L' 12 ∧ (if 13 = c then u else lyf L 13) = lyf L' 13 ∧ (if 14 = c then u else lyf L 14) = lyf L' 14) : (W.setCell ⟨g, c, none⟩ u).rowIs g t 15 (lyf L') := by
  refine (h.set c u).congr fun i hi => ?_
  exact fif (p := fun i => (if i = c then u else lyf L i) = lyf L' i) hi e
theorem lyf_cells {W : World} {g : Nat} {t : TypeId} {L : Ly} (h : W.rowIs g t 15 (lyf L)) : Lp W g L := ⟨h.cell (i := 0) (by decide), h.cell (i := 1) (by decide), h.cell (i := 2) (by decide), h.cell (i := 3) (by decide), h.cell (i := 4) (by decide), h.cell (i := 5) (by decide), h.cell (i := 6) (by decide), h.cell (i := 7) (by decide), h.cell (i := 8) (by decide), h.cell (i := 9) (by decide), h.cell (i := 10) (by decide), h.cell (i := 11) (by decide), h.cell (i := 12) (by decide), h.cell (i := 13) (by decide), h.cell (i := 14) (by decide)⟩
/-- The network under way: the answer's place, the network, the shape, the layers so far. -/
def MS (W : World) (b : Nat) (H V C h v c : Int) (lf : Nat → Ly) (i : Nat) (ua : Option Addr) (uc : Nat) : Prop :=
  W.rowIs b 28 5 (netF ⟨#[]⟩ 0 0 0 (.slice none 0 0)) ∧ W.rowIs (b + 1) 28 5 (netF nmX H V C (.slice ua i uc)) ∧ W.rowIs (b + 1 + 1) 25 3 (shF h v c) ∧ W.ownsRow (b + 3) 45 15 (.slice ua i uc) i (lyLs lf i) ∧ (∀ j, j < i → Lo W (b + 3) (lf j) ∧ (lf j).mw ≤ 1000000 ∧ (lf j).mn ≤ 1000000 ∧ (lf j).mb ≤ 1000000) ∧ b + 3 ≤ W.heap.size
theorem MS.keep {W X : World} {b : Nat} {H V C h v c : Int} {lf : Nat → Ly} {i : Nat} {ua : Option Addr} {uc : Nat} (k : MS W b H V C h v c lf i ua uc) (hb : Below W.heap.size W X) : MS X b H V C h v c lf i ua uc := by
  obtain ⟨a1, a2, a3, a4, a5, a6⟩ := k
  exact ⟨World.rowIs.of_block a1 (hb.block _ a1.lt), World.rowIs.of_block a2 (hb.block _ a2.lt), World.rowIs.of_block a3 (hb.block _ a3.lt), own_bl a4 hb, fun j hj => ⟨(a5 j hj).1.bl hb, (a5 j hj).2⟩, Nat.le_trans a6 hb.size⟩
/-- A layer of its kind and window, with nothing yet. -/
abbrev L0 (kd r s sy sx : Int) : Ly := ⟨kd, 0, 0, r, s, sy, sx, 0, 0, 0, 0, 0, none, 0, 0, none, 0, 0, none, 0, 0, fun _ => 0, fun _ _ => 0, fun _ => 0⟩
abbrev LK (kd wt k r s sy sx : Int) : Ly := ⟨kd, wt, k, r, s, sy, sx, 0, 0, 0, 0, 0, none, 0, 0, none, 0, 0, none, 0, 0, fun _ => 0, fun _ _ => 0, fun _ => 0⟩
/-- A layer with its norms. -/
abbrev L1 (kd wt : Int) (K : Nat) (r s sy sx : Int) (an : Option Addr) (cn : Nat) (ns : Nat → Nat → Int) : Ly := ⟨kd, wt, K, r, s, sy, sx, 0, 0, 0, 0, 0, none, 0, 0, an, K, cn, none, 0, 0, fun _ => 0, ns, fun _ => 0⟩
theorem lyf_i {P Q : Nat → Value} {i : Nat} (hi : i < 15) (h : P 0 = Q 0 ∧ P 1 = Q 1 ∧ P 2 = Q 2 ∧ P 3 = Q 3 ∧ P 4 = Q 4 ∧ P 5 = Q 5 ∧ P 6 = Q 6 ∧ P 7 = Q 7 ∧ P 8 = Q 8 ∧ P 9 = Q 9 ∧ P 10 = Q 10 ∧ P 11 = Q 11 ∧ P 12 = Q 12 ∧ P 13 = Q 13 ∧ P 14 = Q 14) : P i = Q i := fif (p := fun i => P i = Q i) hi h
/-- A layer with its window, its weights and its norms. -/
abbrev LV (kd wt : Int) (K : Nat) (r s sy sx t q bd : Int) (aw : Option Addr) (mw cw : Nat) (an : Option Addr) (cn : Nat) (ws : Nat → Int) (ns : Nat → Nat → Int) : Ly := ⟨kd, wt, K, r, s, sy, sx, t, 0, 0, q, bd, aw, mw, cw, an, K, cn, none, 0, 0, ws, ns, fun _ => 0⟩
theorem own_cap {W : World} {base e s n c : Nat} {a : Option Addr} {xs : List Value} (h : W.ownsRow base e s (.slice a n c) n xs) : n ≤ c := by
  by_cases hn : n = 0
  · omega
  · obtain ⟨g, -, h2, -⟩ := own_cellsS h (by omega)
    exact h2
/-- The last layer, under way. -/
def bsV (f : Nat → Int) (m t : Nat) : Int := pk5 f m t 200 - 100
def bsLL (f : Nat → Int) (m j : Nat) : List Int := (List.range j).map (bsV f m)
theorem bsLL_succ (f : Nat → Int) (m j : Nat) : bsLL f m (j + 1) = bsLL f m j ++ [bsV f m j] := by unfold bsLL; rw [List.range_succ, List.map_append]; rfl
abbrev LE (f : Nat → Int) (m K : Nat) (aw : Option Addr) (N cw : Nat) (za : Option Addr) (j zc : Nat) : Ly := ⟨2, 2, K, 0, 0, 0, 0, 0, 0, 0, 0, 0, aw, N, cw, none, 0, 0, za, j, zc, wgV f m 2, fun _ _ => 0, bsV f m⟩
theorem row5 {W : World} {g t : Nat} {F : Nat → Value} (h : W.rowIs g t 5 F) : W.heap[g]? = some (.cells #[F 0, F 1, F 2, F 3, F 4] t (0, 0)) := by
  obtain ⟨c, hc, hn, hF⟩ := h
  rw [hc]
  congr 2
  apply Array.ext_getElem?
  intro i
  by_cases hi : i < 5
  · rw [hF i hi]
    rcases (show i = 0 ∨ i = 1 ∨ i = 2 ∨ i = 3 ∨ i = 4 by omega) with rfl | rfl | rfl | rfl | rfl <;> rfl
  · rw [Array.getElem?_eq_none (by omega), Array.getElem?_eq_none (by simp; omega)]
theorem lo_nil (W : World) (base : Nat) (kd wt k r s sy sx t l b q bd : Int) : Lo W base ⟨kd, wt, k, r, s, sy, sx, t, l, b, q, bd, none, 0, 0, none, 0, 0, none, 0, 0, fun _ => 0, fun _ _ => 0, fun _ => 0⟩ := ⟨World.ownsRow_nil _ _ _ _, World.ownsRow_nil _ _ _ _, World.ownsRow_nil _ _ _ _⟩
theorem net_newF (W : World) (s : ByteArray) (H V C : Int) (u : Value) (t : TypeId) : (W.alloc (.cells #[.string s, .int .i64 H, .int .i64 V, .int .i64 C, u] t)).rowIs W.heap.size t 5 (netF s H V C u) :=
  World.rowIs_alloc W _ t _ fun i hi => by
    have hi' : i < 5 := by simpa using hi
    rcases (show i = 0 ∨ i = 1 ∨ i = 2 ∨ i = 3 ∨ i = 4 by omega) with rfl | rfl | rfl | rfl | rfl <;> rfl
theorem sh_newF (W : World) (h v c : Int) (t : TypeId) : (W.alloc (.cells #[.int .i64 h, .int .i64 v, .int .i64 c] t)).rowIs W.heap.size t 3 (shF h v c) :=
  World.rowIs_alloc W _ t _ fun i hi => by
    have hi' : i < 3 := by simpa using hi
    rcases (show i = 0 ∨ i = 1 ∨ i = 2 by omega) with rfl | rfl | rfl <;> rfl
theorem wn_newF (W : World) (r s sy sx : Int) (t : TypeId) : (W.alloc (.cells #[.int .i64 r, .int .i64 s, .int .i64 sy, .int .i64 sx, .int .i64 0, .int .i64 0, .int .i64 0, .int .i64 0] t)).rowIs W.heap.size t 8 (wnF r s sy sx) :=
  World.rowIs_alloc W _ t _ fun i hi => by
    have hi' : i < 8 := by simpa using hi
    rcases (show i = 0 ∨ i = 1 ∨ i = 2 ∨ i = 3 ∨ i = 4 ∨ i = 5 ∨ i = 6 ∨ i = 7 by omega) with rfl | rfl | rfl | rfl | rfl | rfl | rfl | rfl <;> rfl
theorem ms_new {w : World} {b : Nat} (hb0 : w.heap.size = b) (H V C : Int) (lf : Nat → Ly) : MS (((w.alloc (.cells #[.string ⟨#[]⟩, .int .i64 0, .int .i64 0, .int .i64 0, .slice none 0 0] 28)).alloc (.cells #[.string nmX, .int .i64 H, .int .i64 V, .int .i64 C, .slice none 0 0] 28)).alloc (.cells #[.int .i64 H, .int .i64 V, .int .i64 C] 25)) b H V C H V C lf 0 none 0 := by
  subst hb0
  refine ⟨((net_newF w _ _ _ _ _ _).alloc _).alloc _, ?_, ?_, World.ownsRow_nil _ _ _ _, fun j hj => absurd hj (Nat.not_lt_zero j), by simp⟩
  · have := (net_newF (w.alloc (.cells #[.string ⟨#[]⟩, .int .i64 0, .int .i64 0, .int .i64 0, .slice none 0 0] 28)) nmX H V C (.slice none 0 0) 28).alloc (.cells #[.int .i64 H, .int .i64 V, .int .i64 C] 25)
    simpa using this
  · have := sh_newF ((w.alloc (.cells #[.string ⟨#[]⟩, .int .i64 0, .int .i64 0, .int .i64 0, .slice none 0 0] 28)).alloc (.cells #[.string nmX, .int .i64 H, .int .i64 V, .int .i64 C, .slice none 0 0] 28)) H V C 25
    simpa using this
/-- A row of its own stays where a block of another type is set. -/
theorem own_setHi {W : World} {base e size n g j k t : Nat} {v : Value} {xs : List Value} {u : Value} {F : Nat → Value} (h : W.ownsRow base e size v n xs) (hl : g < W.heap.size) (hr : W.rowIs g t k F) (hne : e ≠ t) : (W.setCell ⟨g, j, none⟩ u).ownsRow base e size v n xs :=
  h.kept (row := some g) ⟨rfl, rfl, rfl, by simp, fun k _ hne => Below.heap_setCell _ _ _ _ (fun e => hne (by rw [e]))⟩ (by
    rcases h.2 with ⟨e', _⟩ | ⟨g', c', cu', e', _, hg', _⟩
    · subst e'; exact .inl rfl
    · subst e'
      refine .inr fun e => ?_
      have : g' = g := by simpa [Value.ownBlock] using e
      subst this
      obtain ⟨cs, hcs, -⟩ := hr
      rw [hg'] at hcs
      simp at hcs
      exact hne hcs.2)
theorem own_ne_row {W : World} {base e size n g k t : Nat} {v : Value} {xs : List Value} {F : Nat → Value} (h : W.ownsRow base e size v n xs) (hr : W.rowIs g t k F) (hne : e ≠ t) : ∀ q, v.ownBlock = some q → q ≠ g := by
  intro q hq e
  subst e
  rcases h.2 with ⟨e', _⟩ | ⟨g', c', cu', e', _, hg', _⟩
  · subst e'; cases hq
  · subst e'
    have : g' = q := by simpa [Value.ownBlock] using hq
    subst this
    obtain ⟨cs, hcs, -⟩ := hr
    rw [hg'] at hcs
    simp at hcs
    exact hne hcs.2
theorem own_setNe {W : World} {base e size n g j : Nat} {v : Value} {xs : List Value} {u : Value} (h : W.ownsRow base e size v n xs) (hne : ∀ q, v.ownBlock = some q → q ≠ g) : (W.setCell ⟨g, j, none⟩ u).ownsRow base e size v n xs :=
  h.kept (row := some g) ⟨rfl, rfl, rfl, by simp, fun k _ hne => Below.heap_setCell _ _ _ _ (fun e => hne (by rw [e]))⟩ (by
    cases hv : v.ownBlock with
    | none => exact .inl rfl
    | some q => exact .inr (fun e => by cases e; exact hne g hv rfl))
/-- What a layer that is made right has. -/
def Ld (L : Ly) (S : Sp) (c' : Int) : Prop := faE L S = 0 ∧ L.mw ≤ L.cw ∧ (0 ≤ L.k ∧ L.k ≤ 3) ∧ (L.kd = 2 ∨ ((1 ≤ L.r ∧ L.r ≤ S.h) ∧ (1 ≤ L.s ∧ L.s ≤ S.v) ∧ (1 ≤ L.sy ∧ L.sy ≤ 3) ∧ (1 ≤ L.sx ∧ L.sx ≤ 3) ∧ (0 ≤ L.t ∧ L.t ≤ 2) ∧ L.l = 0 ∧ L.b = 0 ∧ 0 ≤ L.q ∧ L.q ≤ 1)) ∧ c' = (if L.kd = 3 then S.c else L.k) ∧ L.mw ≤ 1000000 ∧ L.mn ≤ 1000000 ∧ L.mb ≤ 1000000
theorem lyLs_sn (lf : Nat → Ly) (i : Nat) (L : Ly) : lyLs (sn lf i L) (i + 1) = lyLs lf i ++ lyC L := by
  show rl _ i ++ lyC (sn lf i L i) = _
  rw [sn_eq, rl_congr (G := fun j => lyC (lf j)) i fun j hj => by rw [sn_ne hj]]
/-- One layer more. -/
theorem MS.snoc {X Y : World} {b : Nat} {H V C h v c : Int} {lf : Nat → Ly} {i : Nat} {ua a3 : Option Addr} {uc c3 : Nat} {L : Ly} (k : MS X b H V C h v c lf i ua uc) (lo : Lo X (b + 3) L) (hL : L.mw ≤ 1000000 ∧ L.mn ≤ 1000000 ∧ L.mb ≤ 1000000) (own : Y.ownsRow (b + 3) 45 15 (.slice a3 (i + 1) c3) (i + 1) (lyLs lf i ++ lyC L)) (gr : (X.alloc (lyo L)).grownBy Y (Value.slice ua i uc).ownBlock) : MS (Y.setCell ⟨b + 1, 4, none⟩ (.slice a3 (i + 1) c3)) b H V C h v c (sn lf i L) (i + 1) a3 c3 := by
  have hb1 : Below X.heap.size X (X.alloc (lyo L)) := bl_alloc (Below.refl _ _) _
  obtain ⟨a1, a2, a4, a5, a6, a7⟩ := k.keep hb1
  have huo : ∀ q, (Value.slice ua i uc).ownBlock = some q → b + 3 ≤ q := fun q hq => (a5.lt q hq).1
  have blk : ∀ {g t n F}, g < b + 3 → (X.alloc (lyo L)).rowIs g t n F → Y.rowIs g t n F := fun {g t n F} hg r => World.rowIs.of_block r (gr.block g r.lt (fun e => by have := huo g e.symm; omega))
  have hsz : (X.alloc (lyo L)).heap.size ≤ Y.heap.size := gr.size
  refine ⟨(blk (by omega) a1).setOther (by show b ≠ b + 1; omega) _, ?_, (blk (by omega) a4).setOther (by show b + 1 + 1 ≠ b + 1; omega) _, own_setD (by rw [lyLs_sn]; exact own) (by omega), fun j hj => ?_, by simp; omega⟩
  · refine ((blk (by omega) a2).set 4 (.slice a3 (i + 1) c3)).congr fun q hq => ?_
    rcases (show q = 0 ∨ q = 1 ∨ q = 2 ∨ q = 3 ∨ q = 4 by omega) with rfl | rfl | rfl | rfl | rfl <;> rfl
  · by_cases hji : j = i
    · subst hji
      rw [sn_eq]
      exact ⟨((lo.bl hb1).grow a5 (by decide) (by decide) (by decide) gr).set (by omega), hL⟩
    · rw [sn_ne (by omega)]
      obtain ⟨l1, l2⟩ := a6 j (by omega)
      exact ⟨(l1.grow a5 (by decide) (by decide) (by decide) gr).set (by omega), l2⟩
theorem MS.shape {W : World} {b : Nat} {H V C h v c : Int} {lf : Nat → Ly} {i : Nat} {ua : Option Addr} {uc : Nat} (k : MS W b H V C h v c lf i ua uc) (h' v' c' : Int) : MS (((W.setCell ⟨b + 1 + 1, 0, none⟩ (.int .i64 h')).setCell ⟨b + 1 + 1, 1, none⟩ (.int .i64 v')).setCell ⟨b + 1 + 1, 2, none⟩ (.int .i64 c')) b H V C h' v' c' lf i ua uc := by
  obtain ⟨a1, a2, a3, a4, a5, a6⟩ := k
  refine ⟨((a1.setOther (by show b ≠ b + 1 + 1; omega) _).setOther (by show b ≠ b + 1 + 1; omega) _).setOther (by show b ≠ b + 1 + 1; omega) _, ((a2.setOther (by show b + 1 ≠ b + 1 + 1; omega) _).setOther (by show b + 1 ≠ b + 1 + 1; omega) _).setOther (by show b + 1 ≠ b + 1 + 1; omega) _, ?_, own_setD (own_setD (own_setD a4 (by omega)) (by omega)) (by omega), fun j hj => ⟨(((a5 j hj).1.set (by omega)).set (by omega)).set (by omega), (a5 j hj).2⟩, by simp; omega⟩
  refine (((a3.set 0 (.int .i64 h')).set 1 (.int .i64 v')).set 2 (.int .i64 c')).congr fun q hq => ?_
  rcases (show q = 0 ∨ q = 1 ∨ q = 2 by omega) with rfl | rfl | rfl <;> rfl
theorem netF_all {W : World} {b : Nat} {H V C : Int} {u : Value} {F : Nat → Value} (h : W.rowIs b 28 5 F) : (((((W.setCell ⟨b, 0, none⟩ (.string nmX)).setCell ⟨b, 1, none⟩ (.int .i64 H)).setCell ⟨b, 2, none⟩ (.int .i64 V)).setCell ⟨b, 3, none⟩ (.int .i64 C)).setCell ⟨b, 4, none⟩ u).rowIs b 28 5 (netF nmX H V C u) := by
  refine (((((h.set 0 (.string nmX)).set 1 (.int .i64 H)).set 2 (.int .i64 V)).set 3 (.int .i64 C)).set 4 u).congr fun q hq => ?_
  rcases (show q = 0 ∨ q = 1 ∨ q = 2 ∨ q = 3 ∨ q = 4 by omega) with rfl | rfl | rfl | rfl | rfl <;> rfl
end Go.Proofs.Ytkodihmjjiadnaa.Nn
