import Derived.Test.YtkhlhcbbbhbgeaaNP5
import Derived.Test.YtkhlhcbbbhbgeaaQBPlainBig
import Derived.Test.YtkhlhcbbbhbgeaaNO6
import Derived.BigQuiet
import Derived.Test.YtkhlhcbbbhbgeaaOB1
import Derived.Test.YtkhlhcbbbhbgeaaDW7
import Derived.Deep.AppendLies
import Derived.Laws.AppendOwnNone
import Derived.WalkLawsBesides
import Derived.Test.YtkhlhcbbbhbgeaaQAPlainBig
import Derived.Test.YtkhlhcbbbhbgeaaNP4
import Derived.Test.YtkhlhcbbbhbgeaaSW3
import Derived.Test.YtkhlhcbbbhbgeaaSW4
import Derived.Test.YtkhlhcbbbhbgeaaNQ6
import Derived.Lib.QuietBelow
import Derived.Test.YtkhlhcbbbhbgeaaNF1
import Derived.Deep.DrawnRows
import Derived.Test.YtkhlhcbbbhbgeaaNQ7
import Derived.Test.YtkhlhcbbbhbgeaaNQ8
import Derived.Deep.DeepCutAuto
import Derived.Deep.RegionHeld3
import Derived.Test.YtkhlhcbbbhbgeaaNP6
import Derived.OwnWalk
import Derived.Deep.DeepAppendWide
import Derived.Laws.OwnMore
import Derived.Deep.Onto
import Derived.Deep.MidRow
/- NETWORKS: THE CHAPTER'S EXAMPLE. -/
namespace Go.Proofs.Ytkhlhcbbbhbgeaa.Nn
open Go.RowKit

def exA (B : Nat) : Ly := ⟨1, 1, 1, 2, 2, 1, 1, 1, 1, 1, 1, 1, some ⟨B + 4, 0, none⟩, 4, 4, some ⟨B + 5, 0, none⟩, 1, 1, none, 0, 0, fun j => [1, -1, -1, 1].getD j 0, fun _ i => [1, 1, 0, 1, 0, 1, 1, 1].getD i 0, fun _ => 0⟩
def exP : Ly := ⟨3, 0, 0, 2, 2, 1, 1, 0, 0, 0, 0, 0, none, 0, 0, none, 0, 0, none, 0, 0, fun _ => 0, fun _ _ => 0, fun _ => 0⟩
def exD (B : Nat) (x : Int) : Ly := ⟨2, 2, 2, 0, 0, 0, 0, 0, 0, 0, 0, 0, some ⟨B + 8, 0, none⟩, 8, 8, none, 0, 0, some ⟨B + 9, 0, none⟩, 2, 2, fun j => [1, 0, -1, 1, 0, 0, 0, 1].getD j 0, fun _ _ => 0, fun j => [x, -4].getD j 0⟩
def exN (B : Nat) (x : Int) : Nt := ⟨⟨#[110]⟩, 2, 2, 1, some ⟨B + 11, 0, none⟩, 3, 3, fun i => match i with | 0 => exA B | 1 => exP | _ => exD B x⟩
abbrev lcs (L : Ly) : List Value := [.int .i64 L.kd, .int .i64 L.wt, .int .i64 L.k, .int .i64 L.r, .int .i64 L.s, .int .i64 L.sy, .int .i64 L.sx, .int .i64 L.t, .int .i64 L.l, .int .i64 L.b, .int .i64 L.q, .int .i64 L.bd, .slice L.aw L.mw L.cw, .slice L.an L.mn L.cn, .slice L.ab L.mb L.cb]
abbrev i8c (l : List Int) : Array Value := (l.map (Value.int .i8)).toArray
abbrev i64c (l : List Int) : Array Value := (l.map (Value.int .i64)).toArray
abbrev exRow (B : Nat) : Array Value := #[.int .i64 (exA B).kd, .int .i64 (exA B).wt, .int .i64 (exA B).k, .int .i64 (exA B).r, .int .i64 (exA B).s, .int .i64 (exA B).sy, .int .i64 (exA B).sx, .int .i64 (exA B).t, .int .i64 (exA B).l, .int .i64 (exA B).b, .int .i64 (exA B).q, .int .i64 (exA B).bd, .slice (exA B).aw (exA B).mw (exA B).cw, .slice (exA B).an (exA B).mn (exA B).cn, .slice (exA B).ab (exA B).mb (exA B).cb, .int .i64 exP.kd, .int .i64 exP.wt, .int .i64 exP.k, .int .i64 exP.r, .int .i64 exP.s, .int .i64 exP.sy, .int .i64 exP.sx, .int .i64 exP.t, .int .i64 exP.l, .int .i64 exP.b, .int .i64 exP.q, .int .i64 exP.bd, .slice exP.aw exP.mw exP.cw, .slice exP.an exP.mn exP.cn, .slice exP.ab exP.mb exP.cb, .int .i64 (exD B 3).kd, .int .i64 (exD B 3).wt, .int .i64 (exD B 3).k, .int .i64 (exD B 3).r, .int .i64 (exD B 3).s, .int .i64 (exD B 3).sy, .int .i64 (exD B 3).sx, .int .i64 (exD B 3).t, .int .i64 (exD B 3).l, .int .i64 (exD B 3).b, .int .i64 (exD B 3).q, .int .i64 (exD B 3).bd, .slice (exD B 3).aw (exD B 3).mw (exD B 3).cw, .slice (exD B 3).an (exD B 3).mn (exD B 3).cn, .slice (exD B 3).ab (exD B 3).mb (exD B 3).cb]
/-- The example's lists lie in memory. -/
def ExB (W : World) (B : Nat) (x : Int) : Prop := W.heap[B + 4]? = some (.cells (i8c [1, -1, -1, 1]) 60) ∧ W.heap[B + 5]? = some (.cells (i64c [1, 1, 0, 1, 0, 1, 1, 1]) 62) ∧ W.heap[B + 8]? = some (.cells (i8c [1, 0, -1, 1, 0, 0, 0, 1]) 60) ∧ W.heap[B + 9]? = some (.cells (i64c [x, -4]) 2) ∧ W.heap[B + 11]? = some (.cells (exRow B) 47)
theorem lt_block {W : World} {b : Nat} {o : Obj} (h : W.heap[b]? = some o) : b < W.heap.size := (Array.getElem?_eq_some_iff.1 h).1
theorem keepb {W w' : World} (hb : Below W.heap.size W w') {b : Nat} {o : Obj} (h : W.heap[b]? = some o) : w'.heap[b]? = some o := (hb.block b (lt_block h)).trans h
theorem ExB.keep {W w' : World} {B : Nat} {x : Int} (h : ExB W B x) (hb : Below W.heap.size W w') : ExB w' B x := ⟨keepb hb h.1, keepb hb h.2.1, keepb hb h.2.2.1, keepb hb h.2.2.2.1, keepb hb h.2.2.2.2⟩
theorem bcl {W : World} {b : Nat} {cs : Array Value} {t : TypeId} (h : W.heap[b]? = some (.cells cs t)) {j : Nat} {v : Value} (e : cs[j]? = some v) : W.cell? ⟨b, j, none⟩ = some v := (block_cell h j).trans e
theorem four' {p : Nat → Prop} {i n : Nat} (h : i < n) (hp : ∀ j : Fin n, p j.1) : p i := hp ⟨i, h⟩
theorem lst_nil {W : World} {L : Ly} (h1 : L.mw = 0) (h2 : L.mn = 0) (h3 : L.mb = 0) : Lst W L := ⟨fun j hj => by omega, fun j hj => by omega, fun j hj => by omega, by omega, by omega, by omega⟩
set_option maxRecDepth 10000 in
theorem exB_A {W : World} {B : Nat} {x : Int} (h : ExB W B x) : Lst W (exA B) := by
  refine ⟨fun j hj => ⟨B + 4, 0, rfl, ?_⟩, fun j hj => ⟨B + 5, 0, rfl, ?_⟩, fun j hj => absurd hj (Nat.not_lt_zero j), (show (4 : Nat) ≤ 9223372036854775807 by decide), (show (1 : Nat) ≤ 9223372036854775807 by decide), (show (0 : Nat) ≤ 9223372036854775807 by decide)⟩
  · change j < 4 at hj
    rcases (show j = 0 ∨ j = 1 ∨ j = 2 ∨ j = 3 by omega) with rfl | rfl | rfl | rfl <;> exact bcl h.1 rfl
  · change j < 1 at hj
    obtain rfl : j = 0 := by omega
    exact ⟨bcl h.2.1 rfl, bcl h.2.1 rfl, bcl h.2.1 rfl, bcl h.2.1 rfl, bcl h.2.1 rfl, bcl h.2.1 rfl, bcl h.2.1 rfl, bcl h.2.1 rfl⟩
set_option maxRecDepth 10000 in
theorem exB_D {W : World} {B : Nat} {x : Int} (h : ExB W B x) : Lst W (exD B x) := by
  refine ⟨fun j hj => ⟨B + 8, 0, rfl, ?_⟩, fun j hj => absurd hj (Nat.not_lt_zero j), fun j hj => ⟨B + 9, 0, rfl, ?_⟩, (show (8 : Nat) ≤ 9223372036854775807 by decide), (show (0 : Nat) ≤ 9223372036854775807 by decide), (show (2 : Nat) ≤ 9223372036854775807 by decide)⟩
  · change j < 8 at hj
    rcases (show j = 0 ∨ j = 1 ∨ j = 2 ∨ j = 3 ∨ j = 4 ∨ j = 5 ∨ j = 6 ∨ j = 7 by omega) with rfl | rfl | rfl | rfl | rfl | rfl | rfl | rfl <;> exact bcl h.2.2.1 rfl
  · change j < 2 at hj
    rcases (show j = 0 ∨ j = 1 by omega) with rfl | rfl <;> exact bcl h.2.2.2.1 rfl
set_option maxRecDepth 10000 in
theorem exW {W : World} {B : Nat} {x : Int} (h : ExB W B x) : NtW W (exN B x) := by
  refine ⟨fun i hi => ⟨B + 11, 0, rfl, ?_⟩, (show (3 : Nat) ≤ 9223372036854775807 by decide), (show (1 : Nat) ≤ 9223372036854775807 by decide)⟩
  change i < 3 at hi
  have hb := h.2.2.2.2
  rcases (show i = 0 ∨ i = 1 ∨ i = 2 by omega) with rfl | rfl | rfl
  · exact ⟨⟨bcl hb rfl, bcl hb rfl, bcl hb rfl, bcl hb rfl, bcl hb rfl, bcl hb rfl, bcl hb rfl, bcl hb rfl, bcl hb rfl, bcl hb rfl, bcl hb rfl, bcl hb rfl, bcl hb rfl, bcl hb rfl, bcl hb rfl⟩, exB_A h⟩
  · exact ⟨⟨bcl hb rfl, bcl hb rfl, bcl hb rfl, bcl hb rfl, bcl hb rfl, bcl hb rfl, bcl hb rfl, bcl hb rfl, bcl hb rfl, bcl hb rfl, bcl hb rfl, bcl hb rfl, bcl hb rfl, bcl hb rfl, bcl hb rfl⟩, lst_nil rfl rfl rfl⟩
  · exact ⟨⟨bcl hb rfl, bcl hb rfl, bcl hb rfl, bcl hb rfl, bcl hb rfl, bcl hb rfl, bcl hb rfl, bcl hb rfl, bcl hb rfl, bcl hb rfl, bcl hb rfl, bcl hb rfl, bcl hb rfl, bcl hb rfl, bcl hb rfl⟩, exB_D h⟩
set_option maxRecDepth 10000 in
theorem ex_ok (B : Nat) : chE (exN B 3) = 0 ∧ chA (exN B 3) = 0 := by
  have h0 : whE (exN B 3) = 0 := by kernel_rfl
  refine ch_ok h0 fun j hj => ?_
  change j < 3 at hj
  rcases (show j = 0 ∨ j = 1 ∨ j = 2 by omega) with rfl | rfl | rfl <;> kernel_rfl
set_option maxRecDepth 10000 in
theorem ex_no (B : Nat) : chE (exN B 2147483644) = 55 ∧ chA (exN B 2147483644) = 2 := by
  have h0 : whE (exN B 2147483644) = 0 := by kernel_rfl
  have h2 : fl (exN B 2147483644) 2 = 55 := by kernel_rfl
  have := ch_at h0 (k := 2) (show 2 < 3 by decide) (fun j hj => by rcases (show j = 0 ∨ j = 1 by omega) with rfl | rfl <;> kernel_rfl) (by rw [h2]; decide)
  rw [h2] at this
  exact this
end Go.Proofs.Ytkhlhcbbbhbgeaa.Nn
/- NETWORKS: THE CHAPTER'S EXAMPLE, MADE. -/
namespace Go.Proofs.Ytkhlhcbbbhbgeaa.Nn
open Go.RowKit

theorem new_at {W : World} {g : Nat} (hg : W.heap.size = g) (o : Obj) : (W.alloc o).heap[g]? = some o := by subst hg; exact new_block W o
theorem old_at {W : World} {g : Nat} {o' : Obj} (h : W.heap[g]? = some o') (o : Obj) : (W.alloc o).heap[g]? = some o' := (old_block W o (lt_block h)).trans h
theorem bfz {W : World} {b : Nat} {cs : Array Value} {t : TypeId} (h : W.heap[b]? = some (.cells cs t)) (j : Nat) : W.frozen? ⟨b, j, none⟩ = false := by simp [World.frozen?, h]
theorem ExB.exc {W w' : World} {B b : Nat} {x : Int} (h : ExB W B x) (hb : Exc b W w') (hne : b ≤ B) : ExB w' B x := ⟨(hb.2 _ (by omega)).trans h.1, (hb.2 _ (by omega)).trans h.2.1, (hb.2 _ (by omega)).trans h.2.2.1, (hb.2 _ (by omega)).trans h.2.2.2.1, (hb.2 _ (by omega)).trans h.2.2.2.2⟩
theorem row_of_block {W : World} {b : Nat} {c : Array Value} {t : TypeId} (h : W.heap[b]? = some (.cells c t)) : W.rowIs b t c.size (fun i => (c[i]?).getD undef) := ⟨c, h, rfl, fun i hi => by simp [hi]⟩
theorem gen_body {P : Program} {fn : Func} {R : Ending → World → Prop} {x : Exit} {a : Act} {W : World} (p : World → Prop) (hp : p W) (h : ∀ W', p W' → bodyPost P fn R x a W') : bodyPost P fn R x a W := h W hp
theorem net_cells {W : World} {g : Nat} {t : TypeId} {f : Nat → Value} {a b c d e : Value} (h : W.rowIs g t 5 f) : (((((W.setCell ⟨g, 0, none⟩ a).setCell ⟨g, 1, none⟩ b).setCell ⟨g, 2, none⟩ c).setCell ⟨g, 3, none⟩ d).setCell ⟨g, 4, none⟩ e).rowIs g t 5 (fun j => match j with | 0 => a | 1 => b | 2 => c | 3 => d | _ => e) :=
  (((((h.set 0 a).set 1 b).set 2 c).set 3 d).set 4 e).congr fun i hi => by
    rcases (show i = 0 ∨ i = 1 ∨ i = 2 ∨ i = 3 ∨ i = 4 by omega) with rfl | rfl | rfl | rfl | rfl <;> rfl
abbrev netZ : Obj := .cells #[.string ⟨#[]⟩, .int .i64 0, .int .i64 0, .int .i64 0, .slice none 0 0] 31
abbrev layO (L : Ly) : Obj := .cells #[.int .i64 L.kd, .int .i64 L.wt, .int .i64 L.k, .int .i64 L.r, .int .i64 L.s, .int .i64 L.sy, .int .i64 L.sx, .int .i64 L.t, .int .i64 L.l, .int .i64 L.b, .int .i64 L.q, .int .i64 L.bd, .slice L.aw L.mw L.cw, .slice L.an L.mn L.cn, .slice L.ab L.mb L.cb] 47
abbrev row3 (LA LB LC : Ly) : Array Value := #[.int .i64 LA.kd, .int .i64 LA.wt, .int .i64 LA.k, .int .i64 LA.r, .int .i64 LA.s, .int .i64 LA.sy, .int .i64 LA.sx, .int .i64 LA.t, .int .i64 LA.l, .int .i64 LA.b, .int .i64 LA.q, .int .i64 LA.bd, .slice LA.aw LA.mw LA.cw, .slice LA.an LA.mn LA.cn, .slice LA.ab LA.mb LA.cb, .int .i64 LB.kd, .int .i64 LB.wt, .int .i64 LB.k, .int .i64 LB.r, .int .i64 LB.s, .int .i64 LB.sy, .int .i64 LB.sx, .int .i64 LB.t, .int .i64 LB.l, .int .i64 LB.b, .int .i64 LB.q, .int .i64 LB.bd, .slice LB.aw LB.mw LB.cw, .slice LB.an LB.mn LB.cn, .slice LB.ab LB.mb LB.cb, .int .i64 LC.kd, .int .i64 LC.wt, .int .i64 LC.k, .int .i64 LC.r, .int .i64 LC.s, .int .i64 LC.sy, .int .i64 LC.sx, .int .i64 LC.t, .int .i64 LC.l, .int .i64 LC.b, .int .i64 LC.q, .int .i64 LC.bd, .slice LC.aw LC.mw LC.cw, .slice LC.an LC.mn LC.cn, .slice LC.ab LC.mb LC.cb]
end Go.Proofs.Ytkhlhcbbbhbgeaa.Nn
/- PLAIN'S STATEMENTS: THE FIRST EXAMPLE, MADE. -/
namespace Go.Proofs.Ytkhlhcbbbhbgeaa.Nn
open Go.RowKit

def e6A (B : Nat) : Ly := ⟨2, 1, 2, 0, 0, 0, 0, 0, 0, 0, 0, 0, some ⟨B + 4, 0, none⟩, 4, 4, some ⟨B + 5, 0, none⟩, 2, 2, none, 0, 0, fun j => [1, 1, 1, -1].getD j 0, fun _ i => [1, 1, 0, 1, 0, 1, 1, 1].getD i 0, fun _ => 0⟩
def e6B (B : Nat) : Ly := ⟨2, 2, 2, 0, 0, 0, 0, 0, 0, 0, 0, 0, some ⟨B + 7, 0, none⟩, 4, 4, none, 0, 0, some ⟨B + 8, 0, none⟩, 2, 2, fun j => [1, 0, -1, 1].getD j 0, fun _ _ => 0, fun j => [0, 5].getD j 0⟩
def e6N (B : Nat) : Nt := ⟨⟨#[110]⟩, 1, 1, 2, some ⟨B + 10, 0, none⟩, 2, 2, fun i => match i with | 0 => e6A B | _ => e6B B⟩
abbrev e6Row (B : Nat) : Array Value := #[.int .i64 (e6A B).kd, .int .i64 (e6A B).wt, .int .i64 (e6A B).k, .int .i64 (e6A B).r, .int .i64 (e6A B).s, .int .i64 (e6A B).sy, .int .i64 (e6A B).sx, .int .i64 (e6A B).t, .int .i64 (e6A B).l, .int .i64 (e6A B).b, .int .i64 (e6A B).q, .int .i64 (e6A B).bd, .slice (e6A B).aw (e6A B).mw (e6A B).cw, .slice (e6A B).an (e6A B).mn (e6A B).cn, .slice (e6A B).ab (e6A B).mb (e6A B).cb, .int .i64 (e6B B).kd, .int .i64 (e6B B).wt, .int .i64 (e6B B).k, .int .i64 (e6B B).r, .int .i64 (e6B B).s, .int .i64 (e6B B).sy, .int .i64 (e6B B).sx, .int .i64 (e6B B).t, .int .i64 (e6B B).l, .int .i64 (e6B B).b, .int .i64 (e6B B).q, .int .i64 (e6B B).bd, .slice (e6B B).aw (e6B B).mw (e6B B).cw, .slice (e6B B).an (e6B B).mn (e6B B).cn, .slice (e6B B).ab (e6B B).mb (e6B B).cb]
def E6B (W : World) (B : Nat) : Prop := W.heap[B + 4]? = some (.cells (i8c [1, 1, 1, -1]) 60) ∧ W.heap[B + 5]? = some (.cells (i64c [1, 1, 0, 1, 0, 1, 1, 1, 1, 1, 0, 1, 0, 1, 1, 1]) 62) ∧ W.heap[B + 7]? = some (.cells (i8c [1, 0, -1, 1]) 60) ∧ W.heap[B + 8]? = some (.cells (i64c [0, 5]) 2) ∧ W.heap[B + 10]? = some (.cells (e6Row B) 47)
theorem E6B.keep {W w' : World} {B : Nat} (h : E6B W B) (hb : Below W.heap.size W w') : E6B w' B := ⟨keepb hb h.1, keepb hb h.2.1, keepb hb h.2.2.1, keepb hb h.2.2.2.1, keepb hb h.2.2.2.2⟩
set_option maxRecDepth 10000 in
theorem e6W {W : World} {B : Nat} (h : E6B W B) : NtW W (e6N B) := by
  refine ⟨fun i hi => ⟨B + 10, 0, rfl, ?_⟩, (show (2 : Nat) ≤ 9223372036854775807 by decide), (show (1 : Nat) ≤ 9223372036854775807 by decide)⟩
  change i < 2 at hi
  have hb := h.2.2.2.2
  rcases (show i = 0 ∨ i = 1 by omega) with rfl | rfl
  · refine ⟨⟨bcl hb rfl, bcl hb rfl, bcl hb rfl, bcl hb rfl, bcl hb rfl, bcl hb rfl, bcl hb rfl, bcl hb rfl, bcl hb rfl, bcl hb rfl, bcl hb rfl, bcl hb rfl, bcl hb rfl, bcl hb rfl, bcl hb rfl⟩, fun j hj => ⟨B + 4, 0, rfl, ?_⟩, fun j hj => ⟨B + 5, 0, rfl, ?_⟩, fun j hj => absurd hj (Nat.not_lt_zero j), (show (4 : Nat) ≤ 9223372036854775807 by decide), (show (2 : Nat) ≤ 9223372036854775807 by decide), (show (0 : Nat) ≤ 9223372036854775807 by decide)⟩
    · change j < 4 at hj
      rcases (show j = 0 ∨ j = 1 ∨ j = 2 ∨ j = 3 by omega) with rfl | rfl | rfl | rfl <;> exact bcl h.1 rfl
    · change j < 2 at hj
      have h5 := h.2.1
      rcases (show j = 0 ∨ j = 1 by omega) with rfl | rfl
      · exact ⟨bcl h5 rfl, bcl h5 rfl, bcl h5 rfl, bcl h5 rfl, bcl h5 rfl, bcl h5 rfl, bcl h5 rfl, bcl h5 rfl⟩
      · exact ⟨bcl h5 rfl, bcl h5 rfl, bcl h5 rfl, bcl h5 rfl, bcl h5 rfl, bcl h5 rfl, bcl h5 rfl, bcl h5 rfl⟩
  · refine ⟨⟨bcl hb rfl, bcl hb rfl, bcl hb rfl, bcl hb rfl, bcl hb rfl, bcl hb rfl, bcl hb rfl, bcl hb rfl, bcl hb rfl, bcl hb rfl, bcl hb rfl, bcl hb rfl, bcl hb rfl, bcl hb rfl, bcl hb rfl⟩, fun j hj => ⟨B + 7, 0, rfl, ?_⟩, fun j hj => absurd hj (Nat.not_lt_zero j), fun j hj => ⟨B + 8, 0, rfl, ?_⟩, (show (4 : Nat) ≤ 9223372036854775807 by decide), (show (0 : Nat) ≤ 9223372036854775807 by decide), (show (2 : Nat) ≤ 9223372036854775807 by decide)⟩
    · change j < 4 at hj
      rcases (show j = 0 ∨ j = 1 ∨ j = 2 ∨ j = 3 by omega) with rfl | rfl | rfl | rfl <;> exact bcl h.2.2.1 rfl
    · change j < 2 at hj
      rcases (show j = 0 ∨ j = 1 by omega) with rfl | rfl <;> exact bcl h.2.2.2.1 rfl
set_option maxRecDepth 10000 in
theorem e6_ok (B : Nat) : chE (e6N B) = 0 ∧ chA (e6N B) = 0 := by
  have h0 : whE (e6N B) = 0 := by kernel_rfl
  refine ch_ok h0 fun j hj => ?_
  change j < 2 at hj
  rcases (show j = 0 ∨ j = 1 by omega) with rfl | rfl <;> kernel_rfl
set_option maxRecDepth 10000 in
theorem e6_sz (B : Nat) : szN (e6N B) 0 = 2 ∧ szN (e6N B) 1 = 2 ∧ szN (e6N B) 2 = 2 ∧ toN (e6N B) = 4 := ⟨by kernel_rfl, by kernel_rfl, by kernel_rfl, by kernel_rfl⟩
theorem e6_run (B : Nat) : valN (e6N B) (fun j => s8 ([128, 127].getD j 0)) 2 0 = -1 ∧ valN (e6N B) (fun j => s8 ([128, 127].getD j 0)) 2 1 = 5 := ⟨by kernel_rfl, by kernel_rfl⟩
theorem e6_tr (B : Nat) : (valN (e6N B) (fun j => s8 ([3, 4].getD j 0)) 1 0 = 1 ∧ valN (e6N B) (fun j => s8 ([3, 4].getD j 0)) 1 1 = -1) ∧ valN (e6N B) (fun j => s8 ([3, 4].getD j 0)) 2 0 = 1 ∧ valN (e6N B) (fun j => s8 ([3, 4].getD j 0)) 2 1 = 3 := ⟨⟨by kernel_rfl, by kernel_rfl⟩, by kernel_rfl, by kernel_rfl⟩
theorem heap_five {Y : World} {b c i j k l m : Nat} {u v x z y : Value} (hn : b ≠ c) : (((((Y.setCell ⟨c, i, none⟩ u).setCell ⟨c, j, none⟩ v).setCell ⟨c, k, none⟩ x).setCell ⟨c, l, none⟩ z).setCell ⟨c, m, none⟩ y).heap[b]? = Y.heap[b]? := by rw [Below.heap_setCell _ _ _ _ (by show b ≠ c; exact hn), heap_four hn]
set_option maxHeartbeats 3200000 in
set_option maxRecDepth 100000 in
theorem example6_any (w : World) : Calls Try.prog 16 #[] w fun e w' => e = .returned (ntv (e6N w.heap.size)) ∧ E6B w' w.heap.size ∧ Below w.heap.size w w' := by
  obtain ⟨B, hB⟩ : ∃ B, w.heap.size = B := ⟨_, rfl⟩
  rw [hB]
  go_enter Try.func16, Try.ntmps16
  go_upto_region 4 with fail
  refine gen_world (fun X => Below w.heap.size w X ∧ X.heap.size = B + 4 ∧ X.heap[B]? = some netZ ∧ X.heap[B + 3]? = some (.cells (i64c [1, 1, 0, 1, 0, 1, 1, 1]) 62)) ⟨by repeat (first | (with_reducible exact Below.refl _ _) | (with_reducible refine bl_alloc ?_ _) | (with_reducible refine Below.drew ?_) | (with_reducible refine bl_drewN ?_ _) | (with_reducible refine bl_set ?_ (by omega) _) | (with_reducible refine bl_step ?_ (by assumption))), by simp [hB], old_at (old_at (old_at (new_at hB _) _) _) _, new_at (by simp [hB]) _⟩ ?_
  rintro X ⟨BX, zX, r0, r3⟩
  have w0 := bcl r3 (j := 0) rfl; have w1 := bcl r3 (j := 1) rfl; have w2 := bcl r3 (j := 2) rfl; have w3 := bcl r3 (j := 3) rfl; have w4 := bcl r3 (j := 4) rfl; have w5 := bcl r3 (j := 5) rfl; have w6 := bcl r3 (j := 6) rfl; have w7 := bcl r3 (j := 7) rfl
  have l1 : B + 3 < X.heap.size := by omega
  go_upto_region 5 with fail
  clear w0 w1 w2 w3 w4 w5 w6 w7 l1
  refine gen_world (fun Y => Below w.heap.size w Y ∧ Y.heap.size = B + 7 ∧ Y.heap[B]? = some netZ ∧ Y.heap[B + 4]? = some (.cells (i8c [1, 1, 1, -1]) 60) ∧ Y.heap[B + 5]? = some (.cells (i64c [1, 1, 0, 1, 0, 1, 1, 1, 1, 1, 0, 1, 0, 1, 1, 1]) 62) ∧ Y.heap[B + 6]? = some (layO (e6A B))) ⟨by repeat (first | (with_reducible exact Below.refl _ _) | (with_reducible refine bl_alloc ?_ _) | (with_reducible refine Below.drew ?_) | (with_reducible refine bl_drewN ?_ _) | (with_reducible refine bl_set ?_ (by omega) _) | (with_reducible refine bl_step ?_ (by assumption))), by simp [zX], old_at (old_at (old_at r0 _) _) _, old_at (old_at (new_at zX _) _) _, old_at (new_at (by simp [zX]) _) _, new_at (by simp [zX]) _⟩ ?_
  clear r0 r3 zX BX X
  rintro Y ⟨BY, zY, r0, r4, r5, r6⟩
  go_upto_region 6 with fail
  refine gen_world (fun Z => Below w.heap.size w Z ∧ Z.heap.size = B + 10 ∧ Z.heap[B]? = some netZ ∧ Z.heap[B + 4]? = some (.cells (i8c [1, 1, 1, -1]) 60) ∧ Z.heap[B + 5]? = some (.cells (i64c [1, 1, 0, 1, 0, 1, 1, 1, 1, 1, 0, 1, 0, 1, 1, 1]) 62) ∧ Z.heap[B + 6]? = some (layO (e6A B)) ∧ Z.heap[B + 7]? = some (.cells (i8c [1, 0, -1, 1]) 60) ∧ Z.heap[B + 8]? = some (.cells (i64c [0, 5]) 2) ∧ Z.heap[B + 9]? = some (layO (e6B B))) ⟨by repeat (first | (with_reducible exact Below.refl _ _) | (with_reducible refine bl_alloc ?_ _) | (with_reducible refine Below.drew ?_) | (with_reducible refine bl_drewN ?_ _) | (with_reducible refine bl_set ?_ (by omega) _) | (with_reducible refine bl_step ?_ (by assumption))), by simp [zY], old_at (old_at (old_at r0 _) _) _, old_at (old_at (old_at r4 _) _) _, old_at (old_at (old_at r5 _) _) _, old_at (old_at (old_at r6 _) _) _, old_at (old_at (new_at zY _) _) _, old_at (new_at (by simp [zY]) _) _, new_at (by simp [zY]) _⟩ ?_
  clear r0 r4 r5 r6 zY BY Y
  rintro Z ⟨BZ, zZ, r0, r4, r5, r6, r7, r8, r9⟩
  have ⟨a0, a1, a2, a3, a4, a5, a6, a7, a8, a9, a10, a11, a12, a13, a14⟩ : Lp Z (B + 6) (e6A B) := ⟨bcl r6 rfl, bcl r6 rfl, bcl r6 rfl, bcl r6 rfl, bcl r6 rfl, bcl r6 rfl, bcl r6 rfl, bcl r6 rfl, bcl r6 rfl, bcl r6 rfl, bcl r6 rfl, bcl r6 rfl, bcl r6 rfl, bcl r6 rfl, bcl r6 rfl⟩
  have ⟨b0, b1, b2, b3, b4, b5, b6, b7, b8, b9, b10, b11, b12, b13, b14⟩ : Lp Z (B + 9) (e6B B) := ⟨bcl r9 rfl, bcl r9 rfl, bcl r9 rfl, bcl r9 rfl, bcl r9 rfl, bcl r9 rfl, bcl r9 rfl, bcl r9 rfl, bcl r9 rfl, bcl r9 rfl, bcl r9 rfl, bcl r9 rfl, bcl r9 rfl, bcl r9 rfl, bcl r9 rfl⟩
  have HR := hid1 (row_of_block r0)
  have hlt := lt_block r0
  have n0 := bcl r0 (j := 0) rfl; have n1 := bcl r0 (j := 1) rfl; have n2 := bcl r0 (j := 2) rfl; have n3 := bcl r0 (j := 3) rfl; have n4 := bcl r0 (j := 4) rfl
  have z0 := bfz r0 0; have z1 := bfz r0 1; have z2 := bfz r0 2; have z3 := bfz r0 3; have z4 := bfz r0 4
  have HZ := hid1 (And.intro r4 (And.intro r5 (And.intro r7 (And.intro r8 zZ))))
  have HBZ := hid1 BZ
  clear r0 r4 r5 r6 r7 r8 r9 BZ
  go_wp2_with fail
  clear n0 n1 n2 n3 n4 z0 z1 z2 z3 z4 a0 a1 a2 a3 a4 a5 a6 a7 a8 a9 a10 a11 a12 a13 a14 b0 b1 b2 b3 b4 b5 b6 b7 b8 b9 b10 b11 b12 b13 b14
  obtain ⟨r4, r5, r7, r8, zq⟩ := HZ.out
  refine gen_body (fun Y => Y.rowIs B 31 5 (fun j => match j with | 0 => .string ⟨#[110]⟩ | 1 => .int .i64 1 | 2 => .int .i64 1 | 3 => .int .i64 2 | _ => .slice (some ⟨B + 10, 0, none⟩) 2 2) ∧ E6B Y B ∧ Below B w Y) ⟨World.rowIs.alloc (net_cells HR.out) _, ⟨old_at ((heap_five (by omega)).trans r4) _, old_at ((heap_five (by omega)).trans r5) _, old_at ((heap_five (by omega)).trans r7) _, old_at ((heap_five (by omega)).trans r8) _, new_at (by simp [zq]) _⟩, hB ▸ bl_alloc (bl_set (bl_set (bl_set (bl_set (bl_set HBZ.out (by omega) _) (by omega) _) (by omega) _) (by omega) _) (by omega) _) _⟩ ?_
  rintro Y ⟨RY, EY, BY⟩
  have n0 := RY.cell (i := 0) (by decide)
  have n1 := RY.cell (i := 1) (by decide)
  have n2 := RY.cell (i := 2) (by decide)
  have n3 := RY.cell (i := 3) (by decide)
  have n4 := RY.cell (i := 4) (by decide)
  refine bodyPost_ret (v := ntv (e6N B)) (by simp [results, Try.results16, go_sem, n0, n1, n2, n3, n4, e6N]) rfl ⟨rfl, EY, BY⟩
end Go.Proofs.Ytkhlhcbbbhbgeaa.Nn
/- PLAIN'S STATEMENTS: WHAT EACH ASKS AHEAD. -/
namespace Go.Proofs.Ytkhlhcbbbhbgeaa.Nn
open Go.RowKit

theorem StR.congr {W : World} {ao : Option Addr} {n : Nat} {fh fv fc fh' fv' fc' : Nat → Int} {sz sz' : Nat → Nat} {val val' : Nat → Nat → Int} (h : StR W ao n fh fv fc sz val) (hc : ∀ j, j < n → fh j = fh' j ∧ fv j = fv' j ∧ fc j = fc' j ∧ sz j = sz' j ∧ ∀ i, i < sz j → val j i = val' j i) : StR W ao n fh' fv' fc' sz' val' := fun j hj => by
  obtain ⟨g, o, xo, xc, e, ⟨a, b, c⟩, d, r, l⟩ := h j hj
  obtain ⟨c1, c2, c3, c4, c5⟩ := hc j hj
  refine ⟨g, o, xo, xc, e, ⟨by rw [← c1]; exact a, by rw [← c2]; exact b, by rw [← c3]; exact c⟩, by rw [← c4]; exact d, fun i hi => ?_, by rw [← c4]; exact l⟩
  rw [← c4] at hi
  obtain ⟨g2, o2, e2, q⟩ := r i hi
  exact ⟨g2, o2, e2, by rw [← c5 i hi]; exact q⟩
theorem rb2 {W : World} {g : Nat} {a b : Int} (h : W.heap[g]? = some (.cells #[.int .u8 a, .int .u8 b] 5)) (ha : 0 ≤ a ∧ a < 256) (hb : 0 ≤ b ∧ b < 256) : RB W (some ⟨g, 0, none⟩) 2 (fun j => [a, b].getD j 0) := fun k hk => by
  rcases (show k = 0 ∨ k = 1 by omega) with rfl | rfl
  · exact ⟨g, 0, rfl, bcl h rfl, ha.1, ha.2⟩
  · exact ⟨g, 0, rfl, bcl h rfl, hb.1, hb.2⟩
theorem e6_gr (B : Nat) : grV (valN (e6N B) (fun j => s8 ([128, 127].getD j 0)) 2) 2 = 1 := by kernel_rfl
theorem e6_cap (B i : Nat) (hi : i < (e6N B).ml) : ((e6N B).lf i).mw ≤ ((e6N B).lf i).cw := by
  change i < 2 at hi
  rcases (show i = 0 ∨ i = 1 by omega) with rfl | rfl <;> exact Nat.le_refl 4
theorem e6_runs (B g : Nat) (W : World) (hE : E6B W B) (hx : W.heap[g]? = some (.cells #[.int .u8 128, .int .u8 127] 5)) :
    Calls Try.prog 8 #[ntv (e6N B), .slice (some ⟨g, 0, none⟩) 2 2] W fun e w' => ∃ g' cp, e = .returned (.tuple #[.agg #[.slice (some ⟨g', 0, none⟩) 2 cp, .int .i64 1], .int .i64 0]) ∧ R64 w' (some ⟨g', 0, none⟩) 2 (fun j => [-1, 5].getD j 0) ∧ Below W.heap.size W w' := by
  have h0 := (e6_sz B).1
  have h2 : szN (e6N B) (e6N B).ml = 2 := (e6_sz B).2.2.1
  have hr : RB W (some ⟨g, 0, none⟩) (szN (e6N B) 0) (fun j => [128, 127].getD j 0) := by rw [h0]; exact rb2 hx (by decide) (by decide)
  have := prun_all (e6N B) (e6_ok B).1 (e6_cap B) (some ⟨g, 0, none⟩) 2 (fun j => [128, 127].getD j 0) (fun j hj => by
    rw [h0] at hj
    rcases (show j = 0 ∨ j = 1 by omega) with rfl | rfl <;> decide) W (e6W hE) hr
  rw [h0, h2] at this
  refine this.mono ?_
  rintro e w' ⟨g', cp, rfl, -, R, hb⟩
  refine ⟨g', cp, congrArg (fun z => Ending.returned (.tuple #[.agg #[.slice (some ⟨g', 0, none⟩) 2 cp, .int .i64 z], .int .i64 0])) (show ((grV (valN (e6N B) (fun j => s8 ([128, 127].getD j 0)) 2) 2 : Nat) : Int) = 1 by rw [e6_gr B]; rfl), fun k hk => ?_, hb⟩
  · obtain ⟨a, o, e, c⟩ := R k hk
    refine ⟨a, o, e, ?_⟩
    rcases (show k = 0 ∨ k = 1 by omega) with rfl | rfl
    · rw [c, show valN (e6N B) (fun j => s8 ([128, 127].getD j 0)) (e6N B).ml 0 = -1 from (e6_run B).1]; rfl
    · rw [c, show valN (e6N B) (fun j => s8 ([128, 127].getD j 0)) (e6N B).ml 1 = 5 from (e6_run B).2]; rfl
def e6V (j i : Nat) : Int := if j = 0 then [1, -1].getD i 0 else [1, 3].getD i 0
theorem e6_shape (B : Nat) : ((sp (e6N B) 1).h = 1 ∧ (sp (e6N B) 1).v = 1 ∧ (sp (e6N B) 1).c = 2) ∧ (sp (e6N B) 2).h = 1 ∧ (sp (e6N B) 2).v = 1 ∧ (sp (e6N B) 2).c = 2 := ⟨⟨by kernel_rfl, by kernel_rfl, by kernel_rfl⟩, by kernel_rfl, by kernel_rfl, by kernel_rfl⟩
theorem e6_traces (B g : Nat) (W : World) (hE : E6B W B) (hx : W.heap[g]? = some (.cells #[.int .u8 3, .int .u8 4] 5)) :
    Calls Try.prog 5 #[ntv (e6N B), .slice (some ⟨g, 0, none⟩) 2 2] W fun e w' => ∃ g' cp, e = .returned (.tuple #[.slice (some ⟨g', 0, none⟩) 2 cp, .int .i64 0]) ∧ StR w' (some ⟨g', 0, none⟩) 2 (fun _ => 1) (fun _ => 1) (fun _ => 2) (fun _ => 2) e6V ∧ Below W.heap.size W w' := by
  have h0 := (e6_sz B).1
  have hr : RB W (some ⟨g, 0, none⟩) (szN (e6N B) 0) (fun j => [3, 4].getD j 0) := by rw [h0]; exact rb2 hx (by decide) (by decide)
  have := ptrace_all (e6N B) (e6_ok B).1 (e6_cap B) (by rw [(e6_sz B).2.2.2]; decide) (some ⟨g, 0, none⟩) 2 (fun j => [3, 4].getD j 0) (fun j hj => by
    rw [h0] at hj
    rcases (show j = 0 ∨ j = 1 by omega) with rfl | rfl <;> decide) W (e6W hE) hr
  rw [h0] at this
  refine this.mono ?_
  rintro e w' ⟨u, gl, cl, rfl, TS, hb⟩
  have hs : ∀ j, j < (e6N B).ml → 1 ≤ szN (e6N B) (j + 1) ∧ szN (e6N B) (j + 1) ≤ 9223372036854775807 := fun j hj => by
    change j < 2 at hj
    rcases (show j = 0 ∨ j = 1 by omega) with rfl | rfl
    · rw [(e6_sz B).2.1]; decide
    · rw [(e6_sz B).2.2.1]; decide
  obtain ⟨g', cp, rfl, -, S⟩ := TS.str (show 1 ≤ 2 by decide) hs
  refine ⟨g', cp, rfl, S.congr fun j hj => ?_, hb⟩
  change j < 2 at hj
  rcases (show j = 0 ∨ j = 1 by omega) with rfl | rfl
  · refine ⟨(e6_shape B).1.1, (e6_shape B).1.2.1, (e6_shape B).1.2.2, (e6_sz B).2.1, fun i hi => ?_⟩
    have hi : i < szN (e6N B) 1 := hi
    rw [(e6_sz B).2.1] at hi
    rcases (show i = 0 ∨ i = 1 by omega) with rfl | rfl
    · exact (e6_tr B).1.1
    · exact (e6_tr B).1.2
  · refine ⟨(e6_shape B).2.1, (e6_shape B).2.2.1, (e6_shape B).2.2.2, (e6_sz B).2.2.1, fun i hi => ?_⟩
    have hi : i < szN (e6N B) 2 := hi
    rw [(e6_sz B).2.2.1] at hi
    rcases (show i = 0 ∨ i = 1 by omega) with rfl | rfl
    · exact (e6_tr B).2.1
    · exact (e6_tr B).2.2
theorem r64_lit {W : World} {g : Nat} {a b : Int} (h : W.heap[g]? = some (.cells #[.int .i64 a, .int .i64 b] 2)) : R64 W (some ⟨g, 0, none⟩) 2 (fun j => [a, b].getD j 0) := fun k hk => by
  rcases (show k = 0 ∨ k = 1 by omega) with rfl | rfl
  · exact ⟨g, 0, rfl, bcl h rfl⟩
  · exact ⟨g, 0, rfl, bcl h rfl⟩
theorem st_lit {W : World} {g h k : Nat} (h1 : W.heap[g]? = some (.cells #[.int .i64 1, .int .i64 (-1)] 2)) (h2 : W.heap[h]? = some (.cells #[.int .i64 1, .int .i64 3] 2)) (h3 : W.heap[k]? = some (.cells #[.int .i64 1, .int .i64 1, .int .i64 2, .slice (some ⟨g, 0, none⟩) 2 2, .int .i64 1, .int .i64 1, .int .i64 2, .slice (some ⟨h, 0, none⟩) 2 2] 36)) : StR W (some ⟨k, 0, none⟩) 2 (fun _ => 1) (fun _ => 1) (fun _ => 2) (fun _ => 2) e6V := fun j hj => by
  rcases (show j = 0 ∨ j = 1 by omega) with rfl | rfl
  · exact ⟨k, 0, some ⟨g, 0, none⟩, 2, rfl, ⟨bcl h3 rfl, bcl h3 rfl, bcl h3 rfl⟩, bcl h3 rfl, fun i hi => by
      change i < 2 at hi
      rcases (show i = 0 ∨ i = 1 by omega) with rfl | rfl
      · exact ⟨g, 0, rfl, bcl h1 rfl⟩
      · exact ⟨g, 0, rfl, bcl h1 rfl⟩, by decide⟩
  · exact ⟨k, 0, some ⟨h, 0, none⟩, 2, rfl, ⟨bcl h3 rfl, bcl h3 rfl, bcl h3 rfl⟩, bcl h3 rfl, fun i hi => by
      change i < 2 at hi
      rcases (show i = 0 ∨ i = 1 by omega) with rfl | rfl
      · exact ⟨h, 0, rfl, bcl h2 rfl⟩
      · exact ⟨h, 0, rfl, bcl h2 rfl⟩, by decide⟩
set_option maxHeartbeats 3200000 in
set_option maxRecDepth 100000 in
theorem begun6_any (w : World) : Calls Try.prog 7 #[] w fun e w' => e = .returned (.bool true) ∧ Below w.heap.size w w' := by
  go_enter Try.func7, Try.ntmps7
  go_wp2_with fail
  refine (example6_any _).mono ?_
  rintro e z0 ⟨rfl, EB, hb0⟩
  generalize hB : w.heap.size = B at EB ⊢
  obtain ⟨gx, hgx⟩ : ∃ g, z0.heap.size = g := ⟨_, rfl⟩
  have C1 := hid1 (e6_runs B gx _ (EB.keep (bl_alloc (Below.refl _ _) _)) (new_at hgx (.cells #[.int .u8 128, .int .u8 127] 5)))
  have B0 := hid1 (bl_alloc hb0 (.cells #[.int .u8 128, .int .u8 127] 5))
  clear EB hb0
  go_wp2_with fail
  refine C1.out.mono ?_
  rintro e y1 ⟨g', cp, rfl, R, h1⟩
  have B1 := hid1 (bl_step B0.out h1)
  have HR := hid1 R
  clear C1 h1 R B0 hB
  obtain ⟨g1, hg1⟩ : ∃ g, y1.heap.size = g := ⟨_, rfl⟩
  go_upto_region 2 with fail
  refine gen_world (fun X => X.rowIs g1 38 2 (rsf (some ⟨g', 0, none⟩) 2 cp 1) ∧ R64 X (some ⟨g', 0, none⟩) 2 (fun j => [-1, 5].getD j 0) ∧ Below w.heap.size w X) ⟨by rw [← hg1]; exact rs_new _ _ _ _ _ _, HR.out.keep' (bl_alloc (Below.refl _ _) _), bl_alloc B1.out _⟩ ?_
  clear HR B1 hg1 hgx
  rintro X ⟨RX, R6, BX⟩
  go_wp2_with fail
  refine (example6_any _).mono ?_
  rintro e z2 ⟨rfl, EB, hb0⟩
  generalize hB : X.heap.size = B2 at EB ⊢
  obtain ⟨gx2, hgx⟩ : ∃ g, z2.heap.size = g := ⟨_, rfl⟩
  have C1 := hid1 (e6_traces B2 gx2 _ (EB.keep (bl_alloc (Below.refl _ _) _)) (new_at hgx (.cells #[.int .u8 3, .int .u8 4] 5)))
  have B0 := hid1 (bl_alloc hb0 (.cells #[.int .u8 3, .int .u8 4] 5))
  have HX := hid1 (And.intro RX (And.intro R6 BX))
  clear EB hb0 RX R6 BX
  go_wp2_with fail
  refine C1.out.mono ?_
  rintro e y2 ⟨gt, ct, rfl, ST, h2⟩
  have B2b := bl_step B0.out h2
  obtain ⟨RX, R6, BX⟩ := HX.out
  have HR1 := hid1 (World.rowIs.of_block RX (B2b.block _ RX.lt))
  have HR6 := hid1 (R6.keep' B2b)
  have HBX := hid1 (bl_step BX B2b)
  have HST := hid1 ST
  clear C1 h2 ST B0 HX RX R6 BX B2b hB hgx
  obtain ⟨g5, hg5⟩ : ∃ g, y2.heap.size = g := ⟨_, rfl⟩
  go_upto_region 4 with fail
  refine gen_world (fun X => X.heap[g5]? = some (.cells #[.int .i64 1, .int .i64 1, .int .i64 2] 28) ∧ X.heap.size = g5 + 1 ∧ Below y2.heap.size y2 X) ⟨new_at hg5 _, by simp [hg5], bl_alloc (Below.refl _ _) _⟩ ?_
  rintro X2 ⟨S5, zX2, BX2⟩
  have s0 := bcl S5 (j := 0) rfl
  have s1 := bcl S5 (j := 1) rfl
  have s2 := bcl S5 (j := 2) rfl
  have l5 : g5 < X2.heap.size := by omega
  clear S5
  go_upto_region 5 with fail
  refine gen_world (fun Z => StR Z (some ⟨g5 + 3, 0, none⟩) 2 (fun _ => 1) (fun _ => 1) (fun _ => 2) (fun _ => 2) e6V ∧ Below y2.heap.size y2 Z) ⟨st_lit (g := g5 + 1) (h := g5 + 2) (old_at (old_at (new_at zX2 _) _) _) (old_at (new_at (by simp [zX2]) _) _) (new_at (by simp [zX2]) _), bl_alloc (bl_alloc (bl_alloc BX2 _) _) _⟩ ?_
  clear s0 s1 s2 l5 zX2 BX2 hg5
  rintro Z ⟨SZ, BZ⟩
  have KR1 := World.rowIs.of_block HR1.out (BZ.block _ HR1.out.lt)
  have r0 : Z.cell? ⟨g1, 0, none⟩ = some (.slice (some ⟨g', 0, none⟩) 2 cp) := KR1.cell (i := 0) (by decide)
  have r1 : Z.cell? ⟨g1, 1, none⟩ = some (.int .i64 1) := KR1.cell (i := 1) (by decide)
  have HT := hid1 (HST.out.keep BZ)
  have HW := hid1 SZ
  have H6 := hid1 (HR6.out.keep' BZ)
  have HB := hid1 (bl_step HBX.out BZ)
  have lg := KR1.lt
  clear KR1 SZ BZ HST HR6 HBX HR1
  obtain ⟨gz, hgz⟩ : ∃ g, Z.heap.size = g := ⟨_, rfl⟩
  have CR := hid1 (results_same 2 (fun j => [-1, 5].getD j 0) 1 (some ⟨g', 0, none⟩) (some ⟨gz, 0, none⟩) cp 2 _ (by decide) (H6.out.keep' (bl_alloc (Below.refl _ _) _)) (r64_lit (new_at hgz (.cells #[.int .i64 (-1), .int .i64 5] 2))))
  have HT2 := hid1 (HT.out.keep (bl_alloc (Below.refl _ _) (.cells #[.int .i64 (-1), .int .i64 5] 2)))
  have HW2 := hid1 (HW.out.keep (bl_alloc (Below.refl _ _) (.cells #[.int .i64 (-1), .int .i64 5] 2)))
  have HB2 := hid1 (bl_alloc HB.out (.cells #[.int .i64 (-1), .int .i64 5] 2))
  clear HT HW HB H6
  go_wp2_with fail
  refine CR.out.mono ?_
  rintro e y4 ⟨rfl, h4⟩
  have CS := hid1 (steps_same 2 (fun _ => 1) (fun _ => 1) (fun _ => 2) (fun _ => 2) e6V (some ⟨gt, 0, none⟩) (some ⟨g5 + 3, 0, none⟩) ct 2 y4 (by decide) (HT2.out.keep h4) (HW2.out.keep h4))
  have HB3 := hid1 (bl_step HB2.out h4)
  clear CR r0 r1 h4 HT2 HW2 HB2
  go_wp2_with fail
  refine CS.out.mono ?_
  rintro e y5 ⟨rfl, h5⟩
  have HB4 := hid1 (bl_step HB3.out h5)
  clear h5 CS
  go_wp2_with fail
  go_ret
  exact ⟨rfl, HB4.out⟩
end Go.Proofs.Ytkhlhcbbbhbgeaa.Nn
/- Lists of lists of reaches that are alike; the network tiny. -/
namespace Go.Proofs.Ytkhlhcbbbhbgeaa.Nn
open Go.RowKit

/-- A list of reaches in memory. -/
def Lr1 (W : World) (g o m : Nat) (f h : Nat → Int) : Prop := ∀ j, j < m → W.cell? ⟨g, o + j * 2, none⟩ = some (.int .i64 (f j)) ∧ W.cell? ⟨g, o + j * 2 + 1, none⟩ = some (.int .i64 (h j))
theorem Lr1.keep {W X : World} {g o m : Nat} {f h : Nat → Int} (r : Lr1 W g o m f h) (hb : Below W.heap.size W X) : Lr1 X g o m f h := fun j hj => ⟨keepc hb (r j hj).1, keepc hb (r j hj).2⟩
/-- A list of lists of reaches in memory. -/
def Lrr (W : World) (g o m : Nat) (C : Nat → Nat) (f h : Nat → Nat → Int) : Prop := ∀ i, i < m → ∃ g' o' cp, W.cell? ⟨g, o + i, none⟩ = some (.slice (some ⟨g', o', none⟩) (C i) cp) ∧ C i ≤ 9223372036854775807 ∧ Lr1 W g' o' (C i) (f i) (h i)
theorem Lrr.keep {W X : World} {g o m : Nat} {C : Nat → Nat} {f h : Nat → Nat → Int} (r : Lrr W g o m C f h) (hb : Below W.heap.size W X) : Lrr X g o m C f h := fun i hi => by
  obtain ⟨g', o', cp, c, hc, hr⟩ := r i hi
  exact ⟨g', o', cp, keepc hb c, hc, hr.keep hb⟩
/-- What Net answers is such a list. -/
theorem cN_le {N : Nt} (hz : chE N = 0) : ∀ i, i ≤ N.ml → 1 ≤ cN N i ∧ cN N i ≤ 4096 := fun i hi => by
  have hall : whE N = 0 ∧ ∀ j, j < N.ml → fl N j = 0 := by
    unfold chE at hz
    by_cases h0 : whE N = 0
    · rw [if_pos h0] at hz; exact ⟨h0, frF_z hz⟩
    · rw [if_neg h0] at hz; exact absurd hz h0
  have := (sp_ok (wh_parts hall.1).2.1 (k := i) (fun j hj => hall.2 j (by omega))).1.2.2
  unfold cN
  omega
end Go.Proofs.Ytkhlhcbbbhbgeaa.Nn
/- bound.Row. -/
namespace Go.Proofs.Ytkhlhcbbbhbgeaa
open Go.RowKit

theorem pcO_and (A B : Nat) : ∀ n, pc (A &&& B) n ≤ pc B n
  | 0 => Nat.le_refl _
  | n + 1 => by
    have ih := pcO_and A B n
    simp only [pc]
    rw [Nat.testBit_and]
    cases A.testBit n <;> cases B.testBit n <;> simp <;> omega
/-- How many weights are plus; minus. -/
def rP (A : Bt) : Int := (pc A.N (64 * A.m) : Nat)
def rM (A B : Bt) : Int := (pc B.N (64 * B.m) : Nat) - (pc A.N (64 * A.m) : Nat)
def rL (A B : Bt) (lo hi : Int) : Int := rP A * lo - rM A B * hi
def rH (A B : Bt) (lo hi : Int) : Int := rP A * hi - rM A B * lo
/-- What Row tells. -/
def roE (A B : Bt) (lo hi : Int) : Int := if dck A B ≠ 0 then dck A B else if maR lo hi then (if maR (rL A B lo hi) (rH A B lo hi) then 0 else 55) else 1
def roL (A B : Bt) (lo hi : Int) : Int := if roE A B lo hi = 0 then rL A B lo hi else 0
def roH (A B : Bt) (lo hi : Int) : Int := if roE A B lo hi = 0 then rH A B lo hi else 0
theorem mulO {p x : Int} (hp : 0 ≤ p ∧ p ≤ 16777216) (hx : -2147483647 ≤ x ∧ x ≤ 2147483647) : -36028797018963968 ≤ p * x ∧ p * x ≤ 36028797018963968 := by
  have h1 : p * x ≤ 16777216 * 2147483647 := by
    by_cases h0 : 0 ≤ x
    · exact Int.le_trans (Int.mul_le_mul_of_nonneg_right hp.2 h0) (Int.mul_le_mul_of_nonneg_left hx.2 (by decide))
    · exact Int.le_trans (Int.mul_nonpos_of_nonneg_of_nonpos hp.1 (by omega)) (by decide)
  have h2 : p * (-x) ≤ 16777216 * 2147483647 := by
    by_cases h0 : 0 ≤ -x
    · exact Int.le_trans (Int.mul_le_mul_of_nonneg_right hp.2 h0) (Int.mul_le_mul_of_nonneg_left (by omega) (by decide))
    · exact Int.le_trans (Int.mul_nonpos_of_nonneg_of_nonpos hp.1 (by omega)) (by decide)
  rw [Int.mul_neg] at h2
  omega
theorem rB {A B : Bt} (h : dck A B = 0) : (0 ≤ rP A ∧ rP A ≤ 16777216) ∧ (0 ≤ rM A B ∧ rM A B ≤ 16777216) := by
  obtain ⟨n, e1, e2, hn, m1, m2, l1, l2, ha⟩ := dck_zero h
  unfold rP rM
  have q1 := pc_le B.N (64 * B.m)
  have a1 : pc A.N (64 * A.m) = pc A.N n := pc_above l1 (by rw [m1]; exact nw_le n)
  have a2 : pc B.N (64 * B.m) = pc B.N n := pc_above l2 (by rw [m2]; exact nw_le n)
  have a3 := pcO_and A.N B.N n
  rw [ha] at a3
  have a4 := pc_le A.N n
  have a5 := pc_le B.N n
  rw [a1, a2]
  omega
theorem dck_m {A B : Bt} (h : dck A B = 0) : A.m ≤ 262144 ∧ B.m ≤ 262144 := by
  obtain ⟨n, e1, e2, hn, m1, m2, l1, l2, ha⟩ := dck_zero h
  have := nw_bd hn
  rw [m1, m2]; unfold nw at *; omega
theorem kpO {V Y : World} {b2 b3 t2 t3 : Nat} {A B : Bt} {lo hi : Int} (h2 : V.rowIs b2 t2 4 (qf A B)) (h3 : V.rowIs b3 t3 2 (duf lo hi)) (hb : Below V.heap.size V Y) :
    (Y.cell? ⟨b2, 0, none⟩ = some (.int .i64 A.n) ∧ Y.cell? ⟨b2, 1, none⟩ = some (.slice A.ao A.m A.cap) ∧ Y.cell? ⟨b2, 2, none⟩ = some (.int .i64 B.n) ∧ Y.cell? ⟨b2, 3, none⟩ = some (.slice B.ao B.m B.cap)) ∧ (Y.cell? ⟨b3, 0, none⟩ = some (.int .i64 lo) ∧ Y.cell? ⟨b3, 1, none⟩ = some (.int .i64 hi)) :=
  ⟨⟨q0 (keepr hb h2), q1 (keepr hb h2), q2 (keepr hb h2), q3 (keepr hb h2)⟩, du0 (keepr hb h3), du1 (keepr hb h3)⟩
theorem du_set {w : World} {b t : Nat} {x y : Int} (h : w.rowIs b t 2 (duf x y)) (u v : Int) : ((w.setCell ⟨b, 0, none⟩ (.int .i64 u)).setCell ⟨b, 1, none⟩ (.int .i64 v)).rowIs b t 2 (duf u v) := by
  have h1 := (h.set 0 (.int .i64 u)).set 1 (.int .i64 v)
  refine h1.congr fun i hi => ?_
  rcases i with _ | _ | i
  · rfl
  · rfl
  · omega
end Go.Proofs.Ytkhlhcbbbhbgeaa
/- bound.Row, walked. -/
namespace Go.Proofs.Ytkhlhcbbbhbgeaa
open Go.RowKit

theorem kmeet_of {J K : Act → World → Prop} {Q : Exit → Act → World → Prop} {a : Act} {w : World} (hK : ∀ a' w', Met J a' w' → K a' w') (h : Met J a w) : Exit.then K Q Exit.normal a w := hK _ _ h
end Go.Proofs.Ytkhlhcbbbhbgeaa
/- BOUND: WHAT EVERY STATEMENT ASKS AHEAD. -/
namespace Go.Proofs.Ytkhlhcbbbhbgeaa.Nn
open Go.RowKit

def tiL (B : Nat) : Ly := ⟨2, 2, 2, 0, 0, 0, 0, 0, 0, 0, 0, 0, some ⟨B + 1, 0, none⟩, 6, 6, none, 0, 0, some ⟨B + 2, 0, none⟩, 2, 2, fun j => [1, 0, -1, 1, 1, 1].getD j 0, fun _ _ => 0, fun j => [5, -5].getD j 0⟩
def tiN (B : Nat) : Nt := ⟨⟨#[116, 105, 110, 121]⟩, 1, 1, 3, some ⟨B + 3, 0, none⟩, 1, 1, fun _ => tiL B⟩
/-- Its lists lie in memory. -/
def TiB (W : World) (B : Nat) : Prop := W.heap[B + 1]? = some (.cells (i8c [1, 0, -1, 1, 1, 1]) 60) ∧ W.heap[B + 2]? = some (.cells (i64c [5, -5]) 2) ∧ W.heap[B + 3]? = some (layO (tiL B))
theorem TiB.keep {W w' : World} {B : Nat} (h : TiB W B) (hb : Below W.heap.size W w') : TiB w' B := ⟨keepb hb h.1, keepb hb h.2.1, keepb hb h.2.2⟩
set_option maxRecDepth 10000 in
theorem tiW {W : World} {B : Nat} (h : TiB W B) : NtW W (tiN B) := by
  refine ⟨fun i hi => ⟨B + 3, 0, rfl, ?_⟩, (show (1 : Nat) ≤ 9223372036854775807 by decide), (show (4 : Nat) ≤ 9223372036854775807 by decide)⟩
  change i < 1 at hi
  have hb := h.2.2
  obtain rfl : i = 0 := by omega
  refine ⟨⟨bcl hb rfl, bcl hb rfl, bcl hb rfl, bcl hb rfl, bcl hb rfl, bcl hb rfl, bcl hb rfl, bcl hb rfl, bcl hb rfl, bcl hb rfl, bcl hb rfl, bcl hb rfl, bcl hb rfl, bcl hb rfl, bcl hb rfl⟩, ⟨fun j hj => ⟨B + 1, 0, rfl, ?_⟩, fun j hj => absurd hj (Nat.not_lt_zero j), fun j hj => ⟨B + 2, 0, rfl, ?_⟩, (show (6 : Nat) ≤ 9223372036854775807 by decide), (show (0 : Nat) ≤ 9223372036854775807 by decide), (show (2 : Nat) ≤ 9223372036854775807 by decide)⟩⟩
  · change j < 6 at hj
    rcases (show j = 0 ∨ j = 1 ∨ j = 2 ∨ j = 3 ∨ j = 4 ∨ j = 5 by omega) with rfl | rfl | rfl | rfl | rfl | rfl <;> exact bcl h.1 rfl
  · change j < 2 at hj
    rcases (show j = 0 ∨ j = 1 by omega) with rfl | rfl <;> exact bcl h.2.1 rfl
set_option maxRecDepth 10000 in
theorem ti_ok (B : Nat) : chE (tiN B) = 0 ∧ chA (tiN B) = 0 := by
  have h0 : whE (tiN B) = 0 := by kernel_rfl
  refine ch_ok h0 fun j hj => ?_
  change j < 1 at hj
  obtain rfl : j = 0 := by omega
  kernel_rfl
def tiF (_ j : Nat) : Int := [-250, -389].getD j 0
def tiH (_ j : Nat) : Int := [260, 376].getD j 0
set_option maxRecDepth 10000 in
theorem ti_r (B : Nat) : cN (tiN B) 1 = 2 ∧ ∀ j, j < 2 → yLo (tiL B) (fanN (tiN B) 0) 0 j = tiF 0 j ∧ yHi (tiL B) (fanN (tiN B) 0) 0 j = tiH 0 j := by
  refine ⟨by kernel_rfl, fun j hj => ?_⟩
  rcases (show j = 0 ∨ j = 1 by omega) with rfl | rfl <;> exact ⟨by kernel_rfl, by kernel_rfl⟩
def emN : Nt := ⟨⟨#[]⟩, 0, 0, 0, none, 0, 0, fun _ => tiL 0⟩
theorem emW (W : World) : NtW W emN := ⟨fun i hi => absurd hi (Nat.not_lt_zero i), (show (0 : Nat) ≤ 9223372036854775807 by decide), (show (0 : Nat) ≤ 9223372036854775807 by decide)⟩
theorem em_no : chE emN = 50 ∧ chA emN = -1 := ch_whole (by decide)
abbrev bA (g : Nat) : Bt := ⟨4, some ⟨g, 0, none⟩, 1, 1, 3⟩
abbrev bB (g : Nat) : Bt := ⟨4, some ⟨g, 0, none⟩, 1, 1, 7⟩
theorem bA_rw {W : World} {g : Nat} (h : W.heap[g]? = some (.cells #[.int .u64 3] 126)) : Rw W (bA g) := ⟨(show 3 < 2 ^ (64 * 1) by decide), (show (1 : Nat) ≤ 9223372036854775807 by decide), fun k hk => ⟨g, 0, rfl, by
  have hk' : k < 1 := hk
  obtain rfl : k = 0 := by omega
  exact bcl h (by simp [wf, wd])⟩⟩
theorem bB_rw {W : World} {g : Nat} (h : W.heap[g]? = some (.cells #[.int .u64 7] 126)) : Rw W (bB g) := ⟨(show 7 < 2 ^ (64 * 1) by decide), (show (1 : Nat) ≤ 9223372036854775807 by decide), fun k hk => ⟨g, 0, rfl, by
  have hk' : k < 1 := hk
  obtain rfl : k = 0 := by omega
  exact bcl h (by simp [wf, wd])⟩⟩
set_option maxRecDepth 100000 in
theorem bAB (g h : Nat) : (roE (bA g) (bB h) 0 5 = 0 ∧ roL (bA g) (bB h) 0 5 = -5 ∧ roH (bA g) (bB h) 0 5 = 10) ∧ roE (bA g) (bB h) 2 1 = 1 ∧ roL (bA g) (bB h) 2 1 = 0 ∧ roH (bA g) (bB h) 2 1 = 0 := by
  refine ⟨⟨by kernel_rfl, by kernel_rfl, by kernel_rfl⟩, by kernel_rfl, by kernel_rfl, by kernel_rfl⟩
end Go.Proofs.Ytkhlhcbbbhbgeaa.Nn
/- planeOf, Planes. -/
namespace Go.Proofs.Ytkhlhcbbbhbgeaa
open Go.RowKit

/-- Bit p of a number of eight bits. -/
def plb (l : List Int) (p i : Nat) : Bool := ((ia l i % 256).toNat).testBit p
theorem plb_is (v : Int) (p : Nat) : (bits .and .u8 (v % 256 / 2 ^ p) 1 == 1) = ((v % 256).toNat).testBit p := by
  have e : v % 256 = (((v % 256).toNat : Nat) : Int) := by omega
  have hx : (v % 256).toNat < 256 := by omega
  generalize (v % 256).toNat = x at *
  rw [e]
  have e2 : (x : Int) / 2 ^ p = ((x / 2 ^ p : Nat) : Int) := by simp
  rw [e2]
  have e3 : bits .and .u8 ((x / 2 ^ p : Nat) : Int) 1 = _ := u8_and_nat (x / 2 ^ p) 1 (Nat.lt_of_le_of_lt (Nat.div_le_self _ _) hx) (by decide)
  rw [e3, Nat.and_one_is_mod, Nat.testBit_eq_decide_div_mod_eq]
  rcases Nat.mod_two_eq_zero_or_one (x / 2 ^ p) with h | h <;> simp [h]
theorem bn_set {f : Nat → Bool} {k : Nat} (h : f k = true) : bn f (k + 1) = bn f k ||| 2 ^ k := by simp only [bn]; rw [if_pos h]
theorem bn_not {f : Nat → Bool} {k : Nat} (h : f k = false) : bn f (k + 1) = bn f k := by simp only [bn]; rw [if_neg (by simp [h])]; simp

end Go.Proofs.Ytkhlhcbbbhbgeaa
/- Planes. -/
namespace Go.Proofs.Ytkhlhcbbbhbgeaa
open Go.RowKit

/-- Eight rows of bits as a value, and as cells. -/
abbrev pv (P : Nat → Bt) : Value := .agg #[.int .i64 (P 0).n, .slice (P 0).ao (P 0).m (P 0).cap, .int .i64 (P 1).n, .slice (P 1).ao (P 1).m (P 1).cap, .int .i64 (P 2).n, .slice (P 2).ao (P 2).m (P 2).cap, .int .i64 (P 3).n, .slice (P 3).ao (P 3).m (P 3).cap, .int .i64 (P 4).n, .slice (P 4).ao (P 4).m (P 4).cap, .int .i64 (P 5).n, .slice (P 5).ao (P 5).m (P 5).cap, .int .i64 (P 6).n, .slice (P 6).ao (P 6).m (P 6).cap, .int .i64 (P 7).n, .slice (P 7).ao (P 7).m (P 7).cap]
def pfc (P : Nat → Bt) : Nat → Value := fun j => if j % 2 = 0 then .int .i64 (P (j / 2)).n else .slice (P (j / 2)).ao (P (j / 2)).m (P (j / 2)).cap
theorem pfc_even (P : Nat → Bt) (p : Nat) : pfc P (p * 2) = .int .i64 (P p).n := by
  unfold pfc; rw [if_pos (by omega), show p * 2 / 2 = p by omega]
theorem pfc_odd (P : Nat → Bt) (p : Nat) : pfc P (p * 2 + 1) = .slice (P p).ao (P p).m (P p).cap := by
  unfold pfc; rw [if_neg (by omega), show (p * 2 + 1) / 2 = p by omega]
theorem p_new (w : World) (P : Nat → Bt) (t : TypeId) : (w.alloc (.cells #[.int .i64 (P 0).n, .slice (P 0).ao (P 0).m (P 0).cap, .int .i64 (P 1).n, .slice (P 1).ao (P 1).m (P 1).cap, .int .i64 (P 2).n, .slice (P 2).ao (P 2).m (P 2).cap, .int .i64 (P 3).n, .slice (P 3).ao (P 3).m (P 3).cap, .int .i64 (P 4).n, .slice (P 4).ao (P 4).m (P 4).cap, .int .i64 (P 5).n, .slice (P 5).ao (P 5).m (P 5).cap, .int .i64 (P 6).n, .slice (P 6).ao (P 6).m (P 6).cap, .int .i64 (P 7).n, .slice (P 7).ao (P 7).m (P 7).cap] t)).rowIs w.heap.size t 16 (pfc P) :=
  World.rowIs_alloc w _ t _ (fun i hi => by
    rcases i with _ | _ | _ | _ | _ | _ | _ | _ | _ | _ | _ | _ | _ | _ | _ | _ | i
    · rfl
    · rfl
    · rfl
    · rfl
    · rfl
    · rfl
    · rfl
    · rfl
    · rfl
    · rfl
    · rfl
    · rfl
    · rfl
    · rfl
    · rfl
    · rfl
    · simp at hi; omega)
/-- All sixteen cells. -/
def C16 (w : World) (b : Nat) (P : Nat → Bt) : Prop := w.cell? ⟨b, 0, none⟩ = some (.int .i64 (P 0).n) ∧ w.cell? ⟨b, 1, none⟩ = some (.slice (P 0).ao (P 0).m (P 0).cap) ∧ w.cell? ⟨b, 2, none⟩ = some (.int .i64 (P 1).n) ∧ w.cell? ⟨b, 3, none⟩ = some (.slice (P 1).ao (P 1).m (P 1).cap) ∧ w.cell? ⟨b, 4, none⟩ = some (.int .i64 (P 2).n) ∧ w.cell? ⟨b, 5, none⟩ = some (.slice (P 2).ao (P 2).m (P 2).cap) ∧ w.cell? ⟨b, 6, none⟩ = some (.int .i64 (P 3).n) ∧ w.cell? ⟨b, 7, none⟩ = some (.slice (P 3).ao (P 3).m (P 3).cap) ∧ w.cell? ⟨b, 8, none⟩ = some (.int .i64 (P 4).n) ∧ w.cell? ⟨b, 9, none⟩ = some (.slice (P 4).ao (P 4).m (P 4).cap) ∧ w.cell? ⟨b, 10, none⟩ = some (.int .i64 (P 5).n) ∧ w.cell? ⟨b, 11, none⟩ = some (.slice (P 5).ao (P 5).m (P 5).cap) ∧ w.cell? ⟨b, 12, none⟩ = some (.int .i64 (P 6).n) ∧ w.cell? ⟨b, 13, none⟩ = some (.slice (P 6).ao (P 6).m (P 6).cap) ∧ w.cell? ⟨b, 14, none⟩ = some (.int .i64 (P 7).n) ∧ w.cell? ⟨b, 15, none⟩ = some (.slice (P 7).ao (P 7).m (P 7).cap)
theorem c16 {w : World} {b t : Nat} {P : Nat → Bt} (h : w.rowIs b t 16 (pfc P)) : C16 w b P :=
  ⟨h.cell (by omega), h.cell (by omega), h.cell (by omega), h.cell (by omega), h.cell (by omega), h.cell (by omega), h.cell (by omega), h.cell (by omega), h.cell (by omega), h.cell (by omega), h.cell (by omega), h.cell (by omega), h.cell (by omega), h.cell (by omega), h.cell (by omega), h.cell (by omega)⟩
/-- The first k of the planes. -/
def frt (N : Nat) (G : Nat → Nat) (k : Nat) : Nat → Bt := fun p => if p < k then ob N (G p) 0 else zb
def upd (G : Nat → Nat) (k g : Nat) : Nat → Nat := fun p => if p = k then g else G p
theorem upd_same (G : Nat → Nat) (k g : Nat) : upd G k g k = g := by unfold upd; rw [if_pos rfl]
theorem upd_ne {G : Nat → Nat} {k g p : Nat} (h : p ≠ k) : upd G k g p = G p := by unfold upd; rw [if_neg h]
theorem frt_step {N k g : Nat} {G : Nat → Nat} (j : Nat) : (if j = k * 2 + 1 then Value.slice (some ⟨g, 0, none⟩) (nw N) (nw N) else if j = k * 2 then Value.int .i64 N else pfc (frt N G k) j) = pfc (frt N (upd G k g) (k + 1)) j := by
  unfold pfc frt
  by_cases e1 : j = k * 2 + 1
  · rw [if_pos e1, if_neg (by omega), show j / 2 = k by omega, if_pos (by omega), upd_same]
  · rw [if_neg e1]
    by_cases e2 : j = k * 2
    · rw [if_pos e2, if_pos (by omega), show j / 2 = k by omega, if_pos (by omega)]
    · have e3 : ¬ j / 2 = k := by omega
      have e4 : (j / 2 < k + 1) ↔ (j / 2 < k) := by omega
      rw [if_neg e2, upd_ne e3]
      simp only [e4]
end Go.Proofs.Ytkhlhcbbbhbgeaa
/- Numbers. -/
namespace Go.Proofs.Ytkhlhcbbbhbgeaa
open Go.RowKit
attribute [local go_sem ↓] Go.wp_at_zero Go.wp_at_succ

def aF (P : Nat → Bt) (len : Int) : Bool := (List.range 8).all fun p => ftB (P p).n (P p).m (P p).N len
theorem aF_iff (P : Nat → Bt) (len : Int) : aF P len = true ↔ ∀ p, p < 8 → ftB (P p).n (P p).m (P p).N len = true := by simp [aF, List.all_eq_true]
def nmE (A B : Bt) (P : Nat → Bt) : Int := if dck A B ≠ 0 then dck A B else if aF P A.n = true then 0 else 20
def nmV (A B : Bt) (P : Nat → Bt) : Int := if nmE A B P = 0 then npl A.N B.N (fun p => (P p).N) A.n.toNat 8 else 0
theorem nmE_bad {A B : Bt} {P : Nat → Bt} (h : dck A B ≠ 0) : nmE A B P = dck A B := by unfold nmE; rw [if_pos h]
theorem nmV_bad {A B : Bt} {P : Nat → Bt} (h : nmE A B P ≠ 0) : nmV A B P = 0 := by unfold nmV; rw [if_neg h]
theorem eight {p : Nat → Prop} {i : Nat} (h : i < 8) (h0 : p 0) (h1 : p 1) (h2 : p 2) (h3 : p 3) (h4 : p 4) (h5 : p 5) (h6 : p 6) (h7 : p 7) : p i := by
  match i, h with
  | 0, _ => exact h0
  | 1, _ => exact h1
  | 2, _ => exact h2
  | 3, _ => exact h3
  | 4, _ => exact h4
  | 5, _ => exact h5
  | 6, _ => exact h6
  | 7, _ => exact h7
theorem pw_bd {p : Nat} (h : p < 8) : -128 ≤ pw p ∧ pw p ≤ 64 := eight (p := fun p => -128 ≤ pw p ∧ pw p ≤ 64) h (by decide) (by decide) (by decide) (by decide) (by decide) (by decide) (by decide) (by decide)
theorem mul_bd {a b : Int} {n : Nat} (ha : -128 ≤ a ∧ a ≤ 64) (hb : -(n : Int) ≤ b ∧ b ≤ n) : -(128 * (n : Int)) ≤ a * b ∧ a * b ≤ 128 * n := by
  have h1 : (a * b).natAbs ≤ 128 * n := by
    rw [Int.natAbs_mul]
    exact Nat.mul_le_mul (by omega) (by omega)
  omega
theorem npl_bd (S M : Nat) (P : Nat → Nat) (n : Nat) : ∀ q : Nat, q ≤ 8 → -(128 * (q : Int) * n) ≤ npl S M P n q ∧ npl S M P n q ≤ 128 * (q : Int) * n
  | 0, _ => by simp [npl]
  | q + 1, h => by
    have := npl_bd S M P n q (by omega)
    have := mul_bd (pw_bd (show q < 8 by omega)) (tq_bd (M &&& P q) S (P q) n)
    have e : 128 * ((q + 1 : Nat) : Int) * n = 128 * (q : Int) * n + 128 * n := by
      rw [Int.natCast_add, Int.mul_add, Int.add_mul]; simp
    simp only [npl]; rw [e]; omega
theorem npl_lim (S M : Nat) (P : Nat → Nat) {n q : Nat} (hn : n ≤ 16777216) (hq : q ≤ 8) : -17179869184 ≤ npl S M P n q ∧ npl S M P n q ≤ 17179869184 := by
  have := npl_bd S M P n q hq
  have h1 : 128 * (q : Int) * n ≤ 17179869184 := by
    have h2 : 128 * q * n ≤ 128 * 8 * 16777216 := Nat.mul_le_mul (Nat.mul_le_mul (Nat.le_refl _) hq) hn
    have h3 : ((128 * q * n : Nat) : Int) = 128 * (q : Int) * n := by simp
    omega
  omega

theorem qp_new (w : World) (A B : Bt) (P : Nat → Bt) (t u : TypeId) : ((w.alloc (.cells #[.int .i64 A.n, .slice A.ao A.m A.cap, .int .i64 B.n, .slice B.ao B.m B.cap] t)).alloc (.cells #[.int .i64 (P 0).n, .slice (P 0).ao (P 0).m (P 0).cap, .int .i64 (P 1).n, .slice (P 1).ao (P 1).m (P 1).cap, .int .i64 (P 2).n, .slice (P 2).ao (P 2).m (P 2).cap, .int .i64 (P 3).n, .slice (P 3).ao (P 3).m (P 3).cap, .int .i64 (P 4).n, .slice (P 4).ao (P 4).m (P 4).cap, .int .i64 (P 5).n, .slice (P 5).ao (P 5).m (P 5).cap, .int .i64 (P 6).n, .slice (P 6).ao (P 6).m (P 6).cap, .int .i64 (P 7).n, .slice (P 7).ao (P 7).m (P 7).cap] u)).rowIs (w.heap.size + 1) u 16 (pfc P) := by
  have := p_new (w.alloc (.cells #[.int .i64 A.n, .slice A.ao A.m A.cap, .int .i64 B.n, .slice B.ao B.m B.cap] t)) P u
  rw [World.size_alloc] at this
  exact this
theorem kpn {W X : World} {bx t bz u v0 : Nat} {A B : Bt} {C : Bt} {k : Nat} (h1 : W.rowIs bx t 4 (qf A B)) (h2 : W.rowIs bz u 2 (sf C.n C.ao C.m C.cap)) (h3 : W.cell? ⟨v0, k, none⟩ = some (.int .i64 (pw k))) (hb : Below W.heap.size W X) :
    (X.cell? ⟨bx, 0, none⟩ = some (.int .i64 A.n) ∧ X.cell? ⟨bx, 1, none⟩ = some (.slice A.ao A.m A.cap) ∧ X.cell? ⟨bx, 2, none⟩ = some (.int .i64 B.n) ∧ X.cell? ⟨bx, 3, none⟩ = some (.slice B.ao B.m B.cap)) ∧ (X.cell? ⟨bz, 0, none⟩ = some (.int .i64 C.n) ∧ X.cell? ⟨bz, 1, none⟩ = some (.slice C.ao C.m C.cap)) ∧ X.cell? ⟨v0, k, none⟩ = some (.int .i64 (pw k)) := by
  have r := keepr hb h1
  have s := keepr hb h2
  exact ⟨⟨q0 r, q1 r, q2 r, q3 r⟩, ⟨sf_len s, sf_ws s⟩, keepc hb h3⟩
end Go.Proofs.Ytkhlhcbbbhbgeaa
/- begun. -/
namespace Go.Proofs.Ytkhlhcbbbhbgeaa
open Go.RowKit

/-- Rows of four bits. -/
abbrev o4 (g N : Nat) : Bt := ⟨4, some ⟨g, 0, none⟩, 1, 1, N⟩
theorem ob4 (g N : Nat) : ob 4 g N = o4 g N := rfl
theorem four_in {l : List Int} {p : Int → Prop} (h0 : p (ia l 0)) (h1 : p (ia l 1)) (h2 : p (ia l 2)) (h3 : p (ia l 3)) : ∀ i, i < 4 → p (ia l i) := by
  intro i hi
  match i, hi with
  | 0, _ => exact h0
  | 1, _ => exact h1
  | 2, _ => exact h2
  | 3, _ => exact h3
theorem r8_four {w : World} {t : TypeId} (a b c d : Int) : R8 (w.alloc (.cells #[.int .i8 a, .int .i8 b, .int .i8 c, .int .i8 d] t)) (some ⟨w.heap.size, 0, none⟩) [a, b, c, d] := by
  intro k hk
  refine ⟨w.heap.size, 0, rfl, ?_⟩
  rcases k with _ | _ | _ | _ | k
  · simp [go_sem, ia]
  · simp [go_sem, ia]
  · simp [go_sem, ia]
  · simp [go_sem, ia]
  · simp at hk; omega
theorem rw4 {w : World} {g N : Nat} (h : w.rowIs g 126 1 (wf N)) (hN : N < 16) : Rw w (o4 g N) :=
  ⟨by show N < 2 ^ (64 * 1); omega, by show 1 ≤ _; decide, fun k hk => ⟨g, 0, rfl, by rw [Nat.zero_add]; exact h.cell hk⟩⟩
theorem wok1 : Wok [1, 0, -1, 1] 4 := four_in (p := fun x => -1 ≤ x ∧ x ≤ 1) (by decide) (by decide) (by decide) (by decide)
theorem wok2 : Wok [0, 1, 1, -1] 4 := four_in (p := fun x => -1 ≤ x ∧ x ≤ 1) (by decide) (by decide) (by decide) (by decide)
theorem bn4_lt (f : Nat → Bool) : bn f 4 < 16 := bn_lt f 4
theorem w_one (w : World) (o : Obj) (t : TypeId) : ((w.alloc o).alloc (.cells #[.int .u64 1] t)).rowIs (w.heap.size + 1) t 1 (wf 1) := by
  have h : ((w.alloc o).alloc (.cells #[.int .u64 1] t)).rowIs (w.alloc o).heap.size t 1 (wf 1) := World.rowIs_alloc (w.alloc o) _ t _ (fun i hi => by
    rcases i with _ | i
    · rfl
    · simp at hi)
  rw [World.size_alloc] at h
  exact h
theorem sg4 {g1 g2 g : Nat} : sgV (o4 g1 9) (o4 g2 13) (o4 g 1) = 1 := by kernel_rfl
theorem sg4e {g1 g2 g : Nat} : sgE (o4 g1 9) (o4 g2 13) (o4 g 1) = 0 := by kernel_rfl
theorem so4 {g1 g2 g3 g4 : Nat} : soV (o4 g1 9) (o4 g2 13) (o4 g3 6) (o4 g4 14) = -2 := by kernel_rfl
theorem so4e {g1 g2 g3 g4 : Nat} : soE (o4 g1 9) (o4 g2 13) (o4 g3 6) (o4 g4 14) = 0 := by kernel_rfl
theorem nm4 {g1 g2 : Nat} {G : Nat → Nat} : nmV (o4 g1 9) (o4 g2 13) (fun p => o4 (G p) (bn (plb [5, 9, -7, -128] p) 4)) = -116 := by kernel_rfl
theorem nm4e {g1 g2 : Nat} {G : Nat → Nat} : nmE (o4 g1 9) (o4 g2 13) (fun p => o4 (G p) (bn (plb [5, 9, -7, -128] p) 4)) = 0 := by kernel_rfl
end Go.Proofs.Ytkhlhcbbbhbgeaa
/- Lists of small numbers: own, copied, grown; tame, even, sameSmall. -/
namespace Go.Proofs.Ytkhlhcbbbhbgeaa
open Go.RowKit

def rowL (f : Nat → Value) (m : Nat) : List Value := (List.range m).map f
theorem rowL_len (f : Nat → Value) (m : Nat) : (rowL f m).length = m * 1 := by simp [rowL]
theorem rowL_get {f : Nat → Value} {m j : Nat} {u : Value} (h : (rowL f m)[j]? = some u) : j < m ∧ u = f j := by
  unfold rowL at h
  rw [List.getElem?_map, Option.map_eq_some_iff] at h
  obtain ⟨x, hx, rfl⟩ := h
  obtain ⟨h1, h2⟩ := List.getElem?_eq_some_iff.1 hx
  simp at h1 h2
  subst h2
  exact ⟨h1, rfl⟩
theorem rowL_at {f : Nat → Value} {m j : Nat} (h : j < m) (v : Value) : (rowL f m ++ [v])[j]? = some (f j) := by
  rw [List.getElem?_append_left (by simpa [rowL] using h)]
  simp [rowL, h]
theorem rowL_last (f : Nat → Value) (m : Nat) (v : Value) : (rowL f m ++ [v])[m]? = some v := by
  rw [List.getElem?_append_right (by simp [rowL])]
  simp [rowL]
theorem rowL_wf {N m : Nat} : ∀ u ∈ rowL (wf N) m, u.oneCell' = true := by
  intro u hu
  obtain ⟨j, hj, e⟩ := List.getElem_of_mem hu
  obtain ⟨_, rfl⟩ := rowL_get (List.getElem?_eq_some_iff.2 ⟨hj, e⟩)
  rfl
/-- An own row, as a row of cells. -/
theorem own_row {w : World} {base e : Nat} {v : Value} {n : Nat} {xs : List Value} (h : w.ownsRow base e 1 v n xs) (hn : 0 < n) :
    ∃ g cap f, v = .slice (some ⟨g, 0, none⟩) n cap ∧ base ≤ g ∧ n ≤ cap ∧ cap ≤ maxLen ∧ w.rowIs g e cap f ∧ ∀ k, k < n → xs[k]? = some (f k) := by
  rcases h.2 with ⟨_, h0⟩ | ⟨g, cap, cur, hv, hb, hg, h4, h5, h6, h7⟩
  · omega
  · refine ⟨g, cap, fun k => cur[k]?.getD undef, hv, hb, h4, h5, ⟨cur, hg, by omega, fun i hi => ?_⟩, fun k hk => ?_⟩
    · simp [Array.getElem?_eq_getElem (show i < cur.size by omega)]
    · rw [← h7, Nat.mul_one, List.getElem?_take_of_lt hk]
      simp [Array.getElem?_eq_getElem (show k < cur.size by omega)]

def i8s (l : List Int) : List Value := l.map (Value.int .i8)
theorem i8s_len (l : List Int) : (i8s l).length = l.length * 1 := by simp [i8s]
theorem i8s_get {l : List Int} {j : Nat} {u : Value} (h : (i8s l)[j]? = some u) : j < l.length ∧ u = .int .i8 (ia l j) := by
  unfold i8s at h
  rw [List.getElem?_map, Option.map_eq_some_iff] at h
  obtain ⟨x, hx, rfl⟩ := h
  obtain ⟨h1, _⟩ := List.getElem?_eq_some_iff.1 hx
  refine ⟨h1, ?_⟩
  unfold ia
  rw [List.getD_eq_getElem?_getD, hx]
  rfl
theorem i8s_at {l : List Int} {j : Nat} (h : j < l.length) : (i8s l)[j]? = some (.int .i8 (ia l j)) := by
  unfold i8s ia
  rw [List.getElem?_map, List.getD_eq_getElem?_getD, List.getElem?_eq_getElem h]
  rfl
theorem i8s_one {l : List Int} : ∀ u ∈ i8s l, u.oneCell' = true := by
  intro u hu
  unfold i8s at hu
  obtain ⟨x, _, rfl⟩ := List.mem_map.1 hu
  rfl
theorem i8s_snoc (l : List Int) (x : Int) : i8s (l ++ [x]) = i8s l ++ [.int .i8 x] := by simp [i8s]
theorem r8_add {w : World} {a : Addr} {l : List Int} (h : R8 w (some a) l) {j : Nat} (hj : j < l.length) : w.cell? (a.add j) = some (.int .i8 (ia l j)) := by
  obtain ⟨g, o, e, c⟩ := h j hj
  obtain rfl : a = ⟨g, o, none⟩ := Option.some.inj e
  by_cases h0 : j = 0
  · subst h0; exact c
  · simp [Addr.add, h0, c]
theorem r8_take {w : World} {ao : Option Addr} {l : List Int} (h : R8 w ao l) (n : Nat) : R8 w ao (l.take n) := by
  intro k hk
  have hk' : k < n ∧ k < l.length := by simp at hk; omega
  obtain ⟨g, o, e, c⟩ := h k hk'.2
  exact ⟨g, o, e, by rw [ia_take hk'.1]; exact c⟩
/-- An own row of small numbers reads as they do. -/
theorem r8_own {w : World} {base : Nat} {v : Value} {l : List Int} (h : w.ownsRow base 60 1 v l.length (i8s l)) : ∃ ao cap, v = .slice ao l.length cap ∧ l.length ≤ cap ∧ cap ≤ maxLen ∧ (ao = none → l.length = 0 ∧ cap = 0) ∧ (∀ a, ao = some a → ∃ g, a = ⟨g, 0, none⟩) ∧ R8 w ao l := by
  rcases Nat.eq_zero_or_pos l.length with h0 | h0
  · rcases h.2 with ⟨h1, _⟩ | ⟨g, cap, cur, hv, _, _, h4, h5, _⟩
    · exact ⟨none, 0, by rw [h0]; exact h1, by omega, by simp [maxLen], fun _ => ⟨h0, rfl⟩, fun _ e => (by cases e), fun k hk => absurd hk (by omega)⟩
    · exact ⟨_, cap, hv, h4, h5, fun e => (by cases e), fun a e => ⟨g, (Option.some.inj e).symm⟩, fun k hk => absurd hk (by omega)⟩
  · obtain ⟨g, cap, f, hv, _, h4, h5, hr, hf⟩ := own_row h h0
    refine ⟨_, cap, hv, h4, h5, fun e => (by cases e), fun a e => ⟨g, (Option.some.inj e).symm⟩, fun k hk => ⟨g, 0, rfl, ?_⟩⟩
    rw [Nat.zero_add]
    refine (hr.cell (by omega)).trans ?_
    have := hf k hk
    rw [i8s_at hk] at this
    exact congrArg some (Option.some.inj this).symm

theorem app_nil {ops : Array Oper} {rest : List Oper} {o : Oper} {a : Act} {Q : Exit → Act → World → Prop} {w : World} (hgd : o.guard = none) (s x : Operand)
    (ho : o.op = .call { callee := .builtin .append, args := #[s, x], argTypes := #[44, 44] }) (hs : a.eval s = .slice none 0 0)
    (bo : Option Addr) (l : List Int) (cb : Nat) (hx : a.eval x = .slice bo l.length cb) (hr : R8 w bo l) (hn : bo = none → l.length = 0 ∧ cb = 0) (hM : l.length ≤ 140737488351232)
    (h : ∀ v' w', w'.ownsRow w.heap.size 60 1 v' l.length (i8s l) → Below w.heap.size w w' → wpList Try.prog ops Q rest (a.put o.dst v') w') : wpList Try.prog ops Q (o :: rest) a w := by
  obtain ⟨i0, hi, hz0, hz1, hz2⟩ := info_parts info_i8
  cases bo with
  | none =>
    obtain ⟨h0, rfl⟩ := hn rfl
    rw [h0] at hx
    refine wpList_append_own_none hgd s x _ ho w.heap.size 60 i0 1 und_i8s hi (.slice none 0 0) 0 [] hs (World.ownsRow_nil _ _ _ _) hx (h _ _ ?_ (Below.refl _ _))
    have e : l = [] := List.eq_nil_of_length_eq_zero h0
    subst e
    exact World.ownsRow_nil _ _ _ _
  | some ad =>
    refine wpList_append_own w hgd s x _ ho w.heap.size 60 i0 (.int .i8 0) 1 1 und_i8s hi hz0 hz1 hz2 rfl (by decide) (.slice none 0 0) 0 [] hs (World.ownsRow_nil _ _ _ _) ad l.length cb (i8s l) hx (i8s_len l)
      (fun j u hu => by obtain ⟨h1, rfl⟩ := i8s_get hu; exact r8_add hr h1) i8s_one (by unfold maxLen; omega) (by omega) (Nat.le_refl _) ?_
    intro v' w' h1 h2 _
    rw [Nat.zero_add, List.nil_append] at h1
    exact h v' w' h1 ((Below.refl _ _).grown h2 (Nat.le_refl _) (fun _ e => by cases e))

/-- One small number appended to a list of one's own. -/
theorem app_one {ops : Array Oper} {rest : List Oper} {o : Oper} {a : Act} {Q : Exit → Act → World → Prop} {w : World} (hgd : o.guard = none) (s x : Operand)
    (ho : o.op = .call { callee := .builtin .append, args := #[s, x], argTypes := #[44, 44] }) (base : Nat) (v : Value) (l : List Int) (hs : a.eval s = v) (hown : w.ownsRow base 60 1 v l.length (i8s l))
    (g : Nat) (y : Int) (cb : Nat) (hx : a.eval x = .slice (some ⟨g, 0, none⟩) 1 cb) (hr : w.cell? ⟨g, 0, none⟩ = some (.int .i8 y)) (hM : l.length < 140737488355328) (hb : base ≤ w.heap.size)
    (h : ∀ v' w', w'.ownsRow base 60 1 v' (l.length + 1) (i8s (l ++ [y])) → w.grownBy w' v.ownBlock → wpList Try.prog ops Q rest (a.put o.dst v') w') : wpList Try.prog ops Q (o :: rest) a w := by
  obtain ⟨i0, hi, hz0, hz1, hz2⟩ := info_parts info_i8
  refine wpList_append_own w hgd s x _ ho base 60 i0 (.int .i8 0) 1 1 und_i8s hi hz0 hz1 hz2 rfl (by decide) v l.length (i8s l) hs hown ⟨g, 0, none⟩ 1 cb [.int .i8 y] hx rfl
    (fun j u hu => ?_) (fun u hu => by simp at hu; subst hu; rfl) (by unfold maxLen; omega) (by omega) hb ?_
  · rcases j with _ | j
    · simp at hu; subst hu; exact hr
    · simp at hu
  · intro v' w' h1 h2 _
    exact h v' w' (by rw [i8s_snoc]; exact h1) h2

/-- Made weights. -/
def tml (l : List Int) : List Int := l.map fun x => x.tmod 2
theorem ia_snoc {l : List Int} {k : Nat} (h : k < l.length) : l.take (k + 1) = l.take k ++ [ia l k] := by
  rw [List.take_succ_eq_append_getElem h]
  congr 2
  unfold ia
  simp [List.getD, h]
theorem tml_len (l : List Int) : (tml l).length = l.length := by simp [tml]
theorem tml_ia {l : List Int} {k : Nat} (h : k < l.length) : ia (tml l) k = (ia l k).tmod 2 := by
  unfold ia tml
  simp [List.getD, h]
theorem tml_take {l : List Int} {k : Nat} (h : k < l.length) : (tml l).take (k + 1) = (tml l).take k ++ [(ia l k).tmod 2] := by
  rw [ia_snoc (by rw [tml_len]; exact h), tml_ia h]
theorem tmod2 (x : Int) : -1 ≤ x.tmod 2 ∧ x.tmod 2 ≤ 1 := by
  rcases Int.le_total 0 x with h | h
  · rw [Int.tmod_eq_emod_of_nonneg h]; omega
  · obtain ⟨y, rfl⟩ : ∃ y, x = -y := ⟨-x, by omega⟩
    rw [Int.neg_tmod, Int.tmod_eq_emod_of_nonneg (by omega)]; omega
theorem r8_nil {w : World} {ao : Option Addr} {l : List Int} (h : R8 w ao l) (h0 : 0 < l.length) : ∃ g o, ao = some ⟨g, o, none⟩ := by
  obtain ⟨g, o, e, _⟩ := h 0 h0
  exact ⟨g, o, e⟩
end Go.Proofs.Ytkhlhcbbbhbgeaa
/- BoundRows: mathematics. -/
namespace Go.Proofs.Ytkhlhcbbbhbgeaa
open Go.RowKit

/-- How many of the first k weights are above 0; below 0. -/
def cP (f : Nat → Int) : Nat → Nat
  | 0 => 0
  | k + 1 => cP f k + if 0 < f k then 1 else 0
def cM (f : Nat → Int) : Nat → Nat
  | 0 => 0
  | k + 1 => cM f k + if f k < 0 then 1 else 0
theorem cP_le (f : Nat → Int) : ∀ k, cP f k + cM f k ≤ k
  | 0 => Nat.le_refl _
  | k + 1 => by
    have := cP_le f k
    simp only [cP, cM]
    by_cases h : 0 < f k
    · rw [if_pos h, if_neg (by omega)]; omega
    · rw [if_neg h]; split <;> omega
theorem pc_pk (l : List Int) (N : Nat) : ∀ k, k ≤ N → pc (pk l N) k = cP (ia l) k
  | 0, _ => rfl
  | k + 1, h => by
    simp only [pc, cP]
    rw [pc_pk l N k (by omega), pk_bit]
    by_cases hp : 0 < ia l k
    · rw [if_pos hp]; simp [hp]; omega
    · rw [if_neg hp]; simp [hp]
theorem pc_nz (l : List Int) (N : Nat) : ∀ k, k ≤ N → pc (bn (nz l) N) k = cP (ia l) k + cM (ia l) k
  | 0, _ => rfl
  | k + 1, h => by
    simp only [pc, cP, cM]
    rw [pc_nz l N k (by omega), bn_bit]
    have hk : decide (k < N) = true := decide_eq_true (by omega)
    by_cases hp : 0 < ia l k
    · rw [if_pos hp, if_neg (by omega), hk]; simp [nz, show ia l k ≠ 0 by omega]; omega
    · by_cases hm : ia l k < 0
      · rw [if_neg hp, if_pos hm, hk]; simp [nz, show ia l k ≠ 0 by omega]; omega
      · rw [if_neg hp, if_neg hm, hk]; simp [nz, show ia l k = 0 by omega]
theorem pk_sub (l : List Int) (N : Nat) : pk l N &&& bn (nz l) N = pk l N := by
  refine Nat.eq_of_testBit_eq fun i => ?_
  rw [Nat.testBit_and, pk_bit, bn_bit]
  by_cases hp : 0 < ia l i
  · simp [nz, hp, show ia l i ≠ 0 by omega]
  · simp [hp]
theorem dck_ob4 {n g1 g2 S M : Nat} (h1 : n ≤ 16777216) (hS : S < 2 ^ n) (hM : M < 2 ^ n) (h : S &&& M = S) : dck (ob n g1 S) (ob n g2 M) = 0 := by
  have c1 := chk_ok h1 hS
  have c2 := chk_ok h1 hM
  unfold dck
  rw [if_neg (by simp [ftB, c1, c2]), if_pos h]
theorem mulS {p : Nat} {x : Int} (hp : p ≤ 300) (hx : -1000000 ≤ x ∧ x ≤ 1000000) : -300000000 ≤ (p : Int) * x ∧ (p : Int) * x ≤ 300000000 := by
  have h1 : (p : Int) * x ≤ 300 * 1000000 := by
    by_cases h0 : 0 ≤ x
    · exact Int.le_trans (Int.mul_le_mul_of_nonneg_right (show (p : Int) ≤ 300 by omega) h0) (Int.mul_le_mul_of_nonneg_left (by omega) (by decide))
    · exact Int.le_trans (Int.mul_nonpos_of_nonneg_of_nonpos (by omega) (by omega)) (by decide)
  have h2 : (p : Int) * (-x) ≤ 300 * 1000000 := by
    by_cases h0 : 0 ≤ -x
    · exact Int.le_trans (Int.mul_le_mul_of_nonneg_right (show (p : Int) ≤ 300 by omega) h0) (Int.mul_le_mul_of_nonneg_left (by omega) (by decide))
    · exact Int.le_trans (Int.mul_nonpos_of_nonneg_of_nonpos (by omega) (by omega)) (by decide)
  rw [Int.mul_neg] at h2
  omega
/-- What Row tells of packed weights. -/
theorem row_pack {l : List Int} {N g1 g2 : Nat} {lo hi : Int} (h1 : N ≤ 300) (hl : -1000000 ≤ lo) (hlh : lo ≤ hi) (hh : hi ≤ 1000000) :
    roE (ob N g1 (pk l N)) (ob N g2 (bn (nz l) N)) lo hi = 0 ∧ roL (ob N g1 (pk l N)) (ob N g2 (bn (nz l) N)) lo hi = (cP (ia l) N : Nat) * lo - (cM (ia l) N : Nat) * hi ∧ roH (ob N g1 (pk l N)) (ob N g2 (bn (nz l) N)) lo hi = (cP (ia l) N : Nat) * hi - (cM (ia l) N : Nat) * lo := by
  have hd := dck_ob4 (g1 := g1) (g2 := g2) (show N ≤ 16777216 by omega) (pk_lt l N) (bn_lt (nz l) N) (pk_sub l N)
  have e1 : rP (ob N g1 (pk l N)) = (cP (ia l) N : Nat) := by
    unfold rP
    show ((pc (pk l N) (64 * nw N) : Nat) : Int) = _
    rw [pc_above (pk_lt l N) (nw_le N), pc_pk l N N (Nat.le_refl _)]
  have e2 : rM (ob N g1 (pk l N)) (ob N g2 (bn (nz l) N)) = (cM (ia l) N : Nat) := by
    unfold rM
    show ((pc (bn (nz l) N) (64 * nw N) : Nat) : Int) - ((pc (pk l N) (64 * nw N) : Nat) : Int) = _
    rw [pc_above (pk_lt l N) (nw_le N), pc_pk l N N (Nat.le_refl _), pc_above (bn_lt (nz l) N) (nw_le N), pc_nz l N N (Nat.le_refl _)]
    omega
  have hb := cP_le (ia l) N
  generalize cP (ia l) N = P at *
  generalize cM (ia l) N = Q at *
  have eL : rL (ob N g1 (pk l N)) (ob N g2 (bn (nz l) N)) lo hi = (P : Nat) * lo - (Q : Nat) * hi := by unfold rL; rw [e1, e2]
  have eH : rH (ob N g1 (pk l N)) (ob N g2 (bn (nz l) N)) lo hi = (P : Nat) * hi - (Q : Nat) * lo := by unfold rH; rw [e1, e2]
  have m1 := mulS (p := P) (by omega) (show -1000000 ≤ lo ∧ lo ≤ 1000000 by omega)
  have m2 := mulS (p := P) (by omega) (show -1000000 ≤ hi ∧ hi ≤ 1000000 by omega)
  have m3 := mulS (p := Q) (by omega) (show -1000000 ≤ lo ∧ lo ≤ 1000000 by omega)
  have m4 := mulS (p := Q) (by omega) (show -1000000 ≤ hi ∧ hi ≤ 1000000 by omega)
  have n1 : (P : Int) * lo ≤ P * hi := Int.mul_le_mul_of_nonneg_left hlh (by omega)
  have n2 : (Q : Int) * lo ≤ Q * hi := Int.mul_le_mul_of_nonneg_left hlh (by omega)
  have e3 : roE (ob N g1 (pk l N)) (ob N g2 (bn (nz l) N)) lo hi = 0 := by
    unfold roE
    rw [if_neg (by simpa using hd), if_pos (show maR lo hi from ⟨by omega, hlh, by omega⟩), if_pos]
    rw [eL, eH]
    exact ⟨by omega, by omega, by omega⟩
  refine ⟨e3, ?_, ?_⟩
  · unfold roL; rw [if_pos e3, eL]
  · unfold roH; rw [if_pos e3, eH]
def clV (n lo hi : Int) : Int := if n < lo then lo else if n > hi then hi else n
theorem clV_in {n lo hi : Int} (h : lo ≤ hi) : lo ≤ clV n lo hi ∧ clV n lo hi ≤ hi := by unfold clV; split <;> (try split) <;> omega
end Go.Proofs.Ytkhlhcbbbhbgeaa
/- BOUND MET: what the walk wants. -/
namespace Go.Proofs.Ytkhlhcbbbhbgeaa.Nn
open Go.RowKit

def pkV (f : Nat → Int) (m i : Nat) (n : Int) : Int := if m = 0 then 0 else f (i % m) % n
theorem pkV_in {f : Nat → Int} {m i : Nat} {n : Int} (hn : 1 ≤ n) : 0 ≤ pkV f m i n ∧ pkV f m i n < n := by
  unfold pkV
  split
  · omega
  · exact ⟨Int.emod_nonneg _ (by omega), Int.emod_lt_of_pos _ (by omega)⟩
/-- The sums of the two inputs are both ends. -/
def loX (f : Nat → Int) (j : Nat) : Int := if f j < 0 then 127 else -128
def hiX (f : Nat → Int) (j : Nat) : Int := if f j < 0 then -128 else 127
theorem sm_lo {f : Nat → Int} : ∀ {m : Nat}, (∀ j, j < m → -1 ≤ f j ∧ f j ≤ 1) → smV f (loX f) m = (cnW f 1 m : Nat) * (-128) - (cnW f (-1) m : Nat) * 127
  | 0, _ => rfl
  | m + 1, h => by
    have ih := sm_lo (m := m) fun j hj => h j (by omega)
    have h3 := h m (by omega)
    simp only [smV, cnW, loX]
    rw [ih]
    rcases (show f m = -1 ∨ f m = 0 ∨ f m = 1 by omega) with e | e | e <;> simp [e] <;> omega
theorem sm_hi {f : Nat → Int} : ∀ {m : Nat}, (∀ j, j < m → -1 ≤ f j ∧ f j ≤ 1) → smV f (hiX f) m = (cnW f 1 m : Nat) * 127 - (cnW f (-1) m : Nat) * (-128)
  | 0, _ => rfl
  | m + 1, h => by
    have ih := sm_hi (m := m) fun j hj => h j (by omega)
    have h3 := h m (by omega)
    simp only [smV, cnW, hiX]
    rw [ih]
    rcases (show f m = -1 ∨ f m = 0 ∨ f m = 1 by omega) with e | e | e <;> simp [e] <;> omega
theorem info_i8P : (Try.prog.info? 60).map (fun i => (i.zero, i.size, i.bytes)) = some (some (.int .i8 0), 1, 1) := by kernel_rfl
theorem und_i8P : Try.prog.underlying 44 = some (.slice 60) := by kernel_rfl
def i8L (l : List Int) : List Value := l.map (Value.int .i8)
theorem i8L_snoc (l : List Int) (x : Int) : i8L (l ++ [x]) = i8L l ++ [.int .i8 x] := by simp [i8L]
theorem step_app8 {ops : Array Oper} {o : Oper} {a : Act} {w : World} {K : Act → World → Prop} {Q : Exit → Act → World → Prop} {E : Prop} (hgd : o.guard = none) (s x : Operand)
    (ho : o.op = .call { callee := .builtin .append, args := #[s, x], argTypes := #[44, 44] }) (base : Nat) (v : Value) (l : List Int) (n : Nat) (hs : a.eval s = v) (hown : w.ownsRow base 60 1 v n (i8L l))
    (g : Nat) (y : Int) (cb : Nat) (hx : a.eval x = .slice (some ⟨g, 0, none⟩) 1 cb) (hr : w.cell? ⟨g, 0, none⟩ = some (.int .i8 y)) (hM : n ≤ 1000000000) (hb : base ≤ w.heap.size)
    (h : ∀ v' w', w'.ownsRow base 60 1 v' (n + 1) (i8L (l ++ [y])) → w.grownBy w' v.ownBlock → K (a.put o.dst v') w') : if Region.wanted o (yielded ops a.tmps) = true then Oper.wp Try.prog o a w K Q else E := by
  have hw : Region.wanted o (yielded ops a.tmps) = true := by simp [Region.wanted, hgd]
  rw [if_pos hw]
  obtain ⟨i0, hi, hz0, hz1, hz2⟩ := info_parts info_i8P
  obtain ⟨v', w', hr2, h2, h3, h4, h5⟩ := run_append_own_at (P := Try.prog) w base 44 o.type 60 i0 (.int .i8 0) 1 1 und_i8P hi hz0 hz1 hz2 rfl (by decide) v n (i8L l) hown ⟨g, 0, none⟩ 1 cb [.int .i8 y] rfl
    (fun j u hu => by
      rcases j with _ | j
      · simp at hu; subst hu; exact hr
      · simp at hu) (fun u hu => by simp at hu; subst hu; rfl) (by unfold maxLen; omega) (by omega) hb
  unfold Oper.wp execOp
  simp only [ho, resolve, invoke, builtin, Sem.run_bind, Sem.run_pure, Result.andThen_ok, List.map_toArray, List.map_cons, List.map_nil, hs, hx, hr2]
  exact h v' w' (by rw [i8L_snoc]; exact h2) h3
theorem own_isP {W : World} {b T s n : Nat} {v : Value} {xs : List Value} (h : W.ownsRow b T s v n xs) : ∃ a c, v = .slice a n c := by
  rcases h.2 with ⟨e, hn⟩ | ⟨g, c, _, e, _⟩
  · exact ⟨none, 0, by rw [e, hn]⟩
  · exact ⟨_, _, e⟩
theorem info_u8P : (Try.prog.info? 5).map (fun i => (i.zero, i.size, i.bytes)) = some (some (.int .u8 0), 1, 1) := by kernel_rfl
theorem und_u8P : Try.prog.underlying 22 = some (.slice 5) := by kernel_rfl
def u8L (l : List Int) : List Value := l.map (Value.int .u8)
theorem u8L_snoc (l : List Int) (x : Int) : u8L (l ++ [x]) = u8L l ++ [.int .u8 x] := by simp [u8L]
theorem app_u8P {ops : Array Oper} {rest : List Oper} {o : Oper} {a : Act} {Q : Exit → Act → World → Prop} {w : World} (hgd : o.guard = none) (s x : Operand)
    (ho : o.op = .call { callee := .builtin .append, args := #[s, x], argTypes := #[22, 22] }) (base : Nat) (v : Value) (l : List Int) (n : Nat) (hs : a.eval s = v) (hown : w.ownsRow base 5 1 v n (u8L l))
    (g : Nat) (y : Int) (cb : Nat) (hx : a.eval x = .slice (some ⟨g, 0, none⟩) 1 cb) (hr : w.cell? ⟨g, 0, none⟩ = some (.int .u8 y)) (hM : n ≤ 1000000000) (hb : base ≤ w.heap.size)
    (h : ∀ v' w', w'.ownsRow base 5 1 v' (n + 1) (u8L (l ++ [y])) → w.grownBy w' v.ownBlock → (v'.ownBlock = v.ownBlock ∨ v'.ownBlock = some w.heap.size) → wpList Try.prog ops Q rest (a.put o.dst v') w') : wpList Try.prog ops Q (o :: rest) a w := by
  obtain ⟨i0, hi, hz0, hz1, hz2⟩ := info_parts info_u8P
  refine wpList_append_own_at w hgd s x _ ho base 5 i0 (.int .u8 0) 1 1 und_u8P hi hz0 hz1 hz2 rfl (by decide) v n (u8L l) hs hown ⟨g, 0, none⟩ 1 cb [.int .u8 y] hx rfl
    (fun j u hu => ?_) (fun u hu => by simp at hu; subst hu; rfl) (by unfold maxLen; omega) (by omega) hb ?_
  · rcases j with _ | j
    · simp at hu; subst hu; exact hr
    · simp at hu
  · intro v' w' h1 h2 _ h3
    exact h v' w' (by rw [u8L_snoc]; exact h1) h2 h3
end Go.Proofs.Ytkhlhcbbbhbgeaa.Nn
/- NETWORKS THAT ARE MADE: pick, weights, norms, after. -/
namespace Go.Proofs.Ytkhlhcbbbhbgeaa.Nn
open Go.RowKit

/-- What pick answers, as a number of a number. -/
def pk5 (f : Nat → Int) (m : Nat) (i n : Int) : Int := pkV f m i.toNat n
theorem pk5_in (f : Nat → Int) (m : Nat) (i : Int) {n : Int} (hn : 1 ≤ n) : 0 ≤ pk5 f m i n ∧ pk5 f m i n ≤ n - 1 := by have := pkV_in (f := f) (m := m) (i := i.toNat) hn; unfold pk5; omega
theorem app_i8P {ops : Array Oper} {rest : List Oper} {o : Oper} {a : Act} {Q : Exit → Act → World → Prop} {w : World} (hgd : o.guard = none) (s x : Operand)
    (ho : o.op = .call { callee := .builtin .append, args := #[s, x], argTypes := #[44, 44] }) (base : Nat) (v : Value) (l : List Int) (n : Nat) (hs : a.eval s = v) (hown : w.ownsRow base 60 1 v n (i8L l))
    (g : Nat) (y : Int) (cb : Nat) (hx : a.eval x = .slice (some ⟨g, 0, none⟩) 1 cb) (hr : w.cell? ⟨g, 0, none⟩ = some (.int .i8 y)) (hM : n ≤ 1000000000) (hb : base ≤ w.heap.size)
    (h : ∀ v' w', w'.ownsRow base 60 1 v' (n + 1) (i8L (l ++ [y])) → w.grownBy w' v.ownBlock → wpList Try.prog ops Q rest (a.put o.dst v') w') : wpList Try.prog ops Q (o :: rest) a w := by
  obtain ⟨i0, hi, hz0, hz1, hz2⟩ := info_parts info_i8P
  refine wpList_append_own_at w hgd s x _ ho base 60 i0 (.int .i8 0) 1 1 und_i8P hi hz0 hz1 hz2 rfl (by decide) v n (i8L l) hs hown ⟨g, 0, none⟩ 1 cb [.int .i8 y] hx rfl
    (fun j u hu => ?_) (fun u hu => by simp at hu; subst hu; rfl) (by unfold maxLen; omega) (by omega) hb ?_
  · rcases j with _ | j
    · simp at hu; subst hu; exact hr
    · simp at hu
  · intro v' w' h1 h2 _ _
    exact h v' w' (by rw [i8L_snoc]; exact h1) h2
theorem i8_idD {z : Int} (h1 : -128 ≤ z) (h2 : z ≤ 127) : IntKind.i8.wrap z = z := by
  simp [IntKind.wrap, IntKind.bits, IntKind.signed]
  omega
/-- The weights that are made. -/
def wgV (f : Nat → Int) (m : Nat) (kd : Int) (j : Nat) : Int := if pk5 f m (3 * j + 1) 3 - 1 = 0 ∧ kd = 1 then 1 else pk5 f m (3 * j + 1) 3 - 1
def wgL (f : Nat → Int) (m : Nat) (kd : Int) (n : Nat) : List Int := (List.range n).map (wgV f m kd)
theorem wgL_succ (f : Nat → Int) (m : Nat) (kd : Int) (i : Nat) : wgL f m kd (i + 1) = wgL f m kd i ++ [wgV f m kd i] := by unfold wgL; rw [List.range_succ, List.map_append]; rfl
theorem wgV_ok (f : Nat → Int) (m : Nat) (kd : Int) (j : Nat) : okW kd (wgV f m kd j) := by
  have := pk5_in f m (3 * j + 1) (n := 3) (by decide)
  unfold okW wgV
  split
  · omega
  · omega
end Go.Proofs.Ytkhlhcbbbhbgeaa.Nn
/- NETWORKS THAT ARE MADE: norms, after. -/
namespace Go.Proofs.Ytkhlhcbbbhbgeaa.Nn
open Go.RowKit

theorem info_nrD : (Try.prog.info? 62).map (fun i => (i.zero, i.size, i.bytes)) = some (some (.agg #[.int .i64 0, .int .i64 0, .int .i64 0, .int .i64 0, .int .i64 0, .int .i64 0, .int .i64 0, .int .i64 0]), 8, 64) := by kernel_rfl
theorem und_nrD : Try.prog.underlying 45 = some (.slice 62) := by kernel_rfl
/-- Norms, eight cells each. -/
def nmC (ns : Nat → Int) : List Value := [.int .i64 (ns 0), .int .i64 (ns 1), .int .i64 (ns 2), .int .i64 (ns 3), .int .i64 (ns 4), .int .i64 (ns 5), .int .i64 (ns 6), .int .i64 (ns 7)]
def nmL (ns : Nat → Nat → Int) : Nat → List Value
  | 0 => []
  | n + 1 => nmL ns n ++ nmC (ns n)
theorem app_nrD {ops : Array Oper} {rest : List Oper} {o : Oper} {a : Act} {Q : Exit → Act → World → Prop} {w : World} (hgd : o.guard = none) (s x : Operand)
    (ho : o.op = .call { callee := .builtin .append, args := #[s, x], argTypes := #[45, 45] }) (base : Nat) (v : Value) (xs : List Value) (n : Nat) (hs : a.eval s = v) (hown : w.ownsRow base 62 8 v n xs)
    (g : Nat) (y : Nat → Int) (cb : Nat) (hx : a.eval x = .slice (some ⟨g, 0, none⟩) 1 cb) (hr : w.cell? ⟨g, 0, none⟩ = some (.int .i64 (y 0)) ∧ w.cell? ⟨g, 1, none⟩ = some (.int .i64 (y 1)) ∧ w.cell? ⟨g, 2, none⟩ = some (.int .i64 (y 2)) ∧ w.cell? ⟨g, 3, none⟩ = some (.int .i64 (y 3)) ∧ w.cell? ⟨g, 4, none⟩ = some (.int .i64 (y 4)) ∧ w.cell? ⟨g, 5, none⟩ = some (.int .i64 (y 5)) ∧ w.cell? ⟨g, 6, none⟩ = some (.int .i64 (y 6)) ∧ w.cell? ⟨g, 7, none⟩ = some (.int .i64 (y 7))) (hM : n ≤ 1000000000) (hb : base ≤ w.heap.size)
    (h : ∀ v' w', w'.ownsRow base 62 8 v' (n + 1) (xs ++ nmC y) → w.grownBy w' v.ownBlock → wpList Try.prog ops Q rest (a.put o.dst v') w') : wpList Try.prog ops Q (o :: rest) a w := by
  obtain ⟨i0, hi, hz0, hz1, hz2⟩ := info_parts info_nrD
  obtain ⟨r0, r1, r2, r3, r4, r5, r6, r7⟩ := hr
  refine wpList_append_own_at w hgd s x _ ho base 62 i0 _ 8 64 und_nrD hi hz0 hz1 hz2 rfl (by decide) v n xs hs hown ⟨g, 0, none⟩ 1 cb (nmC y) hx rfl
    (fun j u hu => ?_) (fun u hu => by simp [nmC] at hu; rcases hu with rfl | rfl | rfl | rfl | rfl | rfl | rfl | rfl <;> rfl) (by unfold maxLen; omega) (by omega) hb ?_
  · rcases j with _ | _ | _ | _ | _ | _ | _ | _ | j
    · simp [nmC] at hu; subst hu; exact r0
    · simp [nmC] at hu; subst hu; exact r1
    · simp [nmC] at hu; subst hu; exact r2
    · simp [nmC] at hu; subst hu; exact r3
    · simp [nmC] at hu; subst hu; exact r4
    · simp [nmC] at hu; subst hu; exact r5
    · simp [nmC] at hu; subst hu; exact r6
    · simp [nmC] at hu; subst hu; exact r7
    · simp [nmC] at hu
  · intro v' w' h1 h2 _ _
    exact h v' w' h1 h2
/-- The norms that are made. -/
def nsV (f : Nat → Int) (m : Nat) (at' : Int) (i : Nat) (c : Nat) : Int := match c with
  | 0 => pk5 f m (at' + i) 7 - 3
  | 1 => 1 + pk5 f m (at' + i + 1) 4
  | 2 => pk5 f m (at' + i + 2) 9 - 4
  | 3 => 3
  | 4 => pk5 f m (at' + i + 3) 9 - 4
  | 5 => 2
  | 6 => 1 + i
  | _ => 2
theorem nsV_ok (f : Nat → Int) (m : Nat) (at' : Int) (i : Nat) (hi : i ≤ 1000) : noE (nsV f m at' i 0) (nsV f m at' i 1) (nsV f m at' i 2) (nsV f m at' i 3) (nsV f m at' i 4) (nsV f m at' i 5) (nsV f m at' i 6) (nsV f m at' i 7) = 0 := by
  have h1 := pk5_in f m (at' + i) (n := 7) (by decide)
  have h2 := pk5_in f m (at' + i + 1) (n := 4) (by decide)
  have h3 := pk5_in f m (at' + i + 2) (n := 9) (by decide)
  have h4 := pk5_in f m (at' + i + 3) (n := 9) (by decide)
  show noE (pk5 f m (at' + i) 7 - 3) (1 + pk5 f m (at' + i + 1) 4) (pk5 f m (at' + i + 2) 9 - 4) 3 (pk5 f m (at' + i + 3) 9 - 4) 2 (1 + i) 2 = 0
  unfold noE Fr
  rw [if_pos (by omega), if_neg (by omega)]
end Go.Proofs.Ytkhlhcbbbhbgeaa.Nn
/- NETWORKS THAT ARE MADE: after. -/
namespace Go.Proofs.Ytkhlhcbbbhbgeaa.Nn
open Go.RowKit

/-- The shape behind a layer that is made. -/
def afH (L : Ly) (h : Int) : Int := if L.kd = 2 then 1 else (h + L.t + L.b - L.r) / L.sy + 1
def afV (L : Ly) (v : Int) : Int := if L.kd = 2 then 1 else (v + L.l + L.q - L.s) / L.sx + 1
end Go.Proofs.Ytkhlhcbbbhbgeaa.Nn
/- NETWORKS THAT ARE MADE: that they may be; how they lie. -/
namespace Go.Proofs.Ytkhlhcbbbhbgeaa.Nn
open Go.RowKit

theorem mul3_le {a b c A B C : Int} (ha : 0 ≤ a ∧ a ≤ A) (hb : 0 ≤ b ∧ b ≤ B) (hc : 0 ≤ c ∧ c ≤ C) : 0 ≤ a * b * c ∧ a * b * c ≤ A * B * C := by
  have h1 : 0 ≤ a * b := Int.mul_nonneg ha.1 hb.1
  have h2 : a * b ≤ A * B := Int.mul_le_mul ha.2 hb.2 hb.1 (by omega)
  exact ⟨Int.mul_nonneg h1 hc.1, Int.mul_le_mul h2 hc.2 hc.1 (by have := Int.mul_nonneg (show 0 ≤ A by omega) (show 0 ≤ B by omega); omega)⟩
/-- A shape that is made: small. -/
def SmS (S : Sp) : Prop := (1 ≤ S.h ∧ S.h ≤ 15) ∧ (1 ≤ S.v ∧ S.v ≤ 15) ∧ (1 ≤ S.c ∧ S.c ≤ 4) ∧ 0 ≤ S.ah ∧ S.ah ≤ 1000000
theorem chk_small {h v c : Int} (a : 1 ≤ h ∧ h ≤ 100) (b : 1 ≤ v ∧ v ≤ 100) (d : 1 ≤ c ∧ c ≤ 100) : chk h v c = 0 := by
  have := mul3_le (a := h) (b := v) (c := c) (A := 100) (B := 100) (C := 100) (by omega) (by omega) (by omega)
  unfold chk
  rw [if_pos (show Sides h v c from ⟨by omega, by omega, by omega⟩), if_neg (by omega)]
theorem st_bd {n bf af wi st : Int} (h : wi ≤ bf + n + af) (h1 : 1 ≤ wi) (h2 : 1 ≤ st) : stN n bf af wi st = (n + bf + af - wi) / st + 1 ∧ 1 ≤ stN n bf af wi st ∧ stN n bf af wi st ≤ bf + n + af := by
  unfold stN
  rw [if_neg (by omega)]
  have e : bf + n + af - wi = n + bf + af - wi := by omega
  rw [e]
  have c1 : 0 ≤ (n + bf + af - wi) / st := Int.ediv_nonneg (by omega) (by omega)
  have c2 : (n + bf + af - wi) / st ≤ n + bf + af - wi := Int.ediv_le_self _ (by omega)
  exact ⟨rfl, by omega, by omega⟩
/-- The window of a layer that is made. -/
theorem sl_made {S : Sp} (hS : SmS S) {L : Ly} {k : Int} (hk : 1 ≤ k ∧ k ≤ 100) (hr : 1 ≤ L.r ∧ L.r ≤ S.h) (hs : 1 ≤ L.s ∧ L.s ≤ S.v) (hy : 1 ≤ L.sy ∧ L.sy ≤ 3) (hx : 1 ≤ L.sx ∧ L.sx ≤ 3) (ht : 0 ≤ L.t ∧ L.t ≤ 2) (hl : L.l = 0) (hb : L.b = 0) (hq : 0 ≤ L.q ∧ L.q ≤ 1) :
    WOk L.r L.s L.sy L.sx L.t L.l L.b L.q ∧ slE S.h S.v S.c L.r L.s L.sy L.sx L.t L.l L.b L.q k = 0 ∧ stN S.h L.t L.b L.r L.sy = (S.h + L.t + L.b - L.r) / L.sy + 1 ∧ stN S.v L.l L.q L.s L.sx = (S.v + L.l + L.q - L.s) / L.sx + 1 ∧ (1 ≤ stN S.h L.t L.b L.r L.sy ∧ stN S.h L.t L.b L.r L.sy ≤ S.h + 2) ∧ (1 ≤ stN S.v L.l L.q L.s L.sx ∧ stN S.v L.l L.q L.s L.sx ≤ S.v + 1) := by
  obtain ⟨a, b, c, -⟩ := hS
  have w : WOk L.r L.s L.sy L.sx L.t L.l L.b L.q := ⟨⟨by omega, by omega, by omega, by omega⟩, ⟨by omega, by omega, by omega, by omega⟩⟩
  obtain ⟨e1, e2, e3⟩ := st_bd (n := S.h) (bf := L.t) (af := L.b) (wi := L.r) (st := L.sy) (by omega) hr.1 hy.1
  obtain ⟨f1, f2, f3⟩ := st_bd (n := S.v) (bf := L.l) (af := L.q) (wi := L.s) (st := L.sx) (by omega) hs.1 hx.1
  refine ⟨w, ?_, e1, f1, ⟨e2, by omega⟩, ⟨f2, by omega⟩⟩
  unfold slE
  rw [if_neg (by rw [chk_small (by omega) (by omega) (by omega)]; decide), if_neg (by omega), if_neg (fun h => h w), if_neg (by unfold mn2; split <;> omega)]
  exact chk_small (by omega) (by omega) hk
/-- The weights, norms and biases of a layer that is made. -/
def WsOk (L : Ly) (F : Int) : Prop := (L.mw : Int) = L.k * F ∧ ∀ j, j < L.mw → okW L.wt (L.ws j)
def NsOk (L : Ly) : Prop := (L.mn : Int) = L.k ∧ L.mb = 0 ∧ ∀ j, j < L.mn → nno L j = 0
theorem made_conv {S : Sp} (hS : SmS S) (hla : S.la = false) {L : Ly} (h1 : L.kd = 1) (hwt : L.wt = 1 ∨ L.wt = 2) (hk : 1 ≤ L.k ∧ L.k ≤ 3) (hr : 1 ≤ L.r ∧ L.r ≤ S.h) (hs : 1 ≤ L.s ∧ L.s ≤ S.v) (hy : 1 ≤ L.sy ∧ L.sy ≤ 3) (hx : 1 ≤ L.sx ∧ L.sx ≤ 3) (ht : 0 ≤ L.t ∧ L.t ≤ 2) (hl : L.l = 0) (hb : L.b = 0) (hq : 0 ≤ L.q ∧ L.q ≤ 1) (hbd : L.bd = 0 ∨ (1 ≤ L.t + L.q ∧ -1 ≤ L.bd ∧ L.bd ≤ 1)) (hw : WsOk L (L.r * L.s * S.c)) (hn : NsOk L) : faE L S = 0 := by
  obtain ⟨w1, w2, -⟩ := sl_made hS (L := L) (k := L.k) (by omega) hr hs hy hx ht hl hb hq
  obtain ⟨a, b, c, d⟩ := hS
  have hf : fan L S.h S.v S.c = L.r * L.s * S.c := by unfold fan; rw [if_neg (by omega)]
  have hwc : wc L S.h S.v S.c = L.k * (L.r * L.s * S.c) := by unfold wc; rw [hf]
  have m1 := mul3_le (a := L.r) (b := L.s) (c := S.c) (A := 15) (B := 15) (C := 4) (by omega) (by omega) (by omega)
  have m2 : L.k * (L.r * L.s * S.c) ≤ 3 * (15 * 15 * 4) := Int.mul_le_mul hk.2 m1.2 m1.1 (by omega)
  unfold faE
  rw [if_pos h1]
  refine frF_ok fun j hj => ?_
  rcases (show j = 0 ∨ j = 1 ∨ j = 2 ∨ j = 3 ∨ j = 4 ∨ j = 5 ∨ j = 6 ∨ j = 7 ∨ j = 8 ∨ j = 9 by omega) with rfl | rfl | rfl | rfl | rfl | rfl | rfl | rfl | rfl | rfl
  · show (if S.la = true then (51 : Int) else 0) = 0
    rw [hla]; rfl
  · exact if_pos (by omega)
  · exact if_pos w1
  · refine if_pos ?_
    unfold Wz
    omega
  · show oE L S.h S.v S.c = 0
    unfold oE
    rw [if_neg (by omega), if_neg (by omega)]
    exact w2
  · exact if_pos hwt
  · show wrE L S = 0
    unfold wrE
    rw [hwc]
    exact if_pos (by omega)
  · show wsE L S = 0
    unfold wsE
    rw [hwc]
    exact if_pos ⟨hw.1, hw.2⟩
  · exact if_pos ⟨⟨hn.1, hn.2.1⟩, hn.2.2⟩
  · show reE L S = 0
    refine if_pos ⟨?_, fun j hj => by rw [hn.2.1] at hj; omega⟩
    unfold lef
    rw [hf]
    split <;> omega
theorem made_dense {S : Sp} (hS : SmS S) {L : Ly} (h2 : L.kd = 2) (hwt : L.wt = 1 ∨ L.wt = 2) (hk : 1 ≤ L.k ∧ L.k ≤ 3) (hz : L.r = 0 ∧ L.s = 0 ∧ L.sy = 0 ∧ L.sx = 0 ∧ L.t = 0 ∧ L.l = 0 ∧ L.b = 0 ∧ L.q = 0) (hbd : L.bd = 0) (hw : WsOk L (S.h * S.v * S.c)) (hn : (S.la = false ∧ NsOk L) ∨ (S.la = true ∧ (L.mb : Int) = L.k ∧ L.mn = 0 ∧ ∀ j, j < L.mb → -100 ≤ L.bs j ∧ L.bs j ≤ 100)) : faE L S = 0 := by
  obtain ⟨a, b, c, d⟩ := hS
  have hf : fan L S.h S.v S.c = S.h * S.v * S.c := by unfold fan; rw [if_pos h2]
  have hwc : wc L S.h S.v S.c = L.k * (S.h * S.v * S.c) := by unfold wc; rw [hf]
  have m1 := mul3_le (a := S.h) (b := S.v) (c := S.c) (A := 15) (B := 15) (C := 4) (by omega) (by omega) (by omega)
  have m2 : L.k * (S.h * S.v * S.c) ≤ 3 * (15 * 15 * 4) := Int.mul_le_mul hk.2 m1.2 m1.1 (by omega)
  unfold faE
  rw [if_neg (by omega), if_pos h2]
  refine frF_ok fun j hj => ?_
  rcases (show j = 0 ∨ j = 1 ∨ j = 2 ∨ j = 3 ∨ j = 4 ∨ j = 5 ∨ j = 6 by omega) with rfl | rfl | rfl | rfl | rfl | rfl | rfl
  · exact if_pos (by omega)
  · exact if_pos ⟨hz, hbd⟩
  · exact if_pos hwt
  · show wrE L S = 0
    unfold wrE
    rw [hwc]
    exact if_pos (by omega)
  · show wsE L S = 0
    unfold wsE
    rw [hwc]
    exact if_pos ⟨hw.1, hw.2⟩
  · show enE L S = 0
    unfold enE
    rcases hn with ⟨e, hn⟩ | ⟨e, hn⟩
    · rw [if_neg (by rw [e]; decide)]
      exact if_pos ⟨⟨hn.1, hn.2.1⟩, hn.2.2⟩
    · rw [if_pos e]
      exact if_pos ⟨hn.1, hn.2.1⟩
  · show reE L S = 0
    have hl : 2147000000 ≤ lef L S := by
      unfold lef
      rw [hf]
      split <;> omega
    refine if_pos ⟨by omega, fun j hj => ?_⟩
    unfold bok
    rcases hn with ⟨e, hn⟩ | ⟨e, hn⟩
    · rw [hn.2.1] at hj; omega
    · have := hn.2.2 j hj
      omega
theorem made_pool {S : Sp} (hS : SmS S) (hla : S.la = false) (hfs : S.fs = false) {L : Ly} (h3 : L.kd = 3) (hz : (L.k = 0 ∧ L.wt = 0 ∧ L.bd = 0) ∧ L.mw = 0 ∧ L.mn = 0 ∧ L.mb = 0) (hr : 1 ≤ L.r ∧ L.r ≤ S.h) (hs : 1 ≤ L.s ∧ L.s ≤ S.v) (hy : 1 ≤ L.sy ∧ L.sy ≤ 3) (hx : 1 ≤ L.sx ∧ L.sx ≤ 3) (hw : Wz L) : faE L S = 0 := by
  obtain ⟨z1, z2, z3, z4⟩ := hw
  obtain ⟨w1, w2, -⟩ := sl_made hS (L := L) (k := S.c) (by have := hS.2.2.1; omega) hr hs hy hx (by omega) z2 z3 (by omega)
  unfold faE
  rw [if_neg (by omega), if_neg (by omega), if_pos h3]
  refine frF_ok fun j hj => ?_
  rcases (show j = 0 ∨ j = 1 ∨ j = 2 ∨ j = 3 ∨ j = 4 ∨ j = 5 by omega) with rfl | rfl | rfl | rfl | rfl | rfl
  · show (if S.fs = true then (51 : Int) else 0) = 0
    rw [hfs]; rfl
  · show (if S.la = true then (51 : Int) else 0) = 0
    rw [hla]; rfl
  · exact if_pos hz
  · exact if_pos w1
  · exact if_pos ⟨z1, z2, z3, z4⟩
  · show oE L S.h S.v S.c = 0
    unfold oE
    rw [if_neg (by omega), if_pos h3]
    exact w2
/-- What comes out of a layer that is made, as after tells it. -/
theorem made_out {S : Sp} (hS : SmS S) {L : Ly} (h0 : faE L S = 0) (hw : L.kd = 2 ∨ ((1 ≤ L.r ∧ L.r ≤ S.h) ∧ (1 ≤ L.s ∧ L.s ≤ S.v) ∧ (1 ≤ L.sy ∧ L.sy ≤ 3) ∧ (1 ≤ L.sx ∧ L.sx ≤ 3) ∧ (0 ≤ L.t ∧ L.t ≤ 2) ∧ L.l = 0 ∧ L.b = 0 ∧ 0 ≤ L.q ∧ L.q ≤ 1)) :
    (L.kd = 2 ∨ (WOk L.r L.s L.sy L.sx L.t L.l L.b L.q ∧ L.r ≤ S.h + L.t + L.b ∧ L.s ≤ S.v + L.l + L.q)) ∧ oH L S.h S.v S.c = afH L S.h ∧ oV L S.h S.v S.c = afV L S.v ∧ (1 ≤ oH L S.h S.v S.c ∧ oH L S.h S.v S.c ≤ S.h + 2) ∧ (1 ≤ oV L S.h S.v S.c ∧ oV L S.h S.v S.c ≤ S.v + 1) ∧ oC L S.h S.v S.c = (if L.kd = 3 then S.c else L.k) := by
  have hS' := hS
  obtain ⟨a, b, c, d⟩ := hS'
  by_cases h2 : L.kd = 2
  · have e1 : oH L S.h S.v S.c = 1 := by unfold oH; rw [if_pos h2]
    have e2 : oV L S.h S.v S.c = 1 := by unfold oV; rw [if_pos h2]
    have e3 : oC L S.h S.v S.c = L.k := by unfold oC; rw [if_pos h2]
    have e4 : afH L S.h = 1 := by unfold afH; rw [if_pos h2]
    have e5 : afV L S.v = 1 := by unfold afV; rw [if_pos h2]
    rw [e1, e2, e3, e4, e5, if_neg (by omega)]
    exact ⟨.inl h2, rfl, rfl, by omega, by omega, rfl⟩
  · obtain ⟨hr, hs, hy, hx, ht, hl, hb, hq⟩ := hw.resolve_left h2
    obtain ⟨qo, q1, -⟩ := win_ok h0 h2
    obtain ⟨w1, -, e1, e2, e3, e4⟩ := sl_made hS (L := L) (k := 1) (by omega) hr hs hy hx ht hl hb hq
    have f1 : oH L S.h S.v S.c = stN S.h L.t L.b L.r L.sy := by unfold oH; rw [if_neg h2, if_pos qo]
    have f2 : oV L S.h S.v S.c = stN S.v L.l L.q L.s L.sx := by unfold oV; rw [if_neg h2, if_pos qo]
    have f3 : oC L S.h S.v S.c = (if L.kd = 3 then S.c else L.k) := by unfold oC; rw [if_neg h2, if_pos qo]
    have e6 : afH L S.h = stN S.h L.t L.b L.r L.sy := by unfold afH; rw [if_neg h2, e1]
    have e7 : afV L S.v = stN S.v L.l L.q L.s L.sx := by unfold afV; rw [if_neg h2, e2]
    rw [f1, f2, f3, e6, e7]
    exact ⟨.inr ⟨w1, by omega, by omega⟩, rfl, rfl, e3, e4, rfl⟩
/-- The network that is made: its name. -/
def nmX : ByteArray := ⟨#[78, 101, 116, 95, 55, 45, 120]⟩
theorem nmX_ok : nmB nmX = true := by decide +kernel
abbrev mkN (H V C : Int) (M : Nat) (al : Option Addr) (cl : Nat) (lf : Nat → Ly) : Nt := ⟨nmX, H, V, C, al, M, cl, lf⟩
theorem sp_mk (H V C : Int) (M : Nat) (al al' : Option Addr) (cl cl' : Nat) (lf lf' : Nat → Ly) : ∀ i, (∀ j, j < i → lf j = lf' j) → sp (mkN H V C M al cl lf) i = sp (mkN H V C M al' cl' lf') i
  | 0, _ => rfl
  | i + 1, h => by
    have ih := sp_mk H V C M al al' cl cl' lf lf' i fun j hj => h j (by omega)
    have e := h i (by omega)
    simp only [sp, mkN] at ih ⊢
    rw [ih, e]
/-- A network under way: its first i layers have no fault. -/
def Mk (H V C : Int) (M i : Nat) (lf : Nat → Ly) : Prop :=
  (∀ j, j < i → fl (mkN H V C M none 0 lf) j = 0 ∧ (lf j).mw ≤ (lf j).cw ∧ (sp (mkN H V C M none 0 lf) j).h ≤ 5 + 2 * j) ∧ (1 ≤ (sp (mkN H V C M none 0 lf) i).h ∧ (sp (mkN H V C M none 0 lf) i).h ≤ 5 + 2 * i) ∧ (1 ≤ (sp (mkN H V C M none 0 lf) i).v ∧ (sp (mkN H V C M none 0 lf) i).v ≤ 5 + i) ∧ (1 ≤ (sp (mkN H V C M none 0 lf) i).c ∧ (sp (mkN H V C M none 0 lf) i).c ≤ 4) ∧ (0 ≤ (sp (mkN H V C M none 0 lf) i).ah ∧ (sp (mkN H V C M none 0 lf) i).ah ≤ 10000 * i)
theorem Mk.sms {H V C : Int} {M i : Nat} {lf : Nat → Ly} (h : Mk H V C M i lf) (hi : i ≤ 4) : SmS (sp (mkN H V C M none 0 lf) i) := by
  obtain ⟨-, a, b, c, d⟩ := h
  exact ⟨by omega, by omega, by omega, by omega⟩
def sn (lf : Nat → Ly) (i : Nat) (L : Ly) : Nat → Ly := fun j => if j = i then L else lf j
theorem sn_ne {lf : Nat → Ly} {i : Nat} {L : Ly} {j : Nat} (h : j < i) : sn lf i L j = lf j := if_neg (by omega)
theorem sn_eq {lf : Nat → Ly} {i : Nat} {L : Ly} : sn lf i L i = L := if_pos rfl
theorem Mk.snoc {H V C : Int} {M i : Nat} {lf : Nat → Ly} (h : Mk H V C M i lf) (hi : i ≤ 3) {L : Ly} (h0 : faE L (sp (mkN H V C M none 0 lf) i) = 0) (hc : L.mw ≤ L.cw) (hk : 0 ≤ L.k ∧ L.k ≤ 3)
    (hw : L.kd = 2 ∨ ((1 ≤ L.r ∧ L.r ≤ (sp (mkN H V C M none 0 lf) i).h) ∧ (1 ≤ L.s ∧ L.s ≤ (sp (mkN H V C M none 0 lf) i).v) ∧ (1 ≤ L.sy ∧ L.sy ≤ 3) ∧ (1 ≤ L.sx ∧ L.sx ≤ 3) ∧ (0 ≤ L.t ∧ L.t ≤ 2) ∧ L.l = 0 ∧ L.b = 0 ∧ 0 ≤ L.q ∧ L.q ≤ 1)) : Mk H V C M (i + 1) (sn lf i L) ∧ (sp (mkN H V C M none 0 (sn lf i L)) (i + 1)).h = afH L (sp (mkN H V C M none 0 lf) i).h ∧ (sp (mkN H V C M none 0 (sn lf i L)) (i + 1)).v = afV L (sp (mkN H V C M none 0 lf) i).v ∧ (sp (mkN H V C M none 0 (sn lf i L)) (i + 1)).c = (if L.kd = 3 then (sp (mkN H V C M none 0 lf) i).c else L.k) := by
  have hS := h.sms (by omega)
  have es : ∀ j, j ≤ i → sp (mkN H V C M none 0 (sn lf i L)) j = sp (mkN H V C M none 0 lf) j := fun j hj => sp_mk _ _ _ _ _ _ _ _ _ _ j fun q hq => sn_ne (by omega)
  obtain ⟨-, q1, q2, q3, q4, q5⟩ := made_out hS h0 hw
  have hst := sp_step (L := L) ⟨⟨by have := hS.1; omega, by have := hS.2.1; omega, by have := hS.2.2.1; omega⟩, by have := hS.2.2.2; omega⟩ h0
  have hfk : 0 ≤ fan L (sp (mkN H V C M none 0 lf) i).h (sp (mkN H V C M none 0 lf) i).v (sp (mkN H V C M none 0 lf) i).c ∧ fan L (sp (mkN H V C M none 0 lf) i).h (sp (mkN H V C M none 0 lf) i).v (sp (mkN H V C M none 0 lf) i).c ≤ 15 * 15 * 4 := by
    obtain ⟨a, b, c, d⟩ := hS
    unfold fan
    split
    · exact mul3_le (by omega) (by omega) (by omega)
    · have hw := hw.resolve_left (by assumption)
      exact mul3_le (by omega) (by omega) (by omega)
  have hwc : 0 ≤ wc L (sp (mkN H V C M none 0 lf) i).h (sp (mkN H V C M none 0 lf) i).v (sp (mkN H V C M none 0 lf) i).c ∧ wc L (sp (mkN H V C M none 0 lf) i).h (sp (mkN H V C M none 0 lf) i).v (sp (mkN H V C M none 0 lf) i).c ≤ 3 * (15 * 15 * 4) := by
    unfold wc
    exact ⟨Int.mul_nonneg hk.1 hfk.1, Int.mul_le_mul hk.2 hfk.2 hfk.1 (by omega)⟩
  have eH : (sp (mkN H V C M none 0 (sn lf i L)) (i + 1)).h = oH L (sp (mkN H V C M none 0 lf) i).h (sp (mkN H V C M none 0 lf) i).v (sp (mkN H V C M none 0 lf) i).c := by
    show oH (sn lf i L i) _ _ _ = _
    rw [sn_eq, es i (Nat.le_refl _)]
  have eV : (sp (mkN H V C M none 0 (sn lf i L)) (i + 1)).v = oV L (sp (mkN H V C M none 0 lf) i).h (sp (mkN H V C M none 0 lf) i).v (sp (mkN H V C M none 0 lf) i).c := by
    show oV (sn lf i L i) _ _ _ = _
    rw [sn_eq, es i (Nat.le_refl _)]
  have eC : (sp (mkN H V C M none 0 (sn lf i L)) (i + 1)).c = oC L (sp (mkN H V C M none 0 lf) i).h (sp (mkN H V C M none 0 lf) i).v (sp (mkN H V C M none 0 lf) i).c := by
    show oC (sn lf i L i) _ _ _ = _
    rw [sn_eq, es i (Nat.le_refl _)]
  have eA : (sp (mkN H V C M none 0 (sn lf i L)) (i + 1)).ah = (sp (mkN H V C M none 0 lf) i).ah + wc L (sp (mkN H V C M none 0 lf) i).h (sp (mkN H V C M none 0 lf) i).v (sp (mkN H V C M none 0 lf) i).c := by
    show (sp (mkN H V C M none 0 (sn lf i L)) i).ah + wc (sn lf i L i) _ _ _ = _
    rw [sn_eq, es i (Nat.le_refl _)]
  obtain ⟨h1, h2, h3, h4, h5⟩ := h
  refine ⟨⟨fun j hj => ?_, ?_, ?_, ?_, ?_⟩, by rw [eH, q1], by rw [eV, q2], by rw [eC, q5]⟩
  · by_cases hji : j = i
    · subst hji
      refine ⟨?_, by rw [sn_eq]; exact hc, by rw [es j (Nat.le_refl _)]; exact h2.2⟩
      show faE (sn lf j L j) _ = 0
      rw [sn_eq, es j (Nat.le_refl _)]
      exact h0
    · obtain ⟨g1, g2, g3⟩ := h1 j (by omega)
      refine ⟨?_, by rw [sn_ne (by omega)]; exact g2, by rw [es j (by omega)]; exact g3⟩
      show faE (sn lf i L j) _ = 0
      rw [sn_ne (by omega), es j (by omega)]
      exact g1
  · rw [eH]; push_cast; omega
  · rw [eV]; push_cast; omega
  · rw [eC]
    have := hst.1.2.2
    rw [q5] at this ⊢
    split <;> omega
  · rw [eA]; push_cast; omega
end Go.Proofs.Ytkhlhcbbbhbgeaa.Nn
/- PLAINBIG: the long network, its mathematics. -/
namespace Go.Proofs.Ytkhlhcbbbhbgeaa.Nn
open Go.RowKit

def laA (aw : Option Addr) (cw : Nat) (an : Option Addr) (cn n : Nat) : Ly := ⟨1, 1, 2774, 1, 1, 1, 1, 0, 0, 0, 0, 0, aw, n, cw, an, n, cn, none, 0, 0, fun _ => 1, fun _ i => [1, 1, 0, 1, 0, 1, 1, 1].getD i 0, fun _ => 0⟩
def laP : Ly := ⟨3, 0, 0, 1, 1, 1, 1, 0, 0, 0, 0, 0, none, 0, 0, none, 0, 0, none, 0, 0, fun _ => 0, fun _ _ => 0, fun _ => 0⟩
def laD (k : Nat) (aw : Option Addr) (cw : Nat) (ab : Option Addr) (cb : Nat) : Ly := ⟨2, 1, k, 0, 0, 0, 0, 0, 0, 0, 0, 0, aw, 66576 * k, cw, none, 0, 0, ab, k, cb, fun _ => 1, fun _ _ => 0, fun _ => 0⟩
def nmL6 : ByteArray := ⟨#[108, 111, 110, 103]⟩
/-- What the long network is. -/
structure Lg (k : Nat) (N : Nt) : Prop where
  nm : N.nm = nmL6
  h : N.h = 4
  v : N.v = 6
  c : N.c = 1
  ml : N.ml = 64
  l0 : ∃ aw cw an cn, N.lf 0 = laA aw cw an cn 2774 ∧ 2774 ≤ cw
  lp : ∀ j, 1 ≤ j → j < 63 → N.lf j = laP
  ld : ∃ aw cw ab cb, N.lf 63 = laD k aw cw ab cb ∧ 66576 * k ≤ cw
theorem lg_sp0 {k : Nat} {N : Nt} (h : Lg k N) : sp N 0 = ⟨4, 6, 1, 0, true, false⟩ := by simp only [sp, h.h, h.v, h.c, h.ml]; rfl
theorem oP6 : oH laP 4 6 2774 = 4 ∧ oV laP 4 6 2774 = 6 ∧ oC laP 4 6 2774 = 2774 ∧ wc laP 4 6 2774 = 0 := ⟨by kernel_rfl, by kernel_rfl, by kernel_rfl, by kernel_rfl⟩
theorem oA6 (aw : Option Addr) (cw : Nat) (an : Option Addr) (cn n : Nat) : oH (laA aw cw an cn n) 4 6 1 = 4 ∧ oV (laA aw cw an cn n) 4 6 1 = 6 ∧ oC (laA aw cw an cn n) 4 6 1 = 2774 ∧ wc (laA aw cw an cn n) 4 6 1 = 2774 := ⟨by kernel_rfl, by kernel_rfl, by kernel_rfl, by kernel_rfl⟩
theorem lg_sp {k : Nat} {N : Nt} (h : Lg k N) : ∀ i, i < 63 → sp N (i + 1) = ⟨4, 6, 2774, 2774, false, decide (64 = i + 2)⟩
  | 0, _ => by
    obtain ⟨aw, cw, an, cn, e, -⟩ := h.l0
    obtain ⟨o1, o2, o3, o4⟩ := oA6 aw cw an cn 2774
    show (⟨oH (N.lf 0) (sp N 0).h (sp N 0).v (sp N 0).c, oV (N.lf 0) (sp N 0).h (sp N 0).v (sp N 0).c, oC (N.lf 0) (sp N 0).h (sp N 0).v (sp N 0).c, (sp N 0).ah + wc (N.lf 0) (sp N 0).h (sp N 0).v (sp N 0).c, false, decide (N.ml = 0 + 2)⟩ : Sp) = _
    rw [lg_sp0 h, e, h.ml]
    dsimp only
    rw [o1, o2, o3, o4]
    rfl
  | i + 1, hi => by
    have ih := lg_sp h i (by omega)
    have e := h.lp (i + 1) (by omega) (by omega)
    obtain ⟨o1, o2, o3, o4⟩ := oP6
    show (⟨oH (N.lf (i + 1)) (sp N (i + 1)).h (sp N (i + 1)).v (sp N (i + 1)).c, oV (N.lf (i + 1)) (sp N (i + 1)).h (sp N (i + 1)).v (sp N (i + 1)).c, oC (N.lf (i + 1)) (sp N (i + 1)).h (sp N (i + 1)).v (sp N (i + 1)).c, (sp N (i + 1)).ah + wc (N.lf (i + 1)) (sp N (i + 1)).h (sp N (i + 1)).v (sp N (i + 1)).c, false, decide (N.ml = i + 1 + 2)⟩ : Sp) = _
    rw [ih, e, h.ml]
    dsimp only
    rw [o1, o2, o3, o4]
    rfl
theorem lg_sp64 {k : Nat} {N : Nt} (h : Lg k N) : (sp N 64).h = 1 ∧ (sp N 64).v = 1 ∧ (sp N 64).c = k := by
  obtain ⟨aw, cw, ab, cb, e, -⟩ := h.ld
  rw [sp, e]
  exact ⟨rfl, rfl, rfl⟩
theorem la_nno (aw : Option Addr) (cw : Nat) (an : Option Addr) (cn n j : Nat) : nno (laA aw cw an cn n) j = 0 := by kernel_rfl
theorem la_fa (aw : Option Addr) (cw : Nat) (an : Option Addr) (cn n : Nat) (hn : (n : Int) = 2774) : faE (laA aw cw an cn n) ⟨4, 6, 1, 0, true, false⟩ = 0 := by
  have hwc := (oA6 aw cw an cn n).2.2.2
  have hf : fan (laA aw cw an cn n) 4 6 1 = 1 := by kernel_rfl
  unfold faE
  rw [if_pos (show (laA aw cw an cn n).kd = 1 from rfl)]
  refine frF_ok fun q hq => ?_
  rcases (show q = 0 ∨ q = 1 ∨ q = 2 ∨ q = 3 ∨ q = 4 ∨ q = 5 ∨ q = 6 ∨ q = 7 ∨ q = 8 ∨ q = 9 by omega) with rfl | rfl | rfl | rfl | rfl | rfl | rfl | rfl | rfl | rfl
  · kernel_rfl
  · kernel_rfl
  · kernel_rfl
  · kernel_rfl
  · kernel_rfl
  · kernel_rfl
  · kernel_rfl
  · show wsE (laA aw cw an cn n) ⟨4, 6, 1, 0, true, false⟩ = 0
    unfold wsE
    dsimp only
    rw [hwc]
    exact if_pos ⟨hn, fun j _ => by show okW 1 1; unfold okW; decide⟩
  · show nmE (laA aw cw an cn n) = 0
    unfold nmE
    exact if_pos ⟨⟨hn, rfl⟩, fun j _ => la_nno aw cw an cn n j⟩
  · show reE (laA aw cw an cn n) ⟨4, 6, 1, 0, true, false⟩ = 0
    unfold reE
    refine if_pos ⟨?_, fun j hj => absurd hj (Nat.not_lt_zero j)⟩
    unfold lef
    dsimp only
    rw [hf]
    decide
theorem ld_fa (k : Nat) (hk : 1 ≤ k ∧ k ≤ 20) (n : Nat) (hn : (n : Int) = (k : Int) * 66576) (aw : Option Addr) (cw : Nat) (ab : Option Addr) (cb : Nat) : faE ⟨2, 1, k, 0, 0, 0, 0, 0, 0, 0, 0, 0, aw, n, cw, none, 0, 0, ab, k, cb, fun _ => 1, fun _ _ => 0, fun _ => 0⟩ ⟨4, 6, 2774, 2774, false, true⟩ = 0 := by
  generalize hL : (⟨2, 1, k, 0, 0, 0, 0, 0, 0, 0, 0, 0, aw, n, cw, none, 0, 0, ab, k, cb, fun _ => 1, fun _ _ => 0, fun _ => 0⟩ : Ly) = L
  have hf : fan L 4 6 2774 = 66576 := by rw [← hL]; kernel_rfl
  have hlk : L.k = k := by rw [← hL]
  have hwc : wc L 4 6 2774 = (k : Int) * 66576 := by unfold wc; rw [hf, hlk]
  have h2 : L.kd = 2 := by rw [← hL]
  unfold faE
  rw [if_neg (by omega), if_pos h2]
  refine frF_ok fun q hq => ?_
  rcases (show q = 0 ∨ q = 1 ∨ q = 2 ∨ q = 3 ∨ q = 4 ∨ q = 5 ∨ q = 6 by omega) with rfl | rfl | rfl | rfl | rfl | rfl | rfl
  · exact if_pos (by rw [hlk]; omega)
  · rw [← hL]; kernel_rfl
  · rw [← hL]; kernel_rfl
  · show wrE L ⟨4, 6, 2774, 2774, false, true⟩ = 0
    unfold wrE
    dsimp only
    rw [hwc]
    exact if_pos (by omega)
  · show wsE L ⟨4, 6, 2774, 2774, false, true⟩ = 0
    unfold wsE
    dsimp only
    rw [hwc]
    refine if_pos ⟨by rw [← hL]; exact hn, fun j _ => by rw [← hL]; show okW 1 1; unfold okW; decide⟩
  · show enE L ⟨4, 6, 2774, 2774, false, true⟩ = 0
    unfold enE
    rw [if_pos rfl]
    exact if_pos (by rw [← hL]; exact ⟨rfl, rfl⟩)
  · show reE L ⟨4, 6, 2774, 2774, false, true⟩ = 0
    have hl : 2147000000 ≤ lef L ⟨4, 6, 2774, 2774, false, true⟩ := by
      unfold lef
      dsimp only
      rw [hf]
      decide
    unfold reE
    refine if_pos ⟨by omega, fun j _ => ?_⟩
    have : L.bs j = 0 := by rw [← hL]
    rw [this]
    unfold bok
    omega
theorem lp_fa : faE laP ⟨4, 6, 2774, 2774, false, false⟩ = 0 := by kernel_rfl
theorem lg_ok {k : Nat} {N : Nt} (h : Lg k N) (hk : 1 ≤ k ∧ k ≤ 20) : chE N = 0 := by
  have hw : whE N = 0 := by unfold whE; rw [h.nm, h.h, h.v, h.c, h.ml]; kernel_rfl
  refine (ch_ok hw fun j hj => ?_).1
  rw [h.ml] at hj
  unfold fl
  by_cases j0 : j = 0
  · subst j0
    rw [lg_sp0 h]
    obtain ⟨aw, cw, an, cn, e, -⟩ := h.l0
    rw [e]
    exact la_fa aw cw an cn 2774 rfl
  · by_cases j3 : j = 63
    · subst j3
      rw [lg_sp h 62 (by omega)]
      obtain ⟨aw, cw, ab, cb, e, -⟩ := h.ld
      rw [e]
      exact ld_fa k hk (66576 * k) (by omega) aw cw ab cb
    · obtain ⟨i, rfl⟩ : ∃ i, j = i + 1 := ⟨j - 1, by omega⟩
      rw [lg_sp h i (by omega), h.lp (i + 1) (by omega) (by omega)]
      rw [decide_eq_false (show ¬ 64 = i + 2 by omega)]
      exact lp_fa
theorem lg_cap {k : Nat} {N : Nt} (h : Lg k N) (i : Nat) (hi : i < N.ml) : (N.lf i).mw ≤ (N.lf i).cw := by
  rw [h.ml] at hi
  by_cases j0 : i = 0
  · subst j0
    obtain ⟨aw, cw, an, cn, e, hc⟩ := h.l0
    rw [e]; exact hc
  · by_cases j3 : i = 63
    · subst j3
      obtain ⟨aw, cw, ab, cb, e, hc⟩ := h.ld
      rw [e]; exact hc
    · rw [h.lp i (by omega) (by omega)]; exact Nat.le_refl _
theorem lg_sz {k : Nat} {N : Nt} (h : Lg k N) : szN N 0 = 24 ∧ (∀ i, i < 63 → szN N (i + 1) = 66576) ∧ szN N 64 = k := by
  refine ⟨by unfold szN cN; rw [lg_sp0 h]; rfl, fun i hi => by unfold szN cN; rw [lg_sp h i hi]; show (4 : Int).toNat * (6 : Int).toNat * (2774 : Int).toNat = 66576; decide +kernel, ?_⟩
  obtain ⟨a, b, c⟩ := lg_sp64 h
  unfold szN cN
  rw [a, b, c]
  simp
theorem lg_to {k : Nat} {N : Nt} (h : Lg k N) (hk : 1 ≤ k ∧ k ≤ 20) : toN N = 4194288 + k := by
  have key : ∀ i, i ≤ 63 → toV (fun k => (sp N (k + 1)).h) (fun k => (sp N (k + 1)).v) (fun k => (sp N (k + 1)).c) i = 66576 * (i : Int) := fun i => by
    induction i with
    | zero => intro _; rfl
    | succ i ih =>
      intro hi
      rw [toV, ih (by omega), lg_sp h i (by omega)]
      show 66576 * (i : Int) + elN 4 6 2774 = _
      rw [show elN 4 6 2774 = 66576 by decide +kernel]
      omega
  unfold toN
  rw [h.ml, toV, key 63 (by omega)]
  obtain ⟨a, b, c⟩ := lg_sp64 h
  show _ + elN (sp N 64).h (sp N 64).v (sp N 64).c = _
  rw [a, b, c]
  have : elN 1 1 (k : Int) = k := by
    unfold elN
    rw [if_pos (by unfold chk; rw [if_pos (show Sides 1 1 (k : Int) from ⟨by decide, by decide, by omega⟩), if_neg (by omega)])]
    omega
  rw [this]
  omega
theorem plV_one : Wd.plV 1 1 0 1 0 1 1 1 0 = true := by kernel_rfl
theorem sm_ones (n : Nat) : ∀ {x : Nat → Int}, (∀ j, j < n → x j = 1) → smV (fun _ => 1) x n = n := by
  induction n with
  | zero => intro x _; rfl
  | succ n ih =>
    intro x hx
    rw [smV, ih fun j hj => hx j (by omega), hx n (by omega)]
    omega
theorem lg_val {k : Nat} {N : Nt} (h : Lg k N) : ∀ i, i < 63 → ∀ j, j < 66576 → valN N (fun _ => 0) (i + 1) j = 1
  | 0, _, j, hj => by
    obtain ⟨aw, cw, an, cn, e, -⟩ := h.l0
    have hF : fanN N 0 = 1 := by unfold fanN; rw [lg_sp0 h, e]; rfl
    rw [valN, hF, e]
    show ouV (laA aw cw an cn 2774) 1 _ _ = 1
    unfold ouV
    have hz : ∀ y x' H V C S q, lkW y x' 0 H V C S (fun _ => 0) q = 0 := fun y x' H V C S q => by unfold lkW; split <;> rfl
    have : smV (fun j_1 => (laA aw cw an cn 2774).ws (j % (laA aw cw an cn 2774).k.toNat * 1 + j_1)) (plW (laA aw cw an cn 2774) (sp N 0).h.toNat (sp N 0).v.toNat (cN N 0) (laA aw cw an cn 2774).s.toNat (sp N (0 + 1)).v.toNat (valN N (fun _ => 0) 0) (j / (laA aw cw an cn 2774).k.toNat)) 1 = 0 := by
      rw [smV, smV]
      unfold plW
      show 0 + (1 : Int) * lkW _ _ 0 _ _ _ _ (fun _ => 0) 0 = 0
      rw [hz]; rfl
    rw [this]
    unfold beV
    rw [if_neg (by show ¬ 0 < 0; omega)]
    show (if Wd.plV 1 1 0 1 0 1 1 1 0 = true then (1 : Int) else -1) = 1
    rw [if_pos plV_one]
  | i + 1, hi, j, hj => by
    have ih := lg_val h i (by omega)
    have e := h.lp (i + 1) (by omega) (by omega)
    have hq : j / 2774 < 24 := by omega
    rw [valN, e, lg_sp h (i + 1) hi, show cN N (i + 1) = 2774 by unfold cN; rw [lg_sp h i (by omega)]; rfl, lg_sp h i (by omega)]
    show lkW (((j / 2774 / 6 : Nat) : Int) * 1 - 0) (((j / 2774 % 6 : Nat) : Int) * 1 - 0) 0 4 6 2774 1 (valN N (fun _ => 0) (i + 1)) (j % 2774) = 1
    unfold lkW
    have h1 : j % 2774 / 2774 = 0 := Nat.div_eq_of_lt (Nat.mod_lt _ (by decide))
    rw [h1]
    rw [if_pos (by unfold Inw; refine ⟨⟨by omega, by omega⟩, by omega, by omega⟩)]
    refine ih _ ?_
    have e1 : ((((j / 2774 / 6 : Nat) : Int) * 1 - 0 + ((0 / 1 : Nat) : Int)).toNat * 6 + (((j / 2774 % 6 : Nat) : Int) * 1 - 0 + ((0 % 1 : Nat) : Int)).toNat) * 2774 + j % 2774 % 2774 = j := by
      have a : (((j / 2774 / 6 : Nat) : Int) * 1 - 0 + ((0 / 1 : Nat) : Int)).toNat = j / 2774 / 6 := by omega
      have b : (((j / 2774 % 6 : Nat) : Int) * 1 - 0 + ((0 % 1 : Nat) : Int)).toNat = j / 2774 % 6 := by omega
      rw [a, b]
      omega
    rw [e1]
    exact hj
theorem lg_last {k : Nat} {N : Nt} (h : Lg k N) (hk : 1 ≤ k) (j : Nat) : valN N (fun _ => 0) 64 j = 66576 := by
  obtain ⟨aw, cw, ab, cb, e, -⟩ := h.ld
  have hF : fanN N 63 = 66576 := by unfold fanN; rw [lg_sp h 62 (by omega), e]; rfl
  rw [valN, hF, e]
  show ouV (laD k aw cw ab cb) 66576 (valN N (fun _ => 0) 63) j = 66576
  unfold ouV beV
  rw [if_pos (show 0 < (laD k aw cw ab cb).mb by show 0 < k; omega)]
  show smV (fun _ => 1) (valN N (fun _ => 0) 63) 66576 + 0 = 66576
  rw [sm_ones 66576 fun q hq => lg_val h 62 (by omega) q hq]
  rfl
theorem gr_const {f : Nat → Int} {v : Int} (hf : ∀ j, f j = v) : ∀ n, grV f n = 0
  | 0 => rfl
  | n + 1 => by rw [grV, gr_const hf n, if_neg (by rw [hf, hf]; omega)]
end Go.Proofs.Ytkhlhcbbbhbgeaa.Nn
/- THE DOCUMENT'S NETWORKS: WHERE A LAYER STANDS. -/
namespace Go.Proofs.Ytkhlhcbbbhbgeaa.Nn
open Go.RowKit

abbrev inv (at' : Int) (S : Sp) : Value := .agg #[.int .i64 at', .bool S.la, .int .i64 S.h, .int .i64 S.v, .int .i64 S.c, .int .i64 S.ah]
def Iv (W : World) (g : Nat) (at' : Int) (S : Sp) : Prop := W.cell? ⟨g, 0, none⟩ = some (.int .i64 at') ∧ W.cell? ⟨g, 1, none⟩ = some (.bool S.la) ∧ W.cell? ⟨g, 2, none⟩ = some (.int .i64 S.h) ∧ W.cell? ⟨g, 3, none⟩ = some (.int .i64 S.v) ∧ W.cell? ⟨g, 4, none⟩ = some (.int .i64 S.c) ∧ W.cell? ⟨g, 5, none⟩ = some (.int .i64 S.ah)
theorem Iv.keep {W w' : World} {g : Nat} {at' : Int} {S : Sp} (k : Iv W g at' S) (hb : Below W.heap.size W w') : Iv w' g at' S := by
  obtain ⟨c0, c1, c2, c3, c4, c5⟩ := k
  exact ⟨keepc hb c0, keepc hb c1, keepc hb c2, keepc hb c3, keepc hb c4, keepc hb c5⟩
theorem iv_new {W : World} {g : Nat} (hg : W.heap.size = g) (at' : Int) (S : Sp) (t : TypeId) : Iv (W.alloc (.cells #[.int .i64 at', .bool S.la, .int .i64 S.h, .int .i64 S.v, .int .i64 S.c, .int .i64 S.ah] t)) g at' S := by
  subst hg
  refine ⟨?_, ?_, ?_, ?_, ?_, ?_⟩ <;> simp [go_sem]
end Go.Proofs.Ytkhlhcbbbhbgeaa.Nn
/- THE DOCUMENT'S NETWORKS: NAMES, KINDS, FAN-IN. -/
namespace Go.Proofs.Ytkhlhcbbbhbgeaa.Nn
open Go.RowKit

set_option maxHeartbeats 1600000 in
set_option maxRecDepth 100000 in
theorem rnamed_any (s : ByteArray) (hs : s.size ≤ 9223372036854775807) (w : World) : Calls Try.prog 34 #[.string s] w fun e w' => e = .returned (.bool (nmB s)) ∧ w' = w := by
  by_cases h1 : s.size < 1
  · rw [nmB_len (by omega)]
    go_enter Try.func34, Try.ntmps34
    go_wp2
    go_ret
    exact ⟨rfl, rfl⟩
  · by_cases h2 : 32 < s.size
    · rw [nmB_len (by omega)]
      go_enter Try.func34, Try.ntmps34
      go_wp2
      go_ret
      exact ⟨rfl, rfl⟩
    · have HN := hid1 (fun k (hk : k < s.size) h => nmB_no hk h)
      have HO := hid1 (fun h => nmB_ok (s := s) (by omega) h)
      go_enter Try.func34, Try.ntmps34
      go_wp2_with fail
      go_loop [3] (fun i => ∃ k : Nat, k ≤ s.size ∧ i = .int .i64 k ∧ Hid (∀ j, j < k → inB (byt s j) = true)) (fun i => s.size - (intOf i).toNat)
      case atStart => exact ⟨0, Nat.zero_le _, rfl, hid1 fun j hj => absurd hj (by omega)⟩
      case round =>
        obtain ⟨k, hk, rfl, HA⟩ := hrel
        by_cases hlt : k < s.size
        · have hby := hid1 (byt_at hlt)
          have hn := HN.out k hlt
          have hc : (97 ≤ (s[k].toNat : Int) ∧ (s[k].toNat : Int) ≤ 122) ∨ (65 ≤ (s[k].toNat : Int) ∧ (s[k].toNat : Int) ≤ 90) ∨ (48 ≤ (s[k].toNat : Int) ∧ (s[k].toNat : Int) ≤ 57) ∨ (s[k].toNat : Int) = 95 ∨ (s[k].toNat : Int) = 45 ∨ (s[k].toNat : Int) < 45 ∨ (45 < (s[k].toNat : Int) ∧ (s[k].toNat : Int) < 48) ∨ (57 < (s[k].toNat : Int) ∧ (s[k].toNat : Int) < 65) ∨ (90 < (s[k].toNat : Int) ∧ (s[k].toNat : Int) < 95) ∨ (95 < (s[k].toNat : Int) ∧ (s[k].toNat : Int) < 97) ∨ 122 < (s[k].toNat : Int) := by omega
          by_cases hx : inB (byt s k) = true
          · have hy := hx
            rw [← hby.out] at hy
            have hy2 : (97 ≤ (s[k].toNat : Int) ∧ (s[k].toNat : Int) ≤ 122) ∨ (65 ≤ (s[k].toNat : Int) ∧ (s[k].toNat : Int) ≤ 90) ∨ (48 ≤ (s[k].toNat : Int) ∧ (s[k].toNat : Int) ≤ 57) ∨ (s[k].toNat : Int) = 95 ∨ (s[k].toNat : Int) = 45 := of_decide_eq_true hy
            have HX := hid1 hx
            clear hx hy hc hn
            generalize hcc : (s[k].toNat : Int) = c at hy2
            rcases hy2 with ⟨g1, g2⟩ | ⟨g1, g2⟩ | ⟨g1, g2⟩ | g1 | g1
            all_goals
              go_wp2_with fail
              go_round
              case rel => exact ⟨k + 1, by omega, by go_num, hid1 fun j hj => by
                by_cases e : j = k
                · rw [e]; exact HX.out
                · exact HA.out j (by omega)⟩
              case measure => simp [intOf]; omega
          · have hy : inB (byt s k) = false := by simpa using hx
            have HF := hid1 (hn hy)
            rw [← hby.out] at hy
            have hy2 := of_decide_eq_false hy
            clear hx hy hn
            generalize hcc : (s[k].toNat : Int) = c at hy2 hc
            have e1 : (c != 95) = true := by simp; omega
            have e2 : (c != 45) = true := by simp; omega
            have e3 : 48 ≤ c → decide (c ≤ 57) = false := fun h => by simp; omega
            have e4 : 65 ≤ c → decide (c ≤ 90) = false := fun h => by simp; omega
            have e5 : 97 ≤ c → decide (c ≤ 122) = false := fun h => by simp; omega
            rcases hc with ⟨g1, g2⟩ | ⟨g1, g2⟩ | ⟨g1, g2⟩ | g1 | g1 | g1 | ⟨g1, g2⟩ | ⟨g1, g2⟩ | ⟨g1, g2⟩ | ⟨g1, g2⟩ | g1
            · omega
            · omega
            · omega
            · omega
            · omega
            all_goals
              clear hy2
              go_wp2_with fail
              go_ret
              exact ⟨by rw [HF.out]; first | rfl | (simp; omega), rfl⟩
        · have : k = s.size := by omega
          subst this
          go_wp2_with fail
          go_ret
          exact ⟨by rw [HO.out HA.out]; rfl, rfl⟩
def rkE (L : Ly) (S : Sp) : Int := if L.kd = 1 then (if S.la = true then 51 else ouE L) else if L.kd = 2 then (if ouE L = 0 then nwE L else 30) else if L.kd = 3 then (if S.fs = true then 51 else if S.la = true then 51 else owE L) else 51
theorem ouE_ok {L : Ly} (h1 : 1 ≤ L.k) (h2 : L.k ≤ 4096) : ouE L = 0 := if_pos ⟨h1, h2⟩
theorem ouE_no {L : Ly} (h : ¬ (1 ≤ L.k ∧ L.k ≤ 4096)) : ouE L = 30 := if_neg h
set_option maxHeartbeats 3200000 in
set_option maxRecDepth 100000 in
theorem rkind_any (L : Ly) (S : Sp) (at' : Int) (hat : S.fs = decide (at' = 0)) (w : World) : Calls Try.prog 50 #[lyv L, inv at' S] w fun e w' => e = .returned (.int .i64 (rkE L S)) ∧ Below w.heap.size w w' := by
  obtain ⟨E, hE⟩ : ∃ E, rkE L S = E := ⟨_, rfl⟩
  rw [hE]
  unfold rkE at hE
  by_cases h1 : L.kd = 1
  · rw [if_pos h1] at hE
    by_cases hl : S.la = true
    · rw [if_pos hl] at hE
      subst hE
      clear hat
      go_enter Try.func50, Try.ntmps50
      go_wp2_with fail
      all_goals go_ret
      all_goals exact ⟨by first | rfl | simp [*], by repeat (first | (with_reducible exact Below.refl _ _) | (with_reducible refine bl_alloc ?_ _) | (with_reducible refine Below.drew ?_) | (with_reducible refine bl_drewN ?_ _) | (with_reducible refine bl_set ?_ (by omega) _) | (with_reducible refine bl_step ?_ (by assumption)))⟩
    · rw [if_neg hl] at hE
      have hl2 : S.la = false := by simpa using hl
      clear hl
      by_cases k1 : L.k < 1
      · rw [ouE_no (by omega)] at hE
        subst hE
        clear hat
        go_enter Try.func50, Try.ntmps50
        go_wp2_with fail
        all_goals go_ret
        all_goals exact ⟨by first | rfl | simp [*], by repeat (first | (with_reducible exact Below.refl _ _) | (with_reducible refine bl_alloc ?_ _) | (with_reducible refine Below.drew ?_) | (with_reducible refine bl_drewN ?_ _) | (with_reducible refine bl_set ?_ (by omega) _) | (with_reducible refine bl_step ?_ (by assumption)))⟩
      · by_cases k2 : 4096 < L.k
        · rw [ouE_no (by omega)] at hE
          subst hE
          clear hat
          go_enter Try.func50, Try.ntmps50
          go_wp2_with fail
          all_goals go_ret
          all_goals exact ⟨by first | rfl | simp [*], by repeat (first | (with_reducible exact Below.refl _ _) | (with_reducible refine bl_alloc ?_ _) | (with_reducible refine Below.drew ?_) | (with_reducible refine bl_drewN ?_ _) | (with_reducible refine bl_set ?_ (by omega) _) | (with_reducible refine bl_step ?_ (by assumption)))⟩
        · rw [ouE_ok (by omega) (by omega)] at hE
          subst hE
          clear hat
          go_enter Try.func50, Try.ntmps50
          go_wp2_with fail
          all_goals go_ret
          all_goals exact ⟨by first | rfl | simp [*], by repeat (first | (with_reducible exact Below.refl _ _) | (with_reducible refine bl_alloc ?_ _) | (with_reducible refine Below.drew ?_) | (with_reducible refine bl_drewN ?_ _) | (with_reducible refine bl_set ?_ (by omega) _) | (with_reducible refine bl_step ?_ (by assumption)))⟩
  · rw [if_neg h1] at hE
    have h1b : (L.kd != 1) = true := by simpa using h1
    by_cases h2 : L.kd = 2
    · rw [if_pos h2] at hE
      by_cases k1 : L.k < 1
      · rw [ouE_no (by omega), if_neg (by decide)] at hE
        subst hE
        clear hat
        go_enter Try.func50, Try.ntmps50
        go_wp2_with fail
        all_goals go_ret
        all_goals exact ⟨by first | rfl | simp [*], by repeat (first | (with_reducible exact Below.refl _ _) | (with_reducible refine bl_alloc ?_ _) | (with_reducible refine Below.drew ?_) | (with_reducible refine bl_drewN ?_ _) | (with_reducible refine bl_set ?_ (by omega) _) | (with_reducible refine bl_step ?_ (by assumption)))⟩
      · by_cases k2 : 4096 < L.k
        · rw [ouE_no (by omega), if_neg (by decide)] at hE
          subst hE
          clear hat
          go_enter Try.func50, Try.ntmps50
          go_wp2_with fail
          all_goals go_ret
          all_goals exact ⟨by first | rfl | simp [*], by repeat (first | (with_reducible exact Below.refl _ _) | (with_reducible refine bl_alloc ?_ _) | (with_reducible refine Below.drew ?_) | (with_reducible refine bl_drewN ?_ _) | (with_reducible refine bl_set ?_ (by omega) _) | (with_reducible refine bl_step ?_ (by assumption)))⟩
        · rw [ouE_ok (by omega) (by omega), if_pos rfl] at hE
          have we := fun w => win_eql L.r L.s L.sy L.sx L.t L.l L.b L.q 0 0 0 0 0 0 0 0 w
          unfold nwE at hE
          by_cases hz : L.r = 0 ∧ L.s = 0 ∧ L.sy = 0 ∧ L.sx = 0 ∧ L.t = 0 ∧ L.l = 0 ∧ L.b = 0 ∧ L.q = 0
          · rw [decide_eq_true hz] at we
            by_cases hb : L.bd = 0
            · rw [if_pos ⟨hz, hb⟩] at hE
              have hb2 : (L.bd != 0) = false := by simp [hb]
              subst hE
              clear hz hb
              clear hat
              go_enter Try.func50, Try.ntmps50
              go_wp2_with fail
              all_goals go_ret
              all_goals exact ⟨by first | rfl | simp [*], by repeat (first | (with_reducible exact Below.refl _ _) | (with_reducible refine bl_alloc ?_ _) | (with_reducible refine Below.drew ?_) | (with_reducible refine bl_drewN ?_ _) | (with_reducible refine bl_set ?_ (by omega) _) | (with_reducible refine bl_step ?_ (by assumption)))⟩
            · rw [if_neg (fun h => hb h.2)] at hE
              have hb2 : (L.bd != 0) = true := by simpa using hb
              subst hE
              clear hz hb
              clear hat
              go_enter Try.func50, Try.ntmps50
              go_wp2_with fail
              all_goals go_ret
              all_goals exact ⟨by first | rfl | simp [*], by repeat (first | (with_reducible exact Below.refl _ _) | (with_reducible refine bl_alloc ?_ _) | (with_reducible refine Below.drew ?_) | (with_reducible refine bl_drewN ?_ _) | (with_reducible refine bl_set ?_ (by omega) _) | (with_reducible refine bl_step ?_ (by assumption)))⟩
          · rw [decide_eq_false hz] at we
            rw [if_neg (fun h => hz h.1)] at hE
            subst hE
            clear hz
            clear hat
            go_enter Try.func50, Try.ntmps50
            go_wp2_with fail
            all_goals go_ret
            all_goals exact ⟨by first | rfl | simp [*], by repeat (first | (with_reducible exact Below.refl _ _) | (with_reducible refine bl_alloc ?_ _) | (with_reducible refine Below.drew ?_) | (with_reducible refine bl_drewN ?_ _) | (with_reducible refine bl_set ?_ (by omega) _) | (with_reducible refine bl_step ?_ (by assumption)))⟩
    · rw [if_neg h2] at hE
      have h2b : (L.kd != 2) = true := by simpa using h2
      have h2c : (L.kd == 2) = false := by simpa using h2
      by_cases h3 : L.kd = 3
      · rw [if_pos h3] at hE
        clear h1 h2
        by_cases ha : at' = 0
        · rw [if_pos (by rw [hat]; simpa using ha)] at hE
          subst hE
          clear hat
          go_enter Try.func50, Try.ntmps50
          go_wp2_with fail
          all_goals go_ret
          all_goals exact ⟨by first | rfl | simp [*], by repeat (first | (with_reducible exact Below.refl _ _) | (with_reducible refine bl_alloc ?_ _) | (with_reducible refine Below.drew ?_) | (with_reducible refine bl_drewN ?_ _) | (with_reducible refine bl_set ?_ (by omega) _) | (with_reducible refine bl_step ?_ (by assumption)))⟩
        · rw [if_neg (by rw [hat]; simpa using ha)] at hE
          have ha2 : (at' == 0) = false := by simpa using ha
          clear ha
          by_cases hl : S.la = true
          · rw [if_pos hl] at hE
            subst hE
            clear hat
            go_enter Try.func50, Try.ntmps50
            go_wp2_with fail
            all_goals go_ret
            all_goals exact ⟨by first | rfl | simp [*], by repeat (first | (with_reducible exact Below.refl _ _) | (with_reducible refine bl_alloc ?_ _) | (with_reducible refine Below.drew ?_) | (with_reducible refine bl_drewN ?_ _) | (with_reducible refine bl_set ?_ (by omega) _) | (with_reducible refine bl_step ?_ (by assumption)))⟩
          · rw [if_neg hl] at hE
            have hl2 : S.la = false := by simpa using hl
            clear hl
            unfold owE at hE
            have hcs : L.k ≠ 0 ∨ (L.k = 0 ∧ L.wt ≠ 0) ∨ (L.k = 0 ∧ L.wt = 0 ∧ L.bd ≠ 0) ∨ (L.k = 0 ∧ L.wt = 0 ∧ L.bd = 0 ∧ 0 < L.mw) ∨ (L.k = 0 ∧ L.wt = 0 ∧ L.bd = 0 ∧ L.mw = 0 ∧ 0 < L.mn) ∨ (L.k = 0 ∧ L.wt = 0 ∧ L.bd = 0 ∧ L.mw = 0 ∧ L.mn = 0 ∧ 0 < L.mb) ∨ (L.k = 0 ∧ L.wt = 0 ∧ L.bd = 0 ∧ L.mw = 0 ∧ L.mn = 0 ∧ L.mb = 0) := by omega
            rcases hcs with c1 | ⟨c1, c2⟩ | ⟨c1, c2, c3⟩ | ⟨c1, c2, c3, c4⟩ | ⟨c1, c2, c3, c4, c5⟩ | ⟨c1, c2, c3, c4, c5, c6⟩ | ⟨c1, c2, c3, c4, c5, c6⟩
            · rw [if_neg (fun h => c1 h.1.1)] at hE
              subst hE
              clear hat
              go_enter Try.func50, Try.ntmps50
              go_wp2_with fail
              all_goals go_ret
              all_goals exact ⟨by first | rfl | simp [*], by repeat (first | (with_reducible exact Below.refl _ _) | (with_reducible refine bl_alloc ?_ _) | (with_reducible refine Below.drew ?_) | (with_reducible refine bl_drewN ?_ _) | (with_reducible refine bl_set ?_ (by omega) _) | (with_reducible refine bl_step ?_ (by assumption)))⟩
            · rw [if_neg (fun h => c2 h.1.2.1)] at hE
              subst hE
              clear hat
              go_enter Try.func50, Try.ntmps50
              go_wp2_with fail
              all_goals go_ret
              all_goals exact ⟨by first | rfl | simp [*], by repeat (first | (with_reducible exact Below.refl _ _) | (with_reducible refine bl_alloc ?_ _) | (with_reducible refine Below.drew ?_) | (with_reducible refine bl_drewN ?_ _) | (with_reducible refine bl_set ?_ (by omega) _) | (with_reducible refine bl_step ?_ (by assumption)))⟩
            · rw [if_neg (fun h => c3 h.1.2.2)] at hE
              subst hE
              clear hat
              go_enter Try.func50, Try.ntmps50
              go_wp2_with fail
              all_goals go_ret
              all_goals exact ⟨by first | rfl | simp [*], by repeat (first | (with_reducible exact Below.refl _ _) | (with_reducible refine bl_alloc ?_ _) | (with_reducible refine Below.drew ?_) | (with_reducible refine bl_drewN ?_ _) | (with_reducible refine bl_set ?_ (by omega) _) | (with_reducible refine bl_step ?_ (by assumption)))⟩
            · rw [if_neg (fun h => by have := h.2.1; omega)] at hE
              subst hE
              clear hat
              go_enter Try.func50, Try.ntmps50
              go_wp2_with fail
              all_goals go_ret
              all_goals exact ⟨by first | rfl | simp [*], by repeat (first | (with_reducible exact Below.refl _ _) | (with_reducible refine bl_alloc ?_ _) | (with_reducible refine Below.drew ?_) | (with_reducible refine bl_drewN ?_ _) | (with_reducible refine bl_set ?_ (by omega) _) | (with_reducible refine bl_step ?_ (by assumption)))⟩
            · rw [if_neg (fun h => by have := h.2.2.1; omega)] at hE
              subst hE
              clear hat
              go_enter Try.func50, Try.ntmps50
              go_wp2_with fail
              all_goals go_ret
              all_goals exact ⟨by first | rfl | simp [*], by repeat (first | (with_reducible exact Below.refl _ _) | (with_reducible refine bl_alloc ?_ _) | (with_reducible refine Below.drew ?_) | (with_reducible refine bl_drewN ?_ _) | (with_reducible refine bl_set ?_ (by omega) _) | (with_reducible refine bl_step ?_ (by assumption)))⟩
            · rw [if_neg (fun h => by have := h.2.2.2; omega)] at hE
              subst hE
              clear hat
              go_enter Try.func50, Try.ntmps50
              go_wp2_with fail
              all_goals go_ret
              all_goals exact ⟨by first | rfl | simp [*], by repeat (first | (with_reducible exact Below.refl _ _) | (with_reducible refine bl_alloc ?_ _) | (with_reducible refine Below.drew ?_) | (with_reducible refine bl_drewN ?_ _) | (with_reducible refine bl_set ?_ (by omega) _) | (with_reducible refine bl_step ?_ (by assumption)))⟩
            · rw [if_pos ⟨⟨c1, c2, c3⟩, c4, c5, c6⟩] at hE
              subst hE
              clear hat
              go_enter Try.func50, Try.ntmps50
              go_wp2_with fail
              all_goals go_ret
              all_goals exact ⟨by first | rfl | simp [*], by repeat (first | (with_reducible exact Below.refl _ _) | (with_reducible refine bl_alloc ?_ _) | (with_reducible refine Below.drew ?_) | (with_reducible refine bl_drewN ?_ _) | (with_reducible refine bl_set ?_ (by omega) _) | (with_reducible refine bl_step ?_ (by assumption)))⟩
      · rw [if_neg h3] at hE
        have h3b : (L.kd != 3) = true := by simpa using h3
        subst hE
        clear hat
        go_enter Try.func50, Try.ntmps50
        go_wp2_with fail
        all_goals go_ret
        all_goals exact ⟨by first | rfl | simp [*], by repeat (first | (with_reducible exact Below.refl _ _) | (with_reducible refine bl_alloc ?_ _) | (with_reducible refine Below.drew ?_) | (with_reducible refine bl_drewN ?_ _) | (with_reducible refine bl_set ?_ (by omega) _) | (with_reducible refine bl_step ?_ (by assumption)))⟩
end Go.Proofs.Ytkhlhcbbbhbgeaa.Nn
/- SHAPES: THE DOCUMENT'S OWN CHECK, ELEMS, WORDS, INDEX, WALKED. -/
namespace Go.Proofs.Ytkhlhcbbbhbgeaa.Nn
open Go.RowKit

set_option maxRecDepth 100000 in
theorem in_yes (n lo hi : Int) (h1 : lo ≤ n) (h2 : n ≤ hi) (w : World) : Calls Try.prog 49 #[.int .i64 n, .int .i64 lo, .int .i64 hi] w fun e w' => e = .returned (.bool true) ∧ w' = w := by
  go_enter Try.func49, Try.ntmps49
  go_wp2
  go_ret
  exact ⟨rfl, rfl⟩
set_option maxRecDepth 100000 in
theorem in_no1 (n lo hi : Int) (h1 : ¬ n ≥ lo) (w : World) : Calls Try.prog 49 #[.int .i64 n, .int .i64 lo, .int .i64 hi] w fun e w' => e = .returned (.bool false) ∧ w' = w := by
  go_enter Try.func49, Try.ntmps49
  go_wp2
  go_ret
  exact ⟨rfl, rfl⟩
set_option maxRecDepth 100000 in
theorem in_no2 (n lo hi : Int) (h1 : n ≥ lo) (h2 : ¬ n ≤ hi) (w : World) : Calls Try.prog 49 #[.int .i64 n, .int .i64 lo, .int .i64 hi] w fun e w' => e = .returned (.bool false) ∧ w' = w := by
  go_enter Try.func49, Try.ntmps49
  go_wp2
  go_ret
  exact ⟨rfl, rfl⟩
theorem in_no (n lo hi : Int) (h : ¬ (lo ≤ n ∧ n ≤ hi)) (w : World) : Calls Try.prog 49 #[.int .i64 n, .int .i64 lo, .int .i64 hi] w fun e w' => e = .returned (.bool false) ∧ w' = w := by
  by_cases h1 : n ≥ lo
  · exact in_no2 n lo hi h1 (by omega) w
  · exact in_no1 n lo hi h1 w
set_option maxRecDepth 100000 in
theorem rcheck_ok (h v c : Int) (hs : Sides h v c) (w : World) :
    Calls Try.prog 35 #[shp h v c] w fun e w' => e = .returned (.int .i64 (if h * v * c > 16777216 then 31 else 0)) ∧ Below w.heap.size w w' := by
  have m1 := mul2 hs.1 hs.2.1
  have m2 := mul3 hs
  have e1 := wr_id (x := h * v) (by omega) (by omega)
  have e2 := wr_id (x := h * v * c) (by omega) (by omega)
  obtain ⟨⟨a1, a2⟩, ⟨a3, a4⟩, a5, a6⟩ := hs
  go_enter Try.func35, Try.ntmps35
  go_wp2_with (first | (go_at_call 49; refine (in_yes _ _ _ (by omega) (by omega) _).mono ?_; rintro e w' ⟨rfl, rfl⟩) | (go_at_call 49; refine (in_no _ _ _ (by omega) _).mono ?_; rintro e w' ⟨rfl, rfl⟩))
  all_goals (go_ret; exact ⟨rfl, bl_alloc (Below.refl _ _) _⟩)
set_option maxRecDepth 100000 in
theorem rcheck_n1 (h v c : Int) (h1 : ¬ (1 ≤ h ∧ h ≤ 4096)) (w : World) :
    Calls Try.prog 35 #[shp h v c] w fun e w' => e = .returned (.int .i64 30) ∧ Below w.heap.size w w' := by
  go_enter Try.func35, Try.ntmps35
  go_wp2_with (first | (go_at_call 49; refine (in_yes _ _ _ (by omega) (by omega) _).mono ?_; rintro e w' ⟨rfl, rfl⟩) | (go_at_call 49; refine (in_no _ _ _ (by omega) _).mono ?_; rintro e w' ⟨rfl, rfl⟩))
  all_goals (go_ret; exact ⟨rfl, bl_alloc (Below.refl _ _) _⟩)
set_option maxRecDepth 100000 in
theorem rcheck_n2 (h v c : Int) (h1 : 1 ≤ h ∧ h ≤ 4096) (h2 : ¬ (1 ≤ v ∧ v ≤ 4096)) (w : World) :
    Calls Try.prog 35 #[shp h v c] w fun e w' => e = .returned (.int .i64 30) ∧ Below w.heap.size w w' := by
  go_enter Try.func35, Try.ntmps35
  go_wp2_with (first | (go_at_call 49; refine (in_yes _ _ _ (by omega) (by omega) _).mono ?_; rintro e w' ⟨rfl, rfl⟩) | (go_at_call 49; refine (in_no _ _ _ (by omega) _).mono ?_; rintro e w' ⟨rfl, rfl⟩))
  all_goals (go_ret; exact ⟨rfl, bl_alloc (Below.refl _ _) _⟩)
set_option maxRecDepth 100000 in
theorem rcheck_n3 (h v c : Int) (h1 : 1 ≤ h ∧ h ≤ 4096) (h2 : 1 ≤ v ∧ v ≤ 4096) (h3 : ¬ (1 ≤ c ∧ c ≤ 4096)) (w : World) :
    Calls Try.prog 35 #[shp h v c] w fun e w' => e = .returned (.int .i64 30) ∧ Below w.heap.size w w' := by
  go_enter Try.func35, Try.ntmps35
  go_wp2_with (first | (go_at_call 49; refine (in_yes _ _ _ (by omega) (by omega) _).mono ?_; rintro e w' ⟨rfl, rfl⟩) | (go_at_call 49; refine (in_no _ _ _ (by omega) _).mono ?_; rintro e w' ⟨rfl, rfl⟩))
  all_goals (go_ret; exact ⟨rfl, bl_alloc (Below.refl _ _) _⟩)
theorem rcheck_any (h v c : Int) (w : World) :
    Calls Try.prog 35 #[shp h v c] w fun e w' => e = .returned (.int .i64 (chk h v c)) ∧ Below w.heap.size w w' := by
  unfold chk
  by_cases hs : Sides h v c
  · rw [if_pos hs]; exact rcheck_ok h v c hs w
  · rw [if_neg hs]
    by_cases h1 : 1 ≤ h ∧ h ≤ 4096
    · by_cases h2 : 1 ≤ v ∧ v ≤ 4096
      · exact rcheck_n3 h v c h1 h2 (fun h3 => hs ⟨h1, h2, h3⟩) w
      · exact rcheck_n2 h v c h1 h2 w
    · exact rcheck_n1 h v c h1 w
end Go.Proofs.Ytkhlhcbbbhbgeaa.Nn
/- SHAPES: THE DOCUMENT'S OWN INDEX, PLACE, WINDOW, STEPS, WALKED. -/
namespace Go.Proofs.Ytkhlhcbbbhbgeaa.Nn
open Go.RowKit

theorem div_is {a b q r : Int} (h : a = q * b + r) (h1 : 0 ≤ r) (h2 : r < b) : a / b = q ∧ a % b = r :=
  (Int.ediv_emod_unique (by omega)).2 ⟨by rw [h, Int.mul_comm q b]; omega, h1, h2⟩
theorem place_math {i j I m J v c : Int} (h1 : i = j * (v * c) + I) (h2 : I < v * c) (h3 : I = m * c + J) (h4 : 0 ≤ J) (h5 : J < c) (hm : 0 ≤ m) : i / c / v = j ∧ i / c % v = m ∧ i % c = J := by
  have a1 : i = (j * v + m) * c + J := by rw [h1, h3, Int.add_mul, Int.mul_assoc]; omega
  obtain ⟨q, r⟩ := div_is a1 h4 h5
  have hv : m < v := by
    apply Int.lt_of_mul_lt_mul_right (a := c) _ (by omega)
    omega
  obtain ⟨q2, r2⟩ := div_is (a := j * v + m) (b := v) (q := j) (r := m) rfl hm hv
  rw [q, r]
  exact ⟨q2, r2, rfl⟩
end Go.Proofs.Ytkhlhcbbbhbgeaa.Nn
/- SHAPES: THE DOCUMENT'S OWN WINDOW, STEPS, WALKED. -/
namespace Go.Proofs.Ytkhlhcbbbhbgeaa.Nn
open Go.RowKit

set_option maxHeartbeats 800000 in
set_option maxRecDepth 100000 in
theorem rwin_ok (r s sy sx t l b q : Int) (h0 : 1 ≤ r ∧ r ≤ 15) (h1 : 1 ≤ s ∧ s ≤ 15) (h2 : 1 ≤ sy ∧ sy ≤ 15) (h3 : 1 ≤ sx ∧ sx ≤ 15) (h4 : 0 ≤ t ∧ t ≤ 14) (h5 : 0 ≤ l ∧ l ≤ 14) (h6 : 0 ≤ b ∧ b ≤ 14) (h7 : 0 ≤ q ∧ q ≤ 14) (w : World) :
    Calls Try.prog 75 #[win r s sy sx t l b q] w fun e w' => e = .returned (.int .i64 0) ∧ Below w.heap.size w w' := by
  go_enter Try.func75, Try.ntmps75
  go_wp2_with (first | (go_at_call 49; refine (in_yes _ _ _ (by omega) (by omega) _).mono ?_; rintro e w' ⟨rfl, rfl⟩) | (go_at_call 49; refine (in_no _ _ _ (by omega) _).mono ?_; rintro e w' ⟨rfl, rfl⟩))
  go_ret
  exact ⟨rfl, bl_alloc (Below.refl _ _) _⟩
set_option maxHeartbeats 800000 in
set_option maxRecDepth 100000 in
theorem rwin_n0 (r s sy sx t l b q : Int) (h0 : ¬ (1 ≤ r ∧ r ≤ 15)) (w : World) :
    Calls Try.prog 75 #[win r s sy sx t l b q] w fun e w' => e = .returned (.int .i64 56) ∧ Below w.heap.size w w' := by
  go_enter Try.func75, Try.ntmps75
  go_wp2_with (first | (go_at_call 49; refine (in_yes _ _ _ (by omega) (by omega) _).mono ?_; rintro e w' ⟨rfl, rfl⟩) | (go_at_call 49; refine (in_no _ _ _ (by omega) _).mono ?_; rintro e w' ⟨rfl, rfl⟩))
  go_ret
  exact ⟨rfl, bl_alloc (Below.refl _ _) _⟩
set_option maxHeartbeats 800000 in
set_option maxRecDepth 100000 in
theorem rwin_n1 (r s sy sx t l b q : Int) (h0 : 1 ≤ r ∧ r ≤ 15) (h1 : ¬ (1 ≤ s ∧ s ≤ 15)) (w : World) :
    Calls Try.prog 75 #[win r s sy sx t l b q] w fun e w' => e = .returned (.int .i64 56) ∧ Below w.heap.size w w' := by
  go_enter Try.func75, Try.ntmps75
  go_wp2_with (first | (go_at_call 49; refine (in_yes _ _ _ (by omega) (by omega) _).mono ?_; rintro e w' ⟨rfl, rfl⟩) | (go_at_call 49; refine (in_no _ _ _ (by omega) _).mono ?_; rintro e w' ⟨rfl, rfl⟩))
  go_ret
  exact ⟨rfl, bl_alloc (Below.refl _ _) _⟩
set_option maxHeartbeats 800000 in
set_option maxRecDepth 100000 in
theorem rwin_n2 (r s sy sx t l b q : Int) (h0 : 1 ≤ r ∧ r ≤ 15) (h1 : 1 ≤ s ∧ s ≤ 15) (h2 : ¬ (1 ≤ sy ∧ sy ≤ 15)) (w : World) :
    Calls Try.prog 75 #[win r s sy sx t l b q] w fun e w' => e = .returned (.int .i64 56) ∧ Below w.heap.size w w' := by
  go_enter Try.func75, Try.ntmps75
  go_wp2_with (first | (go_at_call 49; refine (in_yes _ _ _ (by omega) (by omega) _).mono ?_; rintro e w' ⟨rfl, rfl⟩) | (go_at_call 49; refine (in_no _ _ _ (by omega) _).mono ?_; rintro e w' ⟨rfl, rfl⟩))
  go_ret
  exact ⟨rfl, bl_alloc (Below.refl _ _) _⟩
set_option maxHeartbeats 800000 in
set_option maxRecDepth 100000 in
theorem rwin_n3 (r s sy sx t l b q : Int) (h0 : 1 ≤ r ∧ r ≤ 15) (h1 : 1 ≤ s ∧ s ≤ 15) (h2 : 1 ≤ sy ∧ sy ≤ 15) (h3 : ¬ (1 ≤ sx ∧ sx ≤ 15)) (w : World) :
    Calls Try.prog 75 #[win r s sy sx t l b q] w fun e w' => e = .returned (.int .i64 56) ∧ Below w.heap.size w w' := by
  go_enter Try.func75, Try.ntmps75
  go_wp2_with (first | (go_at_call 49; refine (in_yes _ _ _ (by omega) (by omega) _).mono ?_; rintro e w' ⟨rfl, rfl⟩) | (go_at_call 49; refine (in_no _ _ _ (by omega) _).mono ?_; rintro e w' ⟨rfl, rfl⟩))
  go_ret
  exact ⟨rfl, bl_alloc (Below.refl _ _) _⟩
set_option maxHeartbeats 800000 in
set_option maxRecDepth 100000 in
theorem rwin_n4 (r s sy sx t l b q : Int) (h0 : 1 ≤ r ∧ r ≤ 15) (h1 : 1 ≤ s ∧ s ≤ 15) (h2 : 1 ≤ sy ∧ sy ≤ 15) (h3 : 1 ≤ sx ∧ sx ≤ 15) (h4 : ¬ (0 ≤ t ∧ t ≤ 14)) (w : World) :
    Calls Try.prog 75 #[win r s sy sx t l b q] w fun e w' => e = .returned (.int .i64 56) ∧ Below w.heap.size w w' := by
  go_enter Try.func75, Try.ntmps75
  go_wp2_with (first | (go_at_call 49; refine (in_yes _ _ _ (by omega) (by omega) _).mono ?_; rintro e w' ⟨rfl, rfl⟩) | (go_at_call 49; refine (in_no _ _ _ (by omega) _).mono ?_; rintro e w' ⟨rfl, rfl⟩))
  go_ret
  exact ⟨rfl, bl_alloc (Below.refl _ _) _⟩
set_option maxHeartbeats 800000 in
set_option maxRecDepth 100000 in
theorem rwin_n5 (r s sy sx t l b q : Int) (h0 : 1 ≤ r ∧ r ≤ 15) (h1 : 1 ≤ s ∧ s ≤ 15) (h2 : 1 ≤ sy ∧ sy ≤ 15) (h3 : 1 ≤ sx ∧ sx ≤ 15) (h4 : 0 ≤ t ∧ t ≤ 14) (h5 : ¬ (0 ≤ l ∧ l ≤ 14)) (w : World) :
    Calls Try.prog 75 #[win r s sy sx t l b q] w fun e w' => e = .returned (.int .i64 56) ∧ Below w.heap.size w w' := by
  go_enter Try.func75, Try.ntmps75
  go_wp2_with (first | (go_at_call 49; refine (in_yes _ _ _ (by omega) (by omega) _).mono ?_; rintro e w' ⟨rfl, rfl⟩) | (go_at_call 49; refine (in_no _ _ _ (by omega) _).mono ?_; rintro e w' ⟨rfl, rfl⟩))
  go_ret
  exact ⟨rfl, bl_alloc (Below.refl _ _) _⟩
set_option maxHeartbeats 800000 in
set_option maxRecDepth 100000 in
theorem rwin_n6 (r s sy sx t l b q : Int) (h0 : 1 ≤ r ∧ r ≤ 15) (h1 : 1 ≤ s ∧ s ≤ 15) (h2 : 1 ≤ sy ∧ sy ≤ 15) (h3 : 1 ≤ sx ∧ sx ≤ 15) (h4 : 0 ≤ t ∧ t ≤ 14) (h5 : 0 ≤ l ∧ l ≤ 14) (h6 : ¬ (0 ≤ b ∧ b ≤ 14)) (w : World) :
    Calls Try.prog 75 #[win r s sy sx t l b q] w fun e w' => e = .returned (.int .i64 56) ∧ Below w.heap.size w w' := by
  go_enter Try.func75, Try.ntmps75
  go_wp2_with (first | (go_at_call 49; refine (in_yes _ _ _ (by omega) (by omega) _).mono ?_; rintro e w' ⟨rfl, rfl⟩) | (go_at_call 49; refine (in_no _ _ _ (by omega) _).mono ?_; rintro e w' ⟨rfl, rfl⟩))
  go_ret
  exact ⟨rfl, bl_alloc (Below.refl _ _) _⟩
set_option maxHeartbeats 800000 in
set_option maxRecDepth 100000 in
theorem rwin_n7 (r s sy sx t l b q : Int) (h0 : 1 ≤ r ∧ r ≤ 15) (h1 : 1 ≤ s ∧ s ≤ 15) (h2 : 1 ≤ sy ∧ sy ≤ 15) (h3 : 1 ≤ sx ∧ sx ≤ 15) (h4 : 0 ≤ t ∧ t ≤ 14) (h5 : 0 ≤ l ∧ l ≤ 14) (h6 : 0 ≤ b ∧ b ≤ 14) (h7 : ¬ (0 ≤ q ∧ q ≤ 14)) (w : World) :
    Calls Try.prog 75 #[win r s sy sx t l b q] w fun e w' => e = .returned (.int .i64 56) ∧ Below w.heap.size w w' := by
  go_enter Try.func75, Try.ntmps75
  go_wp2_with (first | (go_at_call 49; refine (in_yes _ _ _ (by omega) (by omega) _).mono ?_; rintro e w' ⟨rfl, rfl⟩) | (go_at_call 49; refine (in_no _ _ _ (by omega) _).mono ?_; rintro e w' ⟨rfl, rfl⟩))
  go_ret
  exact ⟨rfl, bl_alloc (Below.refl _ _) _⟩
theorem rwindow_any (r s sy sx t l b q : Int) (w : World) :
    Calls Try.prog 75 #[win r s sy sx t l b q] w fun e w' => e = .returned (.int .i64 (wiE r s sy sx t l b q)) ∧ Below w.heap.size w w' := by
  unfold wiE
  by_cases hw : WOk r s sy sx t l b q
  · rw [if_pos hw]
    obtain ⟨⟨a1, a2, a3, a4⟩, b1, b2, b3, b4⟩ := hw
    exact rwin_ok r s sy sx t l b q a1 b1 a2 b2 a3 b3 a4 b4 w
  · rw [if_neg hw]
    by_cases h0 : 1 ≤ r ∧ r ≤ 15
    rotate_left
    · exact rwin_n0 r s sy sx t l b q h0 w
    by_cases h1 : 1 ≤ s ∧ s ≤ 15
    rotate_left
    · exact rwin_n1 r s sy sx t l b q h0 h1 w
    by_cases h2 : 1 ≤ sy ∧ sy ≤ 15
    rotate_left
    · exact rwin_n2 r s sy sx t l b q h0 h1 h2 w
    by_cases h3 : 1 ≤ sx ∧ sx ≤ 15
    rotate_left
    · exact rwin_n3 r s sy sx t l b q h0 h1 h2 h3 w
    by_cases h4 : 0 ≤ t ∧ t ≤ 14
    rotate_left
    · exact rwin_n4 r s sy sx t l b q h0 h1 h2 h3 h4 w
    by_cases h5 : 0 ≤ l ∧ l ≤ 14
    rotate_left
    · exact rwin_n5 r s sy sx t l b q h0 h1 h2 h3 h4 h5 w
    by_cases h6 : 0 ≤ b ∧ b ≤ 14
    rotate_left
    · exact rwin_n6 r s sy sx t l b q h0 h1 h2 h3 h4 h5 h6 w
    by_cases h7 : 0 ≤ q ∧ q ≤ 14
    rotate_left
    · exact rwin_n7 r s sy sx t l b q h0 h1 h2 h3 h4 h5 h6 h7 w
    exact absurd ⟨⟨h0, h2, h4, h6⟩, h1, h3, h5, h7⟩ hw
theorem stN_done {n bf af wi st j all : Int} (ha : all = n + bf + af) (h1 : 1 ≤ st) (h2 : j * st + wi > all) (h3 : j = 0 ∨ (1 ≤ j ∧ (j - 1) * st + wi ≤ all)) : stN n bf af wi st = j := by
  have e : bf + n + af = all := by omega
  unfold stN
  rw [e]
  rcases h3 with rfl | ⟨h4, h5⟩
  · rw [if_pos (by omega)]
  · have e2 : (j - 1) * st = j * st - st := by rw [Int.sub_mul, Int.one_mul]
    have k : 0 ≤ (j - 1) * st := Int.mul_nonneg (by omega) (by omega)
    rw [if_neg (by omega), (div_is (a := all - wi) (b := st) (q := j - 1) (r := all - wi - (j - 1) * st) (by omega) (by omega) (by omega)).1]
    omega
set_option maxHeartbeats 800000 in
set_option maxRecDepth 100000 in
theorem steps_any (n bf af wi st all V : Int) (hn : 1 ≤ n ∧ n ≤ 4096) (hs : SideOk bf af wi st) (ha : all = n + bf + af) (hV : stN n bf af wi st = V) (w : World) :
    Calls Try.prog 89 #[.int .i64 all, .int .i64 wi, .int .i64 st] w fun e w' => e = .returned (.int .i64 V) ∧ w' = w := by
  obtain ⟨h1, h2, h3, h4⟩ := hs
  have HV := hid1 hV
  clear hV
  go_enter Try.func89, Try.ntmps89
  go_wp2_with fail
  go_loop [7, 8] (fun n x => ∃ j A : Int, 0 ≤ j ∧ A = j * st ∧ (j = 0 ∨ (1 ≤ j ∧ (j - 1) * st + wi ≤ all)) ∧ n = .int .i64 j ∧ x = .int .i64 A) (fun _ x => (all + 32 - intOf x).toNat)
  case atStart => exact ⟨0, 0, by omega, by omega, .inl rfl, rfl, rfl⟩
  case round =>
    obtain ⟨j, A, hj, hA, hp, rfl, rfl⟩ := hrel
    have pj : j ≤ j * st := by
      have := Int.mul_le_mul_of_nonneg_left h2.1 hj
      omega
    have e2 : (j - 1) * st = j * st - st := by rw [Int.sub_mul, Int.one_mul]
    have e3 : (j + 1) * st = j * st + st := by rw [Int.add_mul, Int.one_mul]
    have z1 : 0 ≤ A := by omega
    have z2 : A ≤ 4140 := by rcases hp with rfl | hp <;> omega
    have d0 := wr_id (x := A + wi) (by omega) (by omega)
    have z3 : j ≤ A := by omega
    have F1 := hid1 (show A + st = (j + 1) * st by omega)
    have F2 := hid1 hA
    clear hA e2 e3 pj
    by_cases hlt : A + wi ≤ all
    · have d1 := wr_id (x := j + 1) (by omega) (by omega)
      have d2 := wr_id (x := A + st) (by omega) (by omega)
      go_wp2_with fail
      refine ⟨⟨j + 1, A + st, by omega, F1.out, .inr ⟨by omega, ?_⟩, rfl, rfl⟩, by simp [intOf]; omega⟩
      rw [show j + 1 - 1 = j by omega, ← F2.out]; omega
    · obtain rfl : V = j := HV.out.symm.trans (stN_done ha h2.1 (by rw [← F2.out]; omega) hp)
      go_wp2_with fail
      go_ret
      exact ⟨rfl, rfl⟩
end Go.Proofs.Ytkhlhcbbbhbgeaa.Nn
/- SHAPES: THE DOCUMENT'S OWN SLIDE, WALKED. -/
namespace Go.Proofs.Ytkhlhcbbbhbgeaa.Nn
open Go.RowKit

theorem wi_id {x : Int} (h1 : -9223372036854775808 ≤ x) (h2 : x ≤ 9223372036854775807) : IntKind.i64.wrap x = x := by
  have := wr_id h1 h2
  first | exact this | (rw [IntKind.wrap_i64]; exact this) | (simp [IntKind.wrap, IntKind.signed, IntKind.bits]; omega)
set_option maxRecDepth 100000 in
theorem rslide_bad1 (h v c r s sy sx t l b q k : Int) (hk : chk h v c ≠ 0) (w : World) :
    Calls Try.prog 76 #[shp h v c, win r s sy sx t l b q, .int .i64 k] w fun e w' => e = .returned (sle 0 0 0 (chk h v c)) ∧ Below w.heap.size w w' := by
  have HC := rcheck_any h v c
  generalize chk h v c = E at *
  go_enter Try.func76, Try.ntmps76
  go_wp2_with fail
  refine gen_calls (fun W => Below w.heap.size w W ∧ Wn W (w.heap.size + 1) 0 r s sy sx t l b q ∧ Rz W (w.heap.size + 1 + 1)) ⟨by repeat (first | exact Below.refl _ _ | refine bl_alloc ?_ _ | refine Below.drew ?_ | refine bl_drewN ?_ _ | refine bl_set ?_ (by first | omega | (simp; done) | (simp; omega)) _ | refine bl_step ?_ (by assumption)), (wn_new' (by simp)).keep (bl_alloc (Below.refl _ _) _), rz_new (by simp)⟩ ?_
  rintro W ⟨B0, W0, R0⟩
  refine (HC W).mono ?_
  rintro e w1 ⟨rfl, hb1⟩
  replace R0 := R0.keep hb1
  replace W0 := W0.keep hb1
  replace B0 := bl_step B0 hb1
  clear hb1
  obtain ⟨x0, x1, x2, x3, x4, x5, x6, x7⟩ := W0
  obtain ⟨⟨r0, r1, r2⟩, f0, f1, f2⟩ := R0
  clear x0 x1 x2 x3 x4 x5 x6 x7
  go_wp2_with fail
  simp [bodyPost, results, Try.results76, go_sem, *]
  repeat (first | exact Below.refl _ _ | refine bl_alloc ?_ _ | refine Below.drew ?_ | refine bl_drewN ?_ _ | refine bl_set ?_ (by first | omega | (simp; done) | (simp; omega)) _ | refine bl_step ?_ (by assumption))
set_option maxRecDepth 100000 in
theorem rslide_bad2 (h v c r s sy sx t l b q k : Int) (hk : chk h v c = 0) (k1 : ¬ (1 ≤ k ∧ k ≤ 4096)) (w : World) :
    Calls Try.prog 76 #[shp h v c, win r s sy sx t l b q, .int .i64 k] w fun e w' => e = .returned (sle 0 0 0 30) ∧ Below w.heap.size w w' := by
  have HC := rcheck_any h v c
  rw [hk] at HC
  go_enter Try.func76, Try.ntmps76
  go_wp2_with fail
  refine gen_calls (fun W => Below w.heap.size w W ∧ Wn W (w.heap.size + 1) 0 r s sy sx t l b q ∧ Rz W (w.heap.size + 1 + 1)) ⟨by repeat (first | exact Below.refl _ _ | refine bl_alloc ?_ _ | refine Below.drew ?_ | refine bl_drewN ?_ _ | refine bl_set ?_ (by first | omega | (simp; done) | (simp; omega)) _ | refine bl_step ?_ (by assumption)), (wn_new' (by simp)).keep (bl_alloc (Below.refl _ _) _), rz_new (by simp)⟩ ?_
  rintro W ⟨B0, W0, R0⟩
  refine (HC W).mono ?_
  rintro e w1 ⟨rfl, hb1⟩
  replace R0 := R0.keep hb1
  replace W0 := W0.keep hb1
  replace B0 := bl_step B0 hb1
  clear hb1
  obtain ⟨x0, x1, x2, x3, x4, x5, x6, x7⟩ := W0
  obtain ⟨⟨r0, r1, r2⟩, f0, f1, f2⟩ := R0
  clear x0 x1 x2 x3 x4 x5 x6 x7
  go_wp2_with (first | (go_at_call 49; refine (in_yes _ _ _ (by omega) (by omega) _).mono ?_; rintro e w' ⟨rfl, hx⟩; subst w') | (go_at_call 49; refine (in_no _ _ _ (by omega) _).mono ?_; rintro e w' ⟨rfl, hx⟩; subst w'))
  simp [bodyPost, results, Try.results76, go_sem, *]
  repeat (first | exact Below.refl _ _ | refine bl_alloc ?_ _ | refine Below.drew ?_ | refine bl_drewN ?_ _ | refine bl_set ?_ (by first | omega | (simp; done) | (simp; omega)) _ | refine bl_step ?_ (by assumption))
set_option maxRecDepth 100000 in
theorem rslide_bad4 (h v c r s sy sx t l b q k : Int) (hk : chk h v c = 0) (k1 : 1 ≤ k ∧ k ≤ 4096) (hw : ¬ WOk r s sy sx t l b q) (w : World) :
    Calls Try.prog 76 #[shp h v c, win r s sy sx t l b q, .int .i64 k] w fun e w' => e = .returned (sle 0 0 0 56) ∧ Below w.heap.size w w' := by
  have HC := rcheck_any h v c
  rw [hk] at HC
  have HW := rwindow_any r s sy sx t l b q
  unfold wiE at HW
  rw [if_neg hw] at HW
  go_enter Try.func76, Try.ntmps76
  go_wp2_with fail
  refine gen_calls (fun W => Below w.heap.size w W ∧ Wn W (w.heap.size + 1) 0 r s sy sx t l b q ∧ Rz W (w.heap.size + 1 + 1)) ⟨by repeat (first | exact Below.refl _ _ | refine bl_alloc ?_ _ | refine Below.drew ?_ | refine bl_drewN ?_ _ | refine bl_set ?_ (by first | omega | (simp; done) | (simp; omega)) _ | refine bl_step ?_ (by assumption)), (wn_new' (by simp)).keep (bl_alloc (Below.refl _ _) _), rz_new (by simp)⟩ ?_
  rintro W ⟨B0, W0, R0⟩
  refine (HC W).mono ?_
  rintro e w1 ⟨rfl, hb1⟩
  replace R0 := R0.keep hb1
  replace W0 := W0.keep hb1
  replace B0 := bl_step B0 hb1
  clear hb1
  obtain ⟨x0, x1, x2, x3, x4, x5, x6, x7⟩ := W0
  obtain ⟨⟨r0, r1, r2⟩, f0, f1, f2⟩ := R0
  go_wp2_with (first | (go_at_call 49; refine (in_yes _ _ _ (by omega) (by omega) _).mono ?_; rintro e w' ⟨rfl, hx⟩; subst w') | (go_at_call 49; refine (in_no _ _ _ (by omega) _).mono ?_; rintro e w' ⟨rfl, hx⟩; subst w'))
  refine (HW w1).mono ?_
  rintro e w2 ⟨rfl, hb2⟩
  have R0 : Rz w1 (w.heap.size + 1 + 1) := ⟨⟨r0, r1, r2⟩, f0, f1, f2⟩
  replace R0 := R0.keep hb2
  replace B0 := bl_step B0 hb2
  clear hb2 x0 x1 x2 x3 x4 x5 x6 x7 r0 r1 r2 f0 f1 f2
  obtain ⟨⟨r0, r1, r2⟩, f0, f1, f2⟩ := R0
  go_wp2_with fail
  simp [bodyPost, results, Try.results76, go_sem, *]
  repeat (first | exact Below.refl _ _ | refine bl_alloc ?_ _ | refine Below.drew ?_ | refine bl_drewN ?_ _ | refine bl_set ?_ (by first | omega | (simp; done) | (simp; omega)) _ | refine bl_step ?_ (by assumption))
set_option maxHeartbeats 1600000 in
set_option maxRecDepth 100000 in
theorem rslide_good (h v c r s sy sx t l b q k OH OW : Int) (hk : chk h v c = 0) (k1 : 1 ≤ k ∧ k ≤ 4096) (hw : WOk r s sy sx t l b q) (eh : stN h t b r sy = OH) (ew : stN v l q s sx = OW) (ans : Value)
    (A0 : OH = 0 → ans = sle 0 0 0 32) (A1 : ¬ OH = 0 → OW = 0 → ans = sle 0 0 0 32) (A2 : ¬ OH = 0 → ¬ OW = 0 → chk OH OW k ≠ 0 → ans = sle 0 0 0 (chk OH OW k)) (A3 : ¬ OH = 0 → ¬ OW = 0 → chk OH OW k = 0 → ans = sle OH OW k 0) (w : World) :
    Calls Try.prog 76 #[shp h v c, win r s sy sx t l b q, .int .i64 k] w fun e w' => e = .returned ans ∧ Below w.heap.size w w' := by
  have HC := rcheck_any h v c
  rw [hk] at HC
  have HW := rwindow_any r s sy sx t l b q
  unfold wiE at HW
  rw [if_pos hw] at HW
  have hs := (chk_zero hk).1
  have s1 := hs.1; have s2 := hs.2.1
  obtain ⟨v1, v2, v3, v4⟩ := hw.1
  obtain ⟨v5, v6, v7, v8⟩ := hw.2
  have H1 := steps_any h t b r sy (IntKind.i64.wrap (IntKind.i64.wrap (h + t) + b)) OH hs.1 hw.1 (by rw [wi_id (x := h + t) (by omega) (by omega), wi_id (by omega) (by omega)]) eh
  have H2 := steps_any v l q s sx (IntKind.i64.wrap (IntKind.i64.wrap (v + l) + q)) OW hs.2.1 hw.2 (by rw [wi_id (x := v + l) (by omega) (by omega), wi_id (by omega) (by omega)]) ew
  have HO := rcheck_any OH OW k
  clear hs hw eh ew hk s1 s2 v1 v2 v3 v4 v5 v6 v7 v8
  have AA := hid1 (And.intro A0 (And.intro A1 (And.intro A2 A3)))
  clear A0 A1 A2 A3
  go_enter Try.func76, Try.ntmps76
  go_wp2_with fail
  refine gen_calls (fun W => Below w.heap.size w W ∧ Sh W w.heap.size 0 h v c ∧ Wn W (w.heap.size + 1) 0 r s sy sx t l b q ∧ Rz W (w.heap.size + 1 + 1)) ⟨by repeat (first | exact Below.refl _ _ | refine bl_alloc ?_ _ | refine Below.drew ?_ | refine bl_drewN ?_ _ | refine bl_set ?_ (by first | omega | (simp; done) | (simp; omega)) _ | refine bl_step ?_ (by assumption)), (sh_new' rfl).keep (bl_alloc (bl_alloc (Below.refl _ _) _) _), (wn_new' (by simp)).keep (bl_alloc (Below.refl _ _) _), rz_new (by simp)⟩ ?_
  rintro W ⟨B0, S0, W0, R0⟩
  refine (HC W).mono ?_
  rintro e w1 ⟨rfl, hb1⟩
  replace S0 := S0.keep hb1
  replace R0 := R0.keep hb1
  replace W0 := W0.keep hb1
  replace B0 := bl_step B0 hb1
  clear hb1 HC W
  have Z := W0
  obtain ⟨x0, x1, x2, x3, x4, x5, x6, x7⟩ := Z
  go_wp2_with (first | (go_at_call 49; refine (in_yes _ _ _ (by omega) (by omega) _).mono ?_; rintro e w' ⟨rfl, hx⟩; subst w') | (go_at_call 49; refine (in_no _ _ _ (by omega) _).mono ?_; rintro e w' ⟨rfl, hx⟩; subst w'))
  refine (HW w1).mono ?_
  rintro e W2 ⟨rfl, hb2⟩
  clear x0 x1 x2 x3 x4 x5 x6 x7
  replace S0 := S0.keep hb2
  replace R0 := R0.keep hb2
  replace W0 := W0.keep hb2
  replace B0 := bl_step B0 hb2
  clear hb2 HW
  have SS := hid1 S0
  have WW := hid1 W0
  have RR := hid1 R0
  obtain ⟨x0, x1, x2, x3, x4, x5, x6, x7⟩ := W0
  obtain ⟨y0, y1, y2⟩ := S0
  have zr := (World.block_lt_of_cell? W2 ⟨w.heap.size + 1 + 1, 0, none⟩ R0.1.1)
  go_wp2_with fail
  go_region_held3 (fun X => X.cell? ⟨w.heap.size, 0, none⟩ = some (.int .i64 h) ∧ X.cell? ⟨w.heap.size, 1, none⟩ = some (.int .i64 v) ∧ X.cell? ⟨w.heap.size, 2, none⟩ = some (.int .i64 c) ∧ X.cell? ⟨w.heap.size + 1, 0, none⟩ = some (.int .i64 r) ∧ X.cell? ⟨w.heap.size + 1, 1, none⟩ = some (.int .i64 s) ∧ X.cell? ⟨w.heap.size + 1, 2, none⟩ = some (.int .i64 sy) ∧ X.cell? ⟨w.heap.size + 1, 3, none⟩ = some (.int .i64 sx) ∧ X.cell? ⟨w.heap.size + 1, 4, none⟩ = some (.int .i64 t) ∧ X.cell? ⟨w.heap.size + 1, 5, none⟩ = some (.int .i64 l) ∧ X.cell? ⟨w.heap.size + 1, 6, none⟩ = some (.int .i64 b) ∧ X.cell? ⟨w.heap.size + 1, 7, none⟩ = some (.int .i64 q)) (((try dsimp only); refine sw_keep SS.out WW.out ?_; repeat (first | exact Below.refl _ _ | refine bl_alloc ?_ _ | refine Below.drew ?_ | refine bl_drewN ?_ _ | refine bl_set ?_ (by first | omega | (simp; done) | (simp; omega)) _ | refine bl_step ?_ (by assumption))))
    (first
      | (go_at_call 89; (with_reducible refine (H1 _).mono ?_); rintro e w3 ⟨rfl, hx⟩; subst w3)
      | (go_at_call 89; (with_reducible refine (H2 _).mono ?_); rintro e w4 ⟨rfl, hx⟩; subst w4))
  all_goals (
    first
      | refine gen_then (fun X => Below w.heap.size w X ∧ Sh X W2.heap.size 0 OH OW k ∧ Rz X (w.heap.size + 1 + 1)) ⟨by repeat (first | exact Below.refl _ _ | refine bl_alloc ?_ _ | refine Below.drew ?_ | refine bl_drewN ?_ _ | refine bl_set ?_ (by first | omega | (simp; done) | (simp; omega)) _ | refine bl_step ?_ (by assumption)), sh_new' rfl, RR.out.keep (by repeat (first | exact Below.refl _ _ | refine bl_alloc ?_ _ | refine Below.drew ?_ | refine bl_drewN ?_ _ | refine bl_set ?_ (by first | omega | (simp; done) | (simp; omega)) _ | refine bl_step ?_ (by assumption)))⟩ ?_
      | refine gen_then (fun X => Below w.heap.size w X ∧ Sh X W2.heap.size 0 OH OW k ∧ Rz X (w.heap.size + 1 + 1)) ⟨by repeat (first | exact Below.refl _ _ | refine bl_alloc ?_ _ | refine Below.drew ?_ | refine bl_drewN ?_ _ | refine bl_set ?_ (by first | omega | (simp; done) | (simp; omega)) _ | refine bl_step ?_ (by assumption)), sh_set (sh_new' rfl), RR.out.keep (by repeat (first | exact Below.refl _ _ | refine bl_alloc ?_ _ | refine Below.drew ?_ | refine bl_drewN ?_ _ | refine bl_set ?_ (by first | omega | (simp; done) | (simp; omega)) _ | refine bl_step ?_ (by assumption)))⟩ ?_
    rintro X ⟨BX, ⟨q0, q1, q2⟩, ⟨⟨r0, r1, r2⟩, f0, f1, f2⟩⟩
    clear x0 x1 x2 x3 x4 x5 x6 x7 y0 y1 y2 SS WW RR R0 B0 H1 H2
    generalize W2.heap.size = G at *
    obtain ⟨A0, A1, A2, A3⟩ := AA.out
    by_cases hm : OH = 0
    · obtain rfl := A0 hm
      subst hm
      clear A0 A1 A2 A3 AA HO
      obtain ⟨u0, u1, u2⟩ := sh_set (a := 0) (b := 0) (c := 0) (Sh.intro r0 r1 r2)
      simp only [Nat.zero_add] at u1 u2
      go_wp2_with fail
      simp [bodyPost, results, Try.results76, go_sem, u0, u1, u2]
      repeat (first | exact Below.refl _ _ | refine bl_alloc ?_ _ | refine Below.drew ?_ | refine bl_drewN ?_ _ | refine bl_set ?_ (by first | omega | (simp; done) | (simp; omega)) _ | refine bl_step ?_ (by assumption))
    · replace A1 := A1 hm
      replace A2 := A2 hm
      replace A3 := A3 hm
      clear A0 AA
      by_cases hn : OW = 0
      · obtain rfl := A1 hn
        subst hn
        clear A1 A2 A3 HO
        obtain ⟨u0, u1, u2⟩ := sh_set (a := 0) (b := 0) (c := 0) (Sh.intro r0 r1 r2)
        simp only [Nat.zero_add] at u1 u2
        go_wp2_with fail
        simp [bodyPost, results, Try.results76, go_sem, u0, u1, u2]
        repeat (first | exact Below.refl _ _ | refine bl_alloc ?_ _ | refine Below.drew ?_ | refine bl_drewN ?_ _ | refine bl_set ?_ (by first | omega | (simp; done) | (simp; omega)) _ | refine bl_step ?_ (by assumption))
      · have AB := hid1 (And.intro (A2 hn) (A3 hn))
        clear A1 A2 A3
        have bm : (OH == 0) = false := by simpa using hm
        have bn : (OW == 0) = false := by simpa using hn
        go_wp2_with fail
        refine (HO X).mono ?_
        rintro e w7 ⟨rfl, hb7⟩
        obtain ⟨q0, q1, q2⟩ := (Sh.intro q0 q1 q2).keep hb7
        have RX : Rz X (w.heap.size + 1 + 1) := ⟨Sh.intro r0 r1 r2, f0, f1, f2⟩
        replace RX := RX.keep hb7
        clear r0 r1 r2 f0 f1 f2
        obtain ⟨⟨r0, r1, r2⟩, f0, f1, f2⟩ := RX
        obtain ⟨A2, A3⟩ := AB.out
        clear AB
        by_cases hc : chk OH OW k = 0
        · obtain rfl := A3 hc
          rw [hc]
          clear A2 A3
          obtain ⟨u0, u1, u2⟩ := sh_set (a := OH) (b := OW) (c := k) (Sh.intro r0 r1 r2)
          simp only [Nat.zero_add] at u1 u2
          go_wp2_with fail
          simp [bodyPost, results, Try.results76, go_sem, u0, u1, u2]
          repeat (first | exact Below.refl _ _ | refine bl_alloc ?_ _ | refine Below.drew ?_ | refine bl_drewN ?_ _ | refine bl_set ?_ (by first | omega | (simp; done) | (simp; omega)) _ | refine bl_step ?_ (by assumption))
        · obtain rfl := A2 hc
          clear A2 A3
          obtain ⟨E, hE⟩ : ∃ E, chk OH OW k = E := ⟨_, rfl⟩
          rw [hE] at hc ⊢
          obtain ⟨u0, u1, u2⟩ := sh_set (a := 0) (b := 0) (c := 0) (Sh.intro r0 r1 r2)
          simp only [Nat.zero_add] at u1 u2
          go_wp2_with fail
          simp [bodyPost, results, Try.results76, go_sem, u0, u1, u2, hE]
          repeat (first | exact Below.refl _ _ | refine bl_alloc ?_ _ | refine Below.drew ?_ | refine bl_drewN ?_ _ | refine bl_set ?_ (by first | omega | (simp; done) | (simp; omega)) _ | refine bl_step ?_ (by assumption)))
theorem rslide_any (h v c r s sy sx t l b q k : Int) (w : World) :
    Calls Try.prog 76 #[shp h v c, win r s sy sx t l b q, .int .i64 k] w fun e w' => e = .returned (slV h v c r s sy sx t l b q k) ∧ Below w.heap.size w w' := by
  have key : ∀ E, slE h v c r s sy sx t l b q k = E → E ≠ 0 → slV h v c r s sy sx t l b q k = sle 0 0 0 E := by
    intro E h1 h2
    unfold slV
    rw [h1, if_neg h2]
  by_cases hk : chk h v c = 0
  · have e1 : slE h v c r s sy sx t l b q k = if k < 1 ∨ k > 4096 then 30 else if ¬ WOk r s sy sx t l b q then 56 else
      if mn2 (stN h t b r sy) (stN v l q s sx) = 0 then 32 else chk (stN h t b r sy) (stN v l q s sx) k := by
      unfold slE; rw [if_neg (fun h => h hk)]
    by_cases k1 : 1 ≤ k ∧ k ≤ 4096
    · rw [if_neg (by omega)] at e1
      by_cases hw : WOk r s sy sx t l b q
      · rw [if_neg (fun x => x hw)] at e1
        have hs := (chk_zero hk).1
        have b1 := (stN_b h t b r sy hs.1 hw.1).1
        have b2 := (stN_b v l q s sx hs.2.1 hw.2).1
        have hm := mn2_is (stN h t b r sy) (stN v l q s sx)
        refine rslide_good h v c r s sy sx t l b q k _ _ hk k1 hw rfl rfl _ (fun h0 => ?_) (fun h0 h1 => ?_) (fun h0 h1 hc => ?_) (fun h0 h1 hc => ?_) w
        · rw [if_pos (by omega)] at e1; exact key 32 e1 (by decide)
        · rw [if_pos (by omega)] at e1; exact key 32 e1 (by decide)
        · rw [if_neg (by omega)] at e1; exact key _ e1 hc
        · rw [if_neg (by omega), hc] at e1; unfold slV; rw [if_pos e1]
      · rw [key 56 (by rw [e1, if_pos hw]) (by decide)]; exact rslide_bad4 h v c r s sy sx t l b q k hk k1 hw w
    · rw [key 30 (by rw [e1, if_pos (by omega)]) (by decide)]; exact rslide_bad2 h v c r s sy sx t l b q k hk k1 w
  · have e1 : slE h v c r s sy sx t l b q k = chk h v c := by unfold slE; rw [if_pos hk]
    rw [key _ e1 hk]; exact rslide_bad1 h v c r s sy sx t l b q k hk w
end Go.Proofs.Ytkhlhcbbbhbgeaa.Nn
/- THE DOCUMENT'S NETWORKS: WHAT COMES OUT OF A LAYER. -/
namespace Go.Proofs.Ytkhlhcbbbhbgeaa.Nn
open Go.RowKit

theorem rfan_any (L : Ly) (h v c : Int) (hs : Sides h v c) (hf : Fok L) (hk : L.kd = 1 ∨ L.kd = 2) (w : World) :
    Calls Try.prog 77 #[lyv L, shp h v c] w fun e w' => e = .returned (.int .i64 (fan L h v c)) ∧ Below w.heap.size w w' := by
  have hb := fan_b hs hf
  unfold fan at hb ⊢
  by_cases hk2 : L.kd = 2
  · rw [if_pos hk2] at hb ⊢
    have hk1 : (L.kd == 1) = false := by simp [hk2]
    have m1 := mul2 hs.1 hs.2.1
    have e1 := wr_id (x := h * v) (by omega) (by omega)
    have e2 := wr_id (x := h * v * c) (by omega) (by omega)
    clear hs hf hk hk2
    go_enter Try.func77, Try.ntmps77
    go_wp2
    go_ret
    exact ⟨by first | rfl | simp [*], by repeat (first | (with_reducible exact Below.refl _ _) | (with_reducible refine bl_alloc ?_ _) | (with_reducible refine Below.drew ?_) | (with_reducible refine bl_drewN ?_ _) | (with_reducible refine bl_set ?_ (by omega) _) | (with_reducible refine bl_step ?_ (by assumption)))⟩
  · rw [if_neg hk2] at hb ⊢
    have hk1 : (L.kd == 1) = true := by rcases hk with h | h; exact (by simp [h]); exact absurd h hk2
    have m1 : 1 ≤ L.r * L.s ∧ L.r * L.s ≤ 225 := by
      rcases hf with hf | ⟨hr, hq⟩
      · exact absurd hf hk2
      · exact mul215 hr hq
    have e1 := wr_id (x := L.r * L.s) (by omega) (by omega)
    have e2 := wr_id (x := L.r * L.s * c) (by omega) (by omega)
    clear hs hf hk hk2
    go_enter Try.func77, Try.ntmps77
    go_wp2
    go_ret
    exact ⟨by first | rfl | simp [*], by repeat (first | (with_reducible exact Below.refl _ _) | (with_reducible refine bl_alloc ?_ _) | (with_reducible refine Below.drew ?_) | (with_reducible refine bl_drewN ?_ _) | (with_reducible refine bl_set ?_ (by omega) _) | (with_reducible refine bl_step ?_ (by assumption)))⟩
def rbE (L : Ly) : Int := if ((L.kd = 3 ∧ ¬ Wz L) ∨ L.bd < -1 ∨ 1 < L.bd) ∨ (Wz L ∧ L.bd ≠ 0) then 56 else 0
def roE (L : Ly) (h v c : Int) : Int := if L.kd = 2 then 0 else if wiE L.r L.s L.sy L.sx L.t L.l L.b L.q ≠ 0 then wiE L.r L.s L.sy L.sx L.t L.l L.b L.q else if rbE L ≠ 0 then 56 else oE L h v c
def roV (L : Ly) (h v c : Int) : Value := if L.kd = 2 then sle 1 1 L.k 0 else if wiE L.r L.s L.sy L.sx L.t L.l L.b L.q ≠ 0 then sle 0 0 0 (wiE L.r L.s L.sy L.sx L.t L.l L.b L.q) else if rbE L ≠ 0 then sle 0 0 0 56 else sle (oH L h v c) (oV L h v c) (oC L h v c) (oE L h v c)
set_option maxRecDepth 100000 in
theorem rout_dense (L : Ly) (S : Sp) (at' : Int) (hk : L.kd = 2) (w : World) : Calls Try.prog 51 #[lyv L, inv at' S] w fun e w' => e = .returned (sle 1 1 L.k 0) ∧ Below w.heap.size w w' := by
  go_enter Try.func51, Try.ntmps51
  go_wp2
  all_goals simp [bodyPost, results, Try.results51, go_sem]
  all_goals repeat (first | (with_reducible exact Below.refl _ _) | (with_reducible refine bl_alloc ?_ _) | (with_reducible refine Below.drew ?_) | (with_reducible refine bl_drewN ?_ _) | (with_reducible refine bl_set ?_ (by omega) _) | (with_reducible refine bl_step ?_ (by assumption)))
set_option maxRecDepth 100000 in
theorem rout_win (L : Ly) (S : Sp) (at' : Int) (hk : ¬ L.kd = 2) (x : Int) (hx : wiE L.r L.s L.sy L.sx L.t L.l L.b L.q = x) (h0 : ¬ x = 0) (w : World) : Calls Try.prog 51 #[lyv L, inv at' S] w fun e w' => e = .returned (sle 0 0 0 x) ∧ Below w.heap.size w w' := by
  have hk2 : (L.kd == 2) = false := by simpa using hk
  have hx2 : (x != 0) = true := by simpa using h0
  have CW := rwindow_any L.r L.s L.sy L.sx L.t L.l L.b L.q
  rw [hx] at CW
  clear hk hx h0
  go_enter Try.func51, Try.ntmps51
  go_wp2_with fail
  refine gen_calls (fun X => Below w.heap.size w X ∧ Rz X (w.heap.size + 1 + 1)) ⟨by repeat (first | (with_reducible exact Below.refl _ _) | (with_reducible refine bl_alloc ?_ _) | (with_reducible refine Below.drew ?_) | (with_reducible refine bl_drewN ?_ _) | (with_reducible refine bl_set ?_ (by omega) _) | (with_reducible refine bl_step ?_ (by assumption))), rz_new (by simp)⟩ ?_
  rintro X ⟨BX, RX⟩
  refine (CW X).mono ?_
  rintro e w1 ⟨rfl, hb⟩
  replace RX := RX.keep hb
  replace BX := bl_step BX hb
  clear hb CW
  obtain ⟨⟨z0, z1, z2⟩, f0, f1, f2⟩ := RX
  go_wp2_with fail
  simp [bodyPost, results, Try.results51, go_sem, z0, z1, z2]
  repeat (first | (with_reducible exact Below.refl _ _) | (with_reducible refine bl_alloc ?_ _) | (with_reducible refine Below.drew ?_) | (with_reducible refine bl_drewN ?_ _) | (with_reducible refine bl_set ?_ (by omega) _) | (with_reducible refine bl_step ?_ (by assumption)))
end Go.Proofs.Ytkhlhcbbbhbgeaa.Nn
/- THE DOCUMENT'S NETWORKS: BORDERS, WHAT COMES OUT. -/
namespace Go.Proofs.Ytkhlhcbbbhbgeaa.Nn
open Go.RowKit

theorem wz_yes {L : Ly} (h0 : (L.t == 0) = true) (h1 : (L.l == 0) = true) (h2 : (L.b == 0) = true) (h3 : (L.q == 0) = true) : Wz L := ⟨by simpa using h0, by simpa using h1, by simpa using h2, by simpa using h3⟩
theorem rb_bad {L : Ly} (h : ((L.kd = 3 ∧ ¬ Wz L) ∨ L.bd < -1 ∨ 1 < L.bd) ∨ (Wz L ∧ L.bd ≠ 0)) : rbE L = 56 := if_pos h
theorem rb_good {L : Ly} (h : ¬ (((L.kd = 3 ∧ ¬ Wz L) ∨ L.bd < -1 ∨ 1 < L.bd) ∨ (Wz L ∧ L.bd ≠ 0))) : rbE L = 0 := if_neg h
def roR (L : Ly) (S : Sp) : Value := if rbE L ≠ 0 then sle 0 0 0 56 else sle (oH L S.h S.v S.c) (oV L S.h S.v S.c) (oC L S.h S.v S.c) (oE L S.h S.v S.c)
theorem ror_bad {L : Ly} {S : Sp} (h : rbE L = 56) : roR L S = sle 0 0 0 56 := if_pos (by rw [h]; decide)
theorem ror_good {L : Ly} {S : Sp} (h : rbE L = 0) : roR L S = sle (oH L S.h S.v S.c) (oV L S.h S.v S.c) (oC L S.h S.v S.c) (oE L S.h S.v S.c) := if_neg (by rw [h]; decide)

set_option maxHeartbeats 1600000 in
set_option maxRecDepth 100000 in
theorem rout_3_0 (L : Ly) (S : Sp) (at' : Int) (hk2 : (L.kd == 2) = false) (hkd : L.kd = 3) (hx : wiE L.r L.s L.sy L.sx L.t L.l L.b L.q = 0) (t0 : (L.t == 0) = true) (t1 : (L.l == 0) = true) (t2 : (L.b == 0) = true) (t3 : (L.q == 0) = true) (hsl : slV S.h S.v S.c L.r L.s L.sy L.sx L.t L.l L.b L.q S.c = sle (oH L S.h S.v S.c) (oV L S.h S.v S.c) (oC L S.h S.v S.c) (oE L S.h S.v S.c)) (w : World) : Calls Try.prog 51 #[lyv L, inv at' S] w fun e w' => e = .returned (roR L S) ∧ Below w.heap.size w w' := by
  have CW := rwindow_any L.r L.s L.sy L.sx L.t L.l L.b L.q
  rw [hx] at CW
  clear hx
  have HZ := hid1 (wz_yes t0 t1 t2 t3)
  have HK := hid1 hkd
  have hk3 : (L.kd == 3) = true := by simp [hkd]
  by_cases b1 : L.bd < -1
  · rw [ror_bad (rb_bad (.inl (.inr (.inl b1))))]
    clear hkd
    clear hsl
    go_enter Try.func51, Try.ntmps51
    go_wp2_with fail
    refine gen_calls (fun X => Below w.heap.size w X ∧ Rz X (w.heap.size + 1 + 1) ∧ Lp X w.heap.size L ∧ Iv X (w.heap.size + 1) at' S) ⟨by repeat (first | (with_reducible exact Below.refl _ _) | (with_reducible refine bl_alloc ?_ _) | (with_reducible refine Below.drew ?_) | (with_reducible refine bl_drewN ?_ _) | (with_reducible refine bl_set ?_ (by omega) _) | (with_reducible refine bl_step ?_ (by assumption))), rz_new (by simp), (lp_new _ _ _).keep (bl_alloc (bl_alloc (Below.refl _ _) _) _), (iv_new (by simp) at' S _).keep (bl_alloc (Below.refl _ _) _)⟩ ?_
    rintro X ⟨BX, RX, LX, IX⟩
    refine (CW X).mono ?_
    rintro e w1 ⟨rfl, hb⟩
    replace RX := RX.keep hb
    replace LX := LX.keep hb
    replace IX := IX.keep hb
    replace BX := bl_step BX hb
    clear hb CW X
    have KR := hid1 RX
    obtain ⟨⟨z0, z1, z2⟩, f0, f1, f2⟩ := RX
    obtain ⟨c0, c1', c2, c3, c4, c5, c6, c7, c8, c9, c10, c11, c12, c13, c14⟩ := LX
    obtain ⟨i0, i1, i2, i3, i4, i5⟩ := IX
    go_wp2_with fail
    simp [bodyPost, results, Try.results51, go_sem, *]
    repeat (first | (with_reducible exact Below.refl _ _) | (with_reducible refine bl_alloc ?_ _) | (with_reducible refine Below.drew ?_) | (with_reducible refine bl_drewN ?_ _) | (with_reducible refine bl_set ?_ (by omega) _) | (with_reducible refine bl_step ?_ (by assumption)))
  · by_cases b2 : 1 < L.bd
    · rw [ror_bad (rb_bad (.inl (.inr (.inr b2))))]
      clear hkd
      clear hsl
      go_enter Try.func51, Try.ntmps51
      go_wp2_with fail
      refine gen_calls (fun X => Below w.heap.size w X ∧ Rz X (w.heap.size + 1 + 1) ∧ Lp X w.heap.size L ∧ Iv X (w.heap.size + 1) at' S) ⟨by repeat (first | (with_reducible exact Below.refl _ _) | (with_reducible refine bl_alloc ?_ _) | (with_reducible refine Below.drew ?_) | (with_reducible refine bl_drewN ?_ _) | (with_reducible refine bl_set ?_ (by omega) _) | (with_reducible refine bl_step ?_ (by assumption))), rz_new (by simp), (lp_new _ _ _).keep (bl_alloc (bl_alloc (Below.refl _ _) _) _), (iv_new (by simp) at' S _).keep (bl_alloc (Below.refl _ _) _)⟩ ?_
      rintro X ⟨BX, RX, LX, IX⟩
      refine (CW X).mono ?_
      rintro e w1 ⟨rfl, hb⟩
      replace RX := RX.keep hb
      replace LX := LX.keep hb
      replace IX := IX.keep hb
      replace BX := bl_step BX hb
      clear hb CW X
      have KR := hid1 RX
      obtain ⟨⟨z0, z1, z2⟩, f0, f1, f2⟩ := RX
      obtain ⟨c0, c1', c2, c3, c4, c5, c6, c7, c8, c9, c10, c11, c12, c13, c14⟩ := LX
      obtain ⟨i0, i1, i2, i3, i4, i5⟩ := IX
      go_wp2_with fail
      simp [bodyPost, results, Try.results51, go_sem, *]
      repeat (first | (with_reducible exact Below.refl _ _) | (with_reducible refine bl_alloc ?_ _) | (with_reducible refine Below.drew ?_) | (with_reducible refine bl_drewN ?_ _) | (with_reducible refine bl_set ?_ (by omega) _) | (with_reducible refine bl_step ?_ (by assumption)))
    · by_cases b3 : L.bd = 0
      · rw [ror_good (rb_good (fun h => by rcases h with (⟨_, h⟩ | h | h) | ⟨_, h⟩; exact h HZ.out; exact b1 h; exact b2 h; exact h b3))]
        have b4 : (L.bd != 0) = false := by simp [b3]
        clear b3 hkd
        have CS := rslide_any S.h S.v S.c L.r L.s L.sy L.sx L.t L.l L.b L.q S.c
        rw [hsl] at CS
        clear hsl
        generalize oH L S.h S.v S.c = h1 at *
        generalize oV L S.h S.v S.c = v1 at *
        generalize oC L S.h S.v S.c = c1 at *
        generalize oE L S.h S.v S.c = e1 at *
        go_enter Try.func51, Try.ntmps51
        go_wp2_with fail
        refine gen_calls (fun X => Below w.heap.size w X ∧ Rz X (w.heap.size + 1 + 1) ∧ Lp X w.heap.size L ∧ Iv X (w.heap.size + 1) at' S) ⟨by repeat (first | (with_reducible exact Below.refl _ _) | (with_reducible refine bl_alloc ?_ _) | (with_reducible refine Below.drew ?_) | (with_reducible refine bl_drewN ?_ _) | (with_reducible refine bl_set ?_ (by omega) _) | (with_reducible refine bl_step ?_ (by assumption))), rz_new (by simp), (lp_new _ _ _).keep (bl_alloc (bl_alloc (Below.refl _ _) _) _), (iv_new (by simp) at' S _).keep (bl_alloc (Below.refl _ _) _)⟩ ?_
        rintro X ⟨BX, RX, LX, IX⟩
        refine (CW X).mono ?_
        rintro e w1 ⟨rfl, hb⟩
        replace RX := RX.keep hb
        replace LX := LX.keep hb
        replace IX := IX.keep hb
        replace BX := bl_step BX hb
        clear hb CW X
        have KR := hid1 RX
        obtain ⟨⟨z0, z1, z2⟩, f0, f1, f2⟩ := RX
        obtain ⟨c0, c1', c2, c3, c4, c5, c6, c7, c8, c9, c10, c11, c12, c13, c14⟩ := LX
        obtain ⟨i0, i1, i2, i3, i4, i5⟩ := IX
        go_wp2_with fail
        refine (CS _).mono ?_
        rintro e w2 ⟨rfl, hb⟩
        replace KR := hid1 (KR.out.keep hb)
        replace BX := bl_step BX hb
        clear hb CS z0 z1 z2 f0 f1 f2 c0 c1' c2 c3 c4 c5 c6 c7 c8 c9 c10 c11 c12 c13 c14 i0 i1 i2 i3 i4 i5
        obtain ⟨⟨z0, z1, z2⟩, f0, f1, f2⟩ := KR.out
        have hlt := lt_of_cell z0
        go_wp2_with fail
        have hne := Nat.ne_of_lt hlt
        simp [bodyPost, results, Try.results51, go_sem, *]
        repeat (first | (with_reducible exact Below.refl _ _) | (with_reducible refine bl_alloc ?_ _) | (with_reducible refine Below.drew ?_) | (with_reducible refine bl_drewN ?_ _) | (with_reducible refine bl_set ?_ (by omega) _) | (with_reducible refine bl_step ?_ (by assumption)))
      · rw [ror_bad (rb_bad (.inr ⟨HZ.out, b3⟩))]
        have b4 : (L.bd != 0) = true := by simpa using b3
        clear b3 hkd
        clear hsl
        go_enter Try.func51, Try.ntmps51
        go_wp2_with fail
        refine gen_calls (fun X => Below w.heap.size w X ∧ Rz X (w.heap.size + 1 + 1) ∧ Lp X w.heap.size L ∧ Iv X (w.heap.size + 1) at' S) ⟨by repeat (first | (with_reducible exact Below.refl _ _) | (with_reducible refine bl_alloc ?_ _) | (with_reducible refine Below.drew ?_) | (with_reducible refine bl_drewN ?_ _) | (with_reducible refine bl_set ?_ (by omega) _) | (with_reducible refine bl_step ?_ (by assumption))), rz_new (by simp), (lp_new _ _ _).keep (bl_alloc (bl_alloc (Below.refl _ _) _) _), (iv_new (by simp) at' S _).keep (bl_alloc (Below.refl _ _) _)⟩ ?_
        rintro X ⟨BX, RX, LX, IX⟩
        refine (CW X).mono ?_
        rintro e w1 ⟨rfl, hb⟩
        replace RX := RX.keep hb
        replace LX := LX.keep hb
        replace IX := IX.keep hb
        replace BX := bl_step BX hb
        clear hb CW X
        have KR := hid1 RX
        obtain ⟨⟨z0, z1, z2⟩, f0, f1, f2⟩ := RX
        obtain ⟨c0, c1', c2, c3, c4, c5, c6, c7, c8, c9, c10, c11, c12, c13, c14⟩ := LX
        obtain ⟨i0, i1, i2, i3, i4, i5⟩ := IX
        go_wp2_with fail
        simp [bodyPost, results, Try.results51, go_sem, *]
        repeat (first | (with_reducible exact Below.refl _ _) | (with_reducible refine bl_alloc ?_ _) | (with_reducible refine Below.drew ?_) | (with_reducible refine bl_drewN ?_ _) | (with_reducible refine bl_set ?_ (by omega) _) | (with_reducible refine bl_step ?_ (by assumption)))
set_option maxHeartbeats 1600000 in
set_option maxRecDepth 100000 in
theorem rout_3_1 (L : Ly) (S : Sp) (at' : Int) (hk2 : (L.kd == 2) = false) (hkd : L.kd = 3) (hx : wiE L.r L.s L.sy L.sx L.t L.l L.b L.q = 0) (t0 : (L.t == 0) = false) (_hsl : slV S.h S.v S.c L.r L.s L.sy L.sx L.t L.l L.b L.q S.c = sle (oH L S.h S.v S.c) (oV L S.h S.v S.c) (oC L S.h S.v S.c) (oE L S.h S.v S.c)) (w : World) : Calls Try.prog 51 #[lyv L, inv at' S] w fun e w' => e = .returned (roR L S) ∧ Below w.heap.size w w' := by
  have CW := rwindow_any L.r L.s L.sy L.sx L.t L.l L.b L.q
  rw [hx] at CW
  clear hx
  have HZ := hid1 (show ¬ Wz L from fun h => by have e : (L.t == 0) = true := (by simp [h.1]); rw [e] at t0; cases t0)
  have HK := hid1 hkd
  have hk3 : (L.kd == 3) = true := by simp [hkd]
  rw [ror_bad (rb_bad (.inl (.inl ⟨hkd, HZ.out⟩)))]
  clear hkd
  clear _hsl
  go_enter Try.func51, Try.ntmps51
  go_wp2_with fail
  refine gen_calls (fun X => Below w.heap.size w X ∧ Rz X (w.heap.size + 1 + 1) ∧ Lp X w.heap.size L ∧ Iv X (w.heap.size + 1) at' S) ⟨by repeat (first | (with_reducible exact Below.refl _ _) | (with_reducible refine bl_alloc ?_ _) | (with_reducible refine Below.drew ?_) | (with_reducible refine bl_drewN ?_ _) | (with_reducible refine bl_set ?_ (by omega) _) | (with_reducible refine bl_step ?_ (by assumption))), rz_new (by simp), (lp_new _ _ _).keep (bl_alloc (bl_alloc (Below.refl _ _) _) _), (iv_new (by simp) at' S _).keep (bl_alloc (Below.refl _ _) _)⟩ ?_
  rintro X ⟨BX, RX, LX, IX⟩
  refine (CW X).mono ?_
  rintro e w1 ⟨rfl, hb⟩
  replace RX := RX.keep hb
  replace LX := LX.keep hb
  replace IX := IX.keep hb
  replace BX := bl_step BX hb
  clear hb CW X
  have KR := hid1 RX
  obtain ⟨⟨z0, z1, z2⟩, f0, f1, f2⟩ := RX
  obtain ⟨c0, c1', c2, c3, c4, c5, c6, c7, c8, c9, c10, c11, c12, c13, c14⟩ := LX
  obtain ⟨i0, i1, i2, i3, i4, i5⟩ := IX
  go_wp2_with fail
  simp [bodyPost, results, Try.results51, go_sem, *]
  repeat (first | (with_reducible exact Below.refl _ _) | (with_reducible refine bl_alloc ?_ _) | (with_reducible refine Below.drew ?_) | (with_reducible refine bl_drewN ?_ _) | (with_reducible refine bl_set ?_ (by omega) _) | (with_reducible refine bl_step ?_ (by assumption)))
set_option maxHeartbeats 1600000 in
set_option maxRecDepth 100000 in
theorem rout_3_2 (L : Ly) (S : Sp) (at' : Int) (hk2 : (L.kd == 2) = false) (hkd : L.kd = 3) (hx : wiE L.r L.s L.sy L.sx L.t L.l L.b L.q = 0) (t0 : (L.t == 0) = true) (t1 : (L.l == 0) = false) (_hsl : slV S.h S.v S.c L.r L.s L.sy L.sx L.t L.l L.b L.q S.c = sle (oH L S.h S.v S.c) (oV L S.h S.v S.c) (oC L S.h S.v S.c) (oE L S.h S.v S.c)) (w : World) : Calls Try.prog 51 #[lyv L, inv at' S] w fun e w' => e = .returned (roR L S) ∧ Below w.heap.size w w' := by
  have CW := rwindow_any L.r L.s L.sy L.sx L.t L.l L.b L.q
  rw [hx] at CW
  clear hx
  have HZ := hid1 (show ¬ Wz L from fun h => by have e : (L.l == 0) = true := (by simp [h.2.1]); rw [e] at t1; cases t1)
  have HK := hid1 hkd
  have hk3 : (L.kd == 3) = true := by simp [hkd]
  rw [ror_bad (rb_bad (.inl (.inl ⟨hkd, HZ.out⟩)))]
  clear hkd
  clear _hsl
  go_enter Try.func51, Try.ntmps51
  go_wp2_with fail
  refine gen_calls (fun X => Below w.heap.size w X ∧ Rz X (w.heap.size + 1 + 1) ∧ Lp X w.heap.size L ∧ Iv X (w.heap.size + 1) at' S) ⟨by repeat (first | (with_reducible exact Below.refl _ _) | (with_reducible refine bl_alloc ?_ _) | (with_reducible refine Below.drew ?_) | (with_reducible refine bl_drewN ?_ _) | (with_reducible refine bl_set ?_ (by omega) _) | (with_reducible refine bl_step ?_ (by assumption))), rz_new (by simp), (lp_new _ _ _).keep (bl_alloc (bl_alloc (Below.refl _ _) _) _), (iv_new (by simp) at' S _).keep (bl_alloc (Below.refl _ _) _)⟩ ?_
  rintro X ⟨BX, RX, LX, IX⟩
  refine (CW X).mono ?_
  rintro e w1 ⟨rfl, hb⟩
  replace RX := RX.keep hb
  replace LX := LX.keep hb
  replace IX := IX.keep hb
  replace BX := bl_step BX hb
  clear hb CW X
  have KR := hid1 RX
  obtain ⟨⟨z0, z1, z2⟩, f0, f1, f2⟩ := RX
  obtain ⟨c0, c1', c2, c3, c4, c5, c6, c7, c8, c9, c10, c11, c12, c13, c14⟩ := LX
  obtain ⟨i0, i1, i2, i3, i4, i5⟩ := IX
  go_wp2_with fail
  simp [bodyPost, results, Try.results51, go_sem, *]
  repeat (first | (with_reducible exact Below.refl _ _) | (with_reducible refine bl_alloc ?_ _) | (with_reducible refine Below.drew ?_) | (with_reducible refine bl_drewN ?_ _) | (with_reducible refine bl_set ?_ (by omega) _) | (with_reducible refine bl_step ?_ (by assumption)))
set_option maxHeartbeats 1600000 in
set_option maxRecDepth 100000 in
theorem rout_3_3 (L : Ly) (S : Sp) (at' : Int) (hk2 : (L.kd == 2) = false) (hkd : L.kd = 3) (hx : wiE L.r L.s L.sy L.sx L.t L.l L.b L.q = 0) (t0 : (L.t == 0) = true) (t1 : (L.l == 0) = true) (t2 : (L.b == 0) = false) (_hsl : slV S.h S.v S.c L.r L.s L.sy L.sx L.t L.l L.b L.q S.c = sle (oH L S.h S.v S.c) (oV L S.h S.v S.c) (oC L S.h S.v S.c) (oE L S.h S.v S.c)) (w : World) : Calls Try.prog 51 #[lyv L, inv at' S] w fun e w' => e = .returned (roR L S) ∧ Below w.heap.size w w' := by
  have CW := rwindow_any L.r L.s L.sy L.sx L.t L.l L.b L.q
  rw [hx] at CW
  clear hx
  have HZ := hid1 (show ¬ Wz L from fun h => by have e : (L.b == 0) = true := (by simp [h.2.2.1]); rw [e] at t2; cases t2)
  have HK := hid1 hkd
  have hk3 : (L.kd == 3) = true := by simp [hkd]
  rw [ror_bad (rb_bad (.inl (.inl ⟨hkd, HZ.out⟩)))]
  clear hkd
  clear _hsl
  go_enter Try.func51, Try.ntmps51
  go_wp2_with fail
  refine gen_calls (fun X => Below w.heap.size w X ∧ Rz X (w.heap.size + 1 + 1) ∧ Lp X w.heap.size L ∧ Iv X (w.heap.size + 1) at' S) ⟨by repeat (first | (with_reducible exact Below.refl _ _) | (with_reducible refine bl_alloc ?_ _) | (with_reducible refine Below.drew ?_) | (with_reducible refine bl_drewN ?_ _) | (with_reducible refine bl_set ?_ (by omega) _) | (with_reducible refine bl_step ?_ (by assumption))), rz_new (by simp), (lp_new _ _ _).keep (bl_alloc (bl_alloc (Below.refl _ _) _) _), (iv_new (by simp) at' S _).keep (bl_alloc (Below.refl _ _) _)⟩ ?_
  rintro X ⟨BX, RX, LX, IX⟩
  refine (CW X).mono ?_
  rintro e w1 ⟨rfl, hb⟩
  replace RX := RX.keep hb
  replace LX := LX.keep hb
  replace IX := IX.keep hb
  replace BX := bl_step BX hb
  clear hb CW X
  have KR := hid1 RX
  obtain ⟨⟨z0, z1, z2⟩, f0, f1, f2⟩ := RX
  obtain ⟨c0, c1', c2, c3, c4, c5, c6, c7, c8, c9, c10, c11, c12, c13, c14⟩ := LX
  obtain ⟨i0, i1, i2, i3, i4, i5⟩ := IX
  go_wp2_with fail
  simp [bodyPost, results, Try.results51, go_sem, *]
  repeat (first | (with_reducible exact Below.refl _ _) | (with_reducible refine bl_alloc ?_ _) | (with_reducible refine Below.drew ?_) | (with_reducible refine bl_drewN ?_ _) | (with_reducible refine bl_set ?_ (by omega) _) | (with_reducible refine bl_step ?_ (by assumption)))
set_option maxHeartbeats 1600000 in
set_option maxRecDepth 100000 in
theorem rout_3_4 (L : Ly) (S : Sp) (at' : Int) (hk2 : (L.kd == 2) = false) (hkd : L.kd = 3) (hx : wiE L.r L.s L.sy L.sx L.t L.l L.b L.q = 0) (t0 : (L.t == 0) = true) (t1 : (L.l == 0) = true) (t2 : (L.b == 0) = true) (t3 : (L.q == 0) = false) (_hsl : slV S.h S.v S.c L.r L.s L.sy L.sx L.t L.l L.b L.q S.c = sle (oH L S.h S.v S.c) (oV L S.h S.v S.c) (oC L S.h S.v S.c) (oE L S.h S.v S.c)) (w : World) : Calls Try.prog 51 #[lyv L, inv at' S] w fun e w' => e = .returned (roR L S) ∧ Below w.heap.size w w' := by
  have CW := rwindow_any L.r L.s L.sy L.sx L.t L.l L.b L.q
  rw [hx] at CW
  clear hx
  have HZ := hid1 (show ¬ Wz L from fun h => by have e : (L.q == 0) = true := (by simp [h.2.2.2]); rw [e] at t3; cases t3)
  have HK := hid1 hkd
  have hk3 : (L.kd == 3) = true := by simp [hkd]
  rw [ror_bad (rb_bad (.inl (.inl ⟨hkd, HZ.out⟩)))]
  clear hkd
  clear _hsl
  go_enter Try.func51, Try.ntmps51
  go_wp2_with fail
  refine gen_calls (fun X => Below w.heap.size w X ∧ Rz X (w.heap.size + 1 + 1) ∧ Lp X w.heap.size L ∧ Iv X (w.heap.size + 1) at' S) ⟨by repeat (first | (with_reducible exact Below.refl _ _) | (with_reducible refine bl_alloc ?_ _) | (with_reducible refine Below.drew ?_) | (with_reducible refine bl_drewN ?_ _) | (with_reducible refine bl_set ?_ (by omega) _) | (with_reducible refine bl_step ?_ (by assumption))), rz_new (by simp), (lp_new _ _ _).keep (bl_alloc (bl_alloc (Below.refl _ _) _) _), (iv_new (by simp) at' S _).keep (bl_alloc (Below.refl _ _) _)⟩ ?_
  rintro X ⟨BX, RX, LX, IX⟩
  refine (CW X).mono ?_
  rintro e w1 ⟨rfl, hb⟩
  replace RX := RX.keep hb
  replace LX := LX.keep hb
  replace IX := IX.keep hb
  replace BX := bl_step BX hb
  clear hb CW X
  have KR := hid1 RX
  obtain ⟨⟨z0, z1, z2⟩, f0, f1, f2⟩ := RX
  obtain ⟨c0, c1', c2, c3, c4, c5, c6, c7, c8, c9, c10, c11, c12, c13, c14⟩ := LX
  obtain ⟨i0, i1, i2, i3, i4, i5⟩ := IX
  go_wp2_with fail
  simp [bodyPost, results, Try.results51, go_sem, *]
  repeat (first | (with_reducible exact Below.refl _ _) | (with_reducible refine bl_alloc ?_ _) | (with_reducible refine Below.drew ?_) | (with_reducible refine bl_drewN ?_ _) | (with_reducible refine bl_set ?_ (by omega) _) | (with_reducible refine bl_step ?_ (by assumption)))
set_option maxHeartbeats 1600000 in
set_option maxRecDepth 100000 in
theorem rout_1_0 (L : Ly) (S : Sp) (at' : Int) (hk2 : (L.kd == 2) = false) (hkd : ¬ L.kd = 3) (hx : wiE L.r L.s L.sy L.sx L.t L.l L.b L.q = 0) (t0 : (L.t == 0) = true) (t1 : (L.l == 0) = true) (t2 : (L.b == 0) = true) (t3 : (L.q == 0) = true) (hsl : slV S.h S.v S.c L.r L.s L.sy L.sx L.t L.l L.b L.q L.k = sle (oH L S.h S.v S.c) (oV L S.h S.v S.c) (oC L S.h S.v S.c) (oE L S.h S.v S.c)) (w : World) : Calls Try.prog 51 #[lyv L, inv at' S] w fun e w' => e = .returned (roR L S) ∧ Below w.heap.size w w' := by
  have CW := rwindow_any L.r L.s L.sy L.sx L.t L.l L.b L.q
  rw [hx] at CW
  clear hx
  have HZ := hid1 (wz_yes t0 t1 t2 t3)
  have HK := hid1 hkd
  have hk3 : (L.kd == 3) = false := by simpa using hkd
  by_cases b1 : L.bd < -1
  · rw [ror_bad (rb_bad (.inl (.inr (.inl b1))))]
    clear hkd
    clear hsl
    go_enter Try.func51, Try.ntmps51
    go_wp2_with fail
    refine gen_calls (fun X => Below w.heap.size w X ∧ Rz X (w.heap.size + 1 + 1) ∧ Lp X w.heap.size L ∧ Iv X (w.heap.size + 1) at' S) ⟨by repeat (first | (with_reducible exact Below.refl _ _) | (with_reducible refine bl_alloc ?_ _) | (with_reducible refine Below.drew ?_) | (with_reducible refine bl_drewN ?_ _) | (with_reducible refine bl_set ?_ (by omega) _) | (with_reducible refine bl_step ?_ (by assumption))), rz_new (by simp), (lp_new _ _ _).keep (bl_alloc (bl_alloc (Below.refl _ _) _) _), (iv_new (by simp) at' S _).keep (bl_alloc (Below.refl _ _) _)⟩ ?_
    rintro X ⟨BX, RX, LX, IX⟩
    refine (CW X).mono ?_
    rintro e w1 ⟨rfl, hb⟩
    replace RX := RX.keep hb
    replace LX := LX.keep hb
    replace IX := IX.keep hb
    replace BX := bl_step BX hb
    clear hb CW X
    have KR := hid1 RX
    obtain ⟨⟨z0, z1, z2⟩, f0, f1, f2⟩ := RX
    obtain ⟨c0, c1', c2, c3, c4, c5, c6, c7, c8, c9, c10, c11, c12, c13, c14⟩ := LX
    obtain ⟨i0, i1, i2, i3, i4, i5⟩ := IX
    go_wp2_with fail
    simp [bodyPost, results, Try.results51, go_sem, *]
    repeat (first | (with_reducible exact Below.refl _ _) | (with_reducible refine bl_alloc ?_ _) | (with_reducible refine Below.drew ?_) | (with_reducible refine bl_drewN ?_ _) | (with_reducible refine bl_set ?_ (by omega) _) | (with_reducible refine bl_step ?_ (by assumption)))
  · by_cases b2 : 1 < L.bd
    · rw [ror_bad (rb_bad (.inl (.inr (.inr b2))))]
      clear hkd
      clear hsl
      go_enter Try.func51, Try.ntmps51
      go_wp2_with fail
      refine gen_calls (fun X => Below w.heap.size w X ∧ Rz X (w.heap.size + 1 + 1) ∧ Lp X w.heap.size L ∧ Iv X (w.heap.size + 1) at' S) ⟨by repeat (first | (with_reducible exact Below.refl _ _) | (with_reducible refine bl_alloc ?_ _) | (with_reducible refine Below.drew ?_) | (with_reducible refine bl_drewN ?_ _) | (with_reducible refine bl_set ?_ (by omega) _) | (with_reducible refine bl_step ?_ (by assumption))), rz_new (by simp), (lp_new _ _ _).keep (bl_alloc (bl_alloc (Below.refl _ _) _) _), (iv_new (by simp) at' S _).keep (bl_alloc (Below.refl _ _) _)⟩ ?_
      rintro X ⟨BX, RX, LX, IX⟩
      refine (CW X).mono ?_
      rintro e w1 ⟨rfl, hb⟩
      replace RX := RX.keep hb
      replace LX := LX.keep hb
      replace IX := IX.keep hb
      replace BX := bl_step BX hb
      clear hb CW X
      have KR := hid1 RX
      obtain ⟨⟨z0, z1, z2⟩, f0, f1, f2⟩ := RX
      obtain ⟨c0, c1', c2, c3, c4, c5, c6, c7, c8, c9, c10, c11, c12, c13, c14⟩ := LX
      obtain ⟨i0, i1, i2, i3, i4, i5⟩ := IX
      go_wp2_with fail
      simp [bodyPost, results, Try.results51, go_sem, *]
      repeat (first | (with_reducible exact Below.refl _ _) | (with_reducible refine bl_alloc ?_ _) | (with_reducible refine Below.drew ?_) | (with_reducible refine bl_drewN ?_ _) | (with_reducible refine bl_set ?_ (by omega) _) | (with_reducible refine bl_step ?_ (by assumption)))
    · by_cases b3 : L.bd = 0
      · rw [ror_good (rb_good (fun h => by rcases h with (⟨_, h⟩ | h | h) | ⟨_, h⟩; exact h HZ.out; exact b1 h; exact b2 h; exact h b3))]
        have b4 : (L.bd != 0) = false := by simp [b3]
        clear b3 hkd
        have CS := rslide_any S.h S.v S.c L.r L.s L.sy L.sx L.t L.l L.b L.q L.k
        rw [hsl] at CS
        clear hsl
        generalize oH L S.h S.v S.c = h1 at *
        generalize oV L S.h S.v S.c = v1 at *
        generalize oC L S.h S.v S.c = c1 at *
        generalize oE L S.h S.v S.c = e1 at *
        go_enter Try.func51, Try.ntmps51
        go_wp2_with fail
        refine gen_calls (fun X => Below w.heap.size w X ∧ Rz X (w.heap.size + 1 + 1) ∧ Lp X w.heap.size L ∧ Iv X (w.heap.size + 1) at' S) ⟨by repeat (first | (with_reducible exact Below.refl _ _) | (with_reducible refine bl_alloc ?_ _) | (with_reducible refine Below.drew ?_) | (with_reducible refine bl_drewN ?_ _) | (with_reducible refine bl_set ?_ (by omega) _) | (with_reducible refine bl_step ?_ (by assumption))), rz_new (by simp), (lp_new _ _ _).keep (bl_alloc (bl_alloc (Below.refl _ _) _) _), (iv_new (by simp) at' S _).keep (bl_alloc (Below.refl _ _) _)⟩ ?_
        rintro X ⟨BX, RX, LX, IX⟩
        refine (CW X).mono ?_
        rintro e w1 ⟨rfl, hb⟩
        replace RX := RX.keep hb
        replace LX := LX.keep hb
        replace IX := IX.keep hb
        replace BX := bl_step BX hb
        clear hb CW X
        have KR := hid1 RX
        obtain ⟨⟨z0, z1, z2⟩, f0, f1, f2⟩ := RX
        obtain ⟨c0, c1', c2, c3, c4, c5, c6, c7, c8, c9, c10, c11, c12, c13, c14⟩ := LX
        obtain ⟨i0, i1, i2, i3, i4, i5⟩ := IX
        go_wp2_with fail
        refine (CS _).mono ?_
        rintro e w2 ⟨rfl, hb⟩
        replace KR := hid1 (KR.out.keep hb)
        replace BX := bl_step BX hb
        clear hb CS z0 z1 z2 f0 f1 f2 c0 c1' c2 c3 c4 c5 c6 c7 c8 c9 c10 c11 c12 c13 c14 i0 i1 i2 i3 i4 i5
        obtain ⟨⟨z0, z1, z2⟩, f0, f1, f2⟩ := KR.out
        have hlt := lt_of_cell z0
        go_wp2_with fail
        have hne := Nat.ne_of_lt hlt
        simp [bodyPost, results, Try.results51, go_sem, *]
        repeat (first | (with_reducible exact Below.refl _ _) | (with_reducible refine bl_alloc ?_ _) | (with_reducible refine Below.drew ?_) | (with_reducible refine bl_drewN ?_ _) | (with_reducible refine bl_set ?_ (by omega) _) | (with_reducible refine bl_step ?_ (by assumption)))
      · rw [ror_bad (rb_bad (.inr ⟨HZ.out, b3⟩))]
        have b4 : (L.bd != 0) = true := by simpa using b3
        clear b3 hkd
        clear hsl
        go_enter Try.func51, Try.ntmps51
        go_wp2_with fail
        refine gen_calls (fun X => Below w.heap.size w X ∧ Rz X (w.heap.size + 1 + 1) ∧ Lp X w.heap.size L ∧ Iv X (w.heap.size + 1) at' S) ⟨by repeat (first | (with_reducible exact Below.refl _ _) | (with_reducible refine bl_alloc ?_ _) | (with_reducible refine Below.drew ?_) | (with_reducible refine bl_drewN ?_ _) | (with_reducible refine bl_set ?_ (by omega) _) | (with_reducible refine bl_step ?_ (by assumption))), rz_new (by simp), (lp_new _ _ _).keep (bl_alloc (bl_alloc (Below.refl _ _) _) _), (iv_new (by simp) at' S _).keep (bl_alloc (Below.refl _ _) _)⟩ ?_
        rintro X ⟨BX, RX, LX, IX⟩
        refine (CW X).mono ?_
        rintro e w1 ⟨rfl, hb⟩
        replace RX := RX.keep hb
        replace LX := LX.keep hb
        replace IX := IX.keep hb
        replace BX := bl_step BX hb
        clear hb CW X
        have KR := hid1 RX
        obtain ⟨⟨z0, z1, z2⟩, f0, f1, f2⟩ := RX
        obtain ⟨c0, c1', c2, c3, c4, c5, c6, c7, c8, c9, c10, c11, c12, c13, c14⟩ := LX
        obtain ⟨i0, i1, i2, i3, i4, i5⟩ := IX
        go_wp2_with fail
        simp [bodyPost, results, Try.results51, go_sem, *]
        repeat (first | (with_reducible exact Below.refl _ _) | (with_reducible refine bl_alloc ?_ _) | (with_reducible refine Below.drew ?_) | (with_reducible refine bl_drewN ?_ _) | (with_reducible refine bl_set ?_ (by omega) _) | (with_reducible refine bl_step ?_ (by assumption)))
set_option maxHeartbeats 1600000 in
set_option maxRecDepth 100000 in
theorem rout_1_1 (L : Ly) (S : Sp) (at' : Int) (hk2 : (L.kd == 2) = false) (hkd : ¬ L.kd = 3) (hx : wiE L.r L.s L.sy L.sx L.t L.l L.b L.q = 0) (t0 : (L.t == 0) = false) (hsl : slV S.h S.v S.c L.r L.s L.sy L.sx L.t L.l L.b L.q L.k = sle (oH L S.h S.v S.c) (oV L S.h S.v S.c) (oC L S.h S.v S.c) (oE L S.h S.v S.c)) (w : World) : Calls Try.prog 51 #[lyv L, inv at' S] w fun e w' => e = .returned (roR L S) ∧ Below w.heap.size w w' := by
  have CW := rwindow_any L.r L.s L.sy L.sx L.t L.l L.b L.q
  rw [hx] at CW
  clear hx
  have HZ := hid1 (show ¬ Wz L from fun h => by have e : (L.t == 0) = true := (by simp [h.1]); rw [e] at t0; cases t0)
  have HK := hid1 hkd
  have hk3 : (L.kd == 3) = false := by simpa using hkd
  by_cases b1 : L.bd < -1
  · rw [ror_bad (rb_bad (.inl (.inr (.inl b1))))]
    clear hkd
    clear hsl
    go_enter Try.func51, Try.ntmps51
    go_wp2_with fail
    refine gen_calls (fun X => Below w.heap.size w X ∧ Rz X (w.heap.size + 1 + 1) ∧ Lp X w.heap.size L ∧ Iv X (w.heap.size + 1) at' S) ⟨by repeat (first | (with_reducible exact Below.refl _ _) | (with_reducible refine bl_alloc ?_ _) | (with_reducible refine Below.drew ?_) | (with_reducible refine bl_drewN ?_ _) | (with_reducible refine bl_set ?_ (by omega) _) | (with_reducible refine bl_step ?_ (by assumption))), rz_new (by simp), (lp_new _ _ _).keep (bl_alloc (bl_alloc (Below.refl _ _) _) _), (iv_new (by simp) at' S _).keep (bl_alloc (Below.refl _ _) _)⟩ ?_
    rintro X ⟨BX, RX, LX, IX⟩
    refine (CW X).mono ?_
    rintro e w1 ⟨rfl, hb⟩
    replace RX := RX.keep hb
    replace LX := LX.keep hb
    replace IX := IX.keep hb
    replace BX := bl_step BX hb
    clear hb CW X
    have KR := hid1 RX
    obtain ⟨⟨z0, z1, z2⟩, f0, f1, f2⟩ := RX
    obtain ⟨c0, c1', c2, c3, c4, c5, c6, c7, c8, c9, c10, c11, c12, c13, c14⟩ := LX
    obtain ⟨i0, i1, i2, i3, i4, i5⟩ := IX
    go_wp2_with fail
    simp [bodyPost, results, Try.results51, go_sem, *]
    repeat (first | (with_reducible exact Below.refl _ _) | (with_reducible refine bl_alloc ?_ _) | (with_reducible refine Below.drew ?_) | (with_reducible refine bl_drewN ?_ _) | (with_reducible refine bl_set ?_ (by omega) _) | (with_reducible refine bl_step ?_ (by assumption)))
  · by_cases b2 : 1 < L.bd
    · rw [ror_bad (rb_bad (.inl (.inr (.inr b2))))]
      clear hkd
      clear hsl
      go_enter Try.func51, Try.ntmps51
      go_wp2_with fail
      refine gen_calls (fun X => Below w.heap.size w X ∧ Rz X (w.heap.size + 1 + 1) ∧ Lp X w.heap.size L ∧ Iv X (w.heap.size + 1) at' S) ⟨by repeat (first | (with_reducible exact Below.refl _ _) | (with_reducible refine bl_alloc ?_ _) | (with_reducible refine Below.drew ?_) | (with_reducible refine bl_drewN ?_ _) | (with_reducible refine bl_set ?_ (by omega) _) | (with_reducible refine bl_step ?_ (by assumption))), rz_new (by simp), (lp_new _ _ _).keep (bl_alloc (bl_alloc (Below.refl _ _) _) _), (iv_new (by simp) at' S _).keep (bl_alloc (Below.refl _ _) _)⟩ ?_
      rintro X ⟨BX, RX, LX, IX⟩
      refine (CW X).mono ?_
      rintro e w1 ⟨rfl, hb⟩
      replace RX := RX.keep hb
      replace LX := LX.keep hb
      replace IX := IX.keep hb
      replace BX := bl_step BX hb
      clear hb CW X
      have KR := hid1 RX
      obtain ⟨⟨z0, z1, z2⟩, f0, f1, f2⟩ := RX
      obtain ⟨c0, c1', c2, c3, c4, c5, c6, c7, c8, c9, c10, c11, c12, c13, c14⟩ := LX
      obtain ⟨i0, i1, i2, i3, i4, i5⟩ := IX
      go_wp2_with fail
      simp [bodyPost, results, Try.results51, go_sem, *]
      repeat (first | (with_reducible exact Below.refl _ _) | (with_reducible refine bl_alloc ?_ _) | (with_reducible refine Below.drew ?_) | (with_reducible refine bl_drewN ?_ _) | (with_reducible refine bl_set ?_ (by omega) _) | (with_reducible refine bl_step ?_ (by assumption)))
    · rw [ror_good (rb_good (fun h => by rcases h with (⟨h, _⟩ | h | h) | ⟨h, _⟩; exact hkd h; exact b1 h; exact b2 h; exact HZ.out h))]
      clear hkd
      have CS := rslide_any S.h S.v S.c L.r L.s L.sy L.sx L.t L.l L.b L.q L.k
      rw [hsl] at CS
      clear hsl
      generalize oH L S.h S.v S.c = h1 at *
      generalize oV L S.h S.v S.c = v1 at *
      generalize oC L S.h S.v S.c = c1 at *
      generalize oE L S.h S.v S.c = e1 at *
      go_enter Try.func51, Try.ntmps51
      go_wp2_with fail
      refine gen_calls (fun X => Below w.heap.size w X ∧ Rz X (w.heap.size + 1 + 1) ∧ Lp X w.heap.size L ∧ Iv X (w.heap.size + 1) at' S) ⟨by repeat (first | (with_reducible exact Below.refl _ _) | (with_reducible refine bl_alloc ?_ _) | (with_reducible refine Below.drew ?_) | (with_reducible refine bl_drewN ?_ _) | (with_reducible refine bl_set ?_ (by omega) _) | (with_reducible refine bl_step ?_ (by assumption))), rz_new (by simp), (lp_new _ _ _).keep (bl_alloc (bl_alloc (Below.refl _ _) _) _), (iv_new (by simp) at' S _).keep (bl_alloc (Below.refl _ _) _)⟩ ?_
      rintro X ⟨BX, RX, LX, IX⟩
      refine (CW X).mono ?_
      rintro e w1 ⟨rfl, hb⟩
      replace RX := RX.keep hb
      replace LX := LX.keep hb
      replace IX := IX.keep hb
      replace BX := bl_step BX hb
      clear hb CW X
      have KR := hid1 RX
      obtain ⟨⟨z0, z1, z2⟩, f0, f1, f2⟩ := RX
      obtain ⟨c0, c1', c2, c3, c4, c5, c6, c7, c8, c9, c10, c11, c12, c13, c14⟩ := LX
      obtain ⟨i0, i1, i2, i3, i4, i5⟩ := IX
      go_wp2_with fail
      refine (CS _).mono ?_
      rintro e w2 ⟨rfl, hb⟩
      replace KR := hid1 (KR.out.keep hb)
      replace BX := bl_step BX hb
      clear hb CS z0 z1 z2 f0 f1 f2 c0 c1' c2 c3 c4 c5 c6 c7 c8 c9 c10 c11 c12 c13 c14 i0 i1 i2 i3 i4 i5
      obtain ⟨⟨z0, z1, z2⟩, f0, f1, f2⟩ := KR.out
      have hlt := lt_of_cell z0
      go_wp2_with fail
      have hne := Nat.ne_of_lt hlt
      simp [bodyPost, results, Try.results51, go_sem, *]
      repeat (first | (with_reducible exact Below.refl _ _) | (with_reducible refine bl_alloc ?_ _) | (with_reducible refine Below.drew ?_) | (with_reducible refine bl_drewN ?_ _) | (with_reducible refine bl_set ?_ (by omega) _) | (with_reducible refine bl_step ?_ (by assumption)))
set_option maxHeartbeats 1600000 in
set_option maxRecDepth 100000 in
theorem rout_1_2 (L : Ly) (S : Sp) (at' : Int) (hk2 : (L.kd == 2) = false) (hkd : ¬ L.kd = 3) (hx : wiE L.r L.s L.sy L.sx L.t L.l L.b L.q = 0) (t0 : (L.t == 0) = true) (t1 : (L.l == 0) = false) (hsl : slV S.h S.v S.c L.r L.s L.sy L.sx L.t L.l L.b L.q L.k = sle (oH L S.h S.v S.c) (oV L S.h S.v S.c) (oC L S.h S.v S.c) (oE L S.h S.v S.c)) (w : World) : Calls Try.prog 51 #[lyv L, inv at' S] w fun e w' => e = .returned (roR L S) ∧ Below w.heap.size w w' := by
  have CW := rwindow_any L.r L.s L.sy L.sx L.t L.l L.b L.q
  rw [hx] at CW
  clear hx
  have HZ := hid1 (show ¬ Wz L from fun h => by have e : (L.l == 0) = true := (by simp [h.2.1]); rw [e] at t1; cases t1)
  have HK := hid1 hkd
  have hk3 : (L.kd == 3) = false := by simpa using hkd
  by_cases b1 : L.bd < -1
  · rw [ror_bad (rb_bad (.inl (.inr (.inl b1))))]
    clear hkd
    clear hsl
    go_enter Try.func51, Try.ntmps51
    go_wp2_with fail
    refine gen_calls (fun X => Below w.heap.size w X ∧ Rz X (w.heap.size + 1 + 1) ∧ Lp X w.heap.size L ∧ Iv X (w.heap.size + 1) at' S) ⟨by repeat (first | (with_reducible exact Below.refl _ _) | (with_reducible refine bl_alloc ?_ _) | (with_reducible refine Below.drew ?_) | (with_reducible refine bl_drewN ?_ _) | (with_reducible refine bl_set ?_ (by omega) _) | (with_reducible refine bl_step ?_ (by assumption))), rz_new (by simp), (lp_new _ _ _).keep (bl_alloc (bl_alloc (Below.refl _ _) _) _), (iv_new (by simp) at' S _).keep (bl_alloc (Below.refl _ _) _)⟩ ?_
    rintro X ⟨BX, RX, LX, IX⟩
    refine (CW X).mono ?_
    rintro e w1 ⟨rfl, hb⟩
    replace RX := RX.keep hb
    replace LX := LX.keep hb
    replace IX := IX.keep hb
    replace BX := bl_step BX hb
    clear hb CW X
    have KR := hid1 RX
    obtain ⟨⟨z0, z1, z2⟩, f0, f1, f2⟩ := RX
    obtain ⟨c0, c1', c2, c3, c4, c5, c6, c7, c8, c9, c10, c11, c12, c13, c14⟩ := LX
    obtain ⟨i0, i1, i2, i3, i4, i5⟩ := IX
    go_wp2_with fail
    simp [bodyPost, results, Try.results51, go_sem, *]
    repeat (first | (with_reducible exact Below.refl _ _) | (with_reducible refine bl_alloc ?_ _) | (with_reducible refine Below.drew ?_) | (with_reducible refine bl_drewN ?_ _) | (with_reducible refine bl_set ?_ (by omega) _) | (with_reducible refine bl_step ?_ (by assumption)))
  · by_cases b2 : 1 < L.bd
    · rw [ror_bad (rb_bad (.inl (.inr (.inr b2))))]
      clear hkd
      clear hsl
      go_enter Try.func51, Try.ntmps51
      go_wp2_with fail
      refine gen_calls (fun X => Below w.heap.size w X ∧ Rz X (w.heap.size + 1 + 1) ∧ Lp X w.heap.size L ∧ Iv X (w.heap.size + 1) at' S) ⟨by repeat (first | (with_reducible exact Below.refl _ _) | (with_reducible refine bl_alloc ?_ _) | (with_reducible refine Below.drew ?_) | (with_reducible refine bl_drewN ?_ _) | (with_reducible refine bl_set ?_ (by omega) _) | (with_reducible refine bl_step ?_ (by assumption))), rz_new (by simp), (lp_new _ _ _).keep (bl_alloc (bl_alloc (Below.refl _ _) _) _), (iv_new (by simp) at' S _).keep (bl_alloc (Below.refl _ _) _)⟩ ?_
      rintro X ⟨BX, RX, LX, IX⟩
      refine (CW X).mono ?_
      rintro e w1 ⟨rfl, hb⟩
      replace RX := RX.keep hb
      replace LX := LX.keep hb
      replace IX := IX.keep hb
      replace BX := bl_step BX hb
      clear hb CW X
      have KR := hid1 RX
      obtain ⟨⟨z0, z1, z2⟩, f0, f1, f2⟩ := RX
      obtain ⟨c0, c1', c2, c3, c4, c5, c6, c7, c8, c9, c10, c11, c12, c13, c14⟩ := LX
      obtain ⟨i0, i1, i2, i3, i4, i5⟩ := IX
      go_wp2_with fail
      simp [bodyPost, results, Try.results51, go_sem, *]
      repeat (first | (with_reducible exact Below.refl _ _) | (with_reducible refine bl_alloc ?_ _) | (with_reducible refine Below.drew ?_) | (with_reducible refine bl_drewN ?_ _) | (with_reducible refine bl_set ?_ (by omega) _) | (with_reducible refine bl_step ?_ (by assumption)))
    · rw [ror_good (rb_good (fun h => by rcases h with (⟨h, _⟩ | h | h) | ⟨h, _⟩; exact hkd h; exact b1 h; exact b2 h; exact HZ.out h))]
      clear hkd
      have CS := rslide_any S.h S.v S.c L.r L.s L.sy L.sx L.t L.l L.b L.q L.k
      rw [hsl] at CS
      clear hsl
      generalize oH L S.h S.v S.c = h1 at *
      generalize oV L S.h S.v S.c = v1 at *
      generalize oC L S.h S.v S.c = c1 at *
      generalize oE L S.h S.v S.c = e1 at *
      go_enter Try.func51, Try.ntmps51
      go_wp2_with fail
      refine gen_calls (fun X => Below w.heap.size w X ∧ Rz X (w.heap.size + 1 + 1) ∧ Lp X w.heap.size L ∧ Iv X (w.heap.size + 1) at' S) ⟨by repeat (first | (with_reducible exact Below.refl _ _) | (with_reducible refine bl_alloc ?_ _) | (with_reducible refine Below.drew ?_) | (with_reducible refine bl_drewN ?_ _) | (with_reducible refine bl_set ?_ (by omega) _) | (with_reducible refine bl_step ?_ (by assumption))), rz_new (by simp), (lp_new _ _ _).keep (bl_alloc (bl_alloc (Below.refl _ _) _) _), (iv_new (by simp) at' S _).keep (bl_alloc (Below.refl _ _) _)⟩ ?_
      rintro X ⟨BX, RX, LX, IX⟩
      refine (CW X).mono ?_
      rintro e w1 ⟨rfl, hb⟩
      replace RX := RX.keep hb
      replace LX := LX.keep hb
      replace IX := IX.keep hb
      replace BX := bl_step BX hb
      clear hb CW X
      have KR := hid1 RX
      obtain ⟨⟨z0, z1, z2⟩, f0, f1, f2⟩ := RX
      obtain ⟨c0, c1', c2, c3, c4, c5, c6, c7, c8, c9, c10, c11, c12, c13, c14⟩ := LX
      obtain ⟨i0, i1, i2, i3, i4, i5⟩ := IX
      go_wp2_with fail
      refine (CS _).mono ?_
      rintro e w2 ⟨rfl, hb⟩
      replace KR := hid1 (KR.out.keep hb)
      replace BX := bl_step BX hb
      clear hb CS z0 z1 z2 f0 f1 f2 c0 c1' c2 c3 c4 c5 c6 c7 c8 c9 c10 c11 c12 c13 c14 i0 i1 i2 i3 i4 i5
      obtain ⟨⟨z0, z1, z2⟩, f0, f1, f2⟩ := KR.out
      have hlt := lt_of_cell z0
      go_wp2_with fail
      have hne := Nat.ne_of_lt hlt
      simp [bodyPost, results, Try.results51, go_sem, *]
      repeat (first | (with_reducible exact Below.refl _ _) | (with_reducible refine bl_alloc ?_ _) | (with_reducible refine Below.drew ?_) | (with_reducible refine bl_drewN ?_ _) | (with_reducible refine bl_set ?_ (by omega) _) | (with_reducible refine bl_step ?_ (by assumption)))
set_option maxHeartbeats 1600000 in
set_option maxRecDepth 100000 in
theorem rout_1_3 (L : Ly) (S : Sp) (at' : Int) (hk2 : (L.kd == 2) = false) (hkd : ¬ L.kd = 3) (hx : wiE L.r L.s L.sy L.sx L.t L.l L.b L.q = 0) (t0 : (L.t == 0) = true) (t1 : (L.l == 0) = true) (t2 : (L.b == 0) = false) (hsl : slV S.h S.v S.c L.r L.s L.sy L.sx L.t L.l L.b L.q L.k = sle (oH L S.h S.v S.c) (oV L S.h S.v S.c) (oC L S.h S.v S.c) (oE L S.h S.v S.c)) (w : World) : Calls Try.prog 51 #[lyv L, inv at' S] w fun e w' => e = .returned (roR L S) ∧ Below w.heap.size w w' := by
  have CW := rwindow_any L.r L.s L.sy L.sx L.t L.l L.b L.q
  rw [hx] at CW
  clear hx
  have HZ := hid1 (show ¬ Wz L from fun h => by have e : (L.b == 0) = true := (by simp [h.2.2.1]); rw [e] at t2; cases t2)
  have HK := hid1 hkd
  have hk3 : (L.kd == 3) = false := by simpa using hkd
  by_cases b1 : L.bd < -1
  · rw [ror_bad (rb_bad (.inl (.inr (.inl b1))))]
    clear hkd
    clear hsl
    go_enter Try.func51, Try.ntmps51
    go_wp2_with fail
    refine gen_calls (fun X => Below w.heap.size w X ∧ Rz X (w.heap.size + 1 + 1) ∧ Lp X w.heap.size L ∧ Iv X (w.heap.size + 1) at' S) ⟨by repeat (first | (with_reducible exact Below.refl _ _) | (with_reducible refine bl_alloc ?_ _) | (with_reducible refine Below.drew ?_) | (with_reducible refine bl_drewN ?_ _) | (with_reducible refine bl_set ?_ (by omega) _) | (with_reducible refine bl_step ?_ (by assumption))), rz_new (by simp), (lp_new _ _ _).keep (bl_alloc (bl_alloc (Below.refl _ _) _) _), (iv_new (by simp) at' S _).keep (bl_alloc (Below.refl _ _) _)⟩ ?_
    rintro X ⟨BX, RX, LX, IX⟩
    refine (CW X).mono ?_
    rintro e w1 ⟨rfl, hb⟩
    replace RX := RX.keep hb
    replace LX := LX.keep hb
    replace IX := IX.keep hb
    replace BX := bl_step BX hb
    clear hb CW X
    have KR := hid1 RX
    obtain ⟨⟨z0, z1, z2⟩, f0, f1, f2⟩ := RX
    obtain ⟨c0, c1', c2, c3, c4, c5, c6, c7, c8, c9, c10, c11, c12, c13, c14⟩ := LX
    obtain ⟨i0, i1, i2, i3, i4, i5⟩ := IX
    go_wp2_with fail
    simp [bodyPost, results, Try.results51, go_sem, *]
    repeat (first | (with_reducible exact Below.refl _ _) | (with_reducible refine bl_alloc ?_ _) | (with_reducible refine Below.drew ?_) | (with_reducible refine bl_drewN ?_ _) | (with_reducible refine bl_set ?_ (by omega) _) | (with_reducible refine bl_step ?_ (by assumption)))
  · by_cases b2 : 1 < L.bd
    · rw [ror_bad (rb_bad (.inl (.inr (.inr b2))))]
      clear hkd
      clear hsl
      go_enter Try.func51, Try.ntmps51
      go_wp2_with fail
      refine gen_calls (fun X => Below w.heap.size w X ∧ Rz X (w.heap.size + 1 + 1) ∧ Lp X w.heap.size L ∧ Iv X (w.heap.size + 1) at' S) ⟨by repeat (first | (with_reducible exact Below.refl _ _) | (with_reducible refine bl_alloc ?_ _) | (with_reducible refine Below.drew ?_) | (with_reducible refine bl_drewN ?_ _) | (with_reducible refine bl_set ?_ (by omega) _) | (with_reducible refine bl_step ?_ (by assumption))), rz_new (by simp), (lp_new _ _ _).keep (bl_alloc (bl_alloc (Below.refl _ _) _) _), (iv_new (by simp) at' S _).keep (bl_alloc (Below.refl _ _) _)⟩ ?_
      rintro X ⟨BX, RX, LX, IX⟩
      refine (CW X).mono ?_
      rintro e w1 ⟨rfl, hb⟩
      replace RX := RX.keep hb
      replace LX := LX.keep hb
      replace IX := IX.keep hb
      replace BX := bl_step BX hb
      clear hb CW X
      have KR := hid1 RX
      obtain ⟨⟨z0, z1, z2⟩, f0, f1, f2⟩ := RX
      obtain ⟨c0, c1', c2, c3, c4, c5, c6, c7, c8, c9, c10, c11, c12, c13, c14⟩ := LX
      obtain ⟨i0, i1, i2, i3, i4, i5⟩ := IX
      go_wp2_with fail
      simp [bodyPost, results, Try.results51, go_sem, *]
      repeat (first | (with_reducible exact Below.refl _ _) | (with_reducible refine bl_alloc ?_ _) | (with_reducible refine Below.drew ?_) | (with_reducible refine bl_drewN ?_ _) | (with_reducible refine bl_set ?_ (by omega) _) | (with_reducible refine bl_step ?_ (by assumption)))
    · rw [ror_good (rb_good (fun h => by rcases h with (⟨h, _⟩ | h | h) | ⟨h, _⟩; exact hkd h; exact b1 h; exact b2 h; exact HZ.out h))]
      clear hkd
      have CS := rslide_any S.h S.v S.c L.r L.s L.sy L.sx L.t L.l L.b L.q L.k
      rw [hsl] at CS
      clear hsl
      generalize oH L S.h S.v S.c = h1 at *
      generalize oV L S.h S.v S.c = v1 at *
      generalize oC L S.h S.v S.c = c1 at *
      generalize oE L S.h S.v S.c = e1 at *
      go_enter Try.func51, Try.ntmps51
      go_wp2_with fail
      refine gen_calls (fun X => Below w.heap.size w X ∧ Rz X (w.heap.size + 1 + 1) ∧ Lp X w.heap.size L ∧ Iv X (w.heap.size + 1) at' S) ⟨by repeat (first | (with_reducible exact Below.refl _ _) | (with_reducible refine bl_alloc ?_ _) | (with_reducible refine Below.drew ?_) | (with_reducible refine bl_drewN ?_ _) | (with_reducible refine bl_set ?_ (by omega) _) | (with_reducible refine bl_step ?_ (by assumption))), rz_new (by simp), (lp_new _ _ _).keep (bl_alloc (bl_alloc (Below.refl _ _) _) _), (iv_new (by simp) at' S _).keep (bl_alloc (Below.refl _ _) _)⟩ ?_
      rintro X ⟨BX, RX, LX, IX⟩
      refine (CW X).mono ?_
      rintro e w1 ⟨rfl, hb⟩
      replace RX := RX.keep hb
      replace LX := LX.keep hb
      replace IX := IX.keep hb
      replace BX := bl_step BX hb
      clear hb CW X
      have KR := hid1 RX
      obtain ⟨⟨z0, z1, z2⟩, f0, f1, f2⟩ := RX
      obtain ⟨c0, c1', c2, c3, c4, c5, c6, c7, c8, c9, c10, c11, c12, c13, c14⟩ := LX
      obtain ⟨i0, i1, i2, i3, i4, i5⟩ := IX
      go_wp2_with fail
      refine (CS _).mono ?_
      rintro e w2 ⟨rfl, hb⟩
      replace KR := hid1 (KR.out.keep hb)
      replace BX := bl_step BX hb
      clear hb CS z0 z1 z2 f0 f1 f2 c0 c1' c2 c3 c4 c5 c6 c7 c8 c9 c10 c11 c12 c13 c14 i0 i1 i2 i3 i4 i5
      obtain ⟨⟨z0, z1, z2⟩, f0, f1, f2⟩ := KR.out
      have hlt := lt_of_cell z0
      go_wp2_with fail
      have hne := Nat.ne_of_lt hlt
      simp [bodyPost, results, Try.results51, go_sem, *]
      repeat (first | (with_reducible exact Below.refl _ _) | (with_reducible refine bl_alloc ?_ _) | (with_reducible refine Below.drew ?_) | (with_reducible refine bl_drewN ?_ _) | (with_reducible refine bl_set ?_ (by omega) _) | (with_reducible refine bl_step ?_ (by assumption)))
set_option maxHeartbeats 1600000 in
set_option maxRecDepth 100000 in
theorem rout_1_4 (L : Ly) (S : Sp) (at' : Int) (hk2 : (L.kd == 2) = false) (hkd : ¬ L.kd = 3) (hx : wiE L.r L.s L.sy L.sx L.t L.l L.b L.q = 0) (t0 : (L.t == 0) = true) (t1 : (L.l == 0) = true) (t2 : (L.b == 0) = true) (t3 : (L.q == 0) = false) (hsl : slV S.h S.v S.c L.r L.s L.sy L.sx L.t L.l L.b L.q L.k = sle (oH L S.h S.v S.c) (oV L S.h S.v S.c) (oC L S.h S.v S.c) (oE L S.h S.v S.c)) (w : World) : Calls Try.prog 51 #[lyv L, inv at' S] w fun e w' => e = .returned (roR L S) ∧ Below w.heap.size w w' := by
  have CW := rwindow_any L.r L.s L.sy L.sx L.t L.l L.b L.q
  rw [hx] at CW
  clear hx
  have HZ := hid1 (show ¬ Wz L from fun h => by have e : (L.q == 0) = true := (by simp [h.2.2.2]); rw [e] at t3; cases t3)
  have HK := hid1 hkd
  have hk3 : (L.kd == 3) = false := by simpa using hkd
  by_cases b1 : L.bd < -1
  · rw [ror_bad (rb_bad (.inl (.inr (.inl b1))))]
    clear hkd
    clear hsl
    go_enter Try.func51, Try.ntmps51
    go_wp2_with fail
    refine gen_calls (fun X => Below w.heap.size w X ∧ Rz X (w.heap.size + 1 + 1) ∧ Lp X w.heap.size L ∧ Iv X (w.heap.size + 1) at' S) ⟨by repeat (first | (with_reducible exact Below.refl _ _) | (with_reducible refine bl_alloc ?_ _) | (with_reducible refine Below.drew ?_) | (with_reducible refine bl_drewN ?_ _) | (with_reducible refine bl_set ?_ (by omega) _) | (with_reducible refine bl_step ?_ (by assumption))), rz_new (by simp), (lp_new _ _ _).keep (bl_alloc (bl_alloc (Below.refl _ _) _) _), (iv_new (by simp) at' S _).keep (bl_alloc (Below.refl _ _) _)⟩ ?_
    rintro X ⟨BX, RX, LX, IX⟩
    refine (CW X).mono ?_
    rintro e w1 ⟨rfl, hb⟩
    replace RX := RX.keep hb
    replace LX := LX.keep hb
    replace IX := IX.keep hb
    replace BX := bl_step BX hb
    clear hb CW X
    have KR := hid1 RX
    obtain ⟨⟨z0, z1, z2⟩, f0, f1, f2⟩ := RX
    obtain ⟨c0, c1', c2, c3, c4, c5, c6, c7, c8, c9, c10, c11, c12, c13, c14⟩ := LX
    obtain ⟨i0, i1, i2, i3, i4, i5⟩ := IX
    go_wp2_with fail
    simp [bodyPost, results, Try.results51, go_sem, *]
    repeat (first | (with_reducible exact Below.refl _ _) | (with_reducible refine bl_alloc ?_ _) | (with_reducible refine Below.drew ?_) | (with_reducible refine bl_drewN ?_ _) | (with_reducible refine bl_set ?_ (by omega) _) | (with_reducible refine bl_step ?_ (by assumption)))
  · by_cases b2 : 1 < L.bd
    · rw [ror_bad (rb_bad (.inl (.inr (.inr b2))))]
      clear hkd
      clear hsl
      go_enter Try.func51, Try.ntmps51
      go_wp2_with fail
      refine gen_calls (fun X => Below w.heap.size w X ∧ Rz X (w.heap.size + 1 + 1) ∧ Lp X w.heap.size L ∧ Iv X (w.heap.size + 1) at' S) ⟨by repeat (first | (with_reducible exact Below.refl _ _) | (with_reducible refine bl_alloc ?_ _) | (with_reducible refine Below.drew ?_) | (with_reducible refine bl_drewN ?_ _) | (with_reducible refine bl_set ?_ (by omega) _) | (with_reducible refine bl_step ?_ (by assumption))), rz_new (by simp), (lp_new _ _ _).keep (bl_alloc (bl_alloc (Below.refl _ _) _) _), (iv_new (by simp) at' S _).keep (bl_alloc (Below.refl _ _) _)⟩ ?_
      rintro X ⟨BX, RX, LX, IX⟩
      refine (CW X).mono ?_
      rintro e w1 ⟨rfl, hb⟩
      replace RX := RX.keep hb
      replace LX := LX.keep hb
      replace IX := IX.keep hb
      replace BX := bl_step BX hb
      clear hb CW X
      have KR := hid1 RX
      obtain ⟨⟨z0, z1, z2⟩, f0, f1, f2⟩ := RX
      obtain ⟨c0, c1', c2, c3, c4, c5, c6, c7, c8, c9, c10, c11, c12, c13, c14⟩ := LX
      obtain ⟨i0, i1, i2, i3, i4, i5⟩ := IX
      go_wp2_with fail
      simp [bodyPost, results, Try.results51, go_sem, *]
      repeat (first | (with_reducible exact Below.refl _ _) | (with_reducible refine bl_alloc ?_ _) | (with_reducible refine Below.drew ?_) | (with_reducible refine bl_drewN ?_ _) | (with_reducible refine bl_set ?_ (by omega) _) | (with_reducible refine bl_step ?_ (by assumption)))
    · rw [ror_good (rb_good (fun h => by rcases h with (⟨h, _⟩ | h | h) | ⟨h, _⟩; exact hkd h; exact b1 h; exact b2 h; exact HZ.out h))]
      clear hkd
      have CS := rslide_any S.h S.v S.c L.r L.s L.sy L.sx L.t L.l L.b L.q L.k
      rw [hsl] at CS
      clear hsl
      generalize oH L S.h S.v S.c = h1 at *
      generalize oV L S.h S.v S.c = v1 at *
      generalize oC L S.h S.v S.c = c1 at *
      generalize oE L S.h S.v S.c = e1 at *
      go_enter Try.func51, Try.ntmps51
      go_wp2_with fail
      refine gen_calls (fun X => Below w.heap.size w X ∧ Rz X (w.heap.size + 1 + 1) ∧ Lp X w.heap.size L ∧ Iv X (w.heap.size + 1) at' S) ⟨by repeat (first | (with_reducible exact Below.refl _ _) | (with_reducible refine bl_alloc ?_ _) | (with_reducible refine Below.drew ?_) | (with_reducible refine bl_drewN ?_ _) | (with_reducible refine bl_set ?_ (by omega) _) | (with_reducible refine bl_step ?_ (by assumption))), rz_new (by simp), (lp_new _ _ _).keep (bl_alloc (bl_alloc (Below.refl _ _) _) _), (iv_new (by simp) at' S _).keep (bl_alloc (Below.refl _ _) _)⟩ ?_
      rintro X ⟨BX, RX, LX, IX⟩
      refine (CW X).mono ?_
      rintro e w1 ⟨rfl, hb⟩
      replace RX := RX.keep hb
      replace LX := LX.keep hb
      replace IX := IX.keep hb
      replace BX := bl_step BX hb
      clear hb CW X
      have KR := hid1 RX
      obtain ⟨⟨z0, z1, z2⟩, f0, f1, f2⟩ := RX
      obtain ⟨c0, c1', c2, c3, c4, c5, c6, c7, c8, c9, c10, c11, c12, c13, c14⟩ := LX
      obtain ⟨i0, i1, i2, i3, i4, i5⟩ := IX
      go_wp2_with fail
      refine (CS _).mono ?_
      rintro e w2 ⟨rfl, hb⟩
      replace KR := hid1 (KR.out.keep hb)
      replace BX := bl_step BX hb
      clear hb CS z0 z1 z2 f0 f1 f2 c0 c1' c2 c3 c4 c5 c6 c7 c8 c9 c10 c11 c12 c13 c14 i0 i1 i2 i3 i4 i5
      obtain ⟨⟨z0, z1, z2⟩, f0, f1, f2⟩ := KR.out
      have hlt := lt_of_cell z0
      go_wp2_with fail
      have hne := Nat.ne_of_lt hlt
      simp [bodyPost, results, Try.results51, go_sem, *]
      repeat (first | (with_reducible exact Below.refl _ _) | (with_reducible refine bl_alloc ?_ _) | (with_reducible refine Below.drew ?_) | (with_reducible refine bl_drewN ?_ _) | (with_reducible refine bl_set ?_ (by omega) _) | (with_reducible refine bl_step ?_ (by assumption)))
theorem rout_rest (L : Ly) (S : Sp) (at' : Int) (hk : ¬ L.kd = 2) (hx : wiE L.r L.s L.sy L.sx L.t L.l L.b L.q = 0) (w : World) : Calls Try.prog 51 #[lyv L, inv at' S] w fun e w' => e = .returned (roR L S) ∧ Below w.heap.size w w' := by
  have hk2 : (L.kd == 2) = false := by simpa using hk
  have hsl := slV_o (h := S.h) (v := S.v) (c := S.c) hk
  by_cases h3 : L.kd = 3
  · rw [if_pos h3] at hsl
    cases t0 : (L.t == 0)
    · exact rout_3_1 L S at' hk2 h3 hx t0 hsl w
    · cases t1 : (L.l == 0)
      · exact rout_3_2 L S at' hk2 h3 hx t0 t1 hsl w
      · cases t2 : (L.b == 0)
        · exact rout_3_3 L S at' hk2 h3 hx t0 t1 t2 hsl w
        · cases t3 : (L.q == 0)
          · exact rout_3_4 L S at' hk2 h3 hx t0 t1 t2 t3 hsl w
          · exact rout_3_0 L S at' hk2 h3 hx t0 t1 t2 t3 hsl w
  · rw [if_neg h3] at hsl
    cases t0 : (L.t == 0)
    · exact rout_1_1 L S at' hk2 h3 hx t0 hsl w
    · cases t1 : (L.l == 0)
      · exact rout_1_2 L S at' hk2 h3 hx t0 t1 hsl w
      · cases t2 : (L.b == 0)
        · exact rout_1_3 L S at' hk2 h3 hx t0 t1 t2 hsl w
        · cases t3 : (L.q == 0)
          · exact rout_1_4 L S at' hk2 h3 hx t0 t1 t2 t3 hsl w
          · exact rout_1_0 L S at' hk2 h3 hx t0 t1 t2 t3 hsl w
theorem rout_any (L : Ly) (S : Sp) (at' : Int) (w : World) : Calls Try.prog 51 #[lyv L, inv at' S] w fun e w' => e = .returned (roV L S.h S.v S.c) ∧ Below w.heap.size w w' := by
  unfold roV
  by_cases hk : L.kd = 2
  · rw [if_pos hk]; exact rout_dense L S at' hk w
  · rw [if_neg hk]
    by_cases hx : wiE L.r L.s L.sy L.sx L.t L.l L.b L.q = 0
    · rw [if_neg (by simpa using hx)]
      exact rout_rest L S at' hk hx w
    · rw [if_pos hx]
      exact rout_win L S at' hk _ rfl hx w
end Go.Proofs.Ytkhlhcbbbhbgeaa.Nn
/- THE DOCUMENT'S NETWORKS: WEIGHTS. -/
namespace Go.Proofs.Ytkhlhcbbbhbgeaa.Nn
open Go.RowKit

def rwE (L : Ly) (S : Sp) : Int := if wkE L = 0 then (if wrE L S = 0 then wsE L S else 31) else 52
theorem rwE_kind {L : Ly} {S : Sp} (h : ¬ (L.wt = 1 ∨ L.wt = 2)) : rwE L S = 52 := by unfold rwE wkE; rw [if_neg h, if_neg (by decide)]
theorem rwE_room {L : Ly} {S : Sp} (h : L.wt = 1 ∨ L.wt = 2) (h2 : ¬ S.ah + wc L S.h S.v S.c ≤ 16777216) : rwE L S = 31 := by unfold rwE wkE wrE; rw [if_pos h, if_pos rfl, if_neg h2, if_neg (by decide)]
theorem rwE_rest {L : Ly} {S : Sp} (h : L.wt = 1 ∨ L.wt = 2) (h2 : S.ah + wc L S.h S.v S.c ≤ 16777216) : rwE L S = wsE L S := by unfold rwE wkE wrE; rw [if_pos h, if_pos rfl, if_pos h2, if_pos rfl]
set_option maxHeartbeats 1600000 in
set_option maxRecDepth 100000 in
theorem rweights_walk (L : Ly) (S : Sp) (at' : Int) (hs : Sides S.h S.v S.c) (hf : Fok L) (hkd : L.kd = 1 ∨ L.kd = 2) (hk : 0 ≤ L.k ∧ L.k ≤ 4096) (ha : 0 ≤ S.ah ∧ S.ah ≤ 16777216) (w : World) (hL : Lst w L) (hw1 : (L.wt != 1) = false ∨ ((L.wt != 1) = true ∧ (L.wt != 2) = false)) (hwt : L.wt = 1 ∨ L.wt = 2) :
    Calls Try.prog 52 #[lyv L, inv at' S] w fun e w' => e = .returned (.int .i64 (rwE L S)) ∧ Below w.heap.size w w' := by
  have hb := wc_b hs hf hk
  have hfb := fan_b hs hf
  have cA := fun Y d os => Calls.regrown_of (w := Y) (d := d) (os := os) (rfan_any L S.h S.v S.c hs hf hkd _)
  have HR := hid1 (fun h => rwE_room (L := L) (S := S) hwt h)
  have HT := hid1 (fun h => rwE_rest (L := L) (S := S) hwt h)
  have HC := hid1 (fun h => wsE_cnt (L := L) (S := S) h)
  have HK := hid1 (fun h h2 => wsE_ok (L := L) (S := S) h h2)
  unfold wc at hb HR HT HC HK
  obtain ⟨f, hF⟩ : ∃ f, f = fan L S.h S.v S.c := ⟨_, rfl⟩
  rw [← hF] at hb cA HC HK HR HT hfb
  have HL := hid1 hL
  have hm := hL.2.2.2.1
  have e1 := wr_id (x := L.k * f) (by omega) (by omega)
  obtain ⟨p, hp⟩ : ∃ p, p = L.k * f := ⟨_, rfl⟩
  rw [← hp] at hb HC HK HR HT e1
  have e2 := wr_id (x := S.ah + p) (by omega) (by omega)
  rw [hp] at e1
  have e1' : wrap64 (L.k * f) = p := by rw [e1, hp]
  clear hs hf hkd hk hF hL hp e1 hwt
  rcases hw1 with hw1 | ⟨hw1, hw2⟩
  all_goals
    go_enter Try.func52, Try.ntmps52
    go_wp2_with fail
    refine gen_world (fun X => Below w.heap.size w X ∧ Lp X w.heap.size L ∧ Iv X (w.heap.size + 1) at' S) ⟨by repeat (first | (with_reducible exact Below.refl _ _) | (with_reducible refine bl_alloc ?_ _) | (with_reducible refine Below.drew ?_) | (with_reducible refine bl_drewN ?_ _) | (with_reducible refine bl_set ?_ (by omega) _) | (with_reducible refine bl_step ?_ (by assumption))), (lp_new _ _ _).keep (bl_alloc (Below.refl _ _) _), iv_new (by simp) at' S _⟩ ?_
    rintro Y ⟨BY, HLp, HSo⟩
    have KL := hid1 HLp
    have KI := hid1 HSo
    obtain ⟨c0, c1, c2, c3, c4, c5, c6, c7, c8, c9, c10, c11, c12, c13, c14⟩ := HLp
    obtain ⟨s0, s1, s2, s3, s4, s5⟩ := HSo
    have k0 := cell_regrown c0; have k1 := cell_regrown c1; have k2 := cell_regrown c2; have k3 := cell_regrown c3; have k4 := cell_regrown c4; have k5 := cell_regrown c5; have k6 := cell_regrown c6; have k7 := cell_regrown c7; have k8 := cell_regrown c8; have k9 := cell_regrown c9; have k10 := cell_regrown c10; have k11 := cell_regrown c11; have k12 := cell_regrown c12; have k13 := cell_regrown c13; have k14 := cell_regrown c14
    have j2 := cell_regrown s2; have j3 := cell_regrown s3; have j4 := cell_regrown s4
    replace cA := cA Y
    refine wp_region_quiet_below (by kernel_rfl) (by kernel_rfl) ?_
    repeat (any_goals (first | go_big_quiet_step ((go_at_call 77; exact cA _ _)) | quiet_step ((go_at_call 77; exact cA _ _))))
    refine wpQuiet_nil ?_
    intro _ hw'
    obtain ⟨⟨dq, osq⟩, hw''⟩ := hw'
    subst hw''
    clear c0 c1 c2 c3 c4 c5 c6 c7 c8 c9 c10 c11 c12 c13 c14 s0 s1 s2 s3 s4 s5 k0 k1 k2 k3 k4 k5 k6 k7 k8 k9 k10 k11 k12 k13 k14 j2 j3 j4 cA
    refine gen_then (fun X => Below w.heap.size w X ∧ Lp X w.heap.size L ∧ Iv X (w.heap.size + 1) at' S) ⟨bl_step BY (below_regrown Y dq osq), KL.out.keep (below_regrown Y dq osq), KI.out.keep (below_regrown Y dq osq)⟩ ?_
    rintro Z ⟨BZ, LZ, IZ⟩
    have HW := hid1 (HL.out.1.keep BZ)
    have HB := hid1 BZ
    obtain ⟨c0, c1, c2, c3, c4, c5, c6, c7, c8, c9, c10, c11, c12, c13, c14⟩ := LZ
    obtain ⟨s0, s1, s2, s3, s4, s5⟩ := IZ
    clear KL KI BY BZ HL dq osq Y c0 c2 c3 c4 c5 c6 c7 c8 c9 c10 c11 c13 c14 s0 s1 s2 s3 s4
    by_cases hr : S.ah + p ≤ 16777216
    · have HT2 := hid1 (HT.out hr)
      by_cases hq : (L.mw : Int) = p
      · have hne : ((L.mw : Int) != p) = false := by simp [hq]
        have HQ := hid1 hq
        have hpm : p ≤ (L.mw : Int) := by omega
        have hpm2 : (L.mw : Int) ≤ p := by omega
        clear hq
        go_wp2_with fail
        go_loop [6] (fun i => ∃ k : Nat, k ≤ L.mw ∧ i = .int .i64 k ∧ Hid (∀ j, j < k → okW L.wt (L.ws j))) (fun i => L.mw - (intOf i).toNat)
        case atStart => exact ⟨0, Nat.zero_le _, rfl, hid1 fun j hj => absurd hj (by omega)⟩
        case round =>
          obtain ⟨k, hk, rfl, HA⟩ := hrel
          have ik0 : (0 : Int) ≤ (k : Int) := by omega
          by_cases hlt : k < L.mw
          · have ik : (k : Int) < (L.mw : Int) := by omega
            have ik2 : (k : Int) < p := by omega
            obtain ⟨g, o, ea, hc⟩ := HW.out k hlt
            have HN := hid1 (fun h => wsE_no (L := L) (S := S) hlt h)
            have HY := hid1 (fun (h : okW L.wt (L.ws k)) => (show ∀ j, j < k + 1 → okW L.wt (L.ws j) from fun j hj => by
              by_cases e : j = k
              · rw [e]; exact h
              · exact HA.out j (by omega)))
            generalize L.ws k = x at hc HN HY
            have hcs : x < -1 ∨ (¬ x < -1 ∧ 1 < x) ∨ (¬ x < -1 ∧ ¬ 1 < x ∧ x ≠ 0) ∨ (x = 0 ∧ L.wt = 1) ∨ (x = 0 ∧ L.wt ≠ 1) := by omega
            rcases hcs with h1 | ⟨h1, h2⟩ | ⟨h1, h2, h3⟩ | ⟨h1, h2⟩ | ⟨h1, h2⟩
            · go_wp2_with fail
              go_ret
              exact ⟨by rw [HT2.out, HN.out (fun h => by have := h.1; omega)]; rfl, HB.out⟩
            · go_wp2_with fail
              go_ret
              exact ⟨by rw [HT2.out, HN.out (fun h => by have := h.1; omega)]; rfl, HB.out⟩
            · have h4 : (x == 0) = false := by simpa using h3
              go_wp2_with fail
              go_round
              case rel => exact ⟨k + 1, by omega, by go_num, hid1 (HY.out ⟨by omega, fun h => absurd h h3⟩)⟩
              case measure => simp [intOf]; omega
            · subst h1
              have h4 : (L.wt == 1) = true := by simpa using h2
              have H2 := hid1 h2
              clear h2
              go_wp2_with fail
              go_ret
              exact ⟨by rw [HT2.out, HN.out (fun h => h.2 rfl H2.out)]; rfl, HB.out⟩
            · subst h1
              have h4 : (L.wt == 1) = false := by simpa using h2
              go_wp2_with fail
              go_round
              case rel => exact ⟨k + 1, by omega, by go_num, hid1 (HY.out ⟨by omega, fun _ => h2⟩)⟩
              case measure => simp [intOf]; omega
          · have : k = L.mw := by omega
            subst this
            go_wp2_with fail
            go_ret
            exact ⟨by rw [HT2.out, HK.out HQ.out HA.out]; rfl, HB.out⟩
      · have hne : ((L.mw : Int) != p) = true := by simp [hq]
        have HF := hid1 (HC.out hq)
        clear hq
        go_wp2_with fail
        go_ret
        exact ⟨by rw [HT2.out, HF.out]; rfl, HB.out⟩
    · have HF := hid1 (HR.out (by omega))
      go_wp2_with fail
      go_ret
      exact ⟨by rw [HF.out]; rfl, HB.out⟩
set_option maxRecDepth 100000 in
theorem rweights_any (L : Ly) (S : Sp) (at' : Int) (hs : Sides S.h S.v S.c) (hf : Fok L) (hkd : L.kd = 1 ∨ L.kd = 2) (hk : 0 ≤ L.k ∧ L.k ≤ 4096) (ha : 0 ≤ S.ah ∧ S.ah ≤ 16777216) (w : World) (hL : Lst w L) :
    Calls Try.prog 52 #[lyv L, inv at' S] w fun e w' => e = .returned (.int .i64 (rwE L S)) ∧ Below w.heap.size w w' := by
  by_cases h1 : L.wt = 1
  · exact rweights_walk L S at' hs hf hkd hk ha w hL (.inl (by simp [h1])) (.inl h1)
  · by_cases h2 : L.wt = 2
    · exact rweights_walk L S at' hs hf hkd hk ha w hL (.inr ⟨by simp [h1], by simp [h2]⟩) (.inr h2)
    · rw [rwE_kind (by omega)]
      have e1 : (L.wt != 1) = true := by simpa using h1
      have e2 : (L.wt != 2) = true := by simpa using h2
      clear hs hf hkd hk ha hL h1 h2
      go_enter Try.func52, Try.ntmps52
      go_wp2_with fail
      go_ret
      exact ⟨rfl, by repeat (first | (with_reducible exact Below.refl _ _) | (with_reducible refine bl_alloc ?_ _) | (with_reducible refine Below.drew ?_) | (with_reducible refine bl_drewN ?_ _) | (with_reducible refine bl_set ?_ (by omega) _) | (with_reducible refine bl_step ?_ (by assumption)))⟩
end Go.Proofs.Ytkhlhcbbbhbgeaa.Nn
/- THE DOCUMENT'S NORM. -/
namespace Go.Proofs.Ytkhlhcbbbhbgeaa.Nn
open Go.RowKit
attribute [local go_sem ↓] Go.wp_at_zero Go.wp_at_succ

set_option maxRecDepth 100000 in
theorem r4check_any (n d : Int) (w : World) :
    Calls Try.prog 90 #[fr n d] w fun e w' => e = .returned (.int .i64 (chF n d)) ∧ Below w.heap.size w w' := by
  by_cases h1 : d < 1
  · rw [chF_no (fun h => by have := h.1; omega)]
    go_enter Try.func90, Try.ntmps90
    go_wp2
    go_ret
    exact ⟨rfl, bl_alloc (Below.refl _ _) _⟩
  · by_cases h2 : 1048576 < d
    · rw [chF_no (fun h => by have := h.2.1; omega)]
      go_enter Try.func90, Try.ntmps90
      go_wp2
      go_ret
      exact ⟨rfl, bl_alloc (Below.refl _ _) _⟩
    · by_cases h3 : n < -2147483647
      · rw [chF_no (fun h => by have := h.2.2.1; omega)]
        go_enter Try.func90, Try.ntmps90
        go_wp2
        go_ret
        exact ⟨rfl, bl_alloc (Below.refl _ _) _⟩
      · by_cases h4 : 2147483647 < n
        · rw [chF_no (fun h => by have := h.2.2.2; omega)]
          go_enter Try.func90, Try.ntmps90
          go_wp2
          go_ret
          exact ⟨rfl, bl_alloc (Below.refl _ _) _⟩
        · rw [chF_ok ⟨by omega, by omega, by omega, by omega⟩]
          go_enter Try.func90, Try.ntmps90
          go_wp2
          go_ret
          exact ⟨rfl, bl_alloc (Below.refl _ _) _⟩
set_option maxRecDepth 100000 in
theorem r4norm_no0 (gn gd bn bd mn md sn sd : Int) (h0 : chF gn gd = 40) (w : World) :
    Calls Try.prog 78 #[nm gn gd bn bd mn md sn sd] w fun e w' => e = .returned (.int .i64 40) ∧ Below w.heap.size w w' := by
  go_enter Try.func78, Try.ntmps78
  go_wp2_with fail
  refine gen_calls (fun W' => Below w.heap.size w W' ∧ Hid (Nm W' w.heap.size gn gd bn bd mn md sn sd)) ⟨by repeat (first | (with_reducible exact Below.refl _ _) | (with_reducible refine bl_alloc ?_ _) | (with_reducible refine Below.drew ?_) | (with_reducible refine bl_drewN ?_ _) | (with_reducible refine bl_set ?_ (by omega) _) | (with_reducible refine bl_step ?_ (by assumption))), hid1 ⟨by simp [go_sem], by simp [go_sem], by simp [go_sem], by simp [go_sem], by simp [go_sem], by simp [go_sem], by simp [go_sem], by simp [go_sem]⟩⟩ ?_
  rintro W0 ⟨B0, HM⟩
  obtain ⟨m0, m1, m2, m3, m4, m5, m6, m7⟩ := HM.out
  refine (r4check_any gn gd _).mono ?_
  rintro e w1 ⟨rfl, hb1⟩
  rw [h0]
  replace HM := hid1 (HM.out.keep hb1)
  have B1 : Below w.heap.size w w1 := by repeat (first | (with_reducible exact Below.refl _ _) | (with_reducible refine bl_alloc ?_ _) | (with_reducible refine Below.drew ?_) | (with_reducible refine bl_drewN ?_ _) | (with_reducible refine bl_set ?_ (by omega) _) | (with_reducible refine bl_step ?_ (by assumption)))
  clear hb1 m0 m1 m2 m3 m4 m5 m6 m7
  obtain ⟨m0, m1, m2, m3, m4, m5, m6, m7⟩ := HM.out
  go_wp2
  go_ret
  exact ⟨rfl, by repeat (first | (with_reducible exact Below.refl _ _) | (with_reducible refine bl_alloc ?_ _) | (with_reducible refine Below.drew ?_) | (with_reducible refine bl_drewN ?_ _) | (with_reducible refine bl_set ?_ (by omega) _) | (with_reducible refine bl_step ?_ (by assumption)))⟩
set_option maxRecDepth 100000 in
theorem r4norm_no1 (gn gd bn bd mn md sn sd : Int) (h0 : chF gn gd = 0) (h1 : chF bn bd = 40) (w : World) :
    Calls Try.prog 78 #[nm gn gd bn bd mn md sn sd] w fun e w' => e = .returned (.int .i64 40) ∧ Below w.heap.size w w' := by
  go_enter Try.func78, Try.ntmps78
  go_wp2_with fail
  refine gen_calls (fun W' => Below w.heap.size w W' ∧ Hid (Nm W' w.heap.size gn gd bn bd mn md sn sd)) ⟨by repeat (first | (with_reducible exact Below.refl _ _) | (with_reducible refine bl_alloc ?_ _) | (with_reducible refine Below.drew ?_) | (with_reducible refine bl_drewN ?_ _) | (with_reducible refine bl_set ?_ (by omega) _) | (with_reducible refine bl_step ?_ (by assumption))), hid1 ⟨by simp [go_sem], by simp [go_sem], by simp [go_sem], by simp [go_sem], by simp [go_sem], by simp [go_sem], by simp [go_sem], by simp [go_sem]⟩⟩ ?_
  rintro W0 ⟨B0, HM⟩
  obtain ⟨m0, m1, m2, m3, m4, m5, m6, m7⟩ := HM.out
  refine (r4check_any gn gd _).mono ?_
  rintro e w1 ⟨rfl, hb1⟩
  rw [h0]
  replace HM := hid1 (HM.out.keep hb1)
  have B1 : Below w.heap.size w w1 := by repeat (first | (with_reducible exact Below.refl _ _) | (with_reducible refine bl_alloc ?_ _) | (with_reducible refine Below.drew ?_) | (with_reducible refine bl_drewN ?_ _) | (with_reducible refine bl_set ?_ (by omega) _) | (with_reducible refine bl_step ?_ (by assumption)))
  clear hb1 m0 m1 m2 m3 m4 m5 m6 m7
  obtain ⟨m0, m1, m2, m3, m4, m5, m6, m7⟩ := HM.out
  go_wp2_with fail
  refine (r4check_any bn bd _).mono ?_
  rintro e w2 ⟨rfl, hb2⟩
  rw [h1]
  replace HM := hid1 (HM.out.keep hb2)
  have B2 : Below w.heap.size w w2 := by repeat (first | (with_reducible exact Below.refl _ _) | (with_reducible refine bl_alloc ?_ _) | (with_reducible refine Below.drew ?_) | (with_reducible refine bl_drewN ?_ _) | (with_reducible refine bl_set ?_ (by omega) _) | (with_reducible refine bl_step ?_ (by assumption)))
  clear hb2 B1 m0 m1 m2 m3 m4 m5 m6 m7
  obtain ⟨m0, m1, m2, m3, m4, m5, m6, m7⟩ := HM.out
  go_wp2
  go_ret
  exact ⟨rfl, by repeat (first | (with_reducible exact Below.refl _ _) | (with_reducible refine bl_alloc ?_ _) | (with_reducible refine Below.drew ?_) | (with_reducible refine bl_drewN ?_ _) | (with_reducible refine bl_set ?_ (by omega) _) | (with_reducible refine bl_step ?_ (by assumption)))⟩
set_option maxRecDepth 100000 in
theorem r4norm_no2 (gn gd bn bd mn md sn sd : Int) (h0 : chF gn gd = 0) (h1 : chF bn bd = 0) (h2 : chF mn md = 40) (w : World) :
    Calls Try.prog 78 #[nm gn gd bn bd mn md sn sd] w fun e w' => e = .returned (.int .i64 40) ∧ Below w.heap.size w w' := by
  go_enter Try.func78, Try.ntmps78
  go_wp2_with fail
  refine gen_calls (fun W' => Below w.heap.size w W' ∧ Hid (Nm W' w.heap.size gn gd bn bd mn md sn sd)) ⟨by repeat (first | (with_reducible exact Below.refl _ _) | (with_reducible refine bl_alloc ?_ _) | (with_reducible refine Below.drew ?_) | (with_reducible refine bl_drewN ?_ _) | (with_reducible refine bl_set ?_ (by omega) _) | (with_reducible refine bl_step ?_ (by assumption))), hid1 ⟨by simp [go_sem], by simp [go_sem], by simp [go_sem], by simp [go_sem], by simp [go_sem], by simp [go_sem], by simp [go_sem], by simp [go_sem]⟩⟩ ?_
  rintro W0 ⟨B0, HM⟩
  obtain ⟨m0, m1, m2, m3, m4, m5, m6, m7⟩ := HM.out
  refine (r4check_any gn gd _).mono ?_
  rintro e w1 ⟨rfl, hb1⟩
  rw [h0]
  replace HM := hid1 (HM.out.keep hb1)
  have B1 : Below w.heap.size w w1 := by repeat (first | (with_reducible exact Below.refl _ _) | (with_reducible refine bl_alloc ?_ _) | (with_reducible refine Below.drew ?_) | (with_reducible refine bl_drewN ?_ _) | (with_reducible refine bl_set ?_ (by omega) _) | (with_reducible refine bl_step ?_ (by assumption)))
  clear hb1 m0 m1 m2 m3 m4 m5 m6 m7
  obtain ⟨m0, m1, m2, m3, m4, m5, m6, m7⟩ := HM.out
  go_wp2_with fail
  refine (r4check_any bn bd _).mono ?_
  rintro e w2 ⟨rfl, hb2⟩
  rw [h1]
  replace HM := hid1 (HM.out.keep hb2)
  have B2 : Below w.heap.size w w2 := by repeat (first | (with_reducible exact Below.refl _ _) | (with_reducible refine bl_alloc ?_ _) | (with_reducible refine Below.drew ?_) | (with_reducible refine bl_drewN ?_ _) | (with_reducible refine bl_set ?_ (by omega) _) | (with_reducible refine bl_step ?_ (by assumption)))
  clear hb2 B1 m0 m1 m2 m3 m4 m5 m6 m7
  obtain ⟨m0, m1, m2, m3, m4, m5, m6, m7⟩ := HM.out
  go_wp2_with fail
  refine (r4check_any mn md _).mono ?_
  rintro e w3 ⟨rfl, hb3⟩
  rw [h2]
  replace HM := hid1 (HM.out.keep hb3)
  have B3 : Below w.heap.size w w3 := by repeat (first | (with_reducible exact Below.refl _ _) | (with_reducible refine bl_alloc ?_ _) | (with_reducible refine Below.drew ?_) | (with_reducible refine bl_drewN ?_ _) | (with_reducible refine bl_set ?_ (by omega) _) | (with_reducible refine bl_step ?_ (by assumption)))
  clear hb3 B2 m0 m1 m2 m3 m4 m5 m6 m7
  obtain ⟨m0, m1, m2, m3, m4, m5, m6, m7⟩ := HM.out
  go_wp2
  go_ret
  exact ⟨rfl, by repeat (first | (with_reducible exact Below.refl _ _) | (with_reducible refine bl_alloc ?_ _) | (with_reducible refine Below.drew ?_) | (with_reducible refine bl_drewN ?_ _) | (with_reducible refine bl_set ?_ (by omega) _) | (with_reducible refine bl_step ?_ (by assumption)))⟩
set_option maxRecDepth 100000 in
theorem r4norm_no3 (gn gd bn bd mn md sn sd : Int) (h0 : chF gn gd = 0) (h1 : chF bn bd = 0) (h2 : chF mn md = 0) (h3 : chF sn sd = 40) (w : World) :
    Calls Try.prog 78 #[nm gn gd bn bd mn md sn sd] w fun e w' => e = .returned (.int .i64 40) ∧ Below w.heap.size w w' := by
  go_enter Try.func78, Try.ntmps78
  go_wp2_with fail
  refine gen_calls (fun W' => Below w.heap.size w W' ∧ Hid (Nm W' w.heap.size gn gd bn bd mn md sn sd)) ⟨by repeat (first | (with_reducible exact Below.refl _ _) | (with_reducible refine bl_alloc ?_ _) | (with_reducible refine Below.drew ?_) | (with_reducible refine bl_drewN ?_ _) | (with_reducible refine bl_set ?_ (by omega) _) | (with_reducible refine bl_step ?_ (by assumption))), hid1 ⟨by simp [go_sem], by simp [go_sem], by simp [go_sem], by simp [go_sem], by simp [go_sem], by simp [go_sem], by simp [go_sem], by simp [go_sem]⟩⟩ ?_
  rintro W0 ⟨B0, HM⟩
  obtain ⟨m0, m1, m2, m3, m4, m5, m6, m7⟩ := HM.out
  refine (r4check_any gn gd _).mono ?_
  rintro e w1 ⟨rfl, hb1⟩
  rw [h0]
  replace HM := hid1 (HM.out.keep hb1)
  have B1 : Below w.heap.size w w1 := by repeat (first | (with_reducible exact Below.refl _ _) | (with_reducible refine bl_alloc ?_ _) | (with_reducible refine Below.drew ?_) | (with_reducible refine bl_drewN ?_ _) | (with_reducible refine bl_set ?_ (by omega) _) | (with_reducible refine bl_step ?_ (by assumption)))
  clear hb1 m0 m1 m2 m3 m4 m5 m6 m7
  obtain ⟨m0, m1, m2, m3, m4, m5, m6, m7⟩ := HM.out
  go_wp2_with fail
  refine (r4check_any bn bd _).mono ?_
  rintro e w2 ⟨rfl, hb2⟩
  rw [h1]
  replace HM := hid1 (HM.out.keep hb2)
  have B2 : Below w.heap.size w w2 := by repeat (first | (with_reducible exact Below.refl _ _) | (with_reducible refine bl_alloc ?_ _) | (with_reducible refine Below.drew ?_) | (with_reducible refine bl_drewN ?_ _) | (with_reducible refine bl_set ?_ (by omega) _) | (with_reducible refine bl_step ?_ (by assumption)))
  clear hb2 B1 m0 m1 m2 m3 m4 m5 m6 m7
  obtain ⟨m0, m1, m2, m3, m4, m5, m6, m7⟩ := HM.out
  go_wp2_with fail
  refine (r4check_any mn md _).mono ?_
  rintro e w3 ⟨rfl, hb3⟩
  rw [h2]
  replace HM := hid1 (HM.out.keep hb3)
  have B3 : Below w.heap.size w w3 := by repeat (first | (with_reducible exact Below.refl _ _) | (with_reducible refine bl_alloc ?_ _) | (with_reducible refine Below.drew ?_) | (with_reducible refine bl_drewN ?_ _) | (with_reducible refine bl_set ?_ (by omega) _) | (with_reducible refine bl_step ?_ (by assumption)))
  clear hb3 B2 m0 m1 m2 m3 m4 m5 m6 m7
  obtain ⟨m0, m1, m2, m3, m4, m5, m6, m7⟩ := HM.out
  go_wp2_with fail
  refine (r4check_any sn sd _).mono ?_
  rintro e w4 ⟨rfl, hb4⟩
  rw [h3]
  replace HM := hid1 (HM.out.keep hb4)
  have B4 : Below w.heap.size w w4 := by repeat (first | (with_reducible exact Below.refl _ _) | (with_reducible refine bl_alloc ?_ _) | (with_reducible refine Below.drew ?_) | (with_reducible refine bl_drewN ?_ _) | (with_reducible refine bl_set ?_ (by omega) _) | (with_reducible refine bl_step ?_ (by assumption)))
  clear hb4 B3 m0 m1 m2 m3 m4 m5 m6 m7
  obtain ⟨m0, m1, m2, m3, m4, m5, m6, m7⟩ := HM.out
  go_wp2
  go_ret
  exact ⟨rfl, by repeat (first | (with_reducible exact Below.refl _ _) | (with_reducible refine bl_alloc ?_ _) | (with_reducible refine Below.drew ?_) | (with_reducible refine bl_drewN ?_ _) | (with_reducible refine bl_set ?_ (by omega) _) | (with_reducible refine bl_step ?_ (by assumption)))⟩
set_option maxRecDepth 100000 in
theorem r4norm_small (gn gd bn bd mn md sn sd : Int) (h0 : chF gn gd = 0) (h1 : chF bn bd = 0) (h2 : chF mn md = 0) (h3 : chF sn sd = 0) (hs : sn < 1) (w : World) :
    Calls Try.prog 78 #[nm gn gd bn bd mn md sn sd] w fun e w' => e = .returned (.int .i64 53) ∧ Below w.heap.size w w' := by
  go_enter Try.func78, Try.ntmps78
  go_wp2_with fail
  refine gen_calls (fun W' => Below w.heap.size w W' ∧ Hid (Nm W' w.heap.size gn gd bn bd mn md sn sd)) ⟨by repeat (first | (with_reducible exact Below.refl _ _) | (with_reducible refine bl_alloc ?_ _) | (with_reducible refine Below.drew ?_) | (with_reducible refine bl_drewN ?_ _) | (with_reducible refine bl_set ?_ (by omega) _) | (with_reducible refine bl_step ?_ (by assumption))), hid1 ⟨by simp [go_sem], by simp [go_sem], by simp [go_sem], by simp [go_sem], by simp [go_sem], by simp [go_sem], by simp [go_sem], by simp [go_sem]⟩⟩ ?_
  rintro W0 ⟨B0, HM⟩
  obtain ⟨m0, m1, m2, m3, m4, m5, m6, m7⟩ := HM.out
  refine (r4check_any gn gd _).mono ?_
  rintro e w1 ⟨rfl, hb1⟩
  rw [h0]
  replace HM := hid1 (HM.out.keep hb1)
  have B1 : Below w.heap.size w w1 := by repeat (first | (with_reducible exact Below.refl _ _) | (with_reducible refine bl_alloc ?_ _) | (with_reducible refine Below.drew ?_) | (with_reducible refine bl_drewN ?_ _) | (with_reducible refine bl_set ?_ (by omega) _) | (with_reducible refine bl_step ?_ (by assumption)))
  clear hb1 m0 m1 m2 m3 m4 m5 m6 m7
  obtain ⟨m0, m1, m2, m3, m4, m5, m6, m7⟩ := HM.out
  go_wp2_with fail
  refine (r4check_any bn bd _).mono ?_
  rintro e w2 ⟨rfl, hb2⟩
  rw [h1]
  replace HM := hid1 (HM.out.keep hb2)
  have B2 : Below w.heap.size w w2 := by repeat (first | (with_reducible exact Below.refl _ _) | (with_reducible refine bl_alloc ?_ _) | (with_reducible refine Below.drew ?_) | (with_reducible refine bl_drewN ?_ _) | (with_reducible refine bl_set ?_ (by omega) _) | (with_reducible refine bl_step ?_ (by assumption)))
  clear hb2 B1 m0 m1 m2 m3 m4 m5 m6 m7
  obtain ⟨m0, m1, m2, m3, m4, m5, m6, m7⟩ := HM.out
  go_wp2_with fail
  refine (r4check_any mn md _).mono ?_
  rintro e w3 ⟨rfl, hb3⟩
  rw [h2]
  replace HM := hid1 (HM.out.keep hb3)
  have B3 : Below w.heap.size w w3 := by repeat (first | (with_reducible exact Below.refl _ _) | (with_reducible refine bl_alloc ?_ _) | (with_reducible refine Below.drew ?_) | (with_reducible refine bl_drewN ?_ _) | (with_reducible refine bl_set ?_ (by omega) _) | (with_reducible refine bl_step ?_ (by assumption)))
  clear hb3 B2 m0 m1 m2 m3 m4 m5 m6 m7
  obtain ⟨m0, m1, m2, m3, m4, m5, m6, m7⟩ := HM.out
  go_wp2_with fail
  refine (r4check_any sn sd _).mono ?_
  rintro e w4 ⟨rfl, hb4⟩
  rw [h3]
  replace HM := hid1 (HM.out.keep hb4)
  have B4 : Below w.heap.size w w4 := by repeat (first | (with_reducible exact Below.refl _ _) | (with_reducible refine bl_alloc ?_ _) | (with_reducible refine Below.drew ?_) | (with_reducible refine bl_drewN ?_ _) | (with_reducible refine bl_set ?_ (by omega) _) | (with_reducible refine bl_step ?_ (by assumption)))
  clear hb4 B3 m0 m1 m2 m3 m4 m5 m6 m7
  obtain ⟨m0, m1, m2, m3, m4, m5, m6, m7⟩ := HM.out
  go_wp2
  go_ret
  exact ⟨rfl, by repeat (first | (with_reducible exact Below.refl _ _) | (with_reducible refine bl_alloc ?_ _) | (with_reducible refine Below.drew ?_) | (with_reducible refine bl_drewN ?_ _) | (with_reducible refine bl_set ?_ (by omega) _) | (with_reducible refine bl_step ?_ (by assumption)))⟩
set_option maxRecDepth 100000 in
theorem r4norm_ok (gn gd bn bd mn md sn sd : Int) (h0 : chF gn gd = 0) (h1 : chF bn bd = 0) (h2 : chF mn md = 0) (h3 : chF sn sd = 0) (hs : ¬ sn < 1) (w : World) :
    Calls Try.prog 78 #[nm gn gd bn bd mn md sn sd] w fun e w' => e = .returned (.int .i64 0) ∧ Below w.heap.size w w' := by
  go_enter Try.func78, Try.ntmps78
  go_wp2_with fail
  refine gen_calls (fun W' => Below w.heap.size w W' ∧ Hid (Nm W' w.heap.size gn gd bn bd mn md sn sd)) ⟨by repeat (first | (with_reducible exact Below.refl _ _) | (with_reducible refine bl_alloc ?_ _) | (with_reducible refine Below.drew ?_) | (with_reducible refine bl_drewN ?_ _) | (with_reducible refine bl_set ?_ (by omega) _) | (with_reducible refine bl_step ?_ (by assumption))), hid1 ⟨by simp [go_sem], by simp [go_sem], by simp [go_sem], by simp [go_sem], by simp [go_sem], by simp [go_sem], by simp [go_sem], by simp [go_sem]⟩⟩ ?_
  rintro W0 ⟨B0, HM⟩
  obtain ⟨m0, m1, m2, m3, m4, m5, m6, m7⟩ := HM.out
  refine (r4check_any gn gd _).mono ?_
  rintro e w1 ⟨rfl, hb1⟩
  rw [h0]
  replace HM := hid1 (HM.out.keep hb1)
  have B1 : Below w.heap.size w w1 := by repeat (first | (with_reducible exact Below.refl _ _) | (with_reducible refine bl_alloc ?_ _) | (with_reducible refine Below.drew ?_) | (with_reducible refine bl_drewN ?_ _) | (with_reducible refine bl_set ?_ (by omega) _) | (with_reducible refine bl_step ?_ (by assumption)))
  clear hb1 m0 m1 m2 m3 m4 m5 m6 m7
  obtain ⟨m0, m1, m2, m3, m4, m5, m6, m7⟩ := HM.out
  go_wp2_with fail
  refine (r4check_any bn bd _).mono ?_
  rintro e w2 ⟨rfl, hb2⟩
  rw [h1]
  replace HM := hid1 (HM.out.keep hb2)
  have B2 : Below w.heap.size w w2 := by repeat (first | (with_reducible exact Below.refl _ _) | (with_reducible refine bl_alloc ?_ _) | (with_reducible refine Below.drew ?_) | (with_reducible refine bl_drewN ?_ _) | (with_reducible refine bl_set ?_ (by omega) _) | (with_reducible refine bl_step ?_ (by assumption)))
  clear hb2 B1 m0 m1 m2 m3 m4 m5 m6 m7
  obtain ⟨m0, m1, m2, m3, m4, m5, m6, m7⟩ := HM.out
  go_wp2_with fail
  refine (r4check_any mn md _).mono ?_
  rintro e w3 ⟨rfl, hb3⟩
  rw [h2]
  replace HM := hid1 (HM.out.keep hb3)
  have B3 : Below w.heap.size w w3 := by repeat (first | (with_reducible exact Below.refl _ _) | (with_reducible refine bl_alloc ?_ _) | (with_reducible refine Below.drew ?_) | (with_reducible refine bl_drewN ?_ _) | (with_reducible refine bl_set ?_ (by omega) _) | (with_reducible refine bl_step ?_ (by assumption)))
  clear hb3 B2 m0 m1 m2 m3 m4 m5 m6 m7
  obtain ⟨m0, m1, m2, m3, m4, m5, m6, m7⟩ := HM.out
  go_wp2_with fail
  refine (r4check_any sn sd _).mono ?_
  rintro e w4 ⟨rfl, hb4⟩
  rw [h3]
  replace HM := hid1 (HM.out.keep hb4)
  have B4 : Below w.heap.size w w4 := by repeat (first | (with_reducible exact Below.refl _ _) | (with_reducible refine bl_alloc ?_ _) | (with_reducible refine Below.drew ?_) | (with_reducible refine bl_drewN ?_ _) | (with_reducible refine bl_set ?_ (by omega) _) | (with_reducible refine bl_step ?_ (by assumption)))
  clear hb4 B3 m0 m1 m2 m3 m4 m5 m6 m7
  obtain ⟨m0, m1, m2, m3, m4, m5, m6, m7⟩ := HM.out
  go_wp2
  go_ret
  exact ⟨rfl, by repeat (first | (with_reducible exact Below.refl _ _) | (with_reducible refine bl_alloc ?_ _) | (with_reducible refine Below.drew ?_) | (with_reducible refine bl_drewN ?_ _) | (with_reducible refine bl_set ?_ (by omega) _) | (with_reducible refine bl_step ?_ (by assumption)))⟩
theorem r4norm_any (gn gd bn bd mn md sn sd : Int) (w : World) :
    Calls Try.prog 78 #[nm gn gd bn bd mn md sn sd] w fun e w' => e = .returned (.int .i64 (noE gn gd bn bd mn md sn sd)) ∧ Below w.heap.size w w' := by
  unfold noE
  by_cases h0 : Fr gn gd
  · by_cases h1 : Fr bn bd
    · by_cases h2 : Fr mn md
      · by_cases h3 : Fr sn sd
        · rw [if_pos ⟨h0, h1, h2, h3⟩]
          by_cases hs : sn < 1
          · rw [if_pos hs]; exact r4norm_small _ _ _ _ _ _ _ _ (chF_ok h0) (chF_ok h1) (chF_ok h2) (chF_ok h3) hs w
          · rw [if_neg hs]; exact r4norm_ok _ _ _ _ _ _ _ _ (chF_ok h0) (chF_ok h1) (chF_ok h2) (chF_ok h3) hs w
        · rw [if_neg (fun k => h3 k.2.2.2)]; exact r4norm_no3 _ _ _ _ _ _ _ _ (chF_ok h0) (chF_ok h1) (chF_ok h2) (chF_no h3) w
      · rw [if_neg (fun k => h2 k.2.2.1)]; exact r4norm_no2 _ _ _ _ _ _ _ _ (chF_ok h0) (chF_ok h1) (chF_no h2) w
    · rw [if_neg (fun k => h1 k.2.1)]; exact r4norm_no1 _ _ _ _ _ _ _ _ (chF_ok h0) (chF_no h1) w
  · rw [if_neg (fun k => h0 k.1)]; exact r4norm_no0 _ _ _ _ _ _ _ _ (chF_no h0) w
end Go.Proofs.Ytkhlhcbbbhbgeaa.Nn
/- THE DOCUMENT'S NETWORKS: NORMS, BIASES, HOW FAR SUMS REACH. -/
namespace Go.Proofs.Ytkhlhcbbbhbgeaa.Nn
open Go.RowKit

def rnE (L : Ly) (S : Sp) : Int := if S.la = true then (if (L.mb : Int) = L.k ∧ L.mn = 0 then reE L S else 54) else (if nmE L = 0 then reE L S else 53)

set_option maxHeartbeats 3200000 in
set_option maxRecDepth 100000 in
theorem rends_first (L : Ly) (S : Sp) (at' : Int) (hs : Sides S.h S.v S.c) (hf : Fok L) (hkd : L.kd = 1 ∨ L.kd = 2) (hat : (at' == 0) = true) (hfs : S.fs = true) (w : World) (hL : Lst w L) :
    Calls Try.prog 53 #[lyv L, inv at' S] w fun e w' => e = .returned (.int .i64 (rnE L S)) ∧ Below w.heap.size w w' := by
  have HL := hid1 hL
  have hm := hL.2.2.2.2.2
  have hmn := hL.2.2.2.2.1
  clear hL
  have hb := fan_b hs hf
  have cF := rfan_any L S.h S.v S.c hs hf hkd
  have hle : lef L S = 2147483647 - 128 * fan L S.h S.v S.c := by unfold lef; rw [hfs]; simp; omega
  have H0 := hid1 (fun h => reE_low (L := L) (S := S) h)
  have H1 := hid1 (fun k (hk : k < L.mb) h => reE_no (L := L) (S := S) hk h)
  have H2 := hid1 (fun h h2 => reE_ok (L := L) (S := S) h h2)
  rw [hle] at H0 H1 H2
  have HFS := hid1 hfs
  clear hs hle hf hkd hfs
  generalize fan L S.h S.v S.c = f at *
  by_cases hl : S.la = true
  · have hcs : (¬ (L.mb : Int) = L.k) ∨ ((L.mb : Int) = L.k ∧ 0 < L.mn) ∨ ((L.mb : Int) = L.k ∧ L.mn = 0) := by omega
    rcases hcs with k1 | ⟨k1, k2⟩ | ⟨k1, k2⟩
    · have HV := hid1 (show rnE L S = 54 from by unfold rnE; rw [if_pos hl, if_neg (fun h => k1 h.1)])
      have e1 : ((L.mb : Int) != L.k) = true := by simpa using k1
      go_enter Try.func53, Try.ntmps53
      go_wp2_with fail
      go_ret
      exact ⟨by rw [HV.out]; rfl, by repeat (first | (with_reducible exact Below.refl _ _) | (with_reducible refine bl_alloc ?_ _) | (with_reducible refine Below.drew ?_) | (with_reducible refine bl_drewN ?_ _) | (with_reducible refine bl_set ?_ (by omega) _) | (with_reducible refine bl_step ?_ (by assumption)))⟩
    · have HV := hid1 (show rnE L S = 54 from by unfold rnE; rw [if_pos hl, if_neg (fun h => by have := h.2; omega)])
      have e1 : ((L.mb : Int) != L.k) = false := by simp [k1]
      clear k1
      go_enter Try.func53, Try.ntmps53
      go_wp2_with fail
      go_ret
      exact ⟨by rw [HV.out]; rfl, by repeat (first | (with_reducible exact Below.refl _ _) | (with_reducible refine bl_alloc ?_ _) | (with_reducible refine Below.drew ?_) | (with_reducible refine bl_drewN ?_ _) | (with_reducible refine bl_set ?_ (by omega) _) | (with_reducible refine bl_step ?_ (by assumption)))⟩
    · have HV := hid1 (show rnE L S = reE L S from by unfold rnE; rw [if_pos hl, if_pos ⟨k1, k2⟩])
      have e1 : ((L.mb : Int) != L.k) = false := by simp [k1]
      have HK2 := hid1 k2
      have e2 : ¬ 0 < L.mn := by omega
      clear k1 k2
      go_enter Try.func53, Try.ntmps53
      go_upto_region 12 with fail
      refine gen_world (fun X => Below w.heap.size w X ∧ Lp X w.heap.size L ∧ Iv X (w.heap.size + 1) at' S) ⟨by repeat (first | (with_reducible exact Below.refl _ _) | (with_reducible refine bl_alloc ?_ _) | (with_reducible refine Below.drew ?_) | (with_reducible refine bl_drewN ?_ _) | (with_reducible refine bl_set ?_ (by omega) _) | (with_reducible refine bl_step ?_ (by assumption))), (lp_new _ _ _).keep (bl_alloc (Below.refl _ _) _), by first | exact iv_new (by simp) at' S _ | (have := iv_new (W := w.alloc (lyo L)) (g := w.heap.size + 1) (by simp) at' S 83; rw [hl] at this; exact this)⟩ ?_
      rintro X ⟨BX, LX, IX⟩
      have KL := hid1 LX
      have KI := hid1 IX
      clear LX IX
      obtain ⟨c0, c1, c2, c3, c4, c5, c6, c7, c8, c9, c10, c11, c12, c13, c14⟩ := KL.out
      obtain ⟨s0, s1, s2, s3, s4, s5⟩ := KI.out
      go_wp2_with fail
      refine (cF _).mono ?_
      rintro e y ⟨rfl, hb⟩
      replace KL := hid1 (KL.out.keep hb)
      replace KI := hid1 (KI.out.keep hb)
      replace BX := bl_step BX hb
      have HW := hid1 (HL.out.2.2.1.keep BX)
      have HB := hid1 BX
      clear hb cF BX c0 c1 c2 c3 c4 c5 c6 c7 c8 c9 c10 c11 c12 c13 c14 s0 s1 s2 s3 s4 s5
      obtain ⟨c0, c1, c2, c3, c4, c5, c6, c7, c8, c9, c10, c11, c12, c13, c14⟩ := KL.out
      obtain ⟨s0, s1, s2, s3, s4, s5⟩ := KI.out
      clear c0 c1 c2 c3 c4 c5 c6 c7 c8 c9 c10 c11 c12 c13 s1 s2 s3 s4 s5 KL KI
      by_cases hlo : 2147483647 - 128 * f < 0
      · go_wp2_with fail
        go_ret
        exact ⟨by rw [HV.out, H0.out (by omega)]; first | rfl | simp [*], HB.out⟩
      · have HZ := hid1 (H2.out (by omega))
        go_wp2_with fail
        go_loop [9] (fun i => ∃ k : Nat, k ≤ L.mb ∧ i = .int .i64 k ∧ Hid (∀ j, j < k → bok (2147483647 - 128 * f) (L.bs j))) (fun i => L.mb - (intOf i).toNat)
        case atStart => exact ⟨0, Nat.zero_le _, rfl, hid1 fun j hj => absurd hj (by omega)⟩
        case round =>
          obtain ⟨k, hk, rfl, HA⟩ := hrel
          have ik0 : (0 : Int) ≤ (k : Int) := by omega
          by_cases hlt : k < L.mb
          · have ik : (k : Int) < (L.mb : Int) := by omega
            obtain ⟨g, o, ea, hc⟩ := HW.out k hlt
            have HN := hid1 (fun h => H1.out k hlt h)
            have HY := hid1 (fun (h : bok (2147483647 - 128 * f) (L.bs k)) => (show ∀ j, j < k + 1 → bok (2147483647 - 128 * f) (L.bs j) from fun j hj => by
              by_cases e : j = k
              · rw [e]; exact h
              · exact HA.out j (by omega)))
            generalize L.bs k = x at hc HN HY
            have hcs : 2147483647 - 128 * f < x ∨ (¬ 2147483647 - 128 * f < x ∧ x < -(2147483647 - 128 * f)) ∨ (¬ 2147483647 - 128 * f < x ∧ ¬ x < -(2147483647 - 128 * f)) := by omega
            rcases hcs with h1 | ⟨h1, h2⟩ | ⟨h1, h2⟩
            · go_wp2_with fail
              go_ret
              exact ⟨by rw [HV.out, HN.out (fun h => by have := h.2; omega)]; rfl, HB.out⟩
            · go_wp2_with fail
              go_ret
              exact ⟨by rw [HV.out, HN.out (fun h => by have := h.1; omega)]; rfl, HB.out⟩
            · go_wp2_with fail
              go_round
              case rel => exact ⟨k + 1, by omega, by go_num, hid1 (HY.out ⟨by omega, by omega⟩)⟩
              case measure => simp [intOf]; omega
          · have : k = L.mb := by omega
            subst this
            go_wp2_with fail
            go_ret
            exact ⟨by rw [HV.out, HZ.out HA.out]; rfl, HB.out⟩
  · have hl2 : S.la = false := by simpa using hl
    clear hl
    have hcs : (¬ (L.mn : Int) = L.k) ∨ ((L.mn : Int) = L.k ∧ 0 < L.mb) ∨ ((L.mn : Int) = L.k ∧ L.mb = 0) := by omega
    rcases hcs with k1 | ⟨k1, k2⟩ | ⟨k1, k2⟩
    · have HV := hid1 (show rnE L S = 53 from by unfold rnE; rw [if_neg (by rw [hl2]; decide), nmE_cnt (fun h => k1 h.1), if_neg (by decide)])
      have e1 : ((L.mn : Int) != L.k) = true := by simpa using k1
      clear k1
      go_enter Try.func53, Try.ntmps53
      go_wp2_with fail
      go_ret
      exact ⟨by rw [HV.out]; rfl, by repeat (first | (with_reducible exact Below.refl _ _) | (with_reducible refine bl_alloc ?_ _) | (with_reducible refine Below.drew ?_) | (with_reducible refine bl_drewN ?_ _) | (with_reducible refine bl_set ?_ (by omega) _) | (with_reducible refine bl_step ?_ (by assumption)))⟩
    · have HV := hid1 (show rnE L S = 53 from by unfold rnE; rw [if_neg (by rw [hl2]; decide), nmE_cnt (fun h => by have := h.2; omega), if_neg (by decide)])
      have e1 : ((L.mn : Int) != L.k) = false := by simp [k1]
      clear k1
      go_enter Try.func53, Try.ntmps53
      go_wp2_with fail
      go_ret
      exact ⟨by rw [HV.out]; rfl, by repeat (first | (with_reducible exact Below.refl _ _) | (with_reducible refine bl_alloc ?_ _) | (with_reducible refine Below.drew ?_) | (with_reducible refine bl_drewN ?_ _) | (with_reducible refine bl_set ?_ (by omega) _) | (with_reducible refine bl_step ?_ (by assumption)))⟩
    · have HQ := hid1 (show ¬ nmE L = 0 → rnE L S = 53 from fun h => by unfold rnE; rw [if_neg (by rw [hl2]; decide), if_neg h])
      have HP := hid1 (show nmE L = 0 → rnE L S = reE L S from fun h => by unfold rnE; rw [if_neg (by rw [hl2]; decide), if_pos h])
      have HC := hid1 (show (L.mn : Int) = L.k ∧ L.mb = 0 from ⟨k1, k2⟩)
      have e1 : ((L.mn : Int) != L.k) = false := by simp [k1]
      have e2 : ¬ 0 < L.mb := by omega
      have hkn : L.k ≤ (L.mn : Int) := by omega
      have hkn2 : (L.mn : Int) ≤ L.k := by omega
      clear k1 k2
      go_enter Try.func53, Try.ntmps53
      go_upto_region 7 with fail
      refine gen_world (fun X => Below w.heap.size w X ∧ Lp X w.heap.size L ∧ Iv X (w.heap.size + 1) at' S) ⟨by repeat (first | (with_reducible exact Below.refl _ _) | (with_reducible refine bl_alloc ?_ _) | (with_reducible refine Below.drew ?_) | (with_reducible refine bl_drewN ?_ _) | (with_reducible refine bl_set ?_ (by omega) _) | (with_reducible refine bl_step ?_ (by assumption))), (lp_new _ _ _).keep (bl_alloc (Below.refl _ _) _), by first | exact iv_new (by simp) at' S _ | (have := iv_new (W := w.alloc (lyo L)) (g := w.heap.size + 1) (by simp) at' S 83; rw [hl2] at this; exact this)⟩ ?_
      rintro X0 ⟨BX, LX, IX⟩
      go_loopw [5] (fun i wr => ∃ k : Nat, k ≤ L.mn ∧ i = .int .i64 k ∧ Hid (∀ j, j < k → nno L j = 0) ∧ Below w.heap.size w wr ∧ Hid (Lp wr w.heap.size L) ∧ Hid (Iv wr (w.heap.size + 1) at' S)) (fun i _ => L.mn - (intOf i).toNat)
      case atStart => exact ⟨0, Nat.zero_le _, rfl, hid1 fun j hj => absurd hj (by omega), BX, hid1 LX, hid1 IX⟩
      case round =>
        clear BX LX IX
        obtain ⟨k, hk, rfl, HA, BX, KL, KI⟩ := hrel
        have ik0 : (0 : Int) ≤ (k : Int) := by omega
        by_cases hlt : k < L.mn
        · have ik : (k : Int) < (L.mn : Int) := by omega
          have ik2 : (k : Int) < L.k := by omega
          obtain ⟨g, o, ea, a0, a1, a2, a3, a4, a5, a6, a7⟩ := (HL.out.2.1.keep BX) k hlt
          have HN := hid1 (fun h => nmE_no (L := L) hlt h)
          have HY := hid1 (fun (h : nno L k = 0) => (show ∀ j, j < k + 1 → nno L j = 0 from fun j hj => by
            by_cases e : j = k
            · rw [e]; exact h
            · exact HA.out j (by omega)))
          have HM := r4norm_any (L.ns k 0) (L.ns k 1) (L.ns k 2) (L.ns k 3) (L.ns k 4) (L.ns k 5) (L.ns k 6) (L.ns k 7)
          change ∀ w, Calls Try.prog 78 _ w fun e w' => e = .returned (.int .i64 (nno L k)) ∧ _ at HM
          generalize nno L k = x at HN HY HM
          obtain ⟨c0, c1, c2, c3, c4, c5, c6, c7, c8, c9, c10, c11, c12, c13, c14⟩ := KL.out
          by_cases hx : x = 0
          · have hx2 : (x != 0) = false := by simpa using hx
            have HX := hid1 hx
            clear hx
            go_wp2_with fail
            refine (HM _).mono ?_
            rintro e w1 ⟨rfl, hb1⟩
            replace KL := hid1 (KL.out.keep hb1)
            replace KI := hid1 (KI.out.keep hb1)
            replace BX := bl_step BX hb1
            clear hb1 HM a0 a1 a2 a3 a4 a5 a6 a7 c0 c1 c2 c3 c4 c5 c6 c7 c8 c9 c10 c11 c12 c13 c14
            go_wp2_with fail
            go_roundw
            case rel =>
              rw [ea]
              (repeat apply Exists.intro)
              exact ⟨⟨k + 1, by omega, by go_num, hid1 (HY.out HX.out), BX, KL, KI⟩, rfl⟩
            case measure => simp [intOf]; omega
          · have hx2 : (x != 0) = true := by simpa using hx
            have HE := hid1 (HQ.out (by rw [HN.out hx]; decide))
            clear hx
            go_wp2_with fail
            refine (HM _).mono ?_
            rintro e w1 ⟨rfl, hb1⟩
            replace BX := bl_step BX hb1
            clear hb1 HM a0 a1 a2 a3 a4 a5 a6 a7 c0 c1 c2 c3 c4 c5 c6 c7 c8 c9 c10 c11 c12 c13 c14
            go_wp2_with fail
            go_ret
            exact ⟨by rw [HE.out]; rfl, BX⟩
        · have hkm : k = L.mn := by omega
          have HV := hid1 (HP.out (nmE_ok HC.out (fun j hj => HA.out j (by omega))))
          have ik2 : ¬ (k : Int) < L.k := by omega
          obtain ⟨c0, c1, c2, c3, c4, c5, c6, c7, c8, c9, c10, c11, c12, c13, c14⟩ := KL.out
          go_upto_region 12 with fail
          clear c0 c1 c2 c3 c4 c5 c6 c7 c8 c9 c10 c11 c12 c13 c14 HA HQ HP
          obtain ⟨c0, c1, c2, c3, c4, c5, c6, c7, c8, c9, c10, c11, c12, c13, c14⟩ := KL.out
          obtain ⟨s0, s1, s2, s3, s4, s5⟩ := KI.out
          go_wp2_with fail
          refine (cF _).mono ?_
          rintro e y ⟨rfl, hb⟩
          replace KL := hid1 (KL.out.keep hb)
          replace KI := hid1 (KI.out.keep hb)
          replace BX := bl_step BX hb
          have HW := hid1 (HL.out.2.2.1.keep BX)
          have HB := hid1 BX
          clear hb cF BX c0 c1 c2 c3 c4 c5 c6 c7 c8 c9 c10 c11 c12 c13 c14 s0 s1 s2 s3 s4 s5
          obtain ⟨c0, c1, c2, c3, c4, c5, c6, c7, c8, c9, c10, c11, c12, c13, c14⟩ := KL.out
          obtain ⟨s0, s1, s2, s3, s4, s5⟩ := KI.out
          clear c0 c1 c2 c3 c4 c5 c6 c7 c8 c9 c10 c11 c12 c13 s1 s2 s3 s4 s5 KL KI
          by_cases hlo : 2147483647 - 128 * f < 0
          · go_wp2_with fail
            go_ret
            exact ⟨by rw [HV.out, H0.out (by omega)]; first | rfl | simp [*], HB.out⟩
          · have HZ := hid1 (H2.out (by omega))
            go_wp2_with fail
            go_loop [9] (fun i => ∃ k : Nat, k ≤ L.mb ∧ i = .int .i64 k ∧ Hid (∀ j, j < k → bok (2147483647 - 128 * f) (L.bs j))) (fun i => L.mb - (intOf i).toNat)
            case atStart => exact ⟨0, Nat.zero_le _, rfl, hid1 fun j hj => absurd hj (by omega)⟩
            case round =>
              clear hkm ik2 ik0 hk hlt
              obtain ⟨k, hk, rfl, HA⟩ := hrel
              have ik0 : (0 : Int) ≤ (k : Int) := by omega
              by_cases hlt : k < L.mb
              · exact absurd (Nat.lt_of_le_of_lt (Nat.zero_le k) hlt) e2
              · have : k = L.mb := by omega
                subst this
                go_wp2_with fail
                go_ret
                exact ⟨by rw [HV.out, HZ.out HA.out]; rfl, HB.out⟩

set_option maxHeartbeats 3200000 in
set_option maxRecDepth 100000 in
theorem rends_later (L : Ly) (S : Sp) (at' : Int) (hs : Sides S.h S.v S.c) (hf : Fok L) (hkd : L.kd = 1 ∨ L.kd = 2) (hat : (at' == 0) = false) (hfs : S.fs = false) (w : World) (hL : Lst w L) :
    Calls Try.prog 53 #[lyv L, inv at' S] w fun e w' => e = .returned (.int .i64 (rnE L S)) ∧ Below w.heap.size w w' := by
  have HL := hid1 hL
  have hm := hL.2.2.2.2.2
  have hmn := hL.2.2.2.2.1
  clear hL
  have hb := fan_b hs hf
  have cF := rfan_any L S.h S.v S.c hs hf hkd
  have hle : lef L S = 2147483647 - fan L S.h S.v S.c := by unfold lef; rw [hfs]; simp
  have H0 := hid1 (fun h => reE_low (L := L) (S := S) h)
  have H1 := hid1 (fun k (hk : k < L.mb) h => reE_no (L := L) (S := S) hk h)
  have H2 := hid1 (fun h h2 => reE_ok (L := L) (S := S) h h2)
  rw [hle] at H0 H1 H2
  have HFS := hid1 hfs
  clear hs hle hf hkd hfs
  generalize fan L S.h S.v S.c = f at *
  by_cases hl : S.la = true
  · have hcs : (¬ (L.mb : Int) = L.k) ∨ ((L.mb : Int) = L.k ∧ 0 < L.mn) ∨ ((L.mb : Int) = L.k ∧ L.mn = 0) := by omega
    rcases hcs with k1 | ⟨k1, k2⟩ | ⟨k1, k2⟩
    · have HV := hid1 (show rnE L S = 54 from by unfold rnE; rw [if_pos hl, if_neg (fun h => k1 h.1)])
      have e1 : ((L.mb : Int) != L.k) = true := by simpa using k1
      go_enter Try.func53, Try.ntmps53
      go_wp2_with fail
      go_ret
      exact ⟨by rw [HV.out]; rfl, by repeat (first | (with_reducible exact Below.refl _ _) | (with_reducible refine bl_alloc ?_ _) | (with_reducible refine Below.drew ?_) | (with_reducible refine bl_drewN ?_ _) | (with_reducible refine bl_set ?_ (by omega) _) | (with_reducible refine bl_step ?_ (by assumption)))⟩
    · have HV := hid1 (show rnE L S = 54 from by unfold rnE; rw [if_pos hl, if_neg (fun h => by have := h.2; omega)])
      have e1 : ((L.mb : Int) != L.k) = false := by simp [k1]
      clear k1
      go_enter Try.func53, Try.ntmps53
      go_wp2_with fail
      go_ret
      exact ⟨by rw [HV.out]; rfl, by repeat (first | (with_reducible exact Below.refl _ _) | (with_reducible refine bl_alloc ?_ _) | (with_reducible refine Below.drew ?_) | (with_reducible refine bl_drewN ?_ _) | (with_reducible refine bl_set ?_ (by omega) _) | (with_reducible refine bl_step ?_ (by assumption)))⟩
    · have HV := hid1 (show rnE L S = reE L S from by unfold rnE; rw [if_pos hl, if_pos ⟨k1, k2⟩])
      have e1 : ((L.mb : Int) != L.k) = false := by simp [k1]
      have HK2 := hid1 k2
      have e2 : ¬ 0 < L.mn := by omega
      clear k1 k2
      go_enter Try.func53, Try.ntmps53
      go_upto_region 12 with fail
      refine gen_world (fun X => Below w.heap.size w X ∧ Lp X w.heap.size L ∧ Iv X (w.heap.size + 1) at' S) ⟨by repeat (first | (with_reducible exact Below.refl _ _) | (with_reducible refine bl_alloc ?_ _) | (with_reducible refine Below.drew ?_) | (with_reducible refine bl_drewN ?_ _) | (with_reducible refine bl_set ?_ (by omega) _) | (with_reducible refine bl_step ?_ (by assumption))), (lp_new _ _ _).keep (bl_alloc (Below.refl _ _) _), by first | exact iv_new (by simp) at' S _ | (have := iv_new (W := w.alloc (lyo L)) (g := w.heap.size + 1) (by simp) at' S 83; rw [hl] at this; exact this)⟩ ?_
      rintro X ⟨BX, LX, IX⟩
      have KL := hid1 LX
      have KI := hid1 IX
      clear LX IX
      obtain ⟨c0, c1, c2, c3, c4, c5, c6, c7, c8, c9, c10, c11, c12, c13, c14⟩ := KL.out
      obtain ⟨s0, s1, s2, s3, s4, s5⟩ := KI.out
      go_wp2_with fail
      refine (cF _).mono ?_
      rintro e y ⟨rfl, hb⟩
      replace KL := hid1 (KL.out.keep hb)
      replace KI := hid1 (KI.out.keep hb)
      replace BX := bl_step BX hb
      have HW := hid1 (HL.out.2.2.1.keep BX)
      have HB := hid1 BX
      clear hb cF BX c0 c1 c2 c3 c4 c5 c6 c7 c8 c9 c10 c11 c12 c13 c14 s0 s1 s2 s3 s4 s5
      obtain ⟨c0, c1, c2, c3, c4, c5, c6, c7, c8, c9, c10, c11, c12, c13, c14⟩ := KL.out
      obtain ⟨s0, s1, s2, s3, s4, s5⟩ := KI.out
      clear c0 c1 c2 c3 c4 c5 c6 c7 c8 c9 c10 c11 c12 c13 s1 s2 s3 s4 s5 KL KI
      by_cases hlo : 2147483647 - f < 0
      · go_wp2_with fail
        go_ret
        exact ⟨by rw [HV.out, H0.out (by omega)]; first | rfl | simp [*], HB.out⟩
      · have HZ := hid1 (H2.out (by omega))
        go_wp2_with fail
        go_loop [9] (fun i => ∃ k : Nat, k ≤ L.mb ∧ i = .int .i64 k ∧ Hid (∀ j, j < k → bok (2147483647 - f) (L.bs j))) (fun i => L.mb - (intOf i).toNat)
        case atStart => exact ⟨0, Nat.zero_le _, rfl, hid1 fun j hj => absurd hj (by omega)⟩
        case round =>
          obtain ⟨k, hk, rfl, HA⟩ := hrel
          have ik0 : (0 : Int) ≤ (k : Int) := by omega
          by_cases hlt : k < L.mb
          · have ik : (k : Int) < (L.mb : Int) := by omega
            obtain ⟨g, o, ea, hc⟩ := HW.out k hlt
            have HN := hid1 (fun h => H1.out k hlt h)
            have HY := hid1 (fun (h : bok (2147483647 - f) (L.bs k)) => (show ∀ j, j < k + 1 → bok (2147483647 - f) (L.bs j) from fun j hj => by
              by_cases e : j = k
              · rw [e]; exact h
              · exact HA.out j (by omega)))
            generalize L.bs k = x at hc HN HY
            have hcs : 2147483647 - f < x ∨ (¬ 2147483647 - f < x ∧ x < -(2147483647 - f)) ∨ (¬ 2147483647 - f < x ∧ ¬ x < -(2147483647 - f)) := by omega
            rcases hcs with h1 | ⟨h1, h2⟩ | ⟨h1, h2⟩
            · go_wp2_with fail
              go_ret
              exact ⟨by rw [HV.out, HN.out (fun h => by have := h.2; omega)]; rfl, HB.out⟩
            · go_wp2_with fail
              go_ret
              exact ⟨by rw [HV.out, HN.out (fun h => by have := h.1; omega)]; rfl, HB.out⟩
            · go_wp2_with fail
              go_round
              case rel => exact ⟨k + 1, by omega, by go_num, hid1 (HY.out ⟨by omega, by omega⟩)⟩
              case measure => simp [intOf]; omega
          · have : k = L.mb := by omega
            subst this
            go_wp2_with fail
            go_ret
            exact ⟨by rw [HV.out, HZ.out HA.out]; rfl, HB.out⟩
  · have hl2 : S.la = false := by simpa using hl
    clear hl
    have hcs : (¬ (L.mn : Int) = L.k) ∨ ((L.mn : Int) = L.k ∧ 0 < L.mb) ∨ ((L.mn : Int) = L.k ∧ L.mb = 0) := by omega
    rcases hcs with k1 | ⟨k1, k2⟩ | ⟨k1, k2⟩
    · have HV := hid1 (show rnE L S = 53 from by unfold rnE; rw [if_neg (by rw [hl2]; decide), nmE_cnt (fun h => k1 h.1), if_neg (by decide)])
      have e1 : ((L.mn : Int) != L.k) = true := by simpa using k1
      clear k1
      go_enter Try.func53, Try.ntmps53
      go_wp2_with fail
      go_ret
      exact ⟨by rw [HV.out]; rfl, by repeat (first | (with_reducible exact Below.refl _ _) | (with_reducible refine bl_alloc ?_ _) | (with_reducible refine Below.drew ?_) | (with_reducible refine bl_drewN ?_ _) | (with_reducible refine bl_set ?_ (by omega) _) | (with_reducible refine bl_step ?_ (by assumption)))⟩
    · have HV := hid1 (show rnE L S = 53 from by unfold rnE; rw [if_neg (by rw [hl2]; decide), nmE_cnt (fun h => by have := h.2; omega), if_neg (by decide)])
      have e1 : ((L.mn : Int) != L.k) = false := by simp [k1]
      clear k1
      go_enter Try.func53, Try.ntmps53
      go_wp2_with fail
      go_ret
      exact ⟨by rw [HV.out]; rfl, by repeat (first | (with_reducible exact Below.refl _ _) | (with_reducible refine bl_alloc ?_ _) | (with_reducible refine Below.drew ?_) | (with_reducible refine bl_drewN ?_ _) | (with_reducible refine bl_set ?_ (by omega) _) | (with_reducible refine bl_step ?_ (by assumption)))⟩
    · have HQ := hid1 (show ¬ nmE L = 0 → rnE L S = 53 from fun h => by unfold rnE; rw [if_neg (by rw [hl2]; decide), if_neg h])
      have HP := hid1 (show nmE L = 0 → rnE L S = reE L S from fun h => by unfold rnE; rw [if_neg (by rw [hl2]; decide), if_pos h])
      have HC := hid1 (show (L.mn : Int) = L.k ∧ L.mb = 0 from ⟨k1, k2⟩)
      have e1 : ((L.mn : Int) != L.k) = false := by simp [k1]
      have e2 : ¬ 0 < L.mb := by omega
      have hkn : L.k ≤ (L.mn : Int) := by omega
      have hkn2 : (L.mn : Int) ≤ L.k := by omega
      clear k1 k2
      go_enter Try.func53, Try.ntmps53
      go_upto_region 7 with fail
      refine gen_world (fun X => Below w.heap.size w X ∧ Lp X w.heap.size L ∧ Iv X (w.heap.size + 1) at' S) ⟨by repeat (first | (with_reducible exact Below.refl _ _) | (with_reducible refine bl_alloc ?_ _) | (with_reducible refine Below.drew ?_) | (with_reducible refine bl_drewN ?_ _) | (with_reducible refine bl_set ?_ (by omega) _) | (with_reducible refine bl_step ?_ (by assumption))), (lp_new _ _ _).keep (bl_alloc (Below.refl _ _) _), by first | exact iv_new (by simp) at' S _ | (have := iv_new (W := w.alloc (lyo L)) (g := w.heap.size + 1) (by simp) at' S 83; rw [hl2] at this; exact this)⟩ ?_
      rintro X0 ⟨BX, LX, IX⟩
      go_loopw [5] (fun i wr => ∃ k : Nat, k ≤ L.mn ∧ i = .int .i64 k ∧ Hid (∀ j, j < k → nno L j = 0) ∧ Below w.heap.size w wr ∧ Hid (Lp wr w.heap.size L) ∧ Hid (Iv wr (w.heap.size + 1) at' S)) (fun i _ => L.mn - (intOf i).toNat)
      case atStart => exact ⟨0, Nat.zero_le _, rfl, hid1 fun j hj => absurd hj (by omega), BX, hid1 LX, hid1 IX⟩
      case round =>
        clear BX LX IX
        obtain ⟨k, hk, rfl, HA, BX, KL, KI⟩ := hrel
        have ik0 : (0 : Int) ≤ (k : Int) := by omega
        by_cases hlt : k < L.mn
        · have ik : (k : Int) < (L.mn : Int) := by omega
          have ik2 : (k : Int) < L.k := by omega
          obtain ⟨g, o, ea, a0, a1, a2, a3, a4, a5, a6, a7⟩ := (HL.out.2.1.keep BX) k hlt
          have HN := hid1 (fun h => nmE_no (L := L) hlt h)
          have HY := hid1 (fun (h : nno L k = 0) => (show ∀ j, j < k + 1 → nno L j = 0 from fun j hj => by
            by_cases e : j = k
            · rw [e]; exact h
            · exact HA.out j (by omega)))
          have HM := r4norm_any (L.ns k 0) (L.ns k 1) (L.ns k 2) (L.ns k 3) (L.ns k 4) (L.ns k 5) (L.ns k 6) (L.ns k 7)
          change ∀ w, Calls Try.prog 78 _ w fun e w' => e = .returned (.int .i64 (nno L k)) ∧ _ at HM
          generalize nno L k = x at HN HY HM
          obtain ⟨c0, c1, c2, c3, c4, c5, c6, c7, c8, c9, c10, c11, c12, c13, c14⟩ := KL.out
          by_cases hx : x = 0
          · have hx2 : (x != 0) = false := by simpa using hx
            have HX := hid1 hx
            clear hx
            go_wp2_with fail
            refine (HM _).mono ?_
            rintro e w1 ⟨rfl, hb1⟩
            replace KL := hid1 (KL.out.keep hb1)
            replace KI := hid1 (KI.out.keep hb1)
            replace BX := bl_step BX hb1
            clear hb1 HM a0 a1 a2 a3 a4 a5 a6 a7 c0 c1 c2 c3 c4 c5 c6 c7 c8 c9 c10 c11 c12 c13 c14
            go_wp2_with fail
            go_roundw
            case rel =>
              rw [ea]
              (repeat apply Exists.intro)
              exact ⟨⟨k + 1, by omega, by go_num, hid1 (HY.out HX.out), BX, KL, KI⟩, rfl⟩
            case measure => simp [intOf]; omega
          · have hx2 : (x != 0) = true := by simpa using hx
            have HE := hid1 (HQ.out (by rw [HN.out hx]; decide))
            clear hx
            go_wp2_with fail
            refine (HM _).mono ?_
            rintro e w1 ⟨rfl, hb1⟩
            replace BX := bl_step BX hb1
            clear hb1 HM a0 a1 a2 a3 a4 a5 a6 a7 c0 c1 c2 c3 c4 c5 c6 c7 c8 c9 c10 c11 c12 c13 c14
            go_wp2_with fail
            go_ret
            exact ⟨by rw [HE.out]; rfl, BX⟩
        · have hkm : k = L.mn := by omega
          have HV := hid1 (HP.out (nmE_ok HC.out (fun j hj => HA.out j (by omega))))
          have ik2 : ¬ (k : Int) < L.k := by omega
          obtain ⟨c0, c1, c2, c3, c4, c5, c6, c7, c8, c9, c10, c11, c12, c13, c14⟩ := KL.out
          go_upto_region 12 with fail
          clear c0 c1 c2 c3 c4 c5 c6 c7 c8 c9 c10 c11 c12 c13 c14 HA HQ HP
          obtain ⟨c0, c1, c2, c3, c4, c5, c6, c7, c8, c9, c10, c11, c12, c13, c14⟩ := KL.out
          obtain ⟨s0, s1, s2, s3, s4, s5⟩ := KI.out
          go_wp2_with fail
          refine (cF _).mono ?_
          rintro e y ⟨rfl, hb⟩
          replace KL := hid1 (KL.out.keep hb)
          replace KI := hid1 (KI.out.keep hb)
          replace BX := bl_step BX hb
          have HW := hid1 (HL.out.2.2.1.keep BX)
          have HB := hid1 BX
          clear hb cF BX c0 c1 c2 c3 c4 c5 c6 c7 c8 c9 c10 c11 c12 c13 c14 s0 s1 s2 s3 s4 s5
          obtain ⟨c0, c1, c2, c3, c4, c5, c6, c7, c8, c9, c10, c11, c12, c13, c14⟩ := KL.out
          obtain ⟨s0, s1, s2, s3, s4, s5⟩ := KI.out
          clear c0 c1 c2 c3 c4 c5 c6 c7 c8 c9 c10 c11 c12 c13 s1 s2 s3 s4 s5 KL KI
          by_cases hlo : 2147483647 - f < 0
          · go_wp2_with fail
            go_ret
            exact ⟨by rw [HV.out, H0.out (by omega)]; first | rfl | simp [*], HB.out⟩
          · have HZ := hid1 (H2.out (by omega))
            go_wp2_with fail
            go_loop [9] (fun i => ∃ k : Nat, k ≤ L.mb ∧ i = .int .i64 k ∧ Hid (∀ j, j < k → bok (2147483647 - f) (L.bs j))) (fun i => L.mb - (intOf i).toNat)
            case atStart => exact ⟨0, Nat.zero_le _, rfl, hid1 fun j hj => absurd hj (by omega)⟩
            case round =>
              clear hkm ik2 ik0 hk hlt
              obtain ⟨k, hk, rfl, HA⟩ := hrel
              have ik0 : (0 : Int) ≤ (k : Int) := by omega
              by_cases hlt : k < L.mb
              · exact absurd (Nat.lt_of_le_of_lt (Nat.zero_le k) hlt) e2
              · have : k = L.mb := by omega
                subst this
                go_wp2_with fail
                go_ret
                exact ⟨by rw [HV.out, HZ.out HA.out]; rfl, HB.out⟩

theorem rends_any (L : Ly) (S : Sp) (at' : Int) (hs : Sides S.h S.v S.c) (hf : Fok L) (hkd : L.kd = 1 ∨ L.kd = 2) (hat : S.fs = decide (at' = 0)) (w : World) (hL : Lst w L) :
    Calls Try.prog 53 #[lyv L, inv at' S] w fun e w' => e = .returned (.int .i64 (rnE L S)) ∧ Below w.heap.size w w' := by
  by_cases h : at' = 0
  · exact rends_first L S at' hs hf hkd (by simpa using h) (by rw [hat]; simpa using h) w hL
  · exact rends_later L S at' hs hf hkd (by simpa using h) (by rw [hat]; simpa using h) w hL
end Go.Proofs.Ytkhlhcbbbhbgeaa.Nn
/- THE DOCUMENT'S NETWORKS: ONE LAYER. -/
namespace Go.Proofs.Ytkhlhcbbbhbgeaa.Nn
open Go.RowKit

/-- What the document tells of a layer. -/
def rlE (L : Ly) (S : Sp) : Int := if rkE L S = 0 then (if roE L S.h S.v S.c = 0 then (if L.kd = 3 then 0 else if rwE L S = 0 then rnE L S else rwE L S) else roE L S.h S.v S.c) else rkE L S
theorem rb_conv {L : Ly} (hk : L.kd = 1) : rbE L = boE L := by
  unfold rbE boE
  by_cases hz : Wz L
  · by_cases hb : L.bd = 0
    · rw [if_neg (fun h => by rcases h with (⟨h, _⟩ | h | h) | ⟨_, h⟩ <;> omega), if_pos (.inr hb)]
    · rw [if_pos (.inr ⟨hz, hb⟩), if_neg (fun h => by rcases h with ⟨h, _⟩ | h; exact h hz; exact hb h)]
  · by_cases hb : L.bd < -1 ∨ 1 < L.bd
    · rw [if_pos (.inl (.inr hb)), if_neg (fun h => by rcases h with ⟨_, h⟩ | h <;> omega)]
    · rw [if_neg (fun h => by rcases h with (⟨h, _⟩ | h | h) | ⟨h, _⟩; omega; omega; omega; exact hz h)]
      by_cases h0 : L.bd = 0
      · rw [if_pos (.inr h0)]
      · rw [if_pos (.inl ⟨hz, by omega⟩)]
theorem rb_pool {L : Ly} (hk : L.kd = 3) (h0 : L.bd = 0) : rbE L = (if Wz L then 0 else 56) := by
  unfold rbE
  by_cases hz : Wz L
  · rw [if_pos hz, if_neg (fun h => by rcases h with (⟨_, h⟩ | h | h) | ⟨_, h⟩; exact h hz; omega; omega; exact h h0)]
  · rw [if_neg hz, if_pos (.inl (.inl ⟨hk, hz⟩))]
/-- Of ten answers the first that is not 0, part by part. -/
theorem frF_cons (n : Nat) (q : Nat → Int) : frF (n + 1) q = if q 0 = 0 then frF n (fun i => q (i + 1)) else q 0 := rfl
theorem frF_nil (q : Nat → Int) : frF 0 q = 0 := rfl
theorem ite0 {x y : Int} (h : x = 0) : (if x = 0 then y else x) = y := if_pos h
theorem ite1 {x y : Int} (h : ¬ x = 0) : (if x = 0 then y else x) = x := if_neg h
theorem two_of {c : Prop} [Decidable c] (x : Int) : (if c then 0 else x) = 0 ∨ (if c then 0 else x) = x := by by_cases h : c; exact .inl (if_pos h); exact .inr (if_neg h)
theorem chain_c (a b c d e f g h i : Int) (hc : c = 0 ∨ c = 56) (he : e = 0 ∨ e = 52) (hf : f = 0 ∨ f = 31) (hh : h = 0 ∨ h = 53) :
    (if a = 0 then (if (if b ≠ 0 then b else if c ≠ 0 then 56 else d) = 0 then (if (if e = 0 then (if f = 0 then g else 31) else 52) = 0 then (if h = 0 then i else 53) else (if e = 0 then (if f = 0 then g else 31) else 52)) else (if b ≠ 0 then b else if c ≠ 0 then 56 else d)) else a) =
    (if a = 0 then (if b = 0 then (if c = 0 then (if d = 0 then (if e = 0 then (if f = 0 then (if g = 0 then (if h = 0 then (if i = 0 then 0 else i) else h) else g) else f) else e) else d) else c) else b) else a) := by
  by_cases ha : a = 0
  · by_cases hb : b = 0
    · rcases hc with rfl | rfl
      · by_cases hd : d = 0
        · rcases he with rfl | rfl
          · rcases hf with rfl | rfl
            · by_cases hg : g = 0
              · rcases hh with rfl | rfl
                · by_cases hi : i = 0 <;> simp [ha, hb, hd, hg, hi]
                · simp [ha, hb, hd, hg]
              · simp [ha, hb, hd, hg]
            · simp [ha, hb, hd]
          · simp [ha, hb, hd]
        · simp [ha, hb, hd]
      · simp [ha, hb]
    · simp [ha, hb]
  · simp [ha]
theorem chain_d (a b e f g h i : Int) (ha : a = 0 ∨ a = 30) (he : e = 0 ∨ e = 52) (hf : f = 0 ∨ f = 31) :
    (if (if a = 0 then b else 30) = 0 then (if (if e = 0 then (if f = 0 then g else 31) else 52) = 0 then h else (if e = 0 then (if f = 0 then g else 31) else 52)) else (if a = 0 then b else 30)) =
    (if a = 0 then (if b = 0 then (if e = 0 then (if f = 0 then (if g = 0 then (if i = 0 then (if h = 0 then 0 else h) else h) else g) else f) else e) else b) else a) := by
  rcases ha with rfl | rfl
  · by_cases hb : b = 0
    · rcases he with rfl | rfl
      · rcases hf with rfl | rfl
        · by_cases hg : g = 0
          · by_cases hi : i = 0 <;> by_cases hh : h = 0 <;> simp [hb, hg, hi, hh]
          · simp [hb, hg]
        · simp [hb]
      · simp [hb]
    · simp [hb]
  · simp
theorem rl_conv {L : Ly} {S : Sp} (hk : L.kd = 1) : rlE L S = faE L S := by
  have hf : faE L S = frF 10 (qC L S) := by unfold faE; rw [if_pos hk]
  have e : frF 10 (qC L S) = (if (if S.la = true then (51 : Int) else 0) = 0 then (if ouE L = 0 then (if wiE L.r L.s L.sy L.sx L.t L.l L.b L.q = 0 then (if boE L = 0 then (if oE L S.h S.v S.c = 0 then (if wkE L = 0 then (if wrE L S = 0 then (if wsE L S = 0 then (if nmE L = 0 then (if reE L S = 0 then 0 else reE L S) else nmE L) else wsE L S) else wrE L S) else wkE L) else oE L S.h S.v S.c) else boE L) else wiE L.r L.s L.sy L.sx L.t L.l L.b L.q) else ouE L) else (if S.la = true then 51 else 0)) := rfl
  have hc : boE L = 0 ∨ boE L = 56 := by unfold boE; exact two_of 56
  have he : wkE L = 0 ∨ wkE L = 52 := by unfold wkE; exact two_of 52
  have hr : wrE L S = 0 ∨ wrE L S = 31 := by unfold wrE; exact two_of 31
  have hh : nmE L = 0 ∨ nmE L = 53 := by unfold nmE; exact two_of 53
  have key := chain_c (ouE L) (wiE L.r L.s L.sy L.sx L.t L.l L.b L.q) (boE L) (oE L S.h S.v S.c) (wkE L) (wrE L S) (wsE L S) (nmE L) (reE L S) hc he hr hh
  rw [hf, e]
  unfold rlE rkE roE rwE rnE
  rw [if_pos hk, rb_conv hk, if_neg (show ¬ L.kd = 2 by omega), if_neg (show ¬ L.kd = 3 by omega)]
  by_cases hl : S.la = true
  · simp [hl]
  · rw [if_neg hl, if_neg hl, if_neg hl, if_pos (rfl : (0 : Int) = 0)]
    exact key
theorem rl_dense {L : Ly} {S : Sp} (hk : L.kd = 2) : rlE L S = faE L S := by
  have hf : faE L S = frF 7 (qD L S) := by unfold faE; rw [if_neg (by omega), if_pos hk]
  have e : frF 7 (qD L S) = (if ouE L = 0 then (if nwE L = 0 then (if wkE L = 0 then (if wrE L S = 0 then (if wsE L S = 0 then (if enE L S = 0 then (if reE L S = 0 then 0 else reE L S) else enE L S) else wsE L S) else wrE L S) else wkE L) else nwE L) else ouE L) := rfl
  have ha : ouE L = 0 ∨ ouE L = 30 := by unfold ouE; exact two_of 30
  have he : wkE L = 0 ∨ wkE L = 52 := by unfold wkE; exact two_of 52
  have hr : wrE L S = 0 ∨ wrE L S = 31 := by unfold wrE; exact two_of 31
  have hn : nmE L = 0 ∨ nmE L = 53 := by unfold nmE; exact two_of 53
  rw [hf, e]
  unfold rlE rkE roE
  rw [if_neg (show ¬ L.kd = 1 by omega), if_pos hk, if_pos hk, if_pos rfl, if_neg (show ¬ L.kd = 3 by omega)]
  have hen : (if enE L S = 0 then (if reE L S = 0 then 0 else reE L S) else enE L S) = rnE L S := by
    unfold enE rnE
    by_cases hl : S.la = true
    · rw [if_pos hl, if_pos hl]
      by_cases h2 : (L.mb : Int) = L.k ∧ L.mn = 0
      · rw [if_pos h2, if_pos rfl]
        rw [if_pos h2]
        by_cases h3 : reE L S = 0
        · rw [if_pos h3, h3]
        · rw [if_neg h3]
      · rw [if_neg h2, if_neg (by decide), if_neg h2]
    · rw [if_neg hl, if_neg hl]
      rcases hn with h2 | h2
      · rw [if_pos h2, if_pos h2]
        by_cases h3 : reE L S = 0
        · rw [if_pos h3, h3]
        · rw [if_neg h3]
      · rw [h2, if_neg (by decide), if_neg (by decide)]
  rw [hen]
  unfold rwE
  generalize ouE L = a at *
  generalize nwE L = b at *
  generalize wkE L = c at *
  generalize wrE L S = d at *
  generalize wsE L S = g at *
  generalize rnE L S = h at *
  rcases ha with rfl | rfl
  · by_cases hb : b = 0
    · rcases he with rfl | rfl
      · rcases hr with rfl | rfl
        · by_cases hg : g = 0 <;> simp [hb, hg]
        · simp [hb]
      · simp [hb]
    · simp [hb]
  · simp
theorem rl_pool {L : Ly} {S : Sp} (hk : L.kd = 3) : rlE L S = faE L S := by
  have hf : faE L S = frF 6 (qP L S) := by unfold faE; rw [if_neg (by omega), if_neg (by omega), if_pos hk]
  have e : frF 6 (qP L S) = (if (if S.fs = true then (51 : Int) else 0) = 0 then (if (if S.la = true then (51 : Int) else 0) = 0 then (if owE L = 0 then (if wiE L.r L.s L.sy L.sx L.t L.l L.b L.q = 0 then (if (if Wz L then (0 : Int) else 56) = 0 then (if oE L S.h S.v S.c = 0 then 0 else oE L S.h S.v S.c) else (if Wz L then 0 else 56)) else wiE L.r L.s L.sy L.sx L.t L.l L.b L.q) else owE L) else (if S.la = true then 51 else 0)) else (if S.fs = true then 51 else 0)) := rfl
  rw [hf, e]
  unfold rlE rkE roE
  rw [if_neg (show ¬ L.kd = 1 by omega), if_neg (show ¬ L.kd = 2 by omega), if_pos hk, if_neg (show ¬ L.kd = 2 by omega), if_pos hk]
  by_cases h1 : S.fs = true
  · simp [h1]
  · by_cases h2 : S.la = true
    · simp [h1, h2]
    · rw [if_neg h1, if_neg h2, if_neg h1, if_neg h2, if_pos (rfl : (0 : Int) = 0), if_pos (rfl : (0 : Int) = 0)]
      by_cases h3 : owE L = 0
      · have hb : L.bd = 0 := by
          unfold owE at h3
          exact (zero_else (by decide) h3).1.2.2
        rw [rb_pool hk hb, h3]
        generalize wiE L.r L.s L.sy L.sx L.t L.l L.b L.q = x
        generalize oE L S.h S.v S.c = y
        by_cases hx : x = 0
        · by_cases hz : Wz L
          · by_cases hy : y = 0 <;> simp [hx, hz, hy]
          · simp [hx, hz]
        · simp [hx]
      · generalize owE L = x at *
        simp [h3]
theorem rl_any (L : Ly) (S : Sp) : rlE L S = faE L S := by
  by_cases h1 : L.kd = 1
  · exact rl_conv h1
  · by_cases h2 : L.kd = 2
    · exact rl_dense h2
    · by_cases h3 : L.kd = 3
      · exact rl_pool h3
      · unfold rlE rkE faE
        simp [h1, h2, h3]
end Go.Proofs.Ytkhlhcbbbhbgeaa.Nn
/- THE DOCUMENT'S NETWORKS: ONE LAYER, WALKED. -/
namespace Go.Proofs.Ytkhlhcbbbhbgeaa.Nn
open Go.RowKit

theorem roV_form (L : Ly) (h v c : Int) : ∃ x y z, roV L h v c = sle x y z (roE L h v c) ∧ (roE L h v c = 0 → x = oH L h v c ∧ y = oV L h v c ∧ z = oC L h v c) := by
  unfold roV roE
  by_cases hk : L.kd = 2
  · rw [if_pos hk, if_pos hk]
    exact ⟨1, 1, L.k, rfl, fun _ => ⟨(if_pos hk).symm, (if_pos hk).symm, (if_pos hk).symm⟩⟩
  · rw [if_neg hk, if_neg hk]
    by_cases hx : wiE L.r L.s L.sy L.sx L.t L.l L.b L.q ≠ 0
    · rw [if_pos hx, if_pos hx]
      exact ⟨0, 0, 0, rfl, fun h => absurd h hx⟩
    · rw [if_neg hx, if_neg hx]
      by_cases hb : rbE L ≠ 0
      · rw [if_pos hb, if_pos hb]
        exact ⟨0, 0, 0, rfl, fun h => by cases h⟩
      · rw [if_neg hb, if_neg hb]
        exact ⟨_, _, _, rfl, fun _ => ⟨rfl, rfl, rfl⟩⟩
theorem rk_ok {L : Ly} {S : Sp} (h : rkE L S = 0) (h3 : ¬ L.kd = 3) : (L.kd = 1 ∨ L.kd = 2) ∧ 0 ≤ L.k ∧ L.k ≤ 4096 := by
  unfold rkE at h
  by_cases h1 : L.kd = 1
  · rw [if_pos h1] at h
    by_cases hl : S.la = true
    · rw [if_pos hl] at h; cases h
    · rw [if_neg hl] at h; exact ⟨.inl h1, kok_out h⟩
  · rw [if_neg h1] at h
    by_cases h2 : L.kd = 2
    · rw [if_pos h2] at h
      by_cases ho : ouE L = 0
      · exact ⟨.inr h2, kok_out ho⟩
      · rw [if_neg ho] at h; cases h
    · rw [if_neg h2, if_neg h3] at h; cases h
theorem ro_fok {L : Ly} {h v c : Int} (hr : roE L h v c = 0) : Fok L := by
  unfold roE at hr
  by_cases h2 : L.kd = 2
  · exact .inl h2
  · rw [if_neg h2] at hr
    by_cases hx : wiE L.r L.s L.sy L.sx L.t L.l L.b L.q ≠ 0
    · rw [if_pos hx] at hr; exact absurd hr hx
    · exact fok_win (by simpa using hx)
set_option maxHeartbeats 3200000 in
set_option maxRecDepth 100000 in
theorem rlayer_xyz (L : Ly) (S : Sp) (at' : Int) (hS : SpOk S) (hat : S.fs = decide (at' = 0)) (x y z : Int) (hxyz : roV L S.h S.v S.c = sle x y z (roE L S.h S.v S.c)) (w : World) (hL : Lst w L) :
    Calls Try.prog 36 #[lyv L, inv at' S] w fun e w' => e = .returned (if rkE L S = 0 then sle x y z (rlE L S) else sle 0 0 0 (rlE L S)) ∧ Below w.heap.size w w' := by
  have HS := hid1 hS
  have HL := hid1 hL
  have CK := rkind_any L S at' hat
  have CO := rout_any L S at'
  rw [hxyz] at CO
  have HAT := hid1 hat
  have HX := hid1 hxyz
  clear hS hL hat hxyz
  obtain ⟨V, hV⟩ : ∃ V, V = (if rkE L S = 0 then sle x y z (rlE L S) else sle 0 0 0 (rlE L S)) := ⟨_, rfl⟩
  rw [← hV]
  have HV := hid1 hV
  clear hV
  go_enter Try.func36, Try.ntmps36
  go_wp2_with fail
  refine gen_calls (fun X => Below w.heap.size w X ∧ Rz X (w.heap.size + 1 + 1) ∧ Lp X w.heap.size L ∧ Iv X (w.heap.size + 1) at' S) ⟨by repeat (first | (with_reducible exact Below.refl _ _) | (with_reducible refine bl_alloc ?_ _) | (with_reducible refine Below.drew ?_) | (with_reducible refine bl_drewN ?_ _) | (with_reducible refine bl_set ?_ (by omega) _) | (with_reducible refine bl_step ?_ (by assumption))), rz_new (by simp), (lp_new _ _ _).keep (bl_alloc (bl_alloc (Below.refl _ _) _) _), (iv_new (by simp) at' S _).keep (bl_alloc (Below.refl _ _) _)⟩ ?_
  rintro X ⟨BX, RX, LX, IX⟩
  refine (CK X).mono ?_
  rintro e w1 ⟨rfl, hb⟩
  replace RX := RX.keep hb
  replace LX := LX.keep hb
  replace IX := IX.keep hb
  replace BX := bl_step BX hb
  clear hb CK X
  have KR := hid1 RX
  have KL := hid1 LX
  have KI := hid1 IX
  obtain ⟨⟨z0, z1, z2⟩, f0, f1, f2⟩ := RX
  obtain ⟨c0, c1, c2, c3, c4, c5, c6, c7, c8, c9, c10, c11, c12, c13, c14⟩ := LX
  obtain ⟨i0, i1, i2, i3, i4, i5⟩ := IX
  by_cases hk : rkE L S = 0
  · have hk2 : (rkE L S != 0) = false := by simpa using hk
    have HK := hid1 hk
    clear hk
    go_wp2_with fail
    refine (CO _).mono ?_
    rintro e w2 ⟨rfl, hb⟩
    replace KR := hid1 (KR.out.keep hb)
    replace KL := hid1 (KL.out.keep hb)
    replace KI := hid1 (KI.out.keep hb)
    replace BX := bl_step BX hb
    clear hb CO z0 z1 z2 f0 f1 f2 c0 c1 c2 c3 c4 c5 c6 c7 c8 c9 c10 c11 c12 c13 c14 i0 i1 i2 i3 i4 i5 w1
    obtain ⟨g7, hg7⟩ : ∃ g, w2.heap.size = g := ⟨_, rfl⟩
    go_upto_region 5 with fail
    refine gen_world (fun X => Below w.heap.size w X ∧ Rz X (w.heap.size + 1 + 1) ∧ Lp X w.heap.size L ∧ Iv X (w.heap.size + 1) at' S ∧ Sh X g7 0 x y z) ⟨by repeat (first | (with_reducible exact Below.refl _ _) | (with_reducible refine bl_alloc ?_ _) | (with_reducible refine Below.drew ?_) | (with_reducible refine bl_drewN ?_ _) | (with_reducible refine bl_set ?_ (by omega) _) | (with_reducible refine bl_step ?_ (by assumption))), KR.out.keep (bl_alloc (Below.refl _ _) _), KL.out.keep (bl_alloc (Below.refl _ _) _), KI.out.keep (bl_alloc (Below.refl _ _) _), sh_new' hg7⟩ ?_
    clear KR KL KI BX
    rintro X ⟨BX, RX, LX, IX, SX⟩
    have KR := hid1 RX
    have KL := hid1 LX
    have KI := hid1 IX
    have KS := hid1 SX
    obtain ⟨⟨z0, z1, z2⟩, f0, f1, f2⟩ := RX
    obtain ⟨c0, c1, c2, c3, c4, c5, c6, c7, c8, c9, c10, c11, c12, c13, c14⟩ := LX
    obtain ⟨i0, i1, i2, i3, i4, i5⟩ := IX
    obtain ⟨q0, q1, q2⟩ := SX
    by_cases ho : roE L S.h S.v S.c = 0
    · have ho2 : (roE L S.h S.v S.c != 0) = false := by simpa using ho
      have HO := hid1 ho
      clear ho
      by_cases h3 : L.kd = 3
      · have h3b : (L.kd == 3) = true := by simp [h3]
        have HE := hid1 (show V = sle x y z (roE L S.h S.v S.c) from by rw [HV.out, if_pos HK.out]; unfold rlE; rw [if_pos HK.out, if_pos HO.out, if_pos h3, HO.out])
        clear h3
        go_wp2_with fail
        simp [bodyPost, results, Try.results36, go_sem, *]
        refine ⟨by rw [HE.out], ?_⟩
        repeat (first | (with_reducible exact Below.refl _ _) | (with_reducible refine bl_alloc ?_ _) | (with_reducible refine Below.drew ?_) | (with_reducible refine bl_drewN ?_ _) | (with_reducible refine bl_set ?_ (by omega) _) | (with_reducible refine bl_step ?_ (by assumption)))
      · have h3b : (L.kd == 3) = false := by simpa using h3
        have hkk := rk_ok HK.out h3
        have CW := rweights_any L S at' HS.out.1 (ro_fok HO.out) hkk.1 hkk.2 HS.out.2 X (HL.out.keep BX)
        have H3 := hid1 h3
        have HKK := hid1 hkk
        clear h3 hkk
        go_wp2_with fail
        refine CW.mono ?_
        rintro e w3 ⟨rfl, hb⟩
        replace KR := hid1 (KR.out.keep hb)
        replace KL := hid1 (KL.out.keep hb)
        replace KI := hid1 (KI.out.keep hb)
        replace KS := hid1 (KS.out.keep hb)
        replace BX := bl_step BX hb
        clear hb CW z0 z1 z2 f0 f1 f2 c0 c1 c2 c3 c4 c5 c6 c7 c8 c9 c10 c11 c12 c13 c14 i0 i1 i2 i3 i4 i5 q0 q1 q2 X
        obtain ⟨⟨z0, z1, z2⟩, f0, f1, f2⟩ := KR.out
        obtain ⟨c0, c1, c2, c3, c4, c5, c6, c7, c8, c9, c10, c11, c12, c13, c14⟩ := KL.out
        obtain ⟨i0, i1, i2, i3, i4, i5⟩ := KI.out
        obtain ⟨q0, q1, q2⟩ := KS.out
        by_cases hw : rwE L S = 0
        · have hw2 : (rwE L S != 0) = false := by simpa using hw
          have HE := hid1 (show V = sle x y z (rnE L S) from by rw [HV.out, if_pos HK.out]; unfold rlE; rw [if_pos HK.out, if_pos HO.out, if_neg H3.out, if_pos hw])
          have CE := rends_any L S at' HS.out.1 (ro_fok HO.out) HKK.out.1 HAT.out w3 (HL.out.keep BX)
          clear hw
          go_wp2_with fail
          refine CE.mono ?_
          rintro e w4 ⟨rfl, hb⟩
          replace KR := hid1 (KR.out.keep hb)
          replace KS := hid1 (KS.out.keep hb)
          replace BX := bl_step BX hb
          clear hb CE z0 z1 z2 f0 f1 f2 c0 c1 c2 c3 c4 c5 c6 c7 c8 c9 c10 c11 c12 c13 c14 i0 i1 i2 i3 i4 i5 q0 q1 q2 KL KI w3
          obtain ⟨⟨z0, z1, z2⟩, f0, f1, f2⟩ := KR.out
          obtain ⟨q0, q1, q2⟩ := KS.out
          go_wp2_with fail
          simp [bodyPost, results, Try.results36, go_sem, *]
          refine ⟨by rw [HE.out], ?_⟩
          repeat (first | (with_reducible exact Below.refl _ _) | (with_reducible refine bl_alloc ?_ _) | (with_reducible refine Below.drew ?_) | (with_reducible refine bl_drewN ?_ _) | (with_reducible refine bl_set ?_ (by omega) _) | (with_reducible refine bl_step ?_ (by assumption)))
        · have hw2 : (rwE L S != 0) = true := by simpa using hw
          have HE := hid1 (show V = sle x y z (rwE L S) from by rw [HV.out, if_pos HK.out]; unfold rlE; rw [if_pos HK.out, if_pos HO.out, if_neg H3.out, if_neg hw])
          clear hw
          go_wp2_with fail
          simp [bodyPost, results, Try.results36, go_sem, *]
          refine ⟨by rw [HE.out], ?_⟩
          repeat (first | (with_reducible exact Below.refl _ _) | (with_reducible refine bl_alloc ?_ _) | (with_reducible refine Below.drew ?_) | (with_reducible refine bl_drewN ?_ _) | (with_reducible refine bl_set ?_ (by omega) _) | (with_reducible refine bl_step ?_ (by assumption)))
    · have ho2 : (roE L S.h S.v S.c != 0) = true := by simpa using ho
      have HE := hid1 (show V = sle x y z (roE L S.h S.v S.c) from by rw [HV.out, if_pos HK.out]; unfold rlE; rw [if_pos HK.out, if_neg ho])
      clear ho
      go_wp2_with fail
      simp [bodyPost, results, Try.results36, go_sem, *]
      refine ⟨by rw [HE.out], ?_⟩
      repeat (first | (with_reducible exact Below.refl _ _) | (with_reducible refine bl_alloc ?_ _) | (with_reducible refine Below.drew ?_) | (with_reducible refine bl_drewN ?_ _) | (with_reducible refine bl_set ?_ (by omega) _) | (with_reducible refine bl_step ?_ (by assumption)))
  · have hk2 : (rkE L S != 0) = true := by simpa using hk
    have HE := hid1 (show V = sle 0 0 0 (rkE L S) from by rw [HV.out, if_neg hk]; unfold rlE; rw [if_neg hk])
    clear hk
    go_wp2_with fail
    simp [bodyPost, results, Try.results36, go_sem, *]
    refine ⟨by rw [HE.out], ?_⟩
    repeat (first | (with_reducible exact Below.refl _ _) | (with_reducible refine bl_alloc ?_ _) | (with_reducible refine Below.drew ?_) | (with_reducible refine bl_drewN ?_ _) | (with_reducible refine bl_set ?_ (by omega) _) | (with_reducible refine bl_step ?_ (by assumption)))
theorem rlayer_any (L : Ly) (S : Sp) (at' : Int) (hS : SpOk S) (hat : S.fs = decide (at' = 0)) (w : World) (hL : Lst w L) :
    Calls Try.prog 36 #[lyv L, inv at' S] w fun e w' => ∃ x y z, e = .returned (sle x y z (faE L S)) ∧ (faE L S = 0 → x = oH L S.h S.v S.c ∧ y = oV L S.h S.v S.c ∧ z = oC L S.h S.v S.c) ∧ Below w.heap.size w w' := by
  obtain ⟨x, y, z, h1, h2⟩ := roV_form L S.h S.v S.c
  have e := rl_any L S
  refine (rlayer_xyz L S at' hS hat x y z h1 w hL).mono ?_
  rintro e' w' ⟨rfl, hb⟩
  by_cases hk : rkE L S = 0
  · rw [if_pos hk, e]
    refine ⟨x, y, z, rfl, fun h0 => h2 ?_, hb⟩
    rw [← e] at h0
    unfold rlE at h0
    rw [if_pos hk] at h0
    by_cases ho : roE L S.h S.v S.c = 0
    · exact ho
    · rw [if_neg ho] at h0; exact absurd h0 ho
  · rw [if_neg hk, e]
    refine ⟨0, 0, 0, rfl, fun h0 => ?_, hb⟩
    rw [← e] at h0
    unfold rlE at h0
    rw [if_neg hk] at h0
    exact absurd h0 hk
end Go.Proofs.Ytkhlhcbbbhbgeaa.Nn
/- THE DOCUMENT'S NETWORKS: THE STEP FROM LAYER TO LAYER. -/
namespace Go.Proofs.Ytkhlhcbbbhbgeaa.Nn
open Go.RowKit

noncomputable def rgL : Code := (Try.f27.body.bind (regionOf 15)).getD .skip
theorem kpL {U X : World} {bn gl o bi k ml cl : Nat} {L : Ly} {at' : Int} {S : Sp} (n4 : U.cell? ⟨bn, 4, none⟩ = some (.slice (some ⟨gl, o, none⟩) ml cl)) (hL : Lc U gl (o + k * 15) L) (hI : Iv U bi at' S) (hb : Below U.heap.size U X) : X.cell? ⟨bn, 4, none⟩ = some (.slice (some ⟨gl, o, none⟩) ml cl) ∧ X.cell? ⟨gl, o + k * 15, none⟩ = some (.int .i64 L.kd) ∧ X.cell? ⟨gl, o + k * 15 + 1, none⟩ = some (.int .i64 L.wt) ∧ X.cell? ⟨gl, o + k * 15 + 2, none⟩ = some (.int .i64 L.k) ∧ X.cell? ⟨gl, o + k * 15 + 3, none⟩ = some (.int .i64 L.r) ∧ X.cell? ⟨gl, o + k * 15 + 4, none⟩ = some (.int .i64 L.s) ∧ X.cell? ⟨gl, o + k * 15 + 5, none⟩ = some (.int .i64 L.sy) ∧ X.cell? ⟨gl, o + k * 15 + 6, none⟩ = some (.int .i64 L.sx) ∧ X.cell? ⟨gl, o + k * 15 + 7, none⟩ = some (.int .i64 L.t) ∧ X.cell? ⟨gl, o + k * 15 + 8, none⟩ = some (.int .i64 L.l) ∧ X.cell? ⟨gl, o + k * 15 + 9, none⟩ = some (.int .i64 L.b) ∧ X.cell? ⟨gl, o + k * 15 + 10, none⟩ = some (.int .i64 L.q) ∧ X.cell? ⟨gl, o + k * 15 + 11, none⟩ = some (.int .i64 L.bd) ∧ X.cell? ⟨gl, o + k * 15 + 12, none⟩ = some (.slice L.aw L.mw L.cw) ∧ X.cell? ⟨gl, o + k * 15 + 13, none⟩ = some (.slice L.an L.mn L.cn) ∧ X.cell? ⟨gl, o + k * 15 + 14, none⟩ = some (.slice L.ab L.mb L.cb) ∧ X.cell? ⟨bi, 0, none⟩ = some (.int .i64 at') ∧ X.cell? ⟨bi, 1, none⟩ = some (.bool S.la) ∧ X.cell? ⟨bi, 2, none⟩ = some (.int .i64 S.h) ∧ X.cell? ⟨bi, 3, none⟩ = some (.int .i64 S.v) ∧ X.cell? ⟨bi, 4, none⟩ = some (.int .i64 S.c) ∧ X.cell? ⟨bi, 5, none⟩ = some (.int .i64 S.ah) := by
  obtain ⟨c0, c1, c2, c3, c4, c5, c6, c7, c8, c9, c10, c11, c12, c13, c14⟩ := hL
  obtain ⟨i0, i1, i2, i3, i4, i5⟩ := hI
  exact ⟨keepc hb n4, keepc hb c0, keepc hb c1, keepc hb c2, keepc hb c3, keepc hb c4, keepc hb c5, keepc hb c6, keepc hb c7, keepc hb c8, keepc hb c9, keepc hb c10, keepc hb c11, keepc hb c12, keepc hb c13, keepc hb c14, keepc hb i0, keepc hb i1, keepc hb i2, keepc hb i3, keepc hb i4, keepc hb i5⟩
attribute [local go_sem ↓] Go.wp_at_zero Go.wp_at_succ
set_option maxHeartbeats 3200000 in
set_option maxRecDepth 100000 in
theorem step_any (u0 u2 u3 u4 u5 u7 u9 u10 u11 u12 u13 u14 u15 u16 u17 u18 u19 u20 u21 u22 u23 u24 u25 u26 u27 u28 u29 u30 u31 u32 u33 u34 u35 u36 u37 u38 u39 u40 u41 u42 u43 u44 u45 u46 u47 u48 u49 u50 u51 u52 u53 u54 u55 u56 u57 u58 u59 u60 u61 u62 u63 u64 u65 u66 u67 u68 u69 u70 u71 u72 u73 u74 u75 u76 u77 u78 u79 u80 u81 : Value) (bn bi gl o ml cl k : Nat) (L : Ly) (S : Sp) (at' x y z E : Int) (Z : World) (Q : Exit → Act → World → Prop)
    (CL : ∀ w, Below Z.heap.size Z w → Calls Try.prog 36 #[lyv L, inv at' S] w fun e w' => e = .returned (sle x y z E) ∧ Below w.heap.size w w')
    (n4 : Z.cell? ⟨bn, 4, none⟩ = some (.slice (some ⟨gl, o, none⟩) ml cl)) (hL : Hid (Lc Z gl (o + k * 15) L)) (hI : Hid (Iv Z bi at' S)) (ik0 : (0 : Int) ≤ (k : Int)) (ik : (k : Int) < (ml : Int))
    (hQ : Hid (∀ X g, Below Z.heap.size Z X → Sh X g 0 x y z → Z.heap.size ≤ g → Q .normal ⟨#[u0, .pointer (some ⟨bn, 0, none⟩), u2, u3, u4, u5, .pointer (some ⟨bi, 0, none⟩), u7, .int .i64 (k : Int), .pointer (some ⟨g, 0, none⟩), .int .i64 E, u11, u12, u13, u14, u15, u16, u17, u18, u19, u20, u21, u22, u23, u24, u25, u26, u27, u28, u29, u30, u31, u32, u33, u34, u35, u36, u37, u38, u39, u40, u41, u42, u43, u44, u45, u46, u47, u48, u49, sle x y z E, .pointer (some ⟨bn, 4, none⟩), .slice (some ⟨gl, o, none⟩) ml cl, .int .i64 (k : Int), .pointer (some ⟨gl, o + k * 15, none⟩), .agg #[.int .i64 L.kd, .int .i64 L.wt, .int .i64 L.k, .int .i64 L.r, .int .i64 L.s, .int .i64 L.sy, .int .i64 L.sx, .int .i64 L.t, .int .i64 L.l, .int .i64 L.b, .int .i64 L.q, .int .i64 L.bd, .slice L.aw L.mw L.cw, .slice L.an L.mn L.cn, .slice L.ab L.mb L.cb], inv at' S, sle x y z E, shp x y z, .int .i64 E, u60, u61, u62, u63, u64, u65, u66, u67, u68, u69, u70, u71, u72, u73, u74, u75, u76, u77, u78, u79, u80, u81], []⟩ X)) :
    Code.wp Try.prog rgL Q ⟨#[u0, .pointer (some ⟨bn, 0, none⟩), u2, u3, u4, u5, .pointer (some ⟨bi, 0, none⟩), u7, .int .i64 (k : Int), u9, u10, u11, u12, u13, u14, u15, u16, u17, u18, u19, u20, u21, u22, u23, u24, u25, u26, u27, u28, u29, u30, u31, u32, u33, u34, u35, u36, u37, u38, u39, u40, u41, u42, u43, u44, u45, u46, u47, u48, u49, u50, u51, u52, u53, u54, u55, u56, u57, u58, u59, u60, u61, u62, u63, u64, u65, u66, u67, u68, u69, u70, u71, u72, u73, u74, u75, u76, u77, u78, u79, u80, u81], []⟩ Z := by
  have CLH := hid1 CL
  clear CL
  conv => arg 2; whnf
  refine wp_region_noPanic ?_
  have hS := kpL n4 hL.out hI.out (Below.refl _ _)
  go_region_held3 (fun X => X.cell? ⟨bn, 4, none⟩ = some (.slice (some ⟨gl, o, none⟩) ml cl) ∧ X.cell? ⟨gl, o + k * 15, none⟩ = some (.int .i64 L.kd) ∧ X.cell? ⟨gl, o + k * 15 + 1, none⟩ = some (.int .i64 L.wt) ∧ X.cell? ⟨gl, o + k * 15 + 2, none⟩ = some (.int .i64 L.k) ∧ X.cell? ⟨gl, o + k * 15 + 3, none⟩ = some (.int .i64 L.r) ∧ X.cell? ⟨gl, o + k * 15 + 4, none⟩ = some (.int .i64 L.s) ∧ X.cell? ⟨gl, o + k * 15 + 5, none⟩ = some (.int .i64 L.sy) ∧ X.cell? ⟨gl, o + k * 15 + 6, none⟩ = some (.int .i64 L.sx) ∧ X.cell? ⟨gl, o + k * 15 + 7, none⟩ = some (.int .i64 L.t) ∧ X.cell? ⟨gl, o + k * 15 + 8, none⟩ = some (.int .i64 L.l) ∧ X.cell? ⟨gl, o + k * 15 + 9, none⟩ = some (.int .i64 L.b) ∧ X.cell? ⟨gl, o + k * 15 + 10, none⟩ = some (.int .i64 L.q) ∧ X.cell? ⟨gl, o + k * 15 + 11, none⟩ = some (.int .i64 L.bd) ∧ X.cell? ⟨gl, o + k * 15 + 12, none⟩ = some (.slice L.aw L.mw L.cw) ∧ X.cell? ⟨gl, o + k * 15 + 13, none⟩ = some (.slice L.an L.mn L.cn) ∧ X.cell? ⟨gl, o + k * 15 + 14, none⟩ = some (.slice L.ab L.mb L.cb) ∧ X.cell? ⟨bi, 0, none⟩ = some (.int .i64 at') ∧ X.cell? ⟨bi, 1, none⟩ = some (.bool S.la) ∧ X.cell? ⟨bi, 2, none⟩ = some (.int .i64 S.h) ∧ X.cell? ⟨bi, 3, none⟩ = some (.int .i64 S.v) ∧ X.cell? ⟨bi, 4, none⟩ = some (.int .i64 S.c) ∧ X.cell? ⟨bi, 5, none⟩ = some (.int .i64 S.ah)) (((try dsimp only); refine kpL (U := Z) n4 hL.out hI.out ?_; repeat (first | (with_reducible exact Below.refl _ _) | (with_reducible refine bl_alloc ?_ _) | (with_reducible refine Below.drew ?_) | (with_reducible refine bl_drewN ?_ _) | (with_reducible refine bl_set ?_ (by omega) _) | (with_reducible refine bl_step ?_ (by assumption)))))
    (first | (go_at_call 36; refine (CLH.out _ (by repeat (first | (with_reducible exact Below.refl _ _) | (with_reducible refine bl_alloc ?_ _) | (with_reducible refine Below.drew ?_) | (with_reducible refine bl_drewN ?_ _) | (with_reducible refine bl_set ?_ (by omega) _) | (with_reducible refine bl_step ?_ (by assumption))))).mono ?_; rintro e x1 ⟨rfl, hx1⟩; have z1 : Z.heap.size ≤ x1.heap.size := Nat.le_trans (by first | exact Nat.le_refl _ | simp) hx1.size; (first | (have N3 : Rz x1 Z.heap.size := Rz.keep (rz_new (W := Z.drew) rfl) hx1; obtain ⟨⟨n0, n1, n2⟩, g0, g1, g2⟩ := N3) | (have N3 : Rz x1 Z.heap.size := Rz.keep (rz_new (W := Z) rfl) hx1; obtain ⟨⟨n0, n1, n2⟩, g0, g1, g2⟩ := N3) | skip)))
  · refine NoPanic.normal (hQ.out _ x1.heap.size ?_ (sh_new' rfl) z1)
    repeat (first | (with_reducible exact Below.refl _ _) | (with_reducible refine bl_alloc ?_ _) | (with_reducible refine Below.drew ?_) | (with_reducible refine bl_drewN ?_ _) | (with_reducible refine bl_set ?_ (by omega) _) | (with_reducible refine bl_step ?_ (by assumption)))
  · refine NoPanic.normal (hQ.out _ Z.heap.size ?_ (sh_set (Sh.intro n0 n1 n2)) (Nat.le_refl _))
    repeat (first | (with_reducible exact Below.refl _ _) | (with_reducible refine bl_alloc ?_ _) | (with_reducible refine Below.drew ?_) | (with_reducible refine bl_drewN ?_ _) | (with_reducible refine bl_set ?_ (by omega) _) | (with_reducible refine bl_step ?_ (by assumption)))
end Go.Proofs.Ytkhlhcbbbhbgeaa.Nn
/- THE DOCUMENT'S NETWORKS: WALK. -/
namespace Go.Proofs.Ytkhlhcbbbhbgeaa.Nn
open Go.RowKit

/-- A layer's answer, in numbers that do not hang on the world. -/
theorem rlayer_fix (L : Ly) (S : Sp) (at' : Int) (hS : SpOk S) (hat : S.fs = decide (at' = 0)) : ∃ x y z, (faE L S = 0 → x = oH L S.h S.v S.c ∧ y = oV L S.h S.v S.c ∧ z = oC L S.h S.v S.c) ∧ ∀ w, Lst w L →
    Calls Try.prog 36 #[lyv L, inv at' S] w fun e w' => e = .returned (sle x y z (faE L S)) ∧ Below w.heap.size w w' := by
  obtain ⟨x, y, z, h1, h2⟩ := roV_form L S.h S.v S.c
  have e := rl_any L S
  by_cases hk : rkE L S = 0
  · refine ⟨x, y, z, fun h0 => h2 ?_, fun w hL => ?_⟩
    · rw [← e] at h0
      unfold rlE at h0
      rw [if_pos hk] at h0
      by_cases ho : roE L S.h S.v S.c = 0
      · exact ho
      · rw [if_neg ho] at h0; exact absurd h0 ho
    · have := rlayer_xyz L S at' hS hat x y z h1 w hL
      rw [if_pos hk, e] at this
      exact this
  · refine ⟨0, 0, 0, fun h0 => ?_, fun w hL => ?_⟩
    · rw [← e] at h0
      unfold rlE at h0
      rw [if_neg hk] at h0
      exact absurd h0 hk
    · have := rlayer_xyz L S at' hS hat x y z h1 w hL
      rw [if_neg hk, e] at this
      exact this
def ivf (at' : Int) (S : Sp) : Nat → Value
  | 0 => .int .i64 at'
  | 1 => .bool S.la
  | 2 => .int .i64 S.h
  | 3 => .int .i64 S.v
  | 4 => .int .i64 S.c
  | _ => .int .i64 S.ah
theorem ivf_new {W : World} {g : Nat} (hg : W.heap.size = g) (at' : Int) (S : Sp) (t : TypeId) : (W.alloc (.cells #[.int .i64 at', .bool S.la, .int .i64 S.h, .int .i64 S.v, .int .i64 S.c, .int .i64 S.ah] t)).rowIs g t 6 (ivf at' S) := by
  subst hg
  refine World.rowIs_alloc W _ t (ivf at' S) fun i hi => ?_
  have h6 : i < 6 := hi
  rcases (show i = 0 ∨ i = 1 ∨ i = 2 ∨ i = 3 ∨ i = 4 ∨ i = 5 by omega) with rfl | rfl | rfl | rfl | rfl | rfl <;> rfl
theorem ivf_iv {W : World} {g : Nat} {t : TypeId} {at' : Int} {S : Sp} (h : W.rowIs g t 6 (ivf at' S)) : Iv W g at' S := ⟨h.cell (i := 0) (by decide), h.cell (i := 1) (by decide), h.cell (i := 2) (by decide), h.cell (i := 3) (by decide), h.cell (i := 4) (by decide), h.cell (i := 5) (by decide)⟩
theorem ivf_head {W : World} {g : Nat} {t : TypeId} {a a' : Int} {S : Sp} {x : Bool} (h : W.rowIs g t 6 (ivf a ⟨S.h, S.v, S.c, S.ah, S.fs, x⟩)) : ((W.setCell ⟨g, 0, none⟩ (.int .i64 a')).setCell ⟨g, 1, none⟩ (.bool S.la)).rowIs g t 6 (ivf a' S) := by
  refine ((h.set 0 _).set 1 _).congr fun i hi => ?_
  rcases (show i = 0 ∨ i = 1 ∨ i = 2 ∨ i = 3 ∨ i = 4 ∨ i = 5 by omega) with rfl | rfl | rfl | rfl | rfl | rfl <;> rfl
/-- The shapes so far, as the list holds them. -/
def shL (N : Nt) : Nat → List Value
  | 0 => []
  | k + 1 => shL N k ++ [.int .i64 (sp N (k + 1)).h, .int .i64 (sp N (k + 1)).v, .int .i64 (sp N (k + 1)).c]
theorem shL_len (N : Nt) (k : Nat) : (shL N k).length = k * 3 := by
  induction k with
  | zero => rfl
  | succ k ih => unfold shL; rw [List.length_append, ih]; simp; omega
theorem shL_at (N : Nt) (m k : Nat) (hk : k < m) : (shL N m)[k * 3]? = some (.int .i64 (sp N (k + 1)).h) ∧ (shL N m)[k * 3 + 1]? = some (.int .i64 (sp N (k + 1)).v) ∧ (shL N m)[k * 3 + 2]? = some (.int .i64 (sp N (k + 1)).c) := by
  induction m with
  | zero => omega
  | succ m ih =>
    unfold shL
    have hl := shL_len N m
    by_cases h : k < m
    · have := ih h
      rw [List.getElem?_append_left (by omega), List.getElem?_append_left (by omega), List.getElem?_append_left (by omega)]
      exact this
    · obtain rfl : k = m := by omega
      rw [List.getElem?_append_right (by omega), List.getElem?_append_right (by omega), List.getElem?_append_right (by omega), hl]
      refine ⟨?_, ?_, ?_⟩
      · rw [show k * 3 - k * 3 = 0 by omega]; rfl
      · rw [show k * 3 + 1 - k * 3 = 1 by omega]; rfl
      · rw [show k * 3 + 2 - k * 3 = 2 by omega]; rfl
end Go.Proofs.Ytkhlhcbbbhbgeaa.Nn
/- THE DOCUMENT'S NETWORKS: WALK, WALKED. -/
namespace Go.Proofs.Ytkhlhcbbbhbgeaa.Nn
open Go.RowKit

theorem own_some' {w : World} {base n size cap : Nat} {e : TypeId} {ao : Option Addr} {xs : List Value} (h : w.ownsRow base e size (.slice ao n cap) n xs) (hn : 0 < n) : ∃ g, ao = some ⟨g, 0, none⟩ := by
  rcases h.2 with ⟨_, h0⟩ | ⟨g, cap', _, e, _⟩
  · omega
  · cases e; exact ⟨g, rfl⟩
theorem mw_of {L : Ly} {S : Sp} (h : faE L S = 0) : (L.mw : Int) = wc L S.h S.v S.c := by
  unfold faE at h
  by_cases h1 : L.kd = 1
  · rw [if_pos h1] at h
    have h7 : wsE L S = 0 := frF_z h 7 (by decide)
    unfold wsE at h7
    exact (zero_else (by decide) h7).1
  · rw [if_neg h1] at h
    by_cases h2 : L.kd = 2
    · rw [if_pos h2] at h
      have h4 : wsE L S = 0 := frF_z h 4 (by decide)
      unfold wsE at h4
      exact (zero_else (by decide) h4).1
    · rw [if_neg h2] at h
      by_cases h3 : L.kd = 3
      · rw [if_pos h3] at h
        have h4 : owE L = 0 := frF_z h 2 (by decide)
        unfold owE at h4
        have := zero_else (by decide) h4
        unfold wc
        rw [this.1.1, Int.zero_mul, this.2.1]
        rfl
      · rw [if_neg h3] at h; cases h
theorem own_below {W X : World} {base n size : Nat} {e : TypeId} {v : Value} {xs : List Value} (h : W.ownsRow base e size v n xs) (hb : Below W.heap.size W X) : X.ownsRow base e size v n xs :=
  h.kept (row := none) ⟨hb.os, hb.tape, hb.output, hb.size, fun k hk _ => hb.block k hk⟩ (by cases v.ownBlock <;> simp)
theorem news3 {W : World} {g : Nat} (hg : W.heap.size = g) (x y z : Value) (t : TypeId) : ∀ j u, [x, y, z][j]? = some u → (W.alloc (.cells #[x, y, z] t)).cell? ((⟨g, 0, none⟩ : Addr).add j) = some u := by
  intro j u hu
  subst hg
  have hw := new_block W (.cells #[x, y, z] t)
  have hj : j < 3 := by
    by_cases h : j < 3
    · exact h
    · rw [List.getElem?_eq_none (by simp; omega)] at hu; cases hu
  rcases (show j = 0 ∨ j = 1 ∨ j = 2 by omega) with rfl | rfl | rfl <;> cases hu <;> exact (block_cell hw _).trans rfl
def RkP (N : Nt) (w w' : World) (v : Value) : Prop := (¬ chE N = 0 → v = .slice none 0 0) ∧ (chE N = 0 → ∃ g cap, w.heap.size ≤ g ∧ v = .slice (some ⟨g, 0, none⟩) N.ml cap ∧ ∀ j, j < N.ml * 3 → w'.cell? ⟨g, j, none⟩ = (shL N N.ml)[j]?)
def IvAny (W : World) (g : Nat) (S : Sp) : Prop := ∃ a x, W.rowIs g 83 6 (ivf a ⟨S.h, S.v, S.c, S.ah, S.fs, x⟩)
theorem ivf_ah {W : World} {g : Nat} {t : TypeId} {a p : Int} {S : Sp} {b : Bool} (h : W.rowIs g t 6 (ivf a S)) : (W.setCell ⟨g, 5, none⟩ (.int .i64 p)).rowIs g t 6 (ivf a ⟨S.h, S.v, S.c, p, b, S.la⟩) := by
  refine (h.set 5 _).congr fun i hi => ?_
  rcases (show i = 0 ∨ i = 1 ∨ i = 2 ∨ i = 3 ∨ i = 4 ∨ i = 5 by omega) with rfl | rfl | rfl | rfl | rfl | rfl <;> rfl
theorem ivf_shape {W : World} {g : Nat} {t : TypeId} {a x y z : Int} {S : Sp} {b d : Bool} (h : W.rowIs g t 6 (ivf a S)) (hd : S.la = d) : (((W.setCell ⟨g, 2, none⟩ (.int .i64 x)).setCell ⟨g, 3, none⟩ (.int .i64 y)).setCell ⟨g, 4, none⟩ (.int .i64 z)).rowIs g t 6 (ivf a ⟨x, y, z, S.ah, b, d⟩) := by
  subst hd
  refine (((h.set 2 _).set 3 _).set 4 _).congr fun i hi => ?_
  rcases (show i = 0 ∨ i = 1 ∨ i = 2 ∨ i = 3 ∨ i = 4 ∨ i = 5 by omega) with rfl | rfl | rfl | rfl | rfl | rfl <;> rfl
set_option maxHeartbeats 6400000 in
set_option maxRecDepth 100000 in
theorem rwalk_good (N : Nt) (w : World) (hN : NtW w N) (hw0 : whE N = 0) : Calls Try.prog 27 #[ntv N] w fun e w' => ∃ v, e = .returned (.tuple #[v, .int .i64 (chA N), .int .i64 (chE N)]) ∧ Below w.heap.size w w' ∧ RkP N w w' v := by
  obtain ⟨i0', hi', hz0', hz1', hz2'⟩ := info_parts info_shp
  have HW := hid1 hN
  have CN := rnamed_any N.nm hN.2.2
  have CC := rcheck_any N.h N.v N.c
  have HP := hid1 (wh_parts hw0)
  have HZ := hid1 hw0
  rw [HP.out.1] at CN
  rw [HP.out.2.1] at CC
  have ml1 : ¬ N.ml < 1 := by have := HP.out.2.2.1; omega
  have ml2 : ¬ 64 < N.ml := by have := HP.out.2.2.2; omega
  clear hN hw0
  go_enter Try.func27, Try.ntmps27
  go_wp2_with fail
  refine (CN _).mono ?_
  rintro e w0 ⟨rfl, rfl⟩
  go_wp2_with fail
  refine gen_calls (fun X => Below w.heap.size w X ∧ Nb X w.heap.size N) ⟨by repeat (first | (with_reducible exact Below.refl _ _) | (with_reducible refine bl_alloc ?_ _) | (with_reducible refine Below.drew ?_) | (with_reducible refine bl_drewN ?_ _) | (with_reducible refine bl_set ?_ (by omega) _) | (with_reducible refine bl_step ?_ (by assumption))), nb_new _ _ _⟩ ?_
  rintro X ⟨BX, NX⟩
  refine (CC X).mono ?_
  rintro e w1 ⟨rfl, hb⟩
  replace BX := bl_step BX hb
  replace NX := NX.keep hb
  clear hb X CN CC
  have KN := hid1 NX
  obtain ⟨n0, n1, n2, n3, n4⟩ := NX
  obtain ⟨bi, hbi⟩ : ∃ x, w1.heap.size = x := ⟨_, rfl⟩
  have hwb : w.heap.size < bi := by rw [← hbi]; exact lt_of_cell n0
  go_upto_region 11 with fail
  refine gen_world (fun X => Below w.heap.size w X ∧ Nb X w.heap.size N ∧ IvAny X bi (sp N 0) ∧ X.heap.size = bi + 1) ⟨by repeat (first | (with_reducible exact Below.refl _ _) | (with_reducible refine bl_alloc ?_ _) | (with_reducible refine Below.drew ?_) | (with_reducible refine bl_drewN ?_ _) | (with_reducible refine bl_set ?_ (by omega) _) | (with_reducible refine bl_step ?_ (by assumption))), KN.out.keep (bl_alloc (Below.refl _ _) _), ⟨0, false, ivf_new hbi 0 ⟨N.h, N.v, N.c, 0, true, false⟩ _⟩, by simp [hbi]⟩ ?_
  clear KN BX n0 n1 n2 n3 n4 hbi
  rintro Z ⟨BZ, NZ, IZ, zZ⟩
  go_loopw [7, 8] (fun v i wr => ∃ k : Nat, k ≤ N.ml ∧ i = .int .i64 k ∧ Hid (∀ j, j < k → fl N j = 0) ∧ (∃ ao cap, v = .slice ao k cap ∧ Hid (wr.ownsRow (bi + 1) 28 3 (.slice ao k cap) k (shL N k))) ∧ Below w.heap.size w wr ∧ Hid (Nb wr w.heap.size N) ∧ Hid (IvAny wr bi (sp N k)) ∧ bi < wr.heap.size) (fun _ i _ => N.ml - (intOf i).toNat)
  case atStart => exact ⟨0, Nat.zero_le _, rfl, hid1 fun j hj => absurd hj (by omega), ⟨none, 0, rfl, hid1 (World.ownsRow_nil _ _ _ _)⟩, BZ, hid1 NZ, hid1 IZ, by omega⟩
  case round =>
    clear BZ NZ IZ
    obtain ⟨k, hk, rfl, HQ, ⟨ao, cap, rfl, HO⟩, BX, K1, K4, hz⟩ := hrel
    have ik0 : (0 : Int) ≤ (k : Int) := by omega
    by_cases hlt : k < N.ml
    · have ik : (k : Int) < (N.ml : Int) := by omega
      have q2 := sp_last N k hlt HP.out.2.2.2
      rw [wr_id (by omega) (by omega)] at q2
      have hok := sp_ok HP.out.2.1 HQ.out
      have hfs : (sp N k).fs = decide ((k : Int) = 0) := by rw [← sp_first N k]; rfl
      obtain ⟨a0, x0, RI⟩ := K4.out
      have KI := hid1 RI
      have n4 := K1.out.2.2.2.2
      have s0 : wr.cell? ⟨bi, 0, none⟩ = some (.int .i64 a0) := RI.cell (i := 0) (by decide)
      have s1 : wr.cell? ⟨bi, 1, none⟩ = some (.bool x0) := RI.cell (i := 1) (by decide)
      have f0 := RI.frozen 0
      have f1 := RI.frozen 1
      clear RI
      go_upto_region 15 with fail
      clear s0 s1 f0 f1
      obtain ⟨gl, o, ea, LC, LL⟩ := (HW.out.keep BX).1 k hlt
      have EA := hid1 ea
      clear ea
      refine gen_world (fun U => Below w.heap.size w U ∧ Exc bi wr U ∧ U.rowIs bi 83 6 (ivf k (sp N k)) ∧ U.ownsRow (bi + 1) 28 3 (.slice ao k cap) k (shL N k)) ⟨by repeat (first | (with_reducible exact Below.refl _ _) | (with_reducible refine bl_alloc ?_ _) | (with_reducible refine Below.drew ?_) | (with_reducible refine bl_drewN ?_ _) | (with_reducible refine bl_set ?_ (by omega) _) | (with_reducible refine bl_step ?_ (by assumption))), ((Exc.refl _ _).set _ _).set _ _, by first | exact ivf_head KI.out | (rw [q2]; exact ivf_head KI.out), ownsRow_setCell_below (ownsRow_setCell_below HO.out (by show bi < bi + 1; omega) _) (by show bi < bi + 1; omega) _⟩ ?_
      rintro U ⟨BU, EU, RU, OU⟩
      have KU := hid1 (K1.out.of_block (EU.2 _ (by omega)))
      have n4' : U.cell? ⟨w.heap.size, 4, none⟩ = some (.slice (some ⟨gl, o, none⟩) N.ml N.cl) := by have := KU.out.2.2.2.2; rwa [EA.out] at this
      have hLU := (HW.out.keep BU).1 k hlt
      have LCU : Lc U gl (o + k * 15) (N.lf k) := by
        obtain ⟨g', o', e', h, _⟩ := hLU
        rw [EA.out] at e'
        cases e'
        exact h
      have HLC : Hid (∀ V, Below w.heap.size w V → V.cell? ⟨gl, o + k * 15 + 12, none⟩ = some (.slice (N.lf k).aw (N.lf k).mw (N.lf k).cw)) := hid1 fun V hV => by
        obtain ⟨g', o', e', h, _⟩ := (HW.out.keep hV).1 k hlt
        rw [EA.out] at e'
        cases e'
        exact h.2.2.2.2.2.2.2.2.2.2.2.2.1
      have HLL : Hid (Lst U (N.lf k)) := hid1 (by obtain ⟨_, _, _, _, h⟩ := hLU; exact h)
      have hsU : U.heap.size = wr.heap.size := EU.1
      have HOU := hid1 OU
      clear LC LL q2 KI K4 hLU n4 OU
      have HFL := hid1 (show fl N k = faE (N.lf k) (sp N k) from rfl)
      have HSN : Hid (sp N (k + 1) = ⟨oH (N.lf k) (sp N k).h (sp N k).v (sp N k).c, oV (N.lf k) (sp N k).h (sp N k).v (sp N k).c, oC (N.lf k) (sp N k).h (sp N k).v (sp N k).c, (sp N k).ah + wc (N.lf k) (sp N k).h (sp N k).v (sp N k).c, false, decide (N.ml = k + 2)⟩) := hid1 rfl
      generalize N.lf k = L at *
      generalize sp N k = S at *
      obtain ⟨x, y, z, hxyz, CL⟩ := rlayer_fix L S (k : Int) hok hfs
      have HXYZ := hid1 hxyz
      have HOK := hid1 hok
      clear hxyz hok hfs
      refine step_any _ _ _ _ _ _ _ _ _ _ _ _ _ _ _ _ _ _ _ _ _ _ _ _ _ _ _ _ _ _ _ _ _ _ _ _ _ _ _ _ _ _ _ _ _ _ _ _ _ _ _ _ _ _ _ _ _ _ _ _ _ _ _ _ _ _ _ _ _ _ _ _ _ _ _ _ _ _ _ w.heap.size bi gl o N.ml N.cl k L S k x y z (faE L S) U _ (fun w' hb => CL w' (HLL.out.keep hb)) n4' (hid1 LCU) (hid1 (ivf_iv RU)) ik0 ik (hid1 ?_)
      intro X g hb SX hg
      have KX := hid1 (KU.out.keep hb)
      have KI := hid1 (rowIs_keep RU hb)
      have KO := hid1 (own_below HOU.out hb)
      have hrow : ∀ r, (Value.slice ao k cap).ownBlock = some r → bi + 1 ≤ r ∧ r < U.heap.size := HOU.out.lt
      have hgX : g < X.heap.size := lt_of_cell SX.1
      have KS := hid1 SX
      have hzX := hb.size
      replace BU := bl_step BU hb
      obtain ⟨q0, q1, q2⟩ := SX
      clear hb KU RU HOU HLL LCU n4' CL K1 BX HO
      by_cases hx : faE L S = 0
      · have hx2 : (faE L S != 0) = false := by simpa using hx
        have H0 : Hid (fl N k = 0) := hid1 (HFL.out.trans hx)
        have HX3 := hid1 (HXYZ.out hx)
        have HMW := hid1 (mw_of hx)
        have hst := (sp_step HOK.out hx).2
        have ha := HOK.out.2
        rw [← HMW.out] at hst
        clear hx HXYZ HFL
        obtain ⟨gz, hgz⟩ : ∃ x, X.heap.size = x := ⟨_, rfl⟩
        go_wp2_with ((at_builtin; refine wpList_append_lies _ rfl _ _ 50 rfl (bi + 1) 28 i0' (.agg #[.int .i64 0, .int .i64 0, .int .i64 0]) 3 24 und_shps hi' hz0' hz1' hz2' rfl (by decide) (.slice ao k cap) k (shL N k) (by go_simp) (KO.out.alloc _) ⟨gz, 0, none⟩ 1 1 [.int .i64 x, .int .i64 y, .int .i64 z] (by go_simp) rfl (news3 hgz _ _ _ _) (fun u hu => by simp at hu; rcases hu with rfl | rfl | rfl <;> rfl) (by decide) (by unfold maxLen; omega) (by omega) (by simp; omega) (gz + 1) (by simp [hgz]) ?_; intro g1 cap1 w3 hown1 hgrow hat hlt1))
        have B3 : Below w.heap.size w w3 := ((BU.alloc (by omega) _).grown hgrow (by simp; omega) (fun r h => by have := (hrow r h).1; omega))
        have hblk : ∀ i, i < X.heap.size → (i ≤ bi ∨ U.heap.size ≤ i) → w3.heap[i]? = X.heap[i]? := fun i hi hj => (hgrow.block i (by simp; omega) (fun h => by have := hrow i h.symm; omega)).trans ((bl_alloc (Below.refl X.heap.size X) _).block i hi)
        have hs3 := hgrow.size
        simp only [World.alloc, Array.size_push] at hs3
        refine gen_world (fun Y => Below w.heap.size w Y ∧ Nb Y w.heap.size N ∧ Y.rowIs bi 83 6 (ivf k S) ∧ Sh Y g 0 x y z ∧ Y.ownsRow (bi + 1) 28 3 (Value.slice (some ⟨g1, 0, none⟩) (k + 1) cap1) (k + 1) (shL N k ++ [Value.int IntKind.i64 x, Value.int IntKind.i64 y, Value.int IntKind.i64 z]) ∧ bi < Y.heap.size) ⟨B3, KX.out.of_block (hblk _ (by omega) (by omega)), KI.out.of_block (hblk _ (by omega) (by omega)), ⟨(World.cell?_of_block (hblk g hgX (by omega))).trans q0, (World.cell?_of_block (hblk g hgX (by omega))).trans q1, (World.cell?_of_block (hblk g hgX (by omega))).trans q2⟩, hown1, by omega⟩ ?_
        clear hblk hs3 B3 hown1 hgrow hat hlt1 KX KI KO KS q0 q1 q2 hgz hrow hgX hzX BU
        rintro Y ⟨BY, NY, RY, SY, OY, zY⟩
        have KN := hid1 NY
        have KR := hid1 RY
        have KO := hid1 OY
        have n4 : Y.cell? ⟨w.heap.size, 4, none⟩ = some (.slice (some ⟨gl, o, none⟩) N.ml N.cl) := by have := NY.2.2.2.2; rwa [EA.out] at this
        have c12 := HLC.out Y BY
        have s5 : Y.cell? ⟨bi, 5, none⟩ = some (.int .i64 S.ah) := RY.cell (i := 5) (by decide)
        have s2 : Y.cell? ⟨bi, 2, none⟩ = some (.int .i64 S.h) := RY.cell (i := 2) (by decide)
        have s3 : Y.cell? ⟨bi, 3, none⟩ = some (.int .i64 S.v) := RY.cell (i := 3) (by decide)
        have s4 : Y.cell? ⟨bi, 4, none⟩ = some (.int .i64 S.c) := RY.cell (i := 4) (by decide)
        have f2 := RY.frozen 2
        have f3 := RY.frozen 3
        have f4 := RY.frozen 4
        have f5 := RY.frozen 5
        obtain ⟨q0, q1, q2⟩ := SY
        clear NY RY OY
        go_region
        refine gen_then (fun T => Below w.heap.size w T ∧ Exc bi Y T ∧ T.rowIs bi 83 6 (ivf k ⟨S.h, S.v, S.c, S.ah + L.mw, false, S.la⟩) ∧ T.ownsRow (bi + 1) 28 3 (Value.slice (some ⟨g1, 0, none⟩) (k + 1) cap1) (k + 1) (shL N k ++ [Value.int IntKind.i64 x, Value.int IntKind.i64 y, Value.int IntKind.i64 z])) ⟨(bl_set BY (by show w.heap.size ≤ bi; omega) _).drew, (show Exc bi Y (Y.setCell ⟨bi, 5, none⟩ (.int .i64 (S.ah + L.mw))) from (Exc.refl _ _).set _ _), ivf_ah KR.out, ownsRow_setCell_below KO.out (by show bi < bi + 1; omega) _⟩ ?_
        rintro T ⟨BT, ET, RT, OT⟩
        have KN2 := hid1 (KN.out.of_block (ET.2 _ (by omega)))
        have eg : T.heap[g]? = Y.heap[g]? := ET.2 _ (by omega)
        have p0 : T.cell? ⟨g, 0, none⟩ = some (.int .i64 x) := (World.cell?_of_block eg).trans q0
        have p1 : T.cell? ⟨g, 1, none⟩ = some (.int .i64 y) := (World.cell?_of_block eg).trans q1
        have p2 : T.cell? ⟨g, 2, none⟩ = some (.int .i64 z) := (World.cell?_of_block eg).trans q2
        have hTs : T.heap.size = Y.heap.size := ET.1
        clear eg n4 c12 s5 s2 s3 s4 f2 f3 f4 f5 q0 q1 q2 KR KO KN ET
        have s2 : T.cell? ⟨bi, 2, none⟩ = some (.int .i64 S.h) := RT.cell (i := 2) (by decide)
        have s3 : T.cell? ⟨bi, 3, none⟩ = some (.int .i64 S.v) := RT.cell (i := 3) (by decide)
        have s4 : T.cell? ⟨bi, 4, none⟩ = some (.int .i64 S.c) := RT.cell (i := 4) (by decide)
        have f2 := RT.frozen 2
        have f3 := RT.frozen 3
        have f4 := RT.frozen 4
        have KR := hid1 RT
        have KO := hid1 OT
        clear RT OT
        go_wp2_with fail
        have EX : Exc bi T (((T.setCell ⟨bi, 2, none⟩ (.int .i64 x)).setCell ⟨bi, 3, none⟩ (.int .i64 y)).setCell ⟨bi, 4, none⟩ (.int .i64 z)) := (((Exc.refl _ _).set _ _).set _ _).set _ _
        have BF := EX.below BT (by omega) ⟨rfl, rfl, rfl⟩
        have NF := KN2.out.of_block (EX.2 _ (by omega))
        have RF : IvAny (((T.setCell ⟨bi, 2, none⟩ (.int .i64 x)).setCell ⟨bi, 3, none⟩ (.int .i64 y)).setCell ⟨bi, 4, none⟩ (.int .i64 z)) bi (sp N (k + 1)) := ⟨k, S.la, by
          rw [HSN.out, ← HX3.out.1, ← HX3.out.2.1, ← HX3.out.2.2, ← HMW.out]
          have hh := ivf_shape (x := x) (y := y) (z := z) (b := false) KR.out rfl
          exact hh⟩
        have OF : World.ownsRow (((T.setCell ⟨bi, 2, none⟩ (.int .i64 x)).setCell ⟨bi, 3, none⟩ (.int .i64 y)).setCell ⟨bi, 4, none⟩ (.int .i64 z)) (bi + 1) 28 3 (.slice (some ⟨g1, 0, none⟩) (k + 1) cap1) (k + 1) (shL N (k + 1)) := by
          have e : shL N (k + 1) = shL N k ++ [Value.int IntKind.i64 x, Value.int IntKind.i64 y, Value.int IntKind.i64 z] := by
            show shL N k ++ [.int .i64 (sp N (k + 1)).h, .int .i64 (sp N (k + 1)).v, .int .i64 (sp N (k + 1)).c] = _
            rw [HSN.out, HX3.out.1, HX3.out.2.1, HX3.out.2.2]
          rw [e]
          exact ownsRow_setCell_below (ownsRow_setCell_below (ownsRow_setCell_below KO.out (by show bi < bi + 1; omega) _) (by show bi < bi + 1; omega) _) (by show bi < bi + 1; omega) _
        have QF : ∀ j, j < k + 1 → fl N j = 0 := fun j hj => by
          by_cases e : j = k
          · rw [e]; exact H0.out
          · exact HQ.out j (by omega)
        have zF := EX.1
        go_roundw
        case rel => exact ⟨k + 1, by omega, by go_num, hid1 QF, ⟨_, _, rfl, hid1 OF⟩, BF, hid1 NF, hid1 RF, by omega⟩
        case measure => simp [intOf]; omega
      · have hx2 : (faE L S != 0) = true := by simpa using hx
        have HC := hid1 (ch_at HZ.out hlt HQ.out (by rw [HFL.out]; exact hx))
        have HX := hid1 hx
        clear hx
        go_wp2_with fail
        go_ret3
        exact ⟨.slice none 0 0, by rw [HC.out.1, HC.out.2, HFL.out]; rfl, BU, fun _ => rfl, fun h => absurd (HFL.out.symm.trans (HC.out.1.symm.trans h)) HX.out⟩
    · have hkm : k = N.ml := by omega
      subst hkm
      have HF := hid1 (ch_ok HZ.out HQ.out)
      have n4 := K1.out.2.2.2.2
      obtain ⟨g, rfl⟩ := own_some' HO.out (by omega)
      go_wp2_with fail
      go_ret3
      exact ⟨_, by rw [HF.out.1, HF.out.2]; rfl, BX, fun h => absurd HF.out.1 h, fun _ => ⟨g, cap, by have := (HO.out.lt g rfl).1; omega, rfl, fun j hj => HO.out.cellAt j hj⟩⟩
end Go.Proofs.Ytkhlhcbbbhbgeaa.Nn
/- THE DOCUMENT'S NETWORKS: WALK OF ANY NETWORK; CHECK, SHAPES. -/
namespace Go.Proofs.Ytkhlhcbbbhbgeaa.Nn
open Go.RowKit

set_option maxHeartbeats 3200000 in
set_option maxRecDepth 100000 in
theorem rwalk_bad (N : Nt) (w : World) (hN : NtW w N) (hw0 : ¬ whE N = 0) : Calls Try.prog 27 #[ntv N] w fun e w' => e = .returned (.tuple #[.slice none 0 0, .int .i64 (-1), .int .i64 (whE N)]) ∧ Below w.heap.size w w' := by
  have CN := rnamed_any N.nm hN.2.2
  have CC := rcheck_any N.h N.v N.c
  clear hN
  unfold whE at hw0 ⊢
  by_cases h1 : nmB N.nm = false
  · rw [if_pos h1]
    rw [h1] at CN
    clear hw0 CC
    go_enter Try.func27, Try.ntmps27
    go_wp2_with fail
    refine (CN _).mono ?_
    rintro e w0 ⟨rfl, rfl⟩
    go_wp2_with fail
    go_ret3
    exact ⟨rfl, by repeat (first | (with_reducible exact Below.refl _ _) | (with_reducible refine bl_alloc ?_ _) | (with_reducible refine Below.drew ?_) | (with_reducible refine bl_drewN ?_ _) | (with_reducible refine bl_set ?_ (by omega) _) | (with_reducible refine bl_step ?_ (by assumption)))⟩
  · rw [if_neg h1] at hw0 ⊢
    have h1' : nmB N.nm = true := by simpa using h1
    rw [h1'] at CN
    clear h1
    by_cases h2 : chk N.h N.v N.c = 0
    · rw [if_neg (by simpa using h2)] at hw0 ⊢
      rw [h2] at CC
      have h3 : ¬ (1 ≤ N.ml ∧ N.ml ≤ 64) := fun h => hw0 (if_pos h)
      rw [if_neg h3]
      clear hw0
      go_enter Try.func27, Try.ntmps27
      go_wp2_with fail
      refine (CN _).mono ?_
      rintro e w0 ⟨rfl, rfl⟩
      go_wp2_with fail
      refine gen_calls (fun X => Below w.heap.size w X ∧ Nb X w.heap.size N) ⟨by repeat (first | (with_reducible exact Below.refl _ _) | (with_reducible refine bl_alloc ?_ _) | (with_reducible refine Below.drew ?_) | (with_reducible refine bl_drewN ?_ _) | (with_reducible refine bl_set ?_ (by omega) _) | (with_reducible refine bl_step ?_ (by assumption))), nb_new _ _ _⟩ ?_
      rintro X ⟨BX, NX⟩
      refine (CC X).mono ?_
      rintro e w1 ⟨rfl, hb⟩
      replace BX := bl_step BX hb
      replace NX := NX.keep hb
      clear hb X CN CC
      obtain ⟨n0, n1, n2, n3, n4⟩ := NX
      by_cases h4 : N.ml < 1
      · go_wp2_with fail
        go_ret3
        exact ⟨rfl, BX⟩
      · have h5 : 64 < N.ml := by omega
        go_wp2_with fail
        go_ret3
        exact ⟨rfl, BX⟩
    · rw [if_pos h2]
      have hx : (chk N.h N.v N.c != 0) = true := by simpa using h2
      clear hw0
      generalize chk N.h N.v N.c = x at *
      go_enter Try.func27, Try.ntmps27
      go_wp2_with fail
      refine (CN _).mono ?_
      rintro e w0 ⟨rfl, rfl⟩
      go_wp2_with fail
      refine gen_calls (fun X => Below w.heap.size w X) (by repeat (first | (with_reducible exact Below.refl _ _) | (with_reducible refine bl_alloc ?_ _) | (with_reducible refine Below.drew ?_) | (with_reducible refine bl_drewN ?_ _) | (with_reducible refine bl_set ?_ (by omega) _) | (with_reducible refine bl_step ?_ (by assumption)))) ?_
      rintro X BX
      refine (CC X).mono ?_
      rintro e w1 ⟨rfl, hb⟩
      replace BX := bl_step BX hb
      clear hb X CN CC
      go_wp2_with fail
      go_ret3
      exact ⟨rfl, BX⟩
theorem rwalk_any (N : Nt) (w : World) (hN : NtW w N) : Calls Try.prog 27 #[ntv N] w fun e w' => ∃ v, e = .returned (.tuple #[v, .int .i64 (chA N), .int .i64 (chE N)]) ∧ Below w.heap.size w w' ∧ RkP N w w' v := by
  by_cases h : whE N = 0
  · exact rwalk_good N w hN h
  · refine (rwalk_bad N w hN h).mono ?_
    rintro e w' ⟨rfl, hb⟩
    rw [(ch_whole h).1, (ch_whole h).2]
    exact ⟨_, rfl, hb, fun _ => rfl, fun h' => absurd ((ch_whole h).1.symm.trans h') h⟩
set_option maxRecDepth 100000 in
theorem rncheck_any (N : Nt) (w : World) (hN : NtW w N) : Calls Try.prog 20 #[ntv N] w fun e w' => e = .returned (.tuple #[.int .i64 (chA N), .int .i64 (chE N)]) ∧ Below w.heap.size w w' := by
  have HN := hid1 hN
  clear hN
  go_enter Try.func20, Try.ntmps20
  go_wp2_with fail
  refine gen_calls (fun X => Below w.heap.size w X) (by repeat (first | (with_reducible exact Below.refl _ _) | (with_reducible refine bl_alloc ?_ _) | (with_reducible refine Below.drew ?_) | (with_reducible refine bl_drewN ?_ _) | (with_reducible refine bl_set ?_ (by omega) _) | (with_reducible refine bl_step ?_ (by assumption)))) ?_
  rintro X BX
  refine (rwalk_any N X (HN.out.keep BX)).mono ?_
  rintro e w1 ⟨v, rfl, hb, _⟩
  replace BX := bl_step BX hb
  clear hb HN
  go_wp2_with fail
  go_ret2
  exact ⟨rfl, BX⟩
set_option maxRecDepth 100000 in
theorem rnshapes_any (N : Nt) (w : World) (hN : NtW w N) : Calls Try.prog 28 #[ntv N] w fun e w' => ∃ v, e = .returned (.tuple #[v, .int .i64 (chE N)]) ∧ Below w.heap.size w w' ∧ RkP N w w' v := by
  have HN := hid1 hN
  clear hN
  go_enter Try.func28, Try.ntmps28
  go_wp2_with fail
  refine gen_calls (fun X => Below w.heap.size w X) (by repeat (first | (with_reducible exact Below.refl _ _) | (with_reducible refine bl_alloc ?_ _) | (with_reducible refine Below.drew ?_) | (with_reducible refine bl_drewN ?_ _) | (with_reducible refine bl_set ?_ (by omega) _) | (with_reducible refine bl_step ?_ (by assumption)))) ?_
  rintro X BX
  refine (rwalk_any N X (HN.out.keep BX)).mono ?_
  rintro e w1 ⟨v, rfl, hb, hv⟩
  have hs := BX.size
  have HV := hid1 hv
  replace BX := bl_step BX hb
  clear hb HN hv
  go_wp2_with fail
  go_ret2
  exact ⟨v, rfl, BX, HV.out.1, fun h => by
    obtain ⟨g, cap, h1, h2, h3⟩ := HV.out.2 h
    exact ⟨g, cap, by omega, h2, h3⟩⟩
end Go.Proofs.Ytkhlhcbbbhbgeaa.Nn
/- THE DOCUMENT'S NETWORKS: TWO LAYERS HELD AGAINST EACH OTHER, THE PARTS. -/
namespace Go.Proofs.Ytkhlhcbbbhbgeaa.Nn
open Go.RowKit

abbrev nrv (a b c d e f g h : Int) : Value := .agg #[.int .i64 a, .int .i64 b, .int .i64 c, .int .i64 d, .int .i64 e, .int .i64 f, .int .i64 g, .int .i64 h]
theorem fr_eql (a b a' b' : Int) (w : World) : (Op.equalIn 9999 59 (.agg #[.int .i64 a, .int .i64 b]) (.agg #[.int .i64 a', .int .i64 b'])).run Try.prog w = .ok (decide (a = a' ∧ b = b')) w := by
  rw [run_equalIn_agg w 9998 _ _ _ (by kernel_rfl) (by kernel_rfl)]
  have hc : (¬ a = a') ∨ (a = a' ∧ ¬ b = b') ∨ (a = a' ∧ b = b') := by omega
  rcases hc with h1 | ⟨rfl, h1⟩ | ⟨rfl, rfl⟩ <;> simp [go_sem, Try.underlying59, Try.underlying2, *]
set_option maxRecDepth 100000 in
theorem nrm_eql (a b c d e f g h a' b' c' d' e' f' g' h' : Int) (w : World) :
    (Op.equalIn 10000 62 (nrv a b c d e f g h) (nrv a' b' c' d' e' f' g' h')).run Try.prog w = .ok (decide ((a = a' ∧ b = b') ∧ (c = c' ∧ d = d') ∧ (e = e' ∧ f = f') ∧ (g = g' ∧ h = h'))) w := by
  rw [run_equalIn_agg w 9999 _ _ _ (by kernel_rfl) (by kernel_rfl)]
  by_cases h1 : a = a' ∧ b = b'
  · by_cases h2 : c = c' ∧ d = d'
    · by_cases h3 : e = e' ∧ f = f'
      · by_cases h4 : g = g' ∧ h = h'
        · simp [go_sem, Try.underlying62, fr_eql, h1, h2, h3, h4]
        · simp [go_sem, Try.underlying62, fr_eql, h1, h2, h3, h4]
      · simp [go_sem, Try.underlying62, fr_eql, h1, h2, h3]
    · simp [go_sem, Try.underlying62, fr_eql, h1, h2]
  · simp [go_sem, Try.underlying62, fr_eql, h1]

/-- The same window. -/
def wnE (A B : Ly) : Prop := A.r = B.r ∧ A.s = B.s ∧ A.sy = B.sy ∧ A.sx = B.sx ∧ A.t = B.t ∧ A.l = B.l ∧ A.b = B.b ∧ A.q = B.q
instance (A B : Ly) : Decidable (wnE A B) := by unfold wnE; infer_instance
/-- The same norm at a place. -/
def nsE (A B : Ly) (j : Nat) : Prop := (A.ns j 0 = B.ns j 0 ∧ A.ns j 1 = B.ns j 1) ∧ (A.ns j 2 = B.ns j 2 ∧ A.ns j 3 = B.ns j 3) ∧ (A.ns j 4 = B.ns j 4 ∧ A.ns j 5 = B.ns j 5) ∧ (A.ns j 6 = B.ns j 6 ∧ A.ns j 7 = B.ns j 7)
instance (A B : Ly) (j : Nat) : Decidable (nsE A B j) := by unfold nsE; infer_instance
/-- The same layer: its numbers, its lists' lengths, what they hold. -/
def hdE (A B : Ly) : Prop := A.kd = B.kd ∧ A.wt = B.wt ∧ A.k = B.k ∧ wnE A B ∧ A.bd = B.bd ∧ A.mw = B.mw ∧ A.mn = B.mn ∧ A.mb = B.mb
instance (A B : Ly) : Decidable (hdE A B) := by unfold hdE; infer_instance
def lyE (A B : Ly) : Prop := hdE A B ∧ (∀ j, j < A.mw → A.ws j = B.ws j) ∧ (∀ j, j < A.mn → nsE A B j) ∧ (∀ j, j < A.mb → A.bs j = B.bs j)
instance (A B : Ly) : Decidable (lyE A B) := by unfold lyE; infer_instance
/-- Two layers that lie in two blocks. -/
def L2 (w W : World) (A B : Ly) : Prop := Below w.heap.size w W ∧ Lp W w.heap.size A ∧ Lp W (w.heap.size + 1) B
end Go.Proofs.Ytkhlhcbbbhbgeaa.Nn
/- THE DOCUMENT'S NETWORKS: TWO LAYERS HELD AGAINST EACH OTHER. -/
namespace Go.Proofs.Ytkhlhcbbbhbgeaa.Nn
open Go.RowKit
end Go.Proofs.Ytkhlhcbbbhbgeaa.Nn
/- THE DOCUMENT'S NETWORKS: TWO LAYERS OF THE SAME NUMBERS HELD AGAINST EACH OTHER. -/
namespace Go.Proofs.Ytkhlhcbbbhbgeaa.Nn
open Go.RowKit

theorem L2.keep {w W X : World} {A B : Ly} (h : L2 w W A B) (hb : Below W.heap.size W X) : L2 w X A B := ⟨bl_step h.1 hb, h.2.1.keep hb, h.2.2.keep hb⟩
theorem nrm_eqlN (A B : Ly) (j : Nat) (w : World) : (Op.equalIn 10000 62 (nrv (A.ns j 0) (A.ns j 1) (A.ns j 2) (A.ns j 3) (A.ns j 4) (A.ns j 5) (A.ns j 6) (A.ns j 7)) (nrv (B.ns j 0) (B.ns j 1) (B.ns j 2) (B.ns j 3) (B.ns j 4) (B.ns j 5) (B.ns j 6) (B.ns j 7))).run Try.prog w = .ok (decide (nsE A B j)) w := by
  rw [nrm_eql]
  by_cases h : nsE A B j
  · rw [decide_eq_true h, decide_eq_true]; exact h
  · rw [decide_eq_false h, decide_eq_false]; exact h
theorem all_more {n : Nat} {P : Nat → Prop} {k : Nat} (h : ∀ j, j < k → P j) (hk : P k) (hn : n = k + 1) : ∀ j, j < n → P j := fun j hj => by
  subst hn
  by_cases e : j = k
  · rw [e]; exact hk
  · exact h j (by omega)
end Go.Proofs.Ytkhlhcbbbhbgeaa.Nn
/- THE DOCUMENT'S NETWORKS: ANY TWO HELD AGAINST EACH OTHER. -/
namespace Go.Proofs.Ytkhlhcbbbhbgeaa.Nn
open Go.RowKit

theorem meetE {J K : Act → World → Prop} {Q : Exit → Act → World → Prop} {a : Act} {w : World} (hK : ∀ a' w', Met J a' w' → K a' w') (h : Met J a w) : Exit.then K Q Exit.normal a w := hK _ _ h
theorem win_eqlN (A B : Ly) (w : World) : (Op.equalIn 10000 43 (win A.r A.s A.sy A.sx A.t A.l A.b A.q) (win B.r B.s B.sy B.sx B.t B.l B.b B.q)).run Try.prog w = .ok (decide (wnE A B)) w := by
  rw [win_eql]
  by_cases h : wnE A B
  · rw [decide_eq_true h, decide_eq_true]; exact h
  · rw [decide_eq_false h, decide_eq_false]; exact h
theorem kpE {U X : World} {b1 b2 g o g' o' k m1 c1 m2 c2 : Nat} {A B : Ly} (n1 : U.cell? ⟨b1, 4, none⟩ = some (.slice (some ⟨g, o, none⟩) m1 c1)) (n2 : U.cell? ⟨b2, 4, none⟩ = some (.slice (some ⟨g', o', none⟩) m2 c2)) (hA : Lc U g (o + k * 15) A) (hB : Lc U g' (o' + k * 15) B) (hb : Below U.heap.size U X) : X.cell? ⟨b1, 4, none⟩ = some (.slice (some ⟨g, o, none⟩) m1 c1) ∧ X.cell? ⟨b2, 4, none⟩ = some (.slice (some ⟨g', o', none⟩) m2 c2) ∧ X.cell? ⟨g, o + k * 15, none⟩ = some (.int .i64 A.kd) ∧ X.cell? ⟨g, o + k * 15 + 1, none⟩ = some (.int .i64 A.wt) ∧ X.cell? ⟨g, o + k * 15 + 2, none⟩ = some (.int .i64 A.k) ∧ X.cell? ⟨g, o + k * 15 + 3, none⟩ = some (.int .i64 A.r) ∧ X.cell? ⟨g, o + k * 15 + 4, none⟩ = some (.int .i64 A.s) ∧ X.cell? ⟨g, o + k * 15 + 5, none⟩ = some (.int .i64 A.sy) ∧ X.cell? ⟨g, o + k * 15 + 6, none⟩ = some (.int .i64 A.sx) ∧ X.cell? ⟨g, o + k * 15 + 7, none⟩ = some (.int .i64 A.t) ∧ X.cell? ⟨g, o + k * 15 + 8, none⟩ = some (.int .i64 A.l) ∧ X.cell? ⟨g, o + k * 15 + 9, none⟩ = some (.int .i64 A.b) ∧ X.cell? ⟨g, o + k * 15 + 10, none⟩ = some (.int .i64 A.q) ∧ X.cell? ⟨g, o + k * 15 + 11, none⟩ = some (.int .i64 A.bd) ∧ X.cell? ⟨g, o + k * 15 + 12, none⟩ = some (.slice A.aw A.mw A.cw) ∧ X.cell? ⟨g, o + k * 15 + 13, none⟩ = some (.slice A.an A.mn A.cn) ∧ X.cell? ⟨g, o + k * 15 + 14, none⟩ = some (.slice A.ab A.mb A.cb) ∧ X.cell? ⟨g', o' + k * 15, none⟩ = some (.int .i64 B.kd) ∧ X.cell? ⟨g', o' + k * 15 + 1, none⟩ = some (.int .i64 B.wt) ∧ X.cell? ⟨g', o' + k * 15 + 2, none⟩ = some (.int .i64 B.k) ∧ X.cell? ⟨g', o' + k * 15 + 3, none⟩ = some (.int .i64 B.r) ∧ X.cell? ⟨g', o' + k * 15 + 4, none⟩ = some (.int .i64 B.s) ∧ X.cell? ⟨g', o' + k * 15 + 5, none⟩ = some (.int .i64 B.sy) ∧ X.cell? ⟨g', o' + k * 15 + 6, none⟩ = some (.int .i64 B.sx) ∧ X.cell? ⟨g', o' + k * 15 + 7, none⟩ = some (.int .i64 B.t) ∧ X.cell? ⟨g', o' + k * 15 + 8, none⟩ = some (.int .i64 B.l) ∧ X.cell? ⟨g', o' + k * 15 + 9, none⟩ = some (.int .i64 B.b) ∧ X.cell? ⟨g', o' + k * 15 + 10, none⟩ = some (.int .i64 B.q) ∧ X.cell? ⟨g', o' + k * 15 + 11, none⟩ = some (.int .i64 B.bd) ∧ X.cell? ⟨g', o' + k * 15 + 12, none⟩ = some (.slice B.aw B.mw B.cw) ∧ X.cell? ⟨g', o' + k * 15 + 13, none⟩ = some (.slice B.an B.mn B.cn) ∧ X.cell? ⟨g', o' + k * 15 + 14, none⟩ = some (.slice B.ab B.mb B.cb) := by
  obtain ⟨c0, c1, c2, c3, c4, c5, c6, c7, c8, c9, c10, c11, c12, c13, c14⟩ := hA
  obtain ⟨d0, d1, d2, d3, d4, d5, d6, d7, d8, d9, d10, d11, d12, d13, d14⟩ := hB
  exact ⟨keepc hb n1, keepc hb n2, keepc hb c0, keepc hb c1, keepc hb c2, keepc hb c3, keepc hb c4, keepc hb c5, keepc hb c6, keepc hb c7, keepc hb c8, keepc hb c9, keepc hb c10, keepc hb c11, keepc hb c12, keepc hb c13, keepc hb c14, keepc hb d0, keepc hb d1, keepc hb d2, keepc hb d3, keepc hb d4, keepc hb d5, keepc hb d6, keepc hb d7, keepc hb d8, keepc hb d9, keepc hb d10, keepc hb d11, keepc hb d12, keepc hb d13, keepc hb d14⟩
/-- The same network. -/
def inE (M N : Nt) : Prop := M.h = N.h ∧ M.v = N.v ∧ M.c = N.c
instance (M N : Nt) : Decidable (inE M N) := by unfold inE; infer_instance
def ntE (M N : Nt) : Prop := M.nm.toList = N.nm.toList ∧ inE M N ∧ M.ml = N.ml ∧ ∀ j, j < M.ml → lyE (M.lf j) (N.lf j)
instance (M N : Nt) : Decidable (ntE M N) := by unfold ntE; infer_instance
theorem shp_eqlN (M N : Nt) (w : World) : (Op.equalIn 10000 28 (shp M.h M.v M.c) (shp N.h N.v N.c)).run Try.prog w = .ok (decide (inE M N)) w := by
  rw [shp_eql]
  by_cases h : inE M N
  · rw [decide_eq_true h, decide_eq_true]; exact h
  · rw [decide_eq_false h, decide_eq_false]; exact h
def N2 (w W : World) (M N : Nt) : Prop := Below w.heap.size w W ∧ Nb W w.heap.size M ∧ Nb W (w.heap.size + 1) N
theorem N2.keep {w W X : World} {M N : Nt} (h : N2 w W M N) (hb : Below W.heap.size W X) : N2 w X M N := ⟨bl_step h.1 hb, h.2.1.keep hb, h.2.2.keep hb⟩
theorem nb_new' {W : World} {g : Nat} (hg : W.heap.size = g) (N : Nt) (t : TypeId) : Nb (W.alloc (.cells #[.string N.nm, .int .i64 N.h, .int .i64 N.v, .int .i64 N.c, .slice N.al N.ml N.cl] t)) g N := by
  subst hg; exact nb_new _ _ _
end Go.Proofs.Ytkhlhcbbbhbgeaa.Nn
/- NETWORKS: LISTS HELD AGAINST EACH OTHER (slices.Equal). -/
namespace Go.Proofs.Ytkhlhcbbbhbgeaa.Nn
open Go.RowKit

def wtsE (A B : Ly) : Prop := A.mw = B.mw ∧ ∀ j, j < A.mw → A.ws j = B.ws j
instance (A B : Ly) : Decidable (wtsE A B) := by unfold wtsE; infer_instance
def nmsE (A B : Ly) : Prop := A.mn = B.mn ∧ ∀ j, j < A.mn → nsE A B j
instance (A B : Ly) : Decidable (nmsE A B) := by unfold nmsE; infer_instance
def bisE (A B : Ly) : Prop := A.mb = B.mb ∧ ∀ j, j < A.mb → A.bs j = B.bs j
instance (A B : Ly) : Decidable (bisE A B) := by unfold bisE; infer_instance
end Go.Proofs.Ytkhlhcbbbhbgeaa.Nn
/- NETWORKS: TWO LAYERS HELD AGAINST EACH OTHER (net.sameLayer). -/
namespace Go.Proofs.Ytkhlhcbbbhbgeaa.Nn
open Go.RowKit

theorem lyE_of {A B : Ly} (h0 : A.kd = B.kd) (h1 : A.wt = B.wt) (h2 : A.k = B.k) (h3 : wnE A B) (h4 : A.bd = B.bd) (h5 : wtsE A B) (h6 : nmsE A B) (h7 : bisE A B) : lyE A B := ⟨⟨h0, h1, h2, h3, h4, h5.1, h6.1, h7.1⟩, h5.2, h6.2, h7.2⟩
theorem lyE_to {A B : Ly} (h : lyE A B) : A.kd = B.kd ∧ A.wt = B.wt ∧ A.k = B.k ∧ wnE A B ∧ A.bd = B.bd ∧ wtsE A B ∧ nmsE A B ∧ bisE A B := ⟨h.1.1, h.1.2.1, h.1.2.2.1, h.1.2.2.2.1, h.1.2.2.2.2.1, ⟨h.1.2.2.2.2.2.1, h.2.1⟩, ⟨h.1.2.2.2.2.2.2.1, h.2.2.1⟩, ⟨h.1.2.2.2.2.2.2.2, h.2.2.2⟩⟩
end Go.Proofs.Ytkhlhcbbbhbgeaa.Nn
/- NETWORKS: ANY TWO HELD AGAINST EACH OTHER (slices.EqualFunc, net.Equal). -/
namespace Go.Proofs.Ytkhlhcbbbhbgeaa.Nn
open Go.RowKit

def lsE (M N : Nt) : Prop := M.ml = N.ml ∧ ∀ j, j < M.ml → lyE (M.lf j) (N.lf j)
instance (M N : Nt) : Decidable (lsE M N) := by unfold lsE; infer_instance
end Go.Proofs.Ytkhlhcbbbhbgeaa.Nn
/- NETWORKS: A LIST'S COPY (slices.Clone), AT THE FOUR TYPES OF A NETWORK'S LISTS. -/
namespace Go.Proofs.Ytkhlhcbbbhbgeaa.Nn
open Go.RowKit

/-- The cells of a list lie behind each other. -/
def Lay (W : World) (g o : Nat) (xs : List Value) : Prop := ∀ j u, xs[j]? = some u → W.cell? ⟨g, o + j, none⟩ = some u
theorem Lay.keep {W X : World} {g o : Nat} {xs : List Value} (h : Lay W g o xs) (hb : Below W.heap.size W X) : Lay X g o xs := fun j u hu => keepc hb (h j u hu)
theorem Lay.add {W : World} {g o : Nat} {xs : List Value} (h : Lay W g o xs) : ∀ j u, xs[j]? = some u → W.cell? ((⟨g, o, none⟩ : Addr).add j) = some u := fun j u hu => by
  have c := h j u hu
  by_cases e : j = 0
  · subst e; simpa [Addr.add] using c
  · simpa [Addr.add, e] using c
/-- The same, behind any address. -/
def LayA (W : World) (ad : Addr) (xs : List Value) : Prop := ∀ j u, xs[j]? = some u → W.cell? (ad.add j) = some u
theorem LayA.alloc {W : World} {ad : Addr} {xs : List Value} (h : LayA W ad xs) (ob : Obj) : LayA (W.alloc ob) ad xs := fun j u hu => (World.cell?_alloc_some W _ ob (by rw [h j u hu]; rfl)).trans (h j u hu)
def zLy : Value := .agg #[.int .i64 0, .int .i64 0, .int .i64 0, .int .i64 0, .int .i64 0, .int .i64 0, .int .i64 0, .int .i64 0, .int .i64 0, .int .i64 0, .int .i64 0, .int .i64 0, .slice none 0 0, .slice none 0 0, .slice none 0 0]
def zNm : Value := .agg #[.int .i64 0, .int .i64 0, .int .i64 0, .int .i64 0, .int .i64 0, .int .i64 0, .int .i64 0, .int .i64 0]
theorem cundW : Try.prog.underlying 44 = some (.slice 60) := by kernel_rfl
theorem cinfW : (Try.prog.info? 60).map (fun i => (i.zero, i.size, i.bytes)) = some (some (.int .i8 0), 1, 1) := by kernel_rfl
theorem cundN : Try.prog.underlying 45 = some (.slice 62) := by kernel_rfl
theorem cinfN : (Try.prog.info? 62).map (fun i => (i.zero, i.size, i.bytes)) = some (some zNm, 8, 64) := by kernel_rfl
theorem cundB : Try.prog.underlying 34 = some (.slice 2) := by kernel_rfl
theorem cinfB : (Try.prog.info? 2).map (fun i => (i.zero, i.size, i.bytes)) = some (some (.int .i64 0), 1, 8) := by kernel_rfl
theorem cundL : Try.prog.underlying 29 = some (.slice 47) := by kernel_rfl
theorem cinfL : (Try.prog.info? 47).map (fun i => (i.zero, i.size, i.bytes)) = some (some zLy, 15, 168) := by kernel_rfl
end Go.Proofs.Ytkhlhcbbbhbgeaa.Nn
/- NETWORKS: THE COPIES OF A LAYER'S LISTS. -/
namespace Go.Proofs.Ytkhlhcbbbhbgeaa.Nn
open Go.RowKit

/-- The cells of a list, by their places. -/
def cl (n : Nat) (f : Nat → Value) : List Value := (List.range n).map f
theorem cl_len (n : Nat) (f : Nat → Value) : (cl n f).length = n := by simp [cl]
theorem cl_get {n : Nat} {f : Nat → Value} {j : Nat} {u : Value} (h : (cl n f)[j]? = some u) : j < n ∧ u = f j := by
  unfold cl at h
  rw [List.getElem?_map] at h
  by_cases hj : j < n
  · rw [List.getElem?_range hj] at h
    simp at h
    exact ⟨hj, h.symm⟩
  · rw [List.getElem?_eq_none (by simpa using hj)] at h
    cases h
theorem cl_at {n : Nat} {f : Nat → Value} {j : Nat} (h : j < n) : (cl n f)[j]? = some (f j) := by
  unfold cl
  rw [List.getElem?_map, List.getElem?_range h]; rfl
theorem cl_mem {n : Nat} {f : Nat → Value} {u : Value} (h : u ∈ cl n f) : ∃ j, u = f j := by
  obtain ⟨k, _, rfl⟩ := List.mem_map.1 h
  exact ⟨k, rfl⟩
/-- A list of one cell each that lies anywhere, or is nothing. -/
theorem lay_of {w : World} {ad : Addr} {n : Nat} {f : Nat → Value} (h : ∀ j, j < n → ∃ g o, some ad = some (⟨g, o, none⟩ : Addr) ∧ w.cell? ⟨g, o + j, none⟩ = some (f j)) : LayA w ad (cl n f) := fun j u hu => by
  obtain ⟨hj, rfl⟩ := cl_get hu
  obtain ⟨g, o, e, c⟩ := h j hj
  cases e
  by_cases e : j = 0
  · subst e; simpa [Addr.add] using c
  · simpa [Addr.add, e] using c
/-- A norm's cells, by their places. -/
def nmc (L : Ly) (x : Nat) : Value := .int .i64 (L.ns (x / 8) (x % 8))
theorem nmo_cells {W : World} {g o : Nat} {f : Nat → Int} (h : Nmo W g o (f 0) (f 1) (f 2) (f 3) (f 4) (f 5) (f 6) (f 7)) (i : Nat) (hi : i < 8) : W.cell? ⟨g, o + i, none⟩ = some (.int .i64 (f i)) := by
  obtain ⟨a, b, c, d, e, x, y, z⟩ := h
  rcases (show i = 0 ∨ i = 1 ∨ i = 2 ∨ i = 3 ∨ i = 4 ∨ i = 5 ∨ i = 6 ∨ i = 7 by omega) with rfl | rfl | rfl | rfl | rfl | rfl | rfl | rfl <;> assumption
theorem lay_nms {w : World} {ad : Addr} {L : Ly} (h : ∀ j, j < L.mn → ∃ g o, some ad = some (⟨g, o, none⟩ : Addr) ∧ Nmo w g (o + j * 8) (L.ns j 0) (L.ns j 1) (L.ns j 2) (L.ns j 3) (L.ns j 4) (L.ns j 5) (L.ns j 6) (L.ns j 7)) : LayA w ad (cl (L.mn * 8) (nmc L)) := lay_of fun x hx => by
  obtain ⟨g, o, e, c⟩ := h (x / 8) (by omega)
  refine ⟨g, o, e, ?_⟩
  have := nmo_cells c (x % 8) (by omega)
  rw [show o + x / 8 * 8 + x % 8 = o + x by omega] at this
  exact this
end Go.Proofs.Ytkhlhcbbbhbgeaa.Nn
/- NETWORKS: A LAYER'S LISTS COPIED (net.Clone's region 5). -/
namespace Go.Proofs.Ytkhlhcbbbhbgeaa.Nn
open Go.RowKit

/-- Where a copy of a list lies. -/
def CpW (X : World) (b : Nat) (L : Ly) (a : Option Addr) : Prop := ∀ j, j < L.mw → ∃ g, a = some ⟨g, 0, none⟩ ∧ b ≤ g ∧ X.cell? ⟨g, j, none⟩ = some (.int .i8 (L.ws j))
def CpN (X : World) (b : Nat) (L : Ly) (a : Option Addr) : Prop := ∀ j, j < L.mn → ∃ g, a = some ⟨g, 0, none⟩ ∧ b ≤ g ∧ Nmo X g (j * 8) (L.ns j 0) (L.ns j 1) (L.ns j 2) (L.ns j 3) (L.ns j 4) (L.ns j 5) (L.ns j 6) (L.ns j 7)
def CpB (X : World) (b : Nat) (L : Ly) (a : Option Addr) : Prop := ∀ j, j < L.mb → ∃ g, a = some ⟨g, 0, none⟩ ∧ b ≤ g ∧ X.cell? ⟨g, j, none⟩ = some (.int .i64 (L.bs j))
def HeC (X : World) (bl : Nat) (L : Ly) : Prop := X.cell? ⟨bl, 12, none⟩ = some (.slice L.aw L.mw L.cw) ∧ X.cell? ⟨bl, 13, none⟩ = some (.slice L.an L.mn L.cn) ∧ X.cell? ⟨bl, 14, none⟩ = some (.slice L.ab L.mb L.cb) ∧ X.frozen? ⟨bl, 12, none⟩ = false ∧ X.frozen? ⟨bl, 13, none⟩ = false ∧ X.frozen? ⟨bl, 14, none⟩ = false
theorem keepf {W w' : World} (hb : Below W.heap.size W w') {b o : Nat} (hlt : b < W.heap.size) (h : W.frozen? ⟨b, o, none⟩ = false) : w'.frozen? ⟨b, o, none⟩ = false := (hb.frozen (p := ⟨b, o, none⟩) hlt).trans h
theorem HeC.keep {W X : World} {bl : Nat} {L : Ly} (h : HeC W bl L) (hb : Below W.heap.size W X) : HeC X bl L :=
  have hl := lt_of_cell h.1
  ⟨keepc hb h.1, keepc hb h.2.1, keepc hb h.2.2.1, keepf hb hl h.2.2.2.1, keepf hb hl h.2.2.2.2.1, keepf hb hl h.2.2.2.2.2⟩
attribute [local go_sem ↓] Go.wp_at_zero Go.wp_at_succ
end Go.Proofs.Ytkhlhcbbbhbgeaa.Nn
/- NETWORKS: THE COPIES OF A LAYER'S LISTS, each in memory of its own. -/
namespace Go.Proofs.Ytkhlhcbbbhbgeaa.Nn
open Go.RowKit

theorem own_blT {w x : World} {base e size n : Nat} {v : Value} {xs : List Value} (h : w.ownsRow base e size v n xs) (hb : Below w.heap.size w x) : x.ownsRow base e size v n xs :=
  h.kept (row := none) ⟨hb.os, hb.tape, hb.output, hb.size, fun k hk _ => hb.block k hk⟩ (by cases hv : v.ownBlock; exact .inl rfl; exact .inr (by simp))
/-- A layer's lists, copied: each in memory of its own. -/
def Co (X : World) (b : Nat) (L : Ly) (a1 : Option Addr) (c1 : Nat) (a2 : Option Addr) (c2 : Nat) (a3 : Option Addr) (c3 : Nat) : Prop := X.ownsRow b 60 1 (.slice a1 L.mw c1) L.mw (cl L.mw fun j => .int .i8 (L.ws j)) ∧ X.ownsRow b 62 8 (.slice a2 L.mn c2) L.mn (cl (L.mn * 8) (nmc L)) ∧ X.ownsRow b 2 1 (.slice a3 L.mb c3) L.mb (cl L.mb fun j => .int .i64 (L.bs j))
attribute [local go_sem ↓] Go.wp_at_zero Go.wp_at_succ
end Go.Proofs.Ytkhlhcbbbhbgeaa.Nn
/- NETWORKS THAT ARE MADE: how they lie in memory. -/
namespace Go.Proofs.Ytkhlhcbbbhbgeaa.Nn
open Go.RowKit

/-- Lists of pieces. -/
def rl (F : Nat → List Value) : Nat → List Value
  | 0 => []
  | n + 1 => rl F n ++ F n
theorem rl_len {F : Nat → List Value} {s : Nat} (h : ∀ j, (F j).length = s) : ∀ n, (rl F n).length = n * s
  | 0 => by simp [rl]
  | n + 1 => by rw [rl, List.length_append, rl_len h n, h, Nat.succ_mul]
theorem rl_get {F : Nat → List Value} {s : Nat} (h : ∀ j, (F j).length = s) : ∀ n {j c : Nat}, j < n → c < s → (rl F n)[j * s + c]? = (F j)[c]?
  | 0, j, c, hj, hc => by omega
  | n + 1, j, c, hj, hc => by
    rw [rl]
    by_cases hjn : j < n
    · have hl : j * s + s ≤ n * s := by have := Nat.mul_le_mul_right s (show j + 1 ≤ n by omega); rw [Nat.succ_mul] at this; exact this
      rw [List.getElem?_append_left (by rw [rl_len h]; omega)]
      exact rl_get h n hjn hc
    · obtain rfl : j = n := by omega
      rw [List.getElem?_append_right (by rw [rl_len h]; omega), rl_len h, Nat.add_sub_cancel_left]
theorem rl_congr {F G : Nat → List Value} : ∀ n, (∀ j, j < n → F j = G j) → rl F n = rl G n
  | 0, _ => rfl
  | n + 1, h => by rw [rl, rl, rl_congr n fun j hj => h j (by omega), h n (by omega)]
theorem nmL_rl (ns : Nat → Nat → Int) : ∀ n, nmL ns n = rl (fun j => nmC (ns j)) n
  | 0 => rfl
  | n + 1 => by rw [nmL, rl, nmL_rl ns n]
/-- A layer's fifteen cells. -/
def lyC (L : Ly) : List Value := [.int .i64 L.kd, .int .i64 L.wt, .int .i64 L.k, .int .i64 L.r, .int .i64 L.s, .int .i64 L.sy, .int .i64 L.sx, .int .i64 L.t, .int .i64 L.l, .int .i64 L.b, .int .i64 L.q, .int .i64 L.bd, .slice L.aw L.mw L.cw, .slice L.an L.mn L.cn, .slice L.ab L.mb L.cb]
abbrev lyLs (lf : Nat → Ly) (n : Nat) : List Value := rl (fun j => lyC (lf j)) n
theorem own_cellsS {W : World} {base e s n uc : Nat} {ua : Option Addr} {xs : List Value} (h : W.ownsRow base e s (.slice ua n uc) n xs) (hn : 1 ≤ n) : ∃ g, ua = some ⟨g, 0, none⟩ ∧ n ≤ uc ∧ base ≤ g ∧ g < W.heap.size ∧ ∀ k, k < n * s → W.cell? ⟨g, k, none⟩ = xs[k]? := by
  rcases h.2 with ⟨_, h0⟩ | ⟨g, cap, cur, hv, hb, hg, h4, h5, h6, h7⟩
  · omega
  · cases hv
    refine ⟨g, rfl, h4, hb, (Array.getElem?_eq_some_iff.1 hg).1, fun k hk => ?_⟩
    rw [← h7, List.getElem?_take_of_lt hk]
    rw [Array.getElem?_toList]
    simp [World.cell?, hg]
theorem own_setD {W : World} {base e size n c j : Nat} {v : Value} {xs : List Value} {u : Value} (h : W.ownsRow base e size v n xs) (hc : c < base) : (W.setCell ⟨c, j, none⟩ u).ownsRow base e size v n xs :=
  h.kept (row := some c) ⟨rfl, rfl, rfl, by simp, fun k _ hne => Below.heap_setCell _ _ _ _ (fun e => hne (by rw [e]))⟩ (by
    cases hv : v.ownBlock with
    | none => exact .inl rfl
    | some q => exact .inr (fun e => by cases e; have := (h.lt c hv).1; omega))
theorem own_neD {W : World} {b1 b2 e1 e2 s1 s2 n1 n2 : Nat} {v1 v2 : Value} {x1 x2 : List Value} (h1 : W.ownsRow b1 e1 s1 v1 n1 x1) (h2 : W.ownsRow b2 e2 s2 v2 n2 x2) (hne : e1 ≠ e2) : v1.ownBlock = none ∨ v1.ownBlock ≠ v2.ownBlock := by
  rcases h1.2 with ⟨e, _⟩ | ⟨g, c, cu, e, _, hg, _⟩
  · subst e; exact .inl rfl
  · refine .inr fun he => ?_
    rcases h2.2 with ⟨e', _⟩ | ⟨g', c', cu', e', _, hg', _⟩
    · subst e e'; cases he
    · subst e e'
      have : g = g' := by simpa [Value.ownBlock] using he
      subst this
      rw [hg] at hg'
      simp at hg'
      exact hne hg'.2
/-- A layer's lists, each in memory of its own. -/
def Lo (W : World) (base : Nat) (L : Ly) : Prop := W.ownsRow base 60 1 (.slice L.aw L.mw L.cw) L.mw (i8L ((List.range L.mw).map L.ws)) ∧ W.ownsRow base 62 8 (.slice L.an L.mn L.cn) L.mn (nmL L.ns L.mn) ∧ W.ownsRow base 2 1 (.slice L.ab L.mb L.cb) L.mb (i64L ((List.range L.mb).map L.bs))
theorem Lo.mono {W : World} {b1 b2 : Nat} {L : Ly} (h : Lo W b1 L) (hb : b2 ≤ b1) : Lo W b2 L := ⟨h.1.mono hb, h.2.1.mono hb, h.2.2.mono hb⟩
theorem Lo.bl {W X : World} {base : Nat} {L : Ly} (h : Lo W base L) (hb : Below W.heap.size W X) : Lo X base L := ⟨own_bl h.1 hb, own_bl h.2.1 hb, own_bl h.2.2 hb⟩
theorem Lo.set {W : World} {base c j : Nat} {L : Ly} {u : Value} (h : Lo W base L) (hc : c < base) : Lo (W.setCell ⟨c, j, none⟩ u) base L := ⟨own_setD h.1 hc, own_setD h.2.1 hc, own_setD h.2.2 hc⟩
theorem Lo.but {W X : World} {base c : Nat} {L : Ly} (h : Lo W base L) (hg : W.grownBy X (some c)) (hc : c < base) : Lo X base L := by
  have k : ∀ {e s n : Nat} {v : Value} {xs : List Value}, W.ownsRow base e s v n xs → X.ownsRow base e s v n xs := fun {e s n v xs} h => h.kept hg (by
    cases hv : v.ownBlock with
    | none => exact .inl rfl
    | some q => exact .inr (fun e => by cases e; have := (h.lt c hv).1; omega))
  exact ⟨k h.1, k h.2.1, k h.2.2⟩
theorem Lo.grow {W X : World} {base b2 s2 n2 e2 : Nat} {v2 : Value} {x2 : List Value} {L : Ly} (h : Lo W base L) (h2 : W.ownsRow b2 e2 s2 v2 n2 x2) (h8 : 60 ≠ e2) (hn : 62 ≠ e2) (h6 : 2 ≠ e2) (hg : W.grownBy X v2.ownBlock) : Lo X base L :=
  ⟨h.1.kept hg (own_neD h.1 h2 h8), h.2.1.kept hg (own_neD h.2.1 h2 hn), h.2.2.kept hg (own_neD h.2.2 h2 h6)⟩
theorem Lo.lst {W : World} {base : Nat} {L : Ly} (h : Lo W base L) (h1 : L.mw ≤ 1000000) (h2 : L.mn ≤ 1000000) (h3 : L.mb ≤ 1000000) : Lst W L := by
  refine ⟨fun j hj => ?_, fun j hj => ?_, fun j hj => ?_, by omega, by omega, by omega⟩
  · obtain ⟨g, e, -, -, -, hc⟩ := own_cellsS h.1 (by omega)
    refine ⟨g, 0, e, ?_⟩
    rw [Nat.zero_add, hc j (by omega)]
    simp [i8L, hj]
  · obtain ⟨g, e, -, -, -, hc⟩ := own_cellsS h.2.1 (by omega)
    refine ⟨g, 0, e, ?_⟩
    have hm : j * 8 + 8 ≤ L.mn * 8 := by omega
    have key : ∀ c, c < 8 → W.cell? ⟨g, 0 + j * 8 + c, none⟩ = (nmC (L.ns j))[c]? := fun c hc' => by
      rw [Nat.zero_add, hc _ (by omega), nmL_rl]
      exact rl_get (s := 8) (fun _ => rfl) L.mn hj hc'
    exact ⟨key 0 (by decide), key 1 (by decide), key 2 (by decide), key 3 (by decide), key 4 (by decide), key 5 (by decide), key 6 (by decide), key 7 (by decide)⟩
  · obtain ⟨g, e, -, -, -, hc⟩ := own_cellsS h.2.2 (by omega)
    refine ⟨g, 0, e, ?_⟩
    rw [Nat.zero_add, hc j (by omega)]
    simp [i64L, hj]
theorem info_lyD : (Try.prog.info? 47).map (fun i => (i.zero, i.size, i.bytes)) = some (some (.agg #[.int .i64 0, .int .i64 0, .int .i64 0, .int .i64 0, .int .i64 0, .int .i64 0, .int .i64 0, .int .i64 0, .int .i64 0, .int .i64 0, .int .i64 0, .int .i64 0, .slice none 0 0, .slice none 0 0, .slice none 0 0]), 15, 168) := by kernel_rfl
theorem und_lyD : Try.prog.underlying 29 = some (.slice 47) := by kernel_rfl
theorem app_lyD {ops : Array Oper} {rest : List Oper} {o : Oper} {a : Act} {Q : Exit → Act → World → Prop} {w : World} (hgd : o.guard = none) (s x : Operand)
    (ho : o.op = .call { callee := .builtin .append, args := #[s, x], argTypes := #[29, 29] }) (base : Nat) (v : Value) (xs : List Value) (n : Nat) (hs : a.eval s = v) (hown : w.ownsRow base 47 15 v n xs)
    (g : Nat) (L : Ly) (cb : Nat) (hx : a.eval x = .slice (some ⟨g, 0, none⟩) 1 cb) (hr : Lp w g L) (hM : n ≤ 1000000000) (hb : base ≤ w.heap.size)
    (h : ∀ v' w', w'.ownsRow base 47 15 v' (n + 1) (xs ++ lyC L) → w.grownBy w' v.ownBlock → wpList Try.prog ops Q rest (a.put o.dst v') w') : wpList Try.prog ops Q (o :: rest) a w := by
  obtain ⟨i0, hi, hz0, hz1, hz2⟩ := info_parts info_lyD
  obtain ⟨r0, r1, r2, r3, r4, r5, r6, r7, r8, r9, r10, r11, r12, r13, r14⟩ := hr
  refine wpList_append_own_at w hgd s x _ ho base 47 i0 _ 15 168 und_lyD hi hz0 hz1 hz2 rfl (by decide) v n xs hs hown ⟨g, 0, none⟩ 1 cb (lyC L) hx rfl
    (fun j u hu => ?_) (fun u hu => by simp [lyC] at hu; rcases hu with rfl | rfl | rfl | rfl | rfl | rfl | rfl | rfl | rfl | rfl | rfl | rfl | rfl | rfl | rfl <;> rfl) (by unfold maxLen; omega) (by omega) hb ?_
  · rcases j with _ | _ | _ | _ | _ | _ | _ | _ | _ | _ | _ | _ | _ | _ | _ | j
    · simp [lyC] at hu; subst hu; exact r0
    · simp [lyC] at hu; subst hu; exact r1
    · simp [lyC] at hu; subst hu; exact r2
    · simp [lyC] at hu; subst hu; exact r3
    · simp [lyC] at hu; subst hu; exact r4
    · simp [lyC] at hu; subst hu; exact r5
    · simp [lyC] at hu; subst hu; exact r6
    · simp [lyC] at hu; subst hu; exact r7
    · simp [lyC] at hu; subst hu; exact r8
    · simp [lyC] at hu; subst hu; exact r9
    · simp [lyC] at hu; subst hu; exact r10
    · simp [lyC] at hu; subst hu; exact r11
    · simp [lyC] at hu; subst hu; exact r12
    · simp [lyC] at hu; subst hu; exact r13
    · simp [lyC] at hu; subst hu; exact r14
    · simp [lyC] at hu
  · intro v' w' h1 h2 _ _
    exact h v' w' h1 h2
/-- A network that lies so is one that may be asked. -/
theorem mk_net {W : World} {base : Nat} {H V C : Int} {M : Nat} {ua : Option Addr} {uc : Nat} {lf : Nat → Ly} (hM : 1 ≤ M ∧ M ≤ 64) (hrow : W.ownsRow base 47 15 (.slice ua M uc) M (lyLs lf M)) (hlo : ∀ j, j < M → Lo W base (lf j) ∧ (lf j).mw ≤ 1000000 ∧ (lf j).mn ≤ 1000000 ∧ (lf j).mb ≤ 1000000) : NtW W (mkN H V C M ua uc lf) := by
  obtain ⟨g, e, -, -, -, hc⟩ := own_cellsS hrow hM.1
  refine ⟨fun j hj => ?_, by show M ≤ _; omega, (show (7 : Nat) ≤ 9223372036854775807 by decide)⟩
  have hj : j < M := hj
  have key : ∀ c, c < 15 → W.cell? ⟨g, 0 + j * 15 + c, none⟩ = (lyC (lf j))[c]? := fun c hc' => by
    rw [Nat.zero_add, hc _ (by omega)]
    exact rl_get (s := 15) (fun _ => rfl) M hj hc'
  obtain ⟨h1, h2, h3, h4⟩ := hlo j hj
  exact ⟨g, 0, e, ⟨key 0 (by decide), key 1 (by decide), key 2 (by decide), key 3 (by decide), key 4 (by decide), key 5 (by decide), key 6 (by decide), key 7 (by decide), key 8 (by decide), key 9 (by decide), key 10 (by decide), key 11 (by decide), key 12 (by decide), key 13 (by decide), key 14 (by decide)⟩, h1.lst h2 h3 h4⟩
end Go.Proofs.Ytkhlhcbbbhbgeaa.Nn
/- NETWORKS THAT ARE MADE: the state under way. -/
namespace Go.Proofs.Ytkhlhcbbbhbgeaa.Nn
open Go.RowKit

def netF (s : ByteArray) (H V C : Int) (u : Value) : Nat → Value := fun i => if i = 0 then .string s else if i = 1 then .int .i64 H else if i = 2 then .int .i64 V else if i = 3 then .int .i64 C else u
def shF (h v c : Int) : Nat → Value := fun i => if i = 0 then .int .i64 h else if i = 1 then .int .i64 v else .int .i64 c
def wnF (r s sy sx : Int) : Nat → Value := fun i => if i = 0 then .int .i64 r else if i = 1 then .int .i64 s else if i = 2 then .int .i64 sy else if i = 3 then .int .i64 sx else .int .i64 0
def lyf (L : Ly) : Nat → Value := fun i => if i = 0 then .int .i64 L.kd else if i = 1 then .int .i64 L.wt else if i = 2 then .int .i64 L.k else if i = 3 then .int .i64 L.r else if i = 4 then .int .i64 L.s else if i = 5 then .int .i64 L.sy else if i = 6 then .int .i64 L.sx else if i = 7 then .int .i64 L.t else if i = 8 then .int .i64 L.l else if i = 9 then .int .i64 L.b else if i = 10 then .int .i64 L.q else if i = 11 then .int .i64 L.bd else if i = 12 then .slice L.aw L.mw L.cw else if i = 13 then .slice L.an L.mn L.cn else .slice L.ab L.mb L.cb
theorem fif {i : Nat} (hi : i < 15) {p : Nat → Prop} (h : p 0 ∧ p 1 ∧ p 2 ∧ p 3 ∧ p 4 ∧ p 5 ∧ p 6 ∧ p 7 ∧ p 8 ∧ p 9 ∧ p 10 ∧ p 11 ∧ p 12 ∧ p 13 ∧ p 14) : p i := by
  obtain ⟨h0, h1, h2, h3, h4, h5, h6, h7, h8, h9, h10, h11, h12, h13, h14⟩ := h
  rcases (show i = 0 ∨ i = 1 ∨ i = 2 ∨ i = 3 ∨ i = 4 ∨ i = 5 ∨ i = 6 ∨ i = 7 ∨ i = 8 ∨ i = 9 ∨ i = 10 ∨ i = 11 ∨ i = 12 ∨ i = 13 ∨ i = 14 by omega) with rfl | rfl | rfl | rfl | rfl | rfl | rfl | rfl | rfl | rfl | rfl | rfl | rfl | rfl | rfl <;> assumption
theorem lyf_new (W : World) (L : Ly) (t : TypeId) : (W.alloc (.cells #[.int .i64 L.kd, .int .i64 L.wt, .int .i64 L.k, .int .i64 L.r, .int .i64 L.s, .int .i64 L.sy, .int .i64 L.sx, .int .i64 L.t, .int .i64 L.l, .int .i64 L.b, .int .i64 L.q, .int .i64 L.bd, .slice L.aw L.mw L.cw, .slice L.an L.mn L.cn, .slice L.ab L.mb L.cb] t)).rowIs W.heap.size t 15 (lyf L) :=
  World.rowIs_alloc W _ t _ fun i hi => by
    have hi' : i < 15 := by simpa using hi
    rcases (show i = 0 ∨ i = 1 ∨ i = 2 ∨ i = 3 ∨ i = 4 ∨ i = 5 ∨ i = 6 ∨ i = 7 ∨ i = 8 ∨ i = 9 ∨ i = 10 ∨ i = 11 ∨ i = 12 ∨ i = 13 ∨ i = 14 by omega) with rfl | rfl | rfl | rfl | rfl | rfl | rfl | rfl | rfl | rfl | rfl | rfl | rfl | rfl | rfl <;> rfl
theorem lyf_newD (W : World) (L : Ly) : ((W.alloc (lyo L)).drew).rowIs W.heap.size 47 15 (lyf L) := World.rowIs.of_block (lyf_new W L _) rfl
theorem lyf_set {W : World} {g : Nat} {t : TypeId} {L : Ly} (h : W.rowIs g t 15 (lyf L)) (L' : Ly) (c : Nat) (u : Value) (e : (if 0 = c then u else lyf L 0) = lyf L' 0 ∧ (if 1 = c then u else lyf L 1) = lyf L' 1 ∧ (if 2 = c then u else lyf L 2) = lyf L' 2 ∧ (if 3 = c then u else lyf L 3) = lyf L' 3 ∧ (if 4 = c then u else lyf L 4) = lyf L' 4 ∧ (if 5 = c then u else lyf L 5) = lyf L' 5 ∧ (if 6 = c then u else lyf L 6) = lyf L' 6 ∧ (if 7 = c then u else lyf L 7) = lyf L' 7 ∧ (if 8 = c then u else lyf L 8) = lyf L' 8 ∧ (if 9 = c then u else lyf L 9) = lyf L' 9 ∧ (if 10 = c then u else lyf L 10) = lyf L' 10 ∧ (if 11 = c then u else lyf L 11) = lyf L' 11 ∧ (if 12 = c then u else lyf L 12) = lyf L' 12 ∧ (if 13 = c then u else lyf L 13) = lyf L' 13 ∧ (if 14 = c then u else lyf L 14) = lyf L' 14) : (W.setCell ⟨g, c, none⟩ u).rowIs g t 15 (lyf L') := by
  refine (h.set c u).congr fun i hi => ?_
  exact fif (p := fun i => (if i = c then u else lyf L i) = lyf L' i) hi e
theorem lyf_cells {W : World} {g : Nat} {t : TypeId} {L : Ly} (h : W.rowIs g t 15 (lyf L)) : Lp W g L := ⟨h.cell (i := 0) (by decide), h.cell (i := 1) (by decide), h.cell (i := 2) (by decide), h.cell (i := 3) (by decide), h.cell (i := 4) (by decide), h.cell (i := 5) (by decide), h.cell (i := 6) (by decide), h.cell (i := 7) (by decide), h.cell (i := 8) (by decide), h.cell (i := 9) (by decide), h.cell (i := 10) (by decide), h.cell (i := 11) (by decide), h.cell (i := 12) (by decide), h.cell (i := 13) (by decide), h.cell (i := 14) (by decide)⟩
/-- The network under way: the answer's place, the network, the shape, the layers so far. -/
def MS (W : World) (b : Nat) (H V C h v c : Int) (lf : Nat → Ly) (i : Nat) (ua : Option Addr) (uc : Nat) : Prop :=
  W.rowIs b 31 5 (netF ⟨#[]⟩ 0 0 0 (.slice none 0 0)) ∧ W.rowIs (b + 1) 31 5 (netF nmX H V C (.slice ua i uc)) ∧ W.rowIs (b + 1 + 1) 28 3 (shF h v c) ∧ W.ownsRow (b + 3) 47 15 (.slice ua i uc) i (lyLs lf i) ∧ (∀ j, j < i → Lo W (b + 3) (lf j) ∧ (lf j).mw ≤ 1000000 ∧ (lf j).mn ≤ 1000000 ∧ (lf j).mb ≤ 1000000) ∧ b + 3 ≤ W.heap.size
theorem MS.keep {W X : World} {b : Nat} {H V C h v c : Int} {lf : Nat → Ly} {i : Nat} {ua : Option Addr} {uc : Nat} (k : MS W b H V C h v c lf i ua uc) (hb : Below W.heap.size W X) : MS X b H V C h v c lf i ua uc := by
  obtain ⟨a1, a2, a3, a4, a5, a6⟩ := k
  exact ⟨World.rowIs.of_block a1 (hb.block _ a1.lt), World.rowIs.of_block a2 (hb.block _ a2.lt), World.rowIs.of_block a3 (hb.block _ a3.lt), own_bl a4 hb, fun j hj => ⟨(a5 j hj).1.bl hb, (a5 j hj).2⟩, Nat.le_trans a6 hb.size⟩
/-- A layer of its kind and window, with nothing yet. -/
abbrev L0 (kd r s sy sx : Int) : Ly := ⟨kd, 0, 0, r, s, sy, sx, 0, 0, 0, 0, 0, none, 0, 0, none, 0, 0, none, 0, 0, fun _ => 0, fun _ _ => 0, fun _ => 0⟩
abbrev LK (kd wt k r s sy sx : Int) : Ly := ⟨kd, wt, k, r, s, sy, sx, 0, 0, 0, 0, 0, none, 0, 0, none, 0, 0, none, 0, 0, fun _ => 0, fun _ _ => 0, fun _ => 0⟩
/-- A layer with its norms. -/
abbrev L1 (kd wt : Int) (K : Nat) (r s sy sx : Int) (an : Option Addr) (cn : Nat) (ns : Nat → Nat → Int) : Ly := ⟨kd, wt, K, r, s, sy, sx, 0, 0, 0, 0, 0, none, 0, 0, an, K, cn, none, 0, 0, fun _ => 0, ns, fun _ => 0⟩
theorem lyf_i {P Q : Nat → Value} {i : Nat} (hi : i < 15) (h : P 0 = Q 0 ∧ P 1 = Q 1 ∧ P 2 = Q 2 ∧ P 3 = Q 3 ∧ P 4 = Q 4 ∧ P 5 = Q 5 ∧ P 6 = Q 6 ∧ P 7 = Q 7 ∧ P 8 = Q 8 ∧ P 9 = Q 9 ∧ P 10 = Q 10 ∧ P 11 = Q 11 ∧ P 12 = Q 12 ∧ P 13 = Q 13 ∧ P 14 = Q 14) : P i = Q i := fif (p := fun i => P i = Q i) hi h
/-- A layer with its window, its weights and its norms. -/
abbrev LV (kd wt : Int) (K : Nat) (r s sy sx t q bd : Int) (aw : Option Addr) (mw cw : Nat) (an : Option Addr) (cn : Nat) (ws : Nat → Int) (ns : Nat → Nat → Int) : Ly := ⟨kd, wt, K, r, s, sy, sx, t, 0, 0, q, bd, aw, mw, cw, an, K, cn, none, 0, 0, ws, ns, fun _ => 0⟩
theorem own_cap {W : World} {base e s n c : Nat} {a : Option Addr} {xs : List Value} (h : W.ownsRow base e s (.slice a n c) n xs) : n ≤ c := by
  by_cases hn : n = 0
  · omega
  · obtain ⟨g, -, h2, -⟩ := own_cellsS h (by omega)
    exact h2
/-- The last layer, under way. -/
def bsV (f : Nat → Int) (m t : Nat) : Int := pk5 f m t 200 - 100
def bsLL (f : Nat → Int) (m j : Nat) : List Int := (List.range j).map (bsV f m)
theorem bsLL_succ (f : Nat → Int) (m j : Nat) : bsLL f m (j + 1) = bsLL f m j ++ [bsV f m j] := by unfold bsLL; rw [List.range_succ, List.map_append]; rfl
abbrev LE (f : Nat → Int) (m K : Nat) (aw : Option Addr) (N cw : Nat) (za : Option Addr) (j zc : Nat) : Ly := ⟨2, 2, K, 0, 0, 0, 0, 0, 0, 0, 0, 0, aw, N, cw, none, 0, 0, za, j, zc, wgV f m 2, fun _ _ => 0, bsV f m⟩
theorem row5 {W : World} {g t : Nat} {F : Nat → Value} (h : W.rowIs g t 5 F) : W.heap[g]? = some (.cells #[F 0, F 1, F 2, F 3, F 4] t (0, 0)) := by
  obtain ⟨c, hc, hn, hF⟩ := h
  rw [hc]
  congr 2
  apply Array.ext_getElem?
  intro i
  by_cases hi : i < 5
  · rw [hF i hi]
    rcases (show i = 0 ∨ i = 1 ∨ i = 2 ∨ i = 3 ∨ i = 4 by omega) with rfl | rfl | rfl | rfl | rfl <;> rfl
  · rw [Array.getElem?_eq_none (by omega), Array.getElem?_eq_none (by simp; omega)]
theorem lo_nil (W : World) (base : Nat) (kd wt k r s sy sx t l b q bd : Int) : Lo W base ⟨kd, wt, k, r, s, sy, sx, t, l, b, q, bd, none, 0, 0, none, 0, 0, none, 0, 0, fun _ => 0, fun _ _ => 0, fun _ => 0⟩ := ⟨World.ownsRow_nil _ _ _ _, World.ownsRow_nil _ _ _ _, World.ownsRow_nil _ _ _ _⟩
theorem net_newF (W : World) (s : ByteArray) (H V C : Int) (u : Value) (t : TypeId) : (W.alloc (.cells #[.string s, .int .i64 H, .int .i64 V, .int .i64 C, u] t)).rowIs W.heap.size t 5 (netF s H V C u) :=
  World.rowIs_alloc W _ t _ fun i hi => by
    have hi' : i < 5 := by simpa using hi
    rcases (show i = 0 ∨ i = 1 ∨ i = 2 ∨ i = 3 ∨ i = 4 by omega) with rfl | rfl | rfl | rfl | rfl <;> rfl
theorem sh_newF (W : World) (h v c : Int) (t : TypeId) : (W.alloc (.cells #[.int .i64 h, .int .i64 v, .int .i64 c] t)).rowIs W.heap.size t 3 (shF h v c) :=
  World.rowIs_alloc W _ t _ fun i hi => by
    have hi' : i < 3 := by simpa using hi
    rcases (show i = 0 ∨ i = 1 ∨ i = 2 by omega) with rfl | rfl | rfl <;> rfl
theorem wn_newF (W : World) (r s sy sx : Int) (t : TypeId) : (W.alloc (.cells #[.int .i64 r, .int .i64 s, .int .i64 sy, .int .i64 sx, .int .i64 0, .int .i64 0, .int .i64 0, .int .i64 0] t)).rowIs W.heap.size t 8 (wnF r s sy sx) :=
  World.rowIs_alloc W _ t _ fun i hi => by
    have hi' : i < 8 := by simpa using hi
    rcases (show i = 0 ∨ i = 1 ∨ i = 2 ∨ i = 3 ∨ i = 4 ∨ i = 5 ∨ i = 6 ∨ i = 7 by omega) with rfl | rfl | rfl | rfl | rfl | rfl | rfl | rfl <;> rfl
theorem ms_new {w : World} {b : Nat} (hb0 : w.heap.size = b) (H V C : Int) (lf : Nat → Ly) : MS (((w.alloc (.cells #[.string ⟨#[]⟩, .int .i64 0, .int .i64 0, .int .i64 0, .slice none 0 0] 31)).alloc (.cells #[.string nmX, .int .i64 H, .int .i64 V, .int .i64 C, .slice none 0 0] 31)).alloc (.cells #[.int .i64 H, .int .i64 V, .int .i64 C] 28)) b H V C H V C lf 0 none 0 := by
  subst hb0
  refine ⟨((net_newF w _ _ _ _ _ _).alloc _).alloc _, ?_, ?_, World.ownsRow_nil _ _ _ _, fun j hj => absurd hj (Nat.not_lt_zero j), by simp⟩
  · have := (net_newF (w.alloc (.cells #[.string ⟨#[]⟩, .int .i64 0, .int .i64 0, .int .i64 0, .slice none 0 0] 31)) nmX H V C (.slice none 0 0) 31).alloc (.cells #[.int .i64 H, .int .i64 V, .int .i64 C] 28)
    simpa using this
  · have := sh_newF ((w.alloc (.cells #[.string ⟨#[]⟩, .int .i64 0, .int .i64 0, .int .i64 0, .slice none 0 0] 31)).alloc (.cells #[.string nmX, .int .i64 H, .int .i64 V, .int .i64 C, .slice none 0 0] 31)) H V C 28
    simpa using this
/-- A row of its own stays where a block of another type is set. -/
theorem own_setHi {W : World} {base e size n g j k t : Nat} {v : Value} {xs : List Value} {u : Value} {F : Nat → Value} (h : W.ownsRow base e size v n xs) (hl : g < W.heap.size) (hr : W.rowIs g t k F) (hne : e ≠ t) : (W.setCell ⟨g, j, none⟩ u).ownsRow base e size v n xs :=
  h.kept (row := some g) ⟨rfl, rfl, rfl, by simp, fun k _ hne => Below.heap_setCell _ _ _ _ (fun e => hne (by rw [e]))⟩ (by
    rcases h.2 with ⟨e', _⟩ | ⟨g', c', cu', e', _, hg', _⟩
    · subst e'; exact .inl rfl
    · subst e'
      refine .inr fun e => ?_
      have : g' = g := by simpa [Value.ownBlock] using e
      subst this
      obtain ⟨cs, hcs, -⟩ := hr
      rw [hg'] at hcs
      simp at hcs
      exact hne hcs.2)
theorem own_ne_row {W : World} {base e size n g k t : Nat} {v : Value} {xs : List Value} {F : Nat → Value} (h : W.ownsRow base e size v n xs) (hr : W.rowIs g t k F) (hne : e ≠ t) : ∀ q, v.ownBlock = some q → q ≠ g := by
  intro q hq e
  subst e
  rcases h.2 with ⟨e', _⟩ | ⟨g', c', cu', e', _, hg', _⟩
  · subst e'; cases hq
  · subst e'
    have : g' = q := by simpa [Value.ownBlock] using hq
    subst this
    obtain ⟨cs, hcs, -⟩ := hr
    rw [hg'] at hcs
    simp at hcs
    exact hne hcs.2
theorem own_setNe {W : World} {base e size n g j : Nat} {v : Value} {xs : List Value} {u : Value} (h : W.ownsRow base e size v n xs) (hne : ∀ q, v.ownBlock = some q → q ≠ g) : (W.setCell ⟨g, j, none⟩ u).ownsRow base e size v n xs :=
  h.kept (row := some g) ⟨rfl, rfl, rfl, by simp, fun k _ hne => Below.heap_setCell _ _ _ _ (fun e => hne (by rw [e]))⟩ (by
    cases hv : v.ownBlock with
    | none => exact .inl rfl
    | some q => exact .inr (fun e => by cases e; exact hne g hv rfl))
/-- What a layer that is made right has. -/
def Ld (L : Ly) (S : Sp) (c' : Int) : Prop := faE L S = 0 ∧ L.mw ≤ L.cw ∧ (0 ≤ L.k ∧ L.k ≤ 3) ∧ (L.kd = 2 ∨ ((1 ≤ L.r ∧ L.r ≤ S.h) ∧ (1 ≤ L.s ∧ L.s ≤ S.v) ∧ (1 ≤ L.sy ∧ L.sy ≤ 3) ∧ (1 ≤ L.sx ∧ L.sx ≤ 3) ∧ (0 ≤ L.t ∧ L.t ≤ 2) ∧ L.l = 0 ∧ L.b = 0 ∧ 0 ≤ L.q ∧ L.q ≤ 1)) ∧ c' = (if L.kd = 3 then S.c else L.k) ∧ L.mw ≤ 1000000 ∧ L.mn ≤ 1000000 ∧ L.mb ≤ 1000000
theorem lyLs_sn (lf : Nat → Ly) (i : Nat) (L : Ly) : lyLs (sn lf i L) (i + 1) = lyLs lf i ++ lyC L := by
  show rl _ i ++ lyC (sn lf i L i) = _
  rw [sn_eq, rl_congr (G := fun j => lyC (lf j)) i fun j hj => by rw [sn_ne hj]]
/-- One layer more. -/
theorem MS.snoc {X Y : World} {b : Nat} {H V C h v c : Int} {lf : Nat → Ly} {i : Nat} {ua a3 : Option Addr} {uc c3 : Nat} {L : Ly} (k : MS X b H V C h v c lf i ua uc) (lo : Lo X (b + 3) L) (hL : L.mw ≤ 1000000 ∧ L.mn ≤ 1000000 ∧ L.mb ≤ 1000000) (own : Y.ownsRow (b + 3) 47 15 (.slice a3 (i + 1) c3) (i + 1) (lyLs lf i ++ lyC L)) (gr : (X.alloc (lyo L)).grownBy Y (Value.slice ua i uc).ownBlock) : MS (Y.setCell ⟨b + 1, 4, none⟩ (.slice a3 (i + 1) c3)) b H V C h v c (sn lf i L) (i + 1) a3 c3 := by
  have hb1 : Below X.heap.size X (X.alloc (lyo L)) := bl_alloc (Below.refl _ _) _
  obtain ⟨a1, a2, a4, a5, a6, a7⟩ := k.keep hb1
  have huo : ∀ q, (Value.slice ua i uc).ownBlock = some q → b + 3 ≤ q := fun q hq => (a5.lt q hq).1
  have blk : ∀ {g t n F}, g < b + 3 → (X.alloc (lyo L)).rowIs g t n F → Y.rowIs g t n F := fun {g t n F} hg r => World.rowIs.of_block r (gr.block g r.lt (fun e => by have := huo g e.symm; omega))
  have hsz : (X.alloc (lyo L)).heap.size ≤ Y.heap.size := gr.size
  refine ⟨(blk (by omega) a1).setOther (by show b ≠ b + 1; omega) _, ?_, (blk (by omega) a4).setOther (by show b + 1 + 1 ≠ b + 1; omega) _, own_setD (by rw [lyLs_sn]; exact own) (by omega), fun j hj => ?_, by simp; omega⟩
  · refine ((blk (by omega) a2).set 4 (.slice a3 (i + 1) c3)).congr fun q hq => ?_
    rcases (show q = 0 ∨ q = 1 ∨ q = 2 ∨ q = 3 ∨ q = 4 by omega) with rfl | rfl | rfl | rfl | rfl <;> rfl
  · by_cases hji : j = i
    · subst hji
      rw [sn_eq]
      exact ⟨((lo.bl hb1).grow a5 (by decide) (by decide) (by decide) gr).set (by omega), hL⟩
    · rw [sn_ne (by omega)]
      obtain ⟨l1, l2⟩ := a6 j (by omega)
      exact ⟨(l1.grow a5 (by decide) (by decide) (by decide) gr).set (by omega), l2⟩
theorem MS.shape {W : World} {b : Nat} {H V C h v c : Int} {lf : Nat → Ly} {i : Nat} {ua : Option Addr} {uc : Nat} (k : MS W b H V C h v c lf i ua uc) (h' v' c' : Int) : MS (((W.setCell ⟨b + 1 + 1, 0, none⟩ (.int .i64 h')).setCell ⟨b + 1 + 1, 1, none⟩ (.int .i64 v')).setCell ⟨b + 1 + 1, 2, none⟩ (.int .i64 c')) b H V C h' v' c' lf i ua uc := by
  obtain ⟨a1, a2, a3, a4, a5, a6⟩ := k
  refine ⟨((a1.setOther (by show b ≠ b + 1 + 1; omega) _).setOther (by show b ≠ b + 1 + 1; omega) _).setOther (by show b ≠ b + 1 + 1; omega) _, ((a2.setOther (by show b + 1 ≠ b + 1 + 1; omega) _).setOther (by show b + 1 ≠ b + 1 + 1; omega) _).setOther (by show b + 1 ≠ b + 1 + 1; omega) _, ?_, own_setD (own_setD (own_setD a4 (by omega)) (by omega)) (by omega), fun j hj => ⟨(((a5 j hj).1.set (by omega)).set (by omega)).set (by omega), (a5 j hj).2⟩, by simp; omega⟩
  refine (((a3.set 0 (.int .i64 h')).set 1 (.int .i64 v')).set 2 (.int .i64 c')).congr fun q hq => ?_
  rcases (show q = 0 ∨ q = 1 ∨ q = 2 by omega) with rfl | rfl | rfl <;> rfl
theorem netF_all {W : World} {b : Nat} {H V C : Int} {u : Value} {F : Nat → Value} (h : W.rowIs b 31 5 F) : (((((W.setCell ⟨b, 0, none⟩ (.string nmX)).setCell ⟨b, 1, none⟩ (.int .i64 H)).setCell ⟨b, 2, none⟩ (.int .i64 V)).setCell ⟨b, 3, none⟩ (.int .i64 C)).setCell ⟨b, 4, none⟩ u).rowIs b 31 5 (netF nmX H V C u) := by
  refine (((((h.set 0 (.string nmX)).set 1 (.int .i64 H)).set 2 (.int .i64 V)).set 3 (.int .i64 C)).set 4 u).congr fun q hq => ?_
  rcases (show q = 0 ∨ q = 1 ∨ q = 2 ∨ q = 3 ∨ q = 4 by omega) with rfl | rfl | rfl | rfl | rfl <;> rfl
end Go.Proofs.Ytkhlhcbbbhbgeaa.Nn
/- NETWORKS: THE COPY OF A NETWORK, what its walk needs. -/
namespace Go.Proofs.Ytkhlhcbbbhbgeaa.Nn
open Go.RowKit

/-- A layer with its lists elsewhere. -/
abbrev cpy (L : Ly) (a1 : Option Addr) (c1 : Nat) (a2 : Option Addr) (c2 : Nat) (a3 : Option Addr) (c3 : Nat) : Ly := ⟨L.kd, L.wt, L.k, L.r, L.s, L.sy, L.sx, L.t, L.l, L.b, L.q, L.bd, a1, L.mw, c1, a2, L.mn, c2, a3, L.mb, c3, L.ws, L.ns, L.bs⟩
theorem cl_rl (L : Ly) : ∀ n, cl (n * 8) (nmc L) = nmL L.ns n
  | 0 => rfl
  | n + 1 => by
    rw [nmL, ← cl_rl L n]
    have e : (n + 1) * 8 = n * 8 + 8 := by omega
    have h : ∀ c, c < 8 → nmc L (n * 8 + c) = .int .i64 (L.ns n c) := fun c hc => by
      unfold nmc
      rw [show (n * 8 + c) / 8 = n by omega, show (n * 8 + c) % 8 = c by omega]
    unfold cl
    rw [e]
    simp only [List.range_succ, List.map_append, List.map_cons, List.map_nil, List.append_assoc]
    rw [h 1 (by decide), h 2 (by decide), h 3 (by decide), h 4 (by decide), h 5 (by decide), h 6 (by decide), h 7 (by decide)]
    have h0 := h 0 (by decide)
    rw [Nat.add_zero] at h0
    rw [h0]
    rfl
theorem Co.lo {X : World} {b : Nat} {L : Ly} {a1 a2 a3 : Option Addr} {c1 c2 c3 : Nat} (h : Co X b L a1 c1 a2 c2 a3 c3) : Lo X b (cpy L a1 c1 a2 c2 a3 c3) := by
  obtain ⟨h1, h2, h3⟩ := h
  refine ⟨?_, ?_, ?_⟩
  · have e : i8L ((List.range L.mw).map L.ws) = cl L.mw fun j => .int .i8 (L.ws j) := by simp [i8L, cl, List.map_map, Function.comp_def]
    show X.ownsRow b _ 1 _ _ (i8L ((List.range L.mw).map L.ws))
    rw [e]; exact h1
  · show X.ownsRow b _ 8 _ _ (nmL L.ns L.mn)
    rw [← cl_rl]; exact h2
  · have e : i64L ((List.range L.mb).map L.bs) = cl L.mb fun j => .int .i64 (L.bs j) := by simp [i64L, cl, List.map_map, Function.comp_def]
    show X.ownsRow b _ 1 _ _ (i64L ((List.range L.mb).map L.bs))
    rw [e]; exact h3
/-- A list with others laid into it from a place on. -/
def putL : List Value → Nat → List Value → List Value
  | xs, _, [] => xs
  | xs, o, v :: r => putL (xs.set o v) (o + 1) r
theorem putL_get : ∀ (vs : List Value) (xs : List Value) (o k : Nat), o + vs.length ≤ xs.length → (putL xs o vs)[k]? = if o ≤ k ∧ k < o + vs.length then vs[k - o]? else xs[k]?
  | [], xs, o, k, _ => by rw [putL, if_neg (by simp only [List.length_nil]; omega)]
  | v :: r, xs, o, k, h => by
    simp only [List.length_cons] at h ⊢
    rw [putL, putL_get r (xs.set o v) (o + 1) k (by rw [List.length_set]; omega)]
    by_cases hk : k = o
    · subst hk
      rw [if_neg (by omega), if_pos (by omega), Nat.sub_self, List.getElem?_set_self (by omega)]
      rfl
    · by_cases h1 : o + 1 ≤ k ∧ k < o + 1 + r.length
      · rw [if_pos h1, if_pos (by omega), show k - o = (k - (o + 1)) + 1 by omega, List.getElem?_cons_succ]
      · rw [if_neg h1, if_neg (by omega), List.getElem?_set_ne (by omega)]
theorem own_setCells {base e size g n cap : Nat} : ∀ (vs : List Value) (o : Nat) (W : World) (xs : List Value), W.ownsRow base e size (.slice (some ⟨g, 0, none⟩) n cap) n xs → (W.setCells g o vs).ownsRow base e size (.slice (some ⟨g, 0, none⟩) n cap) n (putL xs o vs) ∧ W.grownBy (W.setCells g o vs) (some g)
  | [], _, W, _, h => ⟨h, gr_refl W _⟩
  | v :: r, o, W, xs, h => by
    obtain ⟨h1, h2⟩ := h.stored o v
    obtain ⟨h3, h4⟩ := own_setCells r (o + 1) _ _ h1
    exact ⟨h3, gr_step h2 h4 (.inl rfl)⟩
theorem lyC_len (L : Ly) : (lyC L).length = 15 := rfl
theorem ls_put {lf : Nat → Ly} {M i : Nat} (hi : i < M) (L : Ly) : putL (lyLs lf M) (i * 15) (lyC L) = lyLs (sn lf i L) M := by
  apply List.ext_getElem?
  intro k
  have hl : (lyLs lf M).length = M * 15 := rl_len (s := 15) (fun _ => rfl) M
  have hl2 : (lyLs (sn lf i L) M).length = M * 15 := rl_len (s := 15) (fun _ => rfl) M
  rw [putL_get _ _ _ _ (by rw [hl, lyC_len]; omega), lyC_len]
  by_cases hk : k < M * 15
  · have e : k = (k / 15) * 15 + k % 15 := by omega
    have h1 : (lyLs (sn lf i L) M)[k]? = (lyC (sn lf i L (k / 15)))[k % 15]? := by
      conv => lhs; rw [e]
      exact rl_get (s := 15) (fun _ => rfl) M (by omega) (by omega)
    have h2 : (lyLs lf M)[k]? = (lyC (lf (k / 15)))[k % 15]? := by
      conv => lhs; rw [e]
      exact rl_get (s := 15) (fun _ => rfl) M (by omega) (by omega)
    rw [h1, h2]
    by_cases hj : k / 15 = i
    · rw [if_pos (by omega), show k - i * 15 = k % 15 by omega]
      unfold sn
      rw [if_pos hj]
    · rw [if_neg (by omega)]
      unfold sn
      rw [if_neg hj]
  · rw [if_neg (by omega), List.getElem?_eq_none (by omega), List.getElem?_eq_none (by omega)]
/-- The copies so far, and what is still the old. -/
def mx (cf lf : Nat → Ly) (i : Nat) : Nat → Ly := fun j => if j < i then cf j else lf j
theorem mx_zero (cf lf : Nat → Ly) : mx cf lf 0 = lf := by funext j; simp [mx]
theorem mx_at (cf lf : Nat → Ly) (i : Nat) : mx cf lf i i = lf i := by simp [mx]
theorem mx_snoc (cf lf : Nat → Ly) (i : Nat) (L : Ly) : sn (mx cf lf i) i L = mx (sn cf i L) lf (i + 1) := by
  funext j
  by_cases h : j = i
  · subst h; simp [sn, mx]
  · by_cases h2 : j < i
    · simp [sn, mx, h, h2, show j < i + 1 by omega]
    · simp [sn, mx, h, h2, show ¬ j < i + 1 by omega]
theorem mx_full (cf lf : Nat → Ly) {M : Nat} : lyLs (mx cf lf M) M = lyLs cf M := rl_congr M fun j hj => by unfold mx; rw [if_pos hj]
/-- A list's own block. -/
abbrev obW (L : Ly) : Option Nat := (Value.slice L.aw L.mw L.cw).ownBlock
abbrev obB (L : Ly) : Option Nat := (Value.slice L.ab L.mb L.cb).ownBlock
abbrev obN (L : Ly) : Option Nat := (Value.slice L.an L.mn L.cn).ownBlock
/-- No two layers share a list. -/
def Dis (cf : Nat → Ly) (i : Nat) : Prop := ∀ j, j < i → ∀ j', j' < i → j ≠ j' → (∀ q, obW (cf j) = some q → obW (cf j') ≠ some q) ∧ (∀ q, obB (cf j) = some q → obB (cf j') ≠ some q) ∧ (∀ q, obN (cf j) = some q → obN (cf j') ≠ some q)
theorem Dis.zero (cf : Nat → Ly) : Dis cf 0 := fun j hj => absurd hj (Nat.not_lt_zero j)
theorem Dis.snoc {cf : Nat → Ly} {i : Nat} {L : Ly} (h : Dis cf i) (hn : ∀ j, j < i → (∀ q, obW L = some q → obW (cf j) ≠ some q) ∧ (∀ q, obB L = some q → obB (cf j) ≠ some q) ∧ (∀ q, obN L = some q → obN (cf j) ≠ some q)) : Dis (sn cf i L) (i + 1) := by
  intro j hj j' hj' hne
  unfold sn
  by_cases h1 : j = i
  · subst h1
    rw [if_pos rfl, if_neg (by omega)]
    exact hn j' (by omega)
  · rw [if_neg h1]
    by_cases h2 : j' = i
    · subst h2
      rw [if_pos rfl]
      have := hn j (by omega)
      exact ⟨fun q e1 e2 => this.1 q e2 e1, fun q e1 e2 => this.2.1 q e2 e1, fun q e1 e2 => this.2.2 q e2 e1⟩
    · rw [if_neg h2]
      exact h j (by omega) j' (by omega) hne
end Go.Proofs.Ytkhlhcbbbhbgeaa.Nn
/- NETWORKS: THE COPY OF A NETWORK, its walk. -/
namespace Go.Proofs.Ytkhlhcbbbhbgeaa.Nn
open Go.RowKit

/-- The copy under way. -/
def CS (W : World) (b : Nat) (N : Nt) (G uc : Nat) (cf : Nat → Ly) (i : Nat) : Prop :=
  W.rowIs b 31 5 (netF N.nm N.h N.v N.c (.slice (some ⟨G, 0, none⟩) N.ml uc)) ∧ W.rowIs (b + 1) 31 5 (netF ⟨#[]⟩ 0 0 0 (.slice none 0 0)) ∧ W.ownsRow (b + 2) 47 15 (.slice (some ⟨G, 0, none⟩) N.ml uc) N.ml (lyLs (mx cf N.lf i) N.ml) ∧ (∀ j, j < i → Lo W (b + 2) (cf j) ∧ ∃ a1 c1 a2 c2 a3 c3, cf j = cpy (N.lf j) a1 c1 a2 c2 a3 c3) ∧ Dis cf i ∧ b + 2 ≤ W.heap.size
theorem CS.keep {W X : World} {b : Nat} {N : Nt} {G uc : Nat} {cf : Nat → Ly} {i : Nat} (k : CS W b N G uc cf i) (hb : Below W.heap.size W X) : CS X b N G uc cf i := by
  obtain ⟨a1, a2, a3, a4, a5, a6⟩ := k
  exact ⟨World.rowIs.of_block a1 (hb.block _ a1.lt), World.rowIs.of_block a2 (hb.block _ a2.lt), own_bl a3 hb, fun j hj => ⟨(a4 j hj).1.bl hb, (a4 j hj).2⟩, a5, Nat.le_trans a6 hb.size⟩
/-- A cell of the round's own box is set. -/
theorem CS.set {W : World} {b : Nat} {N : Nt} {G uc : Nat} {cf : Nat → Ly} {i c j : Nat} {u : Value} (k : CS W b N G uc cf i) (hb1 : b + 1 < c) (hG : G ≠ c) (hl : ∀ j, j < i → ∀ q, (obW (cf j) = some q ∨ obB (cf j) = some q ∨ (Value.slice (cf j).an (cf j).mn (cf j).cn).ownBlock = some q) → q ≠ c) : CS (W.setCell ⟨c, j, none⟩ u) b N G uc cf i := by
  obtain ⟨a1, a2, a3, a4, a5, a6⟩ := k
  refine ⟨a1.setOther (by show b ≠ c; omega) _, a2.setOther (by show b + 1 ≠ c; omega) _, own_setNe a3 (fun q hq => by simp [Value.ownBlock] at hq; omega), fun q hq => ⟨?_, (a4 q hq).2⟩, a5, by simpa using a6⟩
  obtain ⟨h1, h2, h3⟩ := (a4 q hq).1
  exact ⟨own_setNe h1 fun x hx => hl q hq x (.inl hx), own_setNe h2 fun x hx => hl q hq x (.inr (.inr hx)), own_setNe h3 fun x hx => hl q hq x (.inr (.inl hx))⟩
theorem CS.blk {W : World} {b : Nat} {N : Nt} {G uc : Nat} {cf : Nat → Ly} {i : Nat} (k : CS W b N G uc cf i) : ∀ j, j < i → ∀ q, (obW (cf j) = some q ∨ obB (cf j) = some q ∨ (Value.slice (cf j).an (cf j).mn (cf j).cn).ownBlock = some q) → q < W.heap.size := by
  intro j hj q h
  obtain ⟨h1, h2, h3⟩ := (k.2.2.2.1 j hj).1
  rcases h with h | h | h
  · exact (h1.lt q h).2
  · exact (h3.lt q h).2
  · exact (h2.lt q h).2
/-- The copied layer is stored. -/
theorem CS.store {W : World} {b z : Nat} {N : Nt} {G uc : Nat} {cf : Nat → Ly} {i : Nat} {L' : Ly} (k : CS W b N G uc cf i) (hi : i < N.ml) (hz : ∀ j, j < i → ∀ q, (obW (cf j) = some q ∨ obB (cf j) = some q ∨ (Value.slice (cf j).an (cf j).mn (cf j).cn).ownBlock = some q) → q < z) (lo : Lo W (b + 2) L') (hw : ∀ q, obW L' = some q → z ≤ q) (hb : ∀ q, obB L' = some q → z ≤ q) (hn : ∀ q, obN L' = some q → z ≤ q) (hc : ∃ a1 c1 a2 c2 a3 c3, L' = cpy (N.lf i) a1 c1 a2 c2 a3 c3) : CS (W.setCells G (i * 15) (lyC L')) b N G uc (sn cf i L') (i + 1) ∧ W.grownBy (W.setCells G (i * 15) (lyC L')) (some G) ∧ b + 2 ≤ G := by
  obtain ⟨a1, a2, a3, a4, a5, a6⟩ := k
  obtain ⟨o1, o2⟩ := own_setCells (lyC L') (i * 15) W _ a3
  have hG : b + 2 ≤ G := (a3.lt G rfl).1
  rw [ls_put hi, mx_snoc] at o1
  refine ⟨⟨World.rowIs.of_block a1 (o2.block b (by omega) (by simp; omega)), World.rowIs.of_block a2 (o2.block (b + 1) (by omega) (by simp; omega)), o1, fun j hj => ?_, ?_, Nat.le_trans a6 o2.size⟩, o2, hG⟩
  · unfold sn
    by_cases h : j = i
    · subst h
      rw [if_pos rfl]
      exact ⟨lo.grow a3 (by decide) (by decide) (by decide) o2, hc⟩
    · rw [if_neg h]
      obtain ⟨h1, h2⟩ := a4 j (by omega)
      exact ⟨h1.grow a3 (by decide) (by decide) (by decide) o2, h2⟩
  · refine a5.snoc fun j hj => ⟨fun q e1 e2 => ?_, fun q e1 e2 => ?_, fun q e1 e2 => ?_⟩
    · have := hz j hj q (.inl e2); have := hw q e1; omega
    · have := hz j hj q (.inr (.inl e2)); have := hb q e1; omega
    · have := hz j hj q (.inr (.inr e2)); have := hn q e1; omega
theorem ls_cell {W : World} {base G uc M i c : Nat} {lf : Nat → Ly} (h : W.ownsRow base 47 15 (.slice (some ⟨G, 0, none⟩) M uc) M (lyLs lf M)) (hi : i < M) (hc : c < 15) : W.cell? ⟨G, i * 15 + c, none⟩ = (lyC (lf i))[c]? := by
  rw [h.cellAt _ (by omega)]
  exact rl_get (s := 15) (fun _ => rfl) M hi hc
theorem ls_there {W : World} {base G uc M i : Nat} {lf : Nat → Ly} (h : W.ownsRow base 47 15 (.slice (some ⟨G, 0, none⟩) M uc) M (lyLs lf M)) (hi : i < M) : W.there G (i * 15) 15 := fun c hc => ⟨by rw [ls_cell h hi hc, List.getElem?_eq_getElem (by rw [lyC_len]; exact hc)]; rfl, h.frozenAt _⟩
theorem info_ly15 : (Try.prog.info? 47).map (·.size) = some 15 := by kernel_rfl
theorem lyC_one (L : Ly) : (lyC L).toArray.all (·.oneCell') = true := by simp [lyC, Value.oneCell']
theorem netF_allN {W : World} {b : Nat} {nm : ByteArray} {H V C : Int} {u : Value} {F : Nat → Value} (h : W.rowIs b 31 5 F) : (((((W.setCell ⟨b, 0, none⟩ (.string nm)).setCell ⟨b, 1, none⟩ (.int .i64 H)).setCell ⟨b, 2, none⟩ (.int .i64 V)).setCell ⟨b, 3, none⟩ (.int .i64 C)).setCell ⟨b, 4, none⟩ u).rowIs b 31 5 (netF nm H V C u) := by
  refine (((((h.set 0 (.string nm)).set 1 (.int .i64 H)).set 2 (.int .i64 V)).set 3 (.int .i64 C)).set 4 u).congr fun q hq => ?_
  rcases (show q = 0 ∨ q = 1 ∨ q = 2 ∨ q = 3 ∨ q = 4 by omega) with rfl | rfl | rfl | rfl | rfl <;> rfl
/-- What a copy is. -/
def Cn (W : World) (base : Nat) (N : Nt) (ua : Option Addr) (uc : Nat) (cf : Nat → Ly) : Prop := W.ownsRow base 47 15 (.slice ua N.ml uc) N.ml (lyLs cf N.ml) ∧ (∀ j, j < N.ml → Lo W base (cf j) ∧ ∃ a1 c1 a2 c2 a3 c3, cf j = cpy (N.lf j) a1 c1 a2 c2 a3 c3) ∧ Dis cf N.ml
end Go.Proofs.Ytkhlhcbbbhbgeaa.Nn
/- BOUND HOLDS: no logit leaves its reach; what the reaches of a network that may be are. -/
namespace Go.Proofs.Ytkhlhcbbbhbgeaa.Nn
open Go.RowKit

theorem mk_ok {H V C : Int} {M : Nat} {ua : Option Addr} {uc : Nat} {lf : Nat → Ly} (bH : 1 ≤ H ∧ H ≤ 5) (bV : 1 ≤ V ∧ V ≤ 5) (bC : 1 ≤ C ∧ C ≤ 4) (bM : 1 ≤ M ∧ M ≤ 4) (h : Mk H V C M M lf) : chE (mkN H V C M ua uc lf) = 0 ∧ chA (mkN H V C M ua uc lf) = 0 := by
  refine ch_ok ?_ fun j hj => ?_
  · show (if nmB nmX = false then (50 : Int) else if chk H V C ≠ 0 then chk H V C else if 1 ≤ M ∧ M ≤ 64 then 0 else 51) = 0
    rw [nmX_ok, if_neg (by decide), if_neg (by rw [chk_small (by omega) (by omega) (by omega)]; decide), if_pos (by omega)]
  · have hj : j < M := hj
    have := (h.1 j hj).1
    show faE (lf j) (sp (mkN H V C M ua uc lf) j) = 0
    rw [sp_mk H V C M ua none uc 0 lf lf j fun _ _ => rfl]
    exact this
theorem sm_in {f x : Nat → Int} {lo hi : Int} : ∀ {m : Nat}, (∀ j, j < m → -1 ≤ f j ∧ f j ≤ 1) → (∀ j, j < m → lo ≤ x j ∧ x j ≤ hi) → (cnW f 1 m : Nat) * lo - (cnW f (-1) m : Nat) * hi ≤ smV f x m ∧ smV f x m ≤ (cnW f 1 m : Nat) * hi - (cnW f (-1) m : Nat) * lo
  | 0, _, _ => by simp [cnW, smV]
  | m + 1, h, hx => by
    have ih := sm_in (m := m) (fun j hj => h j (by omega)) (fun j hj => hx j (by omega))
    have h3 := h m (by omega)
    have h4 := hx m (by omega)
    simp only [smV, cnW]
    rcases (show f m = -1 ∨ f m = 0 ∨ f m = 1 by omega) with e | e | e
    · simp [e, Int.add_mul]; omega
    · simp [e]; omega
    · simp [e, Int.add_mul]; omega
theorem re_ok {L : Ly} {S : Sp} (h : faE L S = 0) (h3 : ¬ L.kd = 3) : 0 ≤ lef L S ∧ ∀ j, j < L.mb → bok (lef L S) (L.bs j) := by
  unfold faE at h
  by_cases h1 : L.kd = 1
  · rw [if_pos h1] at h
    have e9 : reE L S = 0 := frF_z h 9 (by decide)
    exact zero_else (by decide) e9
  · rw [if_neg h1] at h
    by_cases h2 : L.kd = 2
    · rw [if_pos h2] at h
      have e6 : reE L S = 0 := frF_z h 6 (by decide)
      exact zero_else (by decide) e6
    · rw [if_neg h2, if_neg h3] at h; cases h
/-- What the reaches of a network that may be are. -/
theorem reach_ok (N : Nt) (hz : chE N = 0) {i : Nat} (hi : i < N.ml) (k : Nat) : yLo (N.lf i) (fanN N i) i k ≤ yHi (N.lf i) (fanN N i) i k ∧ -2147483647 ≤ yLo (N.lf i) (fanN N i) i k ∧ yHi (N.lf i) (fanN N i) i k ≤ 2147483647 ∧ ((N.lf i).kd = 3 → yLo (N.lf i) (fanN N i) i k = -1 ∧ yHi (N.lf i) (fanN N i) i k = 1) := by
  obtain ⟨hw0, hf⟩ := fl_all hz
  have h0 := hf i hi
  have hs := sp_all hz i (by omega)
  unfold yLo yHi
  by_cases h3 : (N.lf i).kd = 3
  · rw [if_pos h3, if_pos h3]
    exact ⟨by decide, by decide, by decide, fun _ => ⟨rfl, rfl⟩⟩
  · rw [if_neg h3, if_neg h3]
    obtain ⟨-, e1, K, F, eK, eF, k1, k2, hw, f1, hm, hmb, hbs⟩ := lay_w hs h0 h3
    have e3 : fanN N i = F := by unfold fanN; rw [eF]; rfl
    rw [e3]
    obtain ⟨r1, r2⟩ := re_ok h0 h3
    have hfs := (la_sp N i).2
    have hc := cnW_two (fun j => (N.lf i).ws (k * F + j)) F
    have hb : -lef (N.lf i) (sp N i) ≤ bsO (N.lf i) k ∧ bsO (N.lf i) k ≤ lef (N.lf i) (sp N i) := by
      unfold bsO
      by_cases hk : k < (N.lf i).mb
      · rw [if_pos hk]; have := r2 k hk; unfold bok at this; exact this
      · rw [if_neg hk]; omega
    unfold wLo wHi inL inH
    unfold lef at r1 hb
    rw [eF] at r1 hb
    generalize cnW (fun j => (N.lf i).ws (k * F + j)) 1 F = A at *
    generalize cnW (fun j => (N.lf i).ws (k * F + j)) (-1) F = B at *
    by_cases h00 : i = 0
    · rw [if_pos h00, if_pos h00]
      have hfs' : (sp N i).fs = true := by rw [hfs]; simp [h00]
      rw [hfs', if_pos rfl] at r1 hb
      refine ⟨by omega, by omega, by omega, fun h => absurd h h3⟩
    · rw [if_neg h00, if_neg h00]
      have hfs' : (sp N i).fs = false := by rw [hfs]; simp [h00]
      rw [hfs', if_neg (by decide)] at r1 hb
      refine ⟨by omega, by omega, by omega, fun h => absurd h h3⟩
/-- No logit leaves its reach. -/
theorem logit_in (N : Nt) (x : Nat → Int) (hz : chE N = 0) (hx : ∀ j, j < szN N 0 → -128 ≤ x j ∧ x j ≤ 127) {m : Nat} (hm : N.ml = m + 1) {k : Nat} (hk : k < szN N (m + 1)) : yLo (N.lf m) (fanN N m) m k ≤ valN N x (m + 1) k ∧ valN N x (m + 1) k ≤ yHi (N.lf m) (fanN N m) m k := by
  obtain ⟨l1, l2, l3, l4, l5, l6, l7⟩ := last_ok hz hm
  obtain ⟨hw0, hf⟩ := fl_all hz
  have h0 := hf m (by omega)
  have hs := sp_all hz m (by omega)
  have h3 : ¬ (N.lf m).kd = 3 := by omega
  have hin := val_bd N x hz hx m (by omega)
  rw [l7] at hin
  obtain ⟨-, e1, K, F, eK, eF, k1, k2, hw, f1, hmm, hmb, hbs⟩ := lay_w hs h0 h3
  have e3 : fanN N m = F := by unfold fanN; rw [eF]; rfl
  have hkK : k < K := by rw [l4, eK] at hk; simpa using hk
  have hkm2 : k * F + F ≤ K * F := by have := Nat.mul_le_mul_right F (show k + 1 ≤ K by omega); rw [Nat.succ_mul] at this; exact this
  have hval : valN N x (m + 1) k = smV (fun j => (N.lf m).ws (k * F + j)) (valN N x m) F + (N.lf m).bs k := by
    show opN _ _ _ _ _ _ _ _ = _
    unfold opN
    rw [if_pos l1, e3]
    unfold ouV beV
    rw [if_pos (by omega)]
  rw [e3] at hin ⊢
  have hsm := sm_in (f := fun j => (N.lf m).ws (k * F + j)) (x := valN N x m) (lo := inL m) (hi := inH m) (m := F) (fun j hj => (lay_ws h0 h3).1 _ (by omega)) hin
  unfold yLo yHi wLo wHi bsO
  rw [if_neg h3, if_neg h3, if_pos (by omega), hval]
  omega
end Go.Proofs.Ytkhlhcbbbhbgeaa.Nn
/- NETMADE: what comes behind a layer without a fault; two networks that are not the same. -/
namespace Go.Proofs.Ytkhlhcbbbhbgeaa.Nn
open Go.RowKit

theorem af_any {S : Sp} {L : Ly} (h0 : faE L S = 0) :
    (L.kd = 2 ∨ (WOk L.r L.s L.sy L.sx L.t L.l L.b L.q ∧ L.r ≤ S.h + L.t + L.b ∧ L.s ≤ S.v + L.l + L.q)) ∧ oH L S.h S.v S.c = afH L S.h ∧ oV L S.h S.v S.c = afV L S.v ∧ oC L S.h S.v S.c = (if L.kd = 3 then S.c else L.k) := by
  by_cases h2 : L.kd = 2
  · have e1 : oH L S.h S.v S.c = 1 := by unfold oH; rw [if_pos h2]
    have e2 : oV L S.h S.v S.c = 1 := by unfold oV; rw [if_pos h2]
    have e3 : oC L S.h S.v S.c = L.k := by unfold oC; rw [if_pos h2]
    have e4 : afH L S.h = 1 := by unfold afH; rw [if_pos h2]
    have e5 : afV L S.v = 1 := by unfold afV; rw [if_pos h2]
    rw [e1, e2, e3, e4, e5, if_neg (by omega)]
    exact ⟨.inl h2, rfl, rfl, rfl⟩
  · obtain ⟨qo, q1, -⟩ := win_ok h0 h2
    have f1 : oH L S.h S.v S.c = stN S.h L.t L.b L.r L.sy := by unfold oH; rw [if_neg h2, if_pos qo]
    have f2 : oV L S.h S.v S.c = stN S.v L.l L.q L.s L.sx := by unfold oV; rw [if_neg h2, if_pos qo]
    have f3 : oC L S.h S.v S.c = (if L.kd = 3 then S.c else L.k) := by unfold oC; rw [if_neg h2, if_pos qo]
    generalize (if L.kd = 3 then S.c else L.k) = kk at q1 f3 ⊢
    unfold slE at q1
    split at q1
    · contradiction
    · split at q1
      · omega
      · split at q1
        · omega
        · rename_i hW
          have hW : WOk L.r L.s L.sy L.sx L.t L.l L.b L.q := Classical.not_not.1 hW
          have st0 : ∀ n bf af wi st : Int, 1 ≤ st → 0 ≤ stN n bf af wi st := fun n bf af wi st h => by
            unfold stN
            split
            · exact Int.le_refl _
            · have := Int.ediv_nonneg (show 0 ≤ bf + n + af - wi by omega) (show 0 ≤ st by omega); omega
          split at q1
          · omega
          · rename_i hm
            have s1 := st0 S.h L.t L.b L.r L.sy hW.1.2.1.1
            have s2 := st0 S.v L.l L.q L.s L.sx hW.2.2.1.1
            have p1 : ¬ stN S.h L.t L.b L.r L.sy = 0 := fun h => hm (by unfold mn2; rw [h]; split <;> omega)
            have p2 : ¬ stN S.v L.l L.q L.s L.sx = 0 := fun h => hm (by unfold mn2; rw [h]; split <;> omega)
            have r1 : ¬ L.t + S.h + L.b < L.r := fun h => p1 (by unfold stN; rw [if_pos h])
            have r2 : ¬ L.l + S.v + L.q < L.s := fun h => p2 (by unfold stN; rw [if_pos h])
            have e6 : afH L S.h = stN S.h L.t L.b L.r L.sy := by unfold afH stN; rw [if_neg h2, if_neg r1, show S.h + L.t + L.b - L.r = L.t + S.h + L.b - L.r by omega]
            have e7 : afV L S.v = stN S.v L.l L.q L.s L.sx := by unfold afV stN; rw [if_neg h2, if_neg r2, show S.v + L.l + L.q - L.s = L.l + S.v + L.q - L.s by omega]
            rw [f1, f2, f3, e6, e7]
            exact ⟨.inr ⟨hW, by omega, by omega⟩, rfl, rfl, rfl⟩
/-- The shape behind each layer of a network without a fault. -/
theorem sp_af {H V C : Int} {M i : Nat} {ua : Option Addr} {uc : Nat} {lf : Nat → Ly} (h : Mk H V C M M lf) (hi : i < M) :
    ((lf i).kd = 2 ∨ (WOk (lf i).r (lf i).s (lf i).sy (lf i).sx (lf i).t (lf i).l (lf i).b (lf i).q ∧ (lf i).r ≤ (sp (mkN H V C M ua uc lf) i).h + (lf i).t + (lf i).b ∧ (lf i).s ≤ (sp (mkN H V C M ua uc lf) i).v + (lf i).l + (lf i).q)) ∧ (sp (mkN H V C M ua uc lf) (i + 1)).h = afH (lf i) (sp (mkN H V C M ua uc lf) i).h ∧ (sp (mkN H V C M ua uc lf) (i + 1)).v = afV (lf i) (sp (mkN H V C M ua uc lf) i).v ∧ (sp (mkN H V C M ua uc lf) (i + 1)).c = (if (lf i).kd = 3 then (sp (mkN H V C M ua uc lf) i).c else (lf i).k) := by
  have e := sp_mk H V C M ua none uc 0 lf lf i (fun _ _ => rfl)
  have h0 : faE (lf i) (sp (mkN H V C M none 0 lf) i) = 0 := (h.1 i hi).1
  rw [← e] at h0
  exact af_any h0
end Go.Proofs.Ytkhlhcbbbhbgeaa.Nn
/- NETMADE: a copy with one thing changed. -/
namespace Go.Proofs.Ytkhlhcbbbhbgeaa.Nn
open Go.RowKit

theorem mk_netG {W : World} {base : Nat} {nm : ByteArray} {H V C : Int} {M : Nat} {ua : Option Addr} {uc : Nat} {lf : Nat → Ly} (hnm : nm.size ≤ 1000) (hM : M ≤ 64) (hrow : W.ownsRow base 47 15 (.slice ua M uc) M (lyLs lf M)) (hlo : ∀ j, j < M → Lo W base (lf j) ∧ (lf j).mw ≤ 1000000 ∧ (lf j).mn ≤ 1000000 ∧ (lf j).mb ≤ 1000000) : NtW W ⟨nm, H, V, C, ua, M, uc, lf⟩ := by
  refine ⟨fun j hj => ?_, by show M ≤ _; omega, by show nm.size ≤ _; omega⟩
  have hj : j < M := hj
  obtain ⟨g, e, -, -, -, hc⟩ := own_cellsS hrow (by omega)
  have key : ∀ c, c < 15 → W.cell? ⟨g, 0 + j * 15 + c, none⟩ = (lyC (lf j))[c]? := fun c hc' => by
    rw [Nat.zero_add, hc _ (by omega)]
    exact rl_get (s := 15) (fun _ => rfl) M hj hc'
  obtain ⟨h1, h2, h3, h4⟩ := hlo j hj
  exact ⟨g, 0, e, ⟨key 0 (by decide), key 1 (by decide), key 2 (by decide), key 3 (by decide), key 4 (by decide), key 5 (by decide), key 6 (by decide), key 7 (by decide), key 8 (by decide), key 9 (by decide), key 10 (by decide), key 11 (by decide), key 12 (by decide), key 13 (by decide), key 14 (by decide)⟩, h1.lst h2 h3 h4⟩
/-- The copy's memory. -/
def Cm (W : World) (base g : Nat) (nm : ByteArray) (H V C : Int) (M : Nat) (ua : Option Addr) (uc : Nat) (cf : Nat → Ly) : Prop :=
  W.rowIs g 31 5 (netF nm H V C (.slice ua M uc)) ∧ W.ownsRow base 47 15 (.slice ua M uc) M (lyLs cf M) ∧ (∀ j, j < M → Lo W base (cf j) ∧ (cf j).mw ≤ 1000000 ∧ (cf j).mn ≤ 1000000 ∧ (cf j).mb ≤ 1000000) ∧ base ≤ g
theorem Cm.net {W : World} {base g : Nat} {nm : ByteArray} {H V C : Int} {M : Nat} {ua : Option Addr} {uc : Nat} {cf : Nat → Ly} (h : Cm W base g nm H V C M ua uc cf) (hnm : nm.size ≤ 1000) (hM : M ≤ 64) : NtW W ⟨nm, H, V, C, ua, M, uc, cf⟩ := mk_netG hnm hM h.2.1 h.2.2.1
theorem Cm.keep {W X : World} {base g : Nat} {nm : ByteArray} {H V C : Int} {M : Nat} {ua : Option Addr} {uc : Nat} {cf : Nat → Ly} (h : Cm W base g nm H V C M ua uc cf) (hb : Below W.heap.size W X) : Cm X base g nm H V C M ua uc cf :=
  ⟨World.rowIs.of_block h.1 (hb.block _ h.1.lt), own_bl h.2.1 hb, fun j hj => ⟨(h.2.2.1 j hj).1.bl hb, (h.2.2.1 j hj).2⟩, h.2.2.2⟩
theorem Lo.hi {W : World} {base g j t k : Nat} {L : Ly} {u : Value} {F : Nat → Value} (h : Lo W base L) (hr : W.rowIs g t k F) (h8 : 60 ≠ t) (hn : 62 ≠ t) (h6 : 2 ≠ t) : Lo (W.setCell ⟨g, j, none⟩ u) base L := ⟨own_setHi h.1 hr.lt hr h8, own_setHi h.2.1 hr.lt hr hn, own_setHi h.2.2 hr.lt hr h6⟩
/-- Its name, or the input's channels. -/
theorem Cm.name {W : World} {base g : Nat} {nm : ByteArray} {H V C : Int} {M : Nat} {ua : Option Addr} {uc : Nat} {cf : Nat → Ly} (h : Cm W base g nm H V C M ua uc cf) (nm' : ByteArray) : Cm (W.setCell ⟨g, 0, none⟩ (.string nm')) base g nm' H V C M ua uc cf :=
  ⟨(h.1.set 0 _).congr fun q hq => (by rcases (show q = 0 ∨ q = 1 ∨ q = 2 ∨ q = 3 ∨ q = 4 by omega) with rfl | rfl | rfl | rfl | rfl <;> rfl), own_setHi h.2.1 h.1.lt h.1 (by decide), fun j hj => ⟨(h.2.2.1 j hj).1.hi h.1 (by decide) (by decide) (by decide), (h.2.2.1 j hj).2⟩, h.2.2.2⟩
theorem Cm.chan {W : World} {base g : Nat} {nm : ByteArray} {H V C : Int} {M : Nat} {ua : Option Addr} {uc : Nat} {cf : Nat → Ly} (h : Cm W base g nm H V C M ua uc cf) (C' : Int) : Cm (W.setCell ⟨g, 3, none⟩ (.int .i64 C')) base g nm H V C' M ua uc cf :=
  ⟨(h.1.set 3 _).congr fun q hq => (by rcases (show q = 0 ∨ q = 1 ∨ q = 2 ∨ q = 3 ∨ q = 4 by omega) with rfl | rfl | rfl | rfl | rfl <;> rfl), own_setHi h.2.1 h.1.lt h.1 (by decide), fun j hj => ⟨(h.2.2.1 j hj).1.hi h.1 (by decide) (by decide) (by decide), (h.2.2.1 j hj).2⟩, h.2.2.2⟩
theorem ownNe {W : World} {b1 b2 e1 e2 s1 s2 n1 n2 q : Nat} {v1 v2 : Value} {x1 x2 : List Value} (h1 : W.ownsRow b1 e1 s1 v1 n1 x1) (h2 : W.ownsRow b2 e2 s2 v2 n2 x2) (hne : e1 ≠ e2) (hq : v2.ownBlock = some q) : ∀ p, v1.ownBlock = some p → p ≠ q := fun p hp e => by
  subst e
  rcases own_neD h1 h2 hne with h | h
  · rw [h] at hp; cases hp
  · exact h (hp.trans hq.symm)
theorem rowNe {W : World} {g t k b2 e2 s2 n2 q : Nat} {F : Nat → Value} {v2 : Value} {x2 : List Value} (h : W.rowIs g t k F) (h2 : W.ownsRow b2 e2 s2 v2 n2 x2) (hne : e2 ≠ t) (hq : v2.ownBlock = some q) : g ≠ q := fun e => (own_ne_row h2 h hne q hq) e.symm
/-- A layer with another first weight, bias, or number of outputs. -/
abbrev wtL (L : Ly) (y : Int) : Ly := { L with ws := fun j => if j = 0 then y else L.ws j }
abbrev biL (L : Ly) (y : Int) : Ly := { L with bs := fun j => if j = 0 then y else L.bs j }
abbrev kL (L : Ly) (y : Int) : Ly := { L with k := y }
theorem set0_map {f g : Nat → Int} {n : Nat} {y : Int} (c : Int → Value) (hn : 1 ≤ n) (hg : ∀ j, g j = if j = 0 then y else f j) : (((List.range n).map f).map c).set 0 (c y) = ((List.range n).map g).map c := by
  apply List.ext_getElem?
  intro k
  rw [List.getElem?_set]
  by_cases hk : 0 = k
  · subst hk
    rw [if_pos rfl, if_pos (by simp; omega)]
    simp [hg, show 0 < n by omega]
  · rw [if_neg hk]
    by_cases hkn : k < n
    · simp [hkn, hg, show ¬ k = 0 by omega]
    · simp [hkn]
theorem sn_at {cf : Nat → Ly} {k : Nat} {L : Ly} {P : Ly → Prop} {M : Nat} (h1 : P L) (h2 : ∀ j, j < M → j ≠ k → P (cf j)) : ∀ j, j < M → P (sn cf k L j) := fun j hj => by
  unfold sn
  by_cases h : j = k
  · rw [if_pos h]; exact h1
  · rw [if_neg h]; exact h2 j hj h
theorem lyLs_same {cf : Nat → Ly} {k M : Nat} {L : Ly} (h : lyC L = lyC (cf k)) : lyLs (sn cf k L) M = lyLs cf M := rl_congr M fun j _ => by
  unfold sn
  by_cases e : j = k
  · subst e; rw [if_pos rfl, h]
  · rw [if_neg e]
theorem Cm.weight {W : World} {base g q : Nat} {nm : ByteArray} {H V C : Int} {M : Nat} {ua : Option Addr} {uc : Nat} {cf : Nat → Ly} (h : Cm W base g nm H V C M ua uc cf) (hd : Dis cf M) {k : Nat} (hk : k < M) (hw : 1 ≤ (cf k).mw) (hq : (cf k).aw = some ⟨q, 0, none⟩) (y : Int) : Cm (W.setCell ⟨q, 0, none⟩ (.int .i8 y)) base g nm H V C M ua uc (sn cf k (wtL (cf k) y)) := by
  obtain ⟨h1, h2, h3, h4⟩ := h
  have lk := (h3 k hk).1
  have ob : obW (cf k) = some q := by unfold obW; rw [hq]; rfl
  refine ⟨h1.setOther (rowNe h1 lk.1 (by decide) ob) _, ?_, sn_at (P := fun L => Lo _ base L ∧ L.mw ≤ 1000000 ∧ L.mn ≤ 1000000 ∧ L.mb ≤ 1000000) ⟨⟨?_, ?_, ?_⟩, (h3 k hk).2⟩ fun j hj hne => ⟨⟨?_, ?_, ?_⟩, (h3 j hj).2⟩, h4⟩
  · rw [lyLs_same (L := wtL (cf k) y) rfl]
    exact own_setNe h2 (ownNe h2 lk.1 (by decide) ob)
  · have l1 := lk.1
    rw [hq] at l1
    have := (l1.stored 0 (.int .i8 y)).1
    unfold i8L at this
    rw [set0_map (Value.int .i8) hw (fun _ => rfl)] at this
    show (W.setCell _ _).ownsRow base _ 1 (.slice (cf k).aw _ _) _ _
    rw [hq]
    exact this
  · exact own_setNe lk.2.1 (ownNe lk.2.1 lk.1 (by decide) ob)
  · exact own_setNe lk.2.2 (ownNe lk.2.2 lk.1 (by decide) ob)
  · exact own_setNe (h3 j hj).1.1 fun p hp e => (hd j hj k hk hne).1 p hp (by rw [e]; exact ob)
  · exact own_setNe (h3 j hj).1.2.1 (ownNe (h3 j hj).1.2.1 lk.1 (by decide) ob)
  · exact own_setNe (h3 j hj).1.2.2 (ownNe (h3 j hj).1.2.2 lk.1 (by decide) ob)
theorem Cm.bias {W : World} {base g q : Nat} {nm : ByteArray} {H V C : Int} {M : Nat} {ua : Option Addr} {uc : Nat} {cf : Nat → Ly} (h : Cm W base g nm H V C M ua uc cf) (hd : Dis cf M) {k : Nat} (hk : k < M) (hw : 1 ≤ (cf k).mb) (hq : (cf k).ab = some ⟨q, 0, none⟩) (y : Int) : Cm (W.setCell ⟨q, 0, none⟩ (.int .i64 y)) base g nm H V C M ua uc (sn cf k (biL (cf k) y)) := by
  obtain ⟨h1, h2, h3, h4⟩ := h
  have lk := (h3 k hk).1
  have ob : obB (cf k) = some q := by unfold obB; rw [hq]; rfl
  refine ⟨h1.setOther (rowNe h1 lk.2.2 (by decide) ob) _, ?_, sn_at (P := fun L => Lo _ base L ∧ L.mw ≤ 1000000 ∧ L.mn ≤ 1000000 ∧ L.mb ≤ 1000000) ⟨⟨?_, ?_, ?_⟩, (h3 k hk).2⟩ fun j hj hne => ⟨⟨?_, ?_, ?_⟩, (h3 j hj).2⟩, h4⟩
  · rw [lyLs_same (L := biL (cf k) y) rfl]
    exact own_setNe h2 (ownNe h2 lk.2.2 (by decide) ob)
  · exact own_setNe lk.1 (ownNe lk.1 lk.2.2 (by decide) ob)
  · exact own_setNe lk.2.1 (ownNe lk.2.1 lk.2.2 (by decide) ob)
  · have l1 := lk.2.2
    rw [hq] at l1
    have := (l1.stored 0 (.int .i64 y)).1
    unfold i64L at this
    rw [set0_map (Value.int .i64) hw (fun _ => rfl)] at this
    show (W.setCell _ _).ownsRow base _ 1 (.slice (cf k).ab _ _) _ _
    rw [hq]
    exact this
  · exact own_setNe (h3 j hj).1.1 (ownNe (h3 j hj).1.1 lk.2.2 (by decide) ob)
  · exact own_setNe (h3 j hj).1.2.1 (ownNe (h3 j hj).1.2.1 lk.2.2 (by decide) ob)
  · exact own_setNe (h3 j hj).1.2.2 fun p hp e => (hd j hj k hk hne).2.1 p hp (by rw [e]; exact ob)
theorem ls_set2 {cf : Nat → Ly} {M : Nat} (hM : 1 ≤ M) (y : Int) : (lyLs cf M).set 2 (.int .i64 y) = lyLs (sn cf 0 (kL (cf 0) y)) M := by
  rw [← ls_put (show 0 < M by omega)]
  apply List.ext_getElem?
  intro k
  have hl : (lyLs cf M).length = M * 15 := rl_len (s := 15) (fun _ => rfl) M
  rw [putL_get _ _ _ _ (by rw [hl, lyC_len]; omega), lyC_len, List.getElem?_set]
  by_cases hk : k < 15
  · have h2 : (lyLs cf M)[k]? = (lyC (cf 0))[k]? := by
      have := rl_get (F := fun j => lyC (cf j)) (s := 15) (fun _ => rfl) M (j := 0) (c := k) (by omega) hk
      rwa [Nat.zero_mul, Nat.zero_add] at this
    have e : (if 0 * 15 ≤ k ∧ k < 0 * 15 + 15 then (lyC (kL (cf 0) y))[k - 0 * 15]? else (lyLs cf M)[k]?) = (lyC (kL (cf 0) y))[k]? := by
      rw [if_pos (by omega), show k - 0 * 15 = k by omega]
    rw [e]
    by_cases h : 2 = k
    · subst h
      rw [if_pos rfl, if_pos (by omega)]
      rfl
    · rw [if_neg h, h2]
      rcases (show k = 0 ∨ k = 1 ∨ k = 3 ∨ k = 4 ∨ k = 5 ∨ k = 6 ∨ k = 7 ∨ k = 8 ∨ k = 9 ∨ k = 10 ∨ k = 11 ∨ k = 12 ∨ k = 13 ∨ k = 14 by omega) with rfl | rfl | rfl | rfl | rfl | rfl | rfl | rfl | rfl | rfl | rfl | rfl | rfl | rfl <;> rfl
  · have e : (if 0 * 15 ≤ k ∧ k < 0 * 15 + 15 then (lyC (kL (cf 0) y))[k - 0 * 15]? else (lyLs cf M)[k]?) = (lyLs cf M)[k]? := if_neg (by omega)
    rw [e, if_neg (by omega)]
theorem Cm.outs {W : World} {base g G : Nat} {nm : ByteArray} {H V C : Int} {M : Nat} {uc : Nat} {cf : Nat → Ly} (h : Cm W base g nm H V C M (some ⟨G, 0, none⟩) uc cf) (hM : 1 ≤ M) (y : Int) : Cm (W.setCell ⟨G, 2, none⟩ (.int .i64 y)) base g nm H V C M (some ⟨G, 0, none⟩) uc (sn cf 0 (kL (cf 0) y)) := by
  obtain ⟨h1, h2, h3, h4⟩ := h
  have ob : (Value.slice (some ⟨G, 0, none⟩) M uc).ownBlock = some G := rfl
  have key : ∀ L, Lo W base L → Lo (W.setCell ⟨G, 2, none⟩ (.int .i64 y)) base L := fun L l => ⟨own_setNe l.1 (ownNe l.1 h2 (by decide) ob), own_setNe l.2.1 (ownNe l.2.1 h2 (by decide) ob), own_setNe l.2.2 (ownNe l.2.2 h2 (by decide) ob)⟩
  refine ⟨h1.setOther (rowNe h1 h2 (by decide) ob) _, ?_, sn_at (P := fun L => Lo _ base L ∧ L.mw ≤ 1000000 ∧ L.mn ≤ 1000000 ∧ L.mb ≤ 1000000) ⟨key _ (h3 0 (by omega)).1, (h3 0 (by omega)).2⟩ fun j hj hne => ⟨key _ (h3 j hj).1, (h3 j hj).2⟩, h4⟩
  rw [← ls_set2 hM]
  exact (h2.stored 2 (.int .i64 y)).1
/-- Copies are the same; changed ones are not. -/
theorem cpy_lyE (L : Ly) (a1 : Option Addr) (c1 : Nat) (a2 : Option Addr) (c2 : Nat) (a3 : Option Addr) (c3 : Nat) : lyE (cpy L a1 c1 a2 c2 a3 c3) L ∧ lyE L (cpy L a1 c1 a2 c2 a3 c3) :=
  ⟨⟨⟨rfl, rfl, rfl, ⟨rfl, rfl, rfl, rfl, rfl, rfl, rfl, rfl⟩, rfl, rfl, rfl, rfl⟩, fun _ _ => rfl, fun _ _ => ⟨⟨rfl, rfl⟩, ⟨rfl, rfl⟩, ⟨rfl, rfl⟩, rfl, rfl⟩, fun _ _ => rfl⟩, ⟨⟨rfl, rfl, rfl, ⟨rfl, rfl, rfl, rfl, rfl, rfl, rfl, rfl⟩, rfl, rfl, rfl, rfl⟩, fun _ _ => rfl, fun _ _ => ⟨⟨rfl, rfl⟩, ⟨rfl, rfl⟩, ⟨rfl, rfl⟩, rfl, rfl⟩, fun _ _ => rfl⟩⟩
theorem ne_w {cf lf : Nat → Ly} {kk M cc ucl : Nat} {y H V C : Int} {ua ul : Option Addr} (hk : kk < M) (he : lyE (cf kk) (lf kk)) (hm : 1 ≤ (cf kk).mw) (hy : ¬ y = (cf kk).ws 0) : ¬ ntE ⟨nmX, H, V, C, ua, M, cc, sn cf kk (wtL (cf kk) y)⟩ (mkN H V C M ul ucl lf) ∧ ¬ ntE (mkN H V C M ul ucl lf) ⟨nmX, H, V, C, ua, M, cc, sn cf kk (wtL (cf kk) y)⟩ := by
  have e0 := he.2.1 0 (by omega)
  have em : (cf kk).mw = (lf kk).mw := he.1.2.2.2.2.2.1
  refine ⟨fun h => ?_, fun h => ?_⟩
  · have this : lyE (sn cf kk (wtL (cf kk) y) kk) (lf kk) := h.2.2.2 kk hk
    rw [sn_eq] at this
    have := this.2.1 0 (by show 0 < (cf kk).mw; omega)
    have : y = (lf kk).ws 0 := this
    exact hy (this.trans e0.symm)
  · have this : lyE (lf kk) (sn cf kk (wtL (cf kk) y) kk) := h.2.2.2 kk hk
    rw [sn_eq] at this
    have := this.2.1 0 (by show 0 < (lf kk).mw; omega)
    have : (lf kk).ws 0 = y := this
    exact hy (this.symm.trans e0.symm)
theorem ne_b {cf lf : Nat → Ly} {kk M cc ucl : Nat} {y H V C : Int} {ua ul : Option Addr} (hk : kk < M) (he : lyE (cf kk) (lf kk)) (hm : 1 ≤ (cf kk).mb) (hy : ¬ y = (cf kk).bs 0) : ¬ ntE ⟨nmX, H, V, C, ua, M, cc, sn cf kk (biL (cf kk) y)⟩ (mkN H V C M ul ucl lf) ∧ ¬ ntE (mkN H V C M ul ucl lf) ⟨nmX, H, V, C, ua, M, cc, sn cf kk (biL (cf kk) y)⟩ := by
  have e0 := he.2.2.2 0 (by omega)
  have em : (cf kk).mb = (lf kk).mb := he.1.2.2.2.2.2.2.2
  refine ⟨fun h => ?_, fun h => ?_⟩
  · have this : lyE (sn cf kk (biL (cf kk) y) kk) (lf kk) := h.2.2.2 kk hk
    rw [sn_eq] at this
    have := this.2.2.2 0 (by show 0 < (cf kk).mb; omega)
    have : y = (lf kk).bs 0 := this
    exact hy (this.trans e0.symm)
  · have this : lyE (lf kk) (sn cf kk (biL (cf kk) y) kk) := h.2.2.2 kk hk
    rw [sn_eq] at this
    have := this.2.2.2 0 (by show 0 < (lf kk).mb; omega)
    have : (lf kk).bs 0 = y := this
    exact hy (this.symm.trans e0.symm)
theorem ne_k {cf lf : Nat → Ly} {M cc ucl : Nat} {y H V C : Int} {ua ul : Option Addr} (hk : 0 < M) (he : lyE (cf 0) (lf 0)) (hy : ¬ y = (cf 0).k) : ¬ ntE ⟨nmX, H, V, C, ua, M, cc, sn cf 0 (kL (cf 0) y)⟩ (mkN H V C M ul ucl lf) ∧ ¬ ntE (mkN H V C M ul ucl lf) ⟨nmX, H, V, C, ua, M, cc, sn cf 0 (kL (cf 0) y)⟩ := by
  have e0 : (cf 0).k = (lf 0).k := he.1.2.2.1
  refine ⟨fun h => ?_, fun h => ?_⟩
  · have this : lyE (sn cf 0 (kL (cf 0) y) 0) (lf 0) := h.2.2.2 0 hk
    rw [sn_eq] at this
    have : y = (lf 0).k := this.1.2.2.1
    exact hy (this.trans e0.symm)
  · have this : lyE (lf 0) (sn cf 0 (kL (cf 0) y) 0) := h.2.2.2 0 hk
    rw [sn_eq] at this
    have : (lf 0).k = y := this.1.2.2.1
    exact hy (this.symm.trans e0.symm)
abbrev zL : Ly := ⟨0, 0, 0, 0, 0, 0, 0, 0, 0, 0, 0, 0, none, 0, 0, none, 0, 0, none, 0, 0, fun _ => 0, fun _ _ => 0, fun _ => 0⟩
/-- A layer more. -/
theorem Cm.more {W Y : World} {base g c3 : Nat} {a3 : Option Addr} {nm : ByteArray} {H V C : Int} {M : Nat} {ua : Option Addr} {uc : Nat} {cf : Nat → Ly} (h : Cm W base g nm H V C M ua uc cf) (own : Y.ownsRow base 47 15 (.slice a3 (M + 1) c3) (M + 1) (lyLs cf M ++ lyC zL)) (gr : (W.alloc (lyo zL)).grownBy Y (Value.slice ua M uc).ownBlock) : Cm (Y.setCell ⟨g, 4, none⟩ (.slice a3 (M + 1) c3)) base g nm H V C (M + 1) a3 c3 (sn cf M zL) := by
  obtain ⟨h1, h2, h3, h4⟩ := h
  have B1 : Below W.heap.size W (W.alloc (lyo zL)) := bl_alloc (Below.refl _ _) _
  have R1 := World.rowIs.of_block h1 (B1.block _ h1.lt)
  have O1 := own_bl h2 B1
  have R2 : Y.rowIs g 31 5 (netF nm H V C (.slice ua M uc)) := World.rowIs.of_block R1 (gr.block g R1.lt (fun e => own_ne_row O1 R1 (by decide) g e.symm rfl))
  refine ⟨(R2.set 4 _).congr fun q hq => (by rcases (show q = 0 ∨ q = 1 ∨ q = 2 ∨ q = 3 ∨ q = 4 by omega) with rfl | rfl | rfl | rfl | rfl <;> rfl), ?_, fun j hj => ?_, h4⟩
  · have e : lyLs (sn cf M zL) (M + 1) = lyLs cf M ++ lyC zL := by
      show rl _ M ++ lyC (sn cf M zL M) = _
      rw [sn_eq]
      congr 1
      exact rl_congr M fun j hj => by rw [sn_ne hj]
    rw [e]
    exact own_setHi own R2.lt R2 (by decide)
  · by_cases hjM : j = M
    · subst hjM
      rw [show sn cf j zL j = zL from sn_eq]
      exact ⟨lo_nil _ _ _ _ _ _ _ _ _ _ _ _ _ _, by decide, by decide, by decide⟩
    · rw [show sn cf M zL j = cf j from sn_ne (by omega)]
      exact ⟨(((h3 j (by omega)).1.bl B1).grow O1 (by decide) (by decide) (by decide) gr).hi R2 (by decide) (by decide) (by decide), (h3 j (by omega)).2⟩
end Go.Proofs.Ytkhlhcbbbhbgeaa.Nn
