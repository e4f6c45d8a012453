import Derived.Test.YtkhlhcbbbhbgeaaNP5
import Derived.Test.YtkhlhcbbbhbgeaaQCPlainBig
import Derived.Test.YtkhlhcbbbhbgeaaNO6
import Derived.BigQuiet
import Derived.Test.YtkhlhcbbbhbgeaaOB1
import Derived.Test.YtkhlhcbbbhbgeaaDW7
import Derived.Deep.AppendLies
import Derived.Laws.AppendOwnNone
import Derived.WalkLawsBesides
import Derived.Test.YtkhlhcbbbhbgeaaQBPlainBig
import Derived.Deep.RegionHeld3
/- NETWORKS: THE CHAPTER'S EXAMPLE. -/
namespace Go.Proofs.Ytkhlhcbbbhbgeaa.Nn
open Go.RowKit

def exA (B : Nat) : Ly := ⟨1, 1, 1, 2, 2, 1, 1, 1, 1, 1, 1, 1, some ⟨B + 4, 0, none⟩, 4, 4, some ⟨B + 5, 0, none⟩, 1, 1, none, 0, 0, fun j => [1, -1, -1, 1].getD j 0, fun _ i => [1, 1, 0, 1, 0, 1, 1, 1].getD i 0, fun _ => 0⟩
def exP : Ly := ⟨3, 0, 0, 2, 2, 1, 1, 0, 0, 0, 0, 0, none, 0, 0, none, 0, 0, none, 0, 0, fun _ => 0, fun _ _ => 0, fun _ => 0⟩
def exD (B : Nat) (x : Int) : Ly := ⟨2, 2, 2, 0, 0, 0, 0, 0, 0, 0, 0, 0, some ⟨B + 8, 0, none⟩, 8, 8, none, 0, 0, some ⟨B + 9, 0, none⟩, 2, 2, fun j => [1, 0, -1, 1, 0, 0, 0, 1].getD j 0, fun _ _ => 0, fun j => [x, -4].getD j 0⟩
def exN (B : Nat) (x : Int) : Nt := ⟨⟨#[110]⟩, 2, 2, 1, some ⟨B + 11, 0, none⟩, 3, 3, fun i => match i with | 0 => exA B | 1 => exP | _ => exD B x⟩
abbrev lcs (L : Ly) : List Value := [.int .i64 L.kd, .int .i64 L.wt, .int .i64 L.k, .int .i64 L.r, .int .i64 L.s, .int .i64 L.sy, .int .i64 L.sx, .int .i64 L.t, .int .i64 L.l, .int .i64 L.b, .int .i64 L.q, .int .i64 L.bd, .slice L.aw L.mw L.cw, .slice L.an L.mn L.cn, .slice L.ab L.mb L.cb]
abbrev i8c (l : List Int) : Array Value := (l.map (Value.int .i8)).toArray
abbrev i64c (l : List Int) : Array Value := (l.map (Value.int .i64)).toArray
abbrev exRow (B : Nat) : Array Value := #[.int .i64 (exA B).kd, .int .i64 (exA B).wt, .int .i64 (exA B).k, .int .i64 (exA B).r, .int .i64 (exA B).s, .int .i64 (exA B).sy, .int .i64 (exA B).sx, .int .i64 (exA B).t, .int .i64 (exA B).l, .int .i64 (exA B).b, .int .i64 (exA B).q, .int .i64 (exA B).bd, .slice (exA B).aw (exA B).mw (exA B).cw, .slice (exA B).an (exA B).mn (exA B).cn, .slice (exA B).ab (exA B).mb (exA B).cb, .int .i64 exP.kd, .int .i64 exP.wt, .int .i64 exP.k, .int .i64 exP.r, .int .i64 exP.s, .int .i64 exP.sy, .int .i64 exP.sx, .int .i64 exP.t, .int .i64 exP.l, .int .i64 exP.b, .int .i64 exP.q, .int .i64 exP.bd, .slice exP.aw exP.mw exP.cw, .slice exP.an exP.mn exP.cn, .slice exP.ab exP.mb exP.cb, .int .i64 (exD B 3).kd, .int .i64 (exD B 3).wt, .int .i64 (exD B 3).k, .int .i64 (exD B 3).r, .int .i64 (exD B 3).s, .int .i64 (exD B 3).sy, .int .i64 (exD B 3).sx, .int .i64 (exD B 3).t, .int .i64 (exD B 3).l, .int .i64 (exD B 3).b, .int .i64 (exD B 3).q, .int .i64 (exD B 3).bd, .slice (exD B 3).aw (exD B 3).mw (exD B 3).cw, .slice (exD B 3).an (exD B 3).mn (exD B 3).cn, .slice (exD B 3).ab (exD B 3).mb (exD B 3).cb]
/-- The example's lists lie in memory. -/
def ExB (W : World) (B : Nat) (x : Int) : Prop := W.heap[B + 4]? = some (.cells (i8c [1, -1, -1, 1]) 60) ∧ W.heap[B + 5]? = some (.cells (i64c [1, 1, 0, 1, 0, 1, 1, 1]) 62) ∧ W.heap[B + 8]? = some (.cells (i8c [1, 0, -1, 1, 0, 0, 0, 1]) 60) ∧ W.heap[B + 9]? = some (.cells (i64c [x, -4]) 2) ∧ W.heap[B + 11]? = some (.cells (exRow B) 47)
theorem lt_block {W : World} {b : Nat} {o : Obj} (h : W.heap[b]? = some o) : b < W.heap.size := (Array.getElem?_eq_some_iff.1 h).1
theorem keepb {W w' : World} (hb : Below W.heap.size W w') {b : Nat} {o : Obj} (h : W.heap[b]? = some o) : w'.heap[b]? = some o := (hb.block b (lt_block h)).trans h
theorem ExB.keep {W w' : World} {B : Nat} {x : Int} (h : ExB W B x) (hb : Below W.heap.size W w') : ExB w' B x := ⟨keepb hb h.1, keepb hb h.2.1, keepb hb h.2.2.1, keepb hb h.2.2.2.1, keepb hb h.2.2.2.2⟩
theorem bcl {W : World} {b : Nat} {cs : Array Value} {t : TypeId} (h : W.heap[b]? = some (.cells cs t)) {j : Nat} {v : Value} (e : cs[j]? = some v) : W.cell? ⟨b, j, none⟩ = some v := (block_cell h j).trans e
theorem four' {p : Nat → Prop} {i n : Nat} (h : i < n) (hp : ∀ j : Fin n, p j.1) : p i := hp ⟨i, h⟩
theorem lst_nil {W : World} {L : Ly} (h1 : L.mw = 0) (h2 : L.mn = 0) (h3 : L.mb = 0) : Lst W L := ⟨fun j hj => by omega, fun j hj => by omega, fun j hj => by omega, by omega, by omega, by omega⟩
set_option maxRecDepth 10000 in
theorem exB_A {W : World} {B : Nat} {x : Int} (h : ExB W B x) : Lst W (exA B) := by
  refine ⟨fun j hj => ⟨B + 4, 0, rfl, ?_⟩, fun j hj => ⟨B + 5, 0, rfl, ?_⟩, fun j hj => absurd hj (Nat.not_lt_zero j), (show (4 : Nat) ≤ 9223372036854775807 by decide), (show (1 : Nat) ≤ 9223372036854775807 by decide), (show (0 : Nat) ≤ 9223372036854775807 by decide)⟩
  · change j < 4 at hj
    rcases (show j = 0 ∨ j = 1 ∨ j = 2 ∨ j = 3 by omega) with rfl | rfl | rfl | rfl <;> exact bcl h.1 rfl
  · change j < 1 at hj
    obtain rfl : j = 0 := by omega
    exact ⟨bcl h.2.1 rfl, bcl h.2.1 rfl, bcl h.2.1 rfl, bcl h.2.1 rfl, bcl h.2.1 rfl, bcl h.2.1 rfl, bcl h.2.1 rfl, bcl h.2.1 rfl⟩
set_option maxRecDepth 10000 in
theorem exB_D {W : World} {B : Nat} {x : Int} (h : ExB W B x) : Lst W (exD B x) := by
  refine ⟨fun j hj => ⟨B + 8, 0, rfl, ?_⟩, fun j hj => absurd hj (Nat.not_lt_zero j), fun j hj => ⟨B + 9, 0, rfl, ?_⟩, (show (8 : Nat) ≤ 9223372036854775807 by decide), (show (0 : Nat) ≤ 9223372036854775807 by decide), (show (2 : Nat) ≤ 9223372036854775807 by decide)⟩
  · change j < 8 at hj
    rcases (show j = 0 ∨ j = 1 ∨ j = 2 ∨ j = 3 ∨ j = 4 ∨ j = 5 ∨ j = 6 ∨ j = 7 by omega) with rfl | rfl | rfl | rfl | rfl | rfl | rfl | rfl <;> exact bcl h.2.2.1 rfl
  · change j < 2 at hj
    rcases (show j = 0 ∨ j = 1 by omega) with rfl | rfl <;> exact bcl h.2.2.2.1 rfl
set_option maxRecDepth 10000 in
theorem exW {W : World} {B : Nat} {x : Int} (h : ExB W B x) : NtW W (exN B x) := by
  refine ⟨fun i hi => ⟨B + 11, 0, rfl, ?_⟩, (show (3 : Nat) ≤ 9223372036854775807 by decide), (show (1 : Nat) ≤ 9223372036854775807 by decide)⟩
  change i < 3 at hi
  have hb := h.2.2.2.2
  rcases (show i = 0 ∨ i = 1 ∨ i = 2 by omega) with rfl | rfl | rfl
  · exact ⟨⟨bcl hb rfl, bcl hb rfl, bcl hb rfl, bcl hb rfl, bcl hb rfl, bcl hb rfl, bcl hb rfl, bcl hb rfl, bcl hb rfl, bcl hb rfl, bcl hb rfl, bcl hb rfl, bcl hb rfl, bcl hb rfl, bcl hb rfl⟩, exB_A h⟩
  · exact ⟨⟨bcl hb rfl, bcl hb rfl, bcl hb rfl, bcl hb rfl, bcl hb rfl, bcl hb rfl, bcl hb rfl, bcl hb rfl, bcl hb rfl, bcl hb rfl, bcl hb rfl, bcl hb rfl, bcl hb rfl, bcl hb rfl, bcl hb rfl⟩, lst_nil rfl rfl rfl⟩
  · exact ⟨⟨bcl hb rfl, bcl hb rfl, bcl hb rfl, bcl hb rfl, bcl hb rfl, bcl hb rfl, bcl hb rfl, bcl hb rfl, bcl hb rfl, bcl hb rfl, bcl hb rfl, bcl hb rfl, bcl hb rfl, bcl hb rfl, bcl hb rfl⟩, exB_D h⟩
set_option maxRecDepth 10000 in
theorem ex_ok (B : Nat) : chE (exN B 3) = 0 ∧ chA (exN B 3) = 0 := by
  have h0 : whE (exN B 3) = 0 := by kernel_rfl
  refine ch_ok h0 fun j hj => ?_
  change j < 3 at hj
  rcases (show j = 0 ∨ j = 1 ∨ j = 2 by omega) with rfl | rfl | rfl <;> kernel_rfl
set_option maxRecDepth 10000 in
theorem ex_no (B : Nat) : chE (exN B 2147483644) = 55 ∧ chA (exN B 2147483644) = 2 := by
  have h0 : whE (exN B 2147483644) = 0 := by kernel_rfl
  have h2 : fl (exN B 2147483644) 2 = 55 := by kernel_rfl
  have := ch_at h0 (k := 2) (show 2 < 3 by decide) (fun j hj => by rcases (show j = 0 ∨ j = 1 by omega) with rfl | rfl <;> kernel_rfl) (by rw [h2]; decide)
  rw [h2] at this
  exact this
end Go.Proofs.Ytkhlhcbbbhbgeaa.Nn
/- NETWORKS: THE CHAPTER'S EXAMPLE, MADE. -/
namespace Go.Proofs.Ytkhlhcbbbhbgeaa.Nn
open Go.RowKit

theorem new_at {W : World} {g : Nat} (hg : W.heap.size = g) (o : Obj) : (W.alloc o).heap[g]? = some o := by subst hg; exact new_block W o
theorem old_at {W : World} {g : Nat} {o' : Obj} (h : W.heap[g]? = some o') (o : Obj) : (W.alloc o).heap[g]? = some o' := (old_block W o (lt_block h)).trans h
theorem bfz {W : World} {b : Nat} {cs : Array Value} {t : TypeId} (h : W.heap[b]? = some (.cells cs t)) (j : Nat) : W.frozen? ⟨b, j, none⟩ = false := by simp [World.frozen?, h]
theorem ExB.exc {W w' : World} {B b : Nat} {x : Int} (h : ExB W B x) (hb : Exc b W w') (hne : b ≤ B) : ExB w' B x := ⟨(hb.2 _ (by omega)).trans h.1, (hb.2 _ (by omega)).trans h.2.1, (hb.2 _ (by omega)).trans h.2.2.1, (hb.2 _ (by omega)).trans h.2.2.2.1, (hb.2 _ (by omega)).trans h.2.2.2.2⟩
theorem row_of_block {W : World} {b : Nat} {c : Array Value} {t : TypeId} (h : W.heap[b]? = some (.cells c t)) : W.rowIs b t c.size (fun i => (c[i]?).getD undef) := ⟨c, h, rfl, fun i hi => by simp [hi]⟩
theorem gen_body {P : Program} {fn : Func} {R : Ending → World → Prop} {x : Exit} {a : Act} {W : World} (p : World → Prop) (hp : p W) (h : ∀ W', p W' → bodyPost P fn R x a W') : bodyPost P fn R x a W := h W hp
theorem net_cells {W : World} {g : Nat} {t : TypeId} {f : Nat → Value} {a b c d e : Value} (h : W.rowIs g t 5 f) : (((((W.setCell ⟨g, 0, none⟩ a).setCell ⟨g, 1, none⟩ b).setCell ⟨g, 2, none⟩ c).setCell ⟨g, 3, none⟩ d).setCell ⟨g, 4, none⟩ e).rowIs g t 5 (fun j => match j with | 0 => a | 1 => b | 2 => c | 3 => d | _ => e) :=
  (((((h.set 0 a).set 1 b).set 2 c).set 3 d).set 4 e).congr fun i hi => by
    rcases (show i = 0 ∨ i = 1 ∨ i = 2 ∨ i = 3 ∨ i = 4 by omega) with rfl | rfl | rfl | rfl | rfl <;> rfl
abbrev netZ : Obj := .cells #[.string ⟨#[]⟩, .int .i64 0, .int .i64 0, .int .i64 0, .slice none 0 0] 31
abbrev layO (L : Ly) : Obj := .cells #[.int .i64 L.kd, .int .i64 L.wt, .int .i64 L.k, .int .i64 L.r, .int .i64 L.s, .int .i64 L.sy, .int .i64 L.sx, .int .i64 L.t, .int .i64 L.l, .int .i64 L.b, .int .i64 L.q, .int .i64 L.bd, .slice L.aw L.mw L.cw, .slice L.an L.mn L.cn, .slice L.ab L.mb L.cb] 47
abbrev row3 (LA LB LC : Ly) : Array Value := #[.int .i64 LA.kd, .int .i64 LA.wt, .int .i64 LA.k, .int .i64 LA.r, .int .i64 LA.s, .int .i64 LA.sy, .int .i64 LA.sx, .int .i64 LA.t, .int .i64 LA.l, .int .i64 LA.b, .int .i64 LA.q, .int .i64 LA.bd, .slice LA.aw LA.mw LA.cw, .slice LA.an LA.mn LA.cn, .slice LA.ab LA.mb LA.cb, .int .i64 LB.kd, .int .i64 LB.wt, .int .i64 LB.k, .int .i64 LB.r, .int .i64 LB.s, .int .i64 LB.sy, .int .i64 LB.sx, .int .i64 LB.t, .int .i64 LB.l, .int .i64 LB.b, .int .i64 LB.q, .int .i64 LB.bd, .slice LB.aw LB.mw LB.cw, .slice LB.an LB.mn LB.cn, .slice LB.ab LB.mb LB.cb, .int .i64 LC.kd, .int .i64 LC.wt, .int .i64 LC.k, .int .i64 LC.r, .int .i64 LC.s, .int .i64 LC.sy, .int .i64 LC.sx, .int .i64 LC.t, .int .i64 LC.l, .int .i64 LC.b, .int .i64 LC.q, .int .i64 LC.bd, .slice LC.aw LC.mw LC.cw, .slice LC.an LC.mn LC.cn, .slice LC.ab LC.mb LC.cb]
end Go.Proofs.Ytkhlhcbbbhbgeaa.Nn
/- PLAIN'S STATEMENTS: THE FIRST EXAMPLE, MADE. -/
namespace Go.Proofs.Ytkhlhcbbbhbgeaa.Nn
open Go.RowKit

def e6A (B : Nat) : Ly := ⟨2, 1, 2, 0, 0, 0, 0, 0, 0, 0, 0, 0, some ⟨B + 4, 0, none⟩, 4, 4, some ⟨B + 5, 0, none⟩, 2, 2, none, 0, 0, fun j => [1, 1, 1, -1].getD j 0, fun _ i => [1, 1, 0, 1, 0, 1, 1, 1].getD i 0, fun _ => 0⟩
def e6B (B : Nat) : Ly := ⟨2, 2, 2, 0, 0, 0, 0, 0, 0, 0, 0, 0, some ⟨B + 7, 0, none⟩, 4, 4, none, 0, 0, some ⟨B + 8, 0, none⟩, 2, 2, fun j => [1, 0, -1, 1].getD j 0, fun _ _ => 0, fun j => [0, 5].getD j 0⟩
def e6N (B : Nat) : Nt := ⟨⟨#[110]⟩, 1, 1, 2, some ⟨B + 10, 0, none⟩, 2, 2, fun i => match i with | 0 => e6A B | _ => e6B B⟩
abbrev e6Row (B : Nat) : Array Value := #[.int .i64 (e6A B).kd, .int .i64 (e6A B).wt, .int .i64 (e6A B).k, .int .i64 (e6A B).r, .int .i64 (e6A B).s, .int .i64 (e6A B).sy, .int .i64 (e6A B).sx, .int .i64 (e6A B).t, .int .i64 (e6A B).l, .int .i64 (e6A B).b, .int .i64 (e6A B).q, .int .i64 (e6A B).bd, .slice (e6A B).aw (e6A B).mw (e6A B).cw, .slice (e6A B).an (e6A B).mn (e6A B).cn, .slice (e6A B).ab (e6A B).mb (e6A B).cb, .int .i64 (e6B B).kd, .int .i64 (e6B B).wt, .int .i64 (e6B B).k, .int .i64 (e6B B).r, .int .i64 (e6B B).s, .int .i64 (e6B B).sy, .int .i64 (e6B B).sx, .int .i64 (e6B B).t, .int .i64 (e6B B).l, .int .i64 (e6B B).b, .int .i64 (e6B B).q, .int .i64 (e6B B).bd, .slice (e6B B).aw (e6B B).mw (e6B B).cw, .slice (e6B B).an (e6B B).mn (e6B B).cn, .slice (e6B B).ab (e6B B).mb (e6B B).cb]
def E6B (W : World) (B : Nat) : Prop := W.heap[B + 4]? = some (.cells (i8c [1, 1, 1, -1]) 60) ∧ W.heap[B + 5]? = some (.cells (i64c [1, 1, 0, 1, 0, 1, 1, 1, 1, 1, 0, 1, 0, 1, 1, 1]) 62) ∧ W.heap[B + 7]? = some (.cells (i8c [1, 0, -1, 1]) 60) ∧ W.heap[B + 8]? = some (.cells (i64c [0, 5]) 2) ∧ W.heap[B + 10]? = some (.cells (e6Row B) 47)
theorem E6B.keep {W w' : World} {B : Nat} (h : E6B W B) (hb : Below W.heap.size W w') : E6B w' B := ⟨keepb hb h.1, keepb hb h.2.1, keepb hb h.2.2.1, keepb hb h.2.2.2.1, keepb hb h.2.2.2.2⟩
set_option maxRecDepth 10000 in
theorem e6W {W : World} {B : Nat} (h : E6B W B) : NtW W (e6N B) := by
  refine ⟨fun i hi => ⟨B + 10, 0, rfl, ?_⟩, (show (2 : Nat) ≤ 9223372036854775807 by decide), (show (1 : Nat) ≤ 9223372036854775807 by decide)⟩
  change i < 2 at hi
  have hb := h.2.2.2.2
  rcases (show i = 0 ∨ i = 1 by omega) with rfl | rfl
  · refine ⟨⟨bcl hb rfl, bcl hb rfl, bcl hb rfl, bcl hb rfl, bcl hb rfl, bcl hb rfl, bcl hb rfl, bcl hb rfl, bcl hb rfl, bcl hb rfl, bcl hb rfl, bcl hb rfl, bcl hb rfl, bcl hb rfl, bcl hb rfl⟩, fun j hj => ⟨B + 4, 0, rfl, ?_⟩, fun j hj => ⟨B + 5, 0, rfl, ?_⟩, fun j hj => absurd hj (Nat.not_lt_zero j), (show (4 : Nat) ≤ 9223372036854775807 by decide), (show (2 : Nat) ≤ 9223372036854775807 by decide), (show (0 : Nat) ≤ 9223372036854775807 by decide)⟩
    · change j < 4 at hj
      rcases (show j = 0 ∨ j = 1 ∨ j = 2 ∨ j = 3 by omega) with rfl | rfl | rfl | rfl <;> exact bcl h.1 rfl
    · change j < 2 at hj
      have h5 := h.2.1
      rcases (show j = 0 ∨ j = 1 by omega) with rfl | rfl
      · exact ⟨bcl h5 rfl, bcl h5 rfl, bcl h5 rfl, bcl h5 rfl, bcl h5 rfl, bcl h5 rfl, bcl h5 rfl, bcl h5 rfl⟩
      · exact ⟨bcl h5 rfl, bcl h5 rfl, bcl h5 rfl, bcl h5 rfl, bcl h5 rfl, bcl h5 rfl, bcl h5 rfl, bcl h5 rfl⟩
  · refine ⟨⟨bcl hb rfl, bcl hb rfl, bcl hb rfl, bcl hb rfl, bcl hb rfl, bcl hb rfl, bcl hb rfl, bcl hb rfl, bcl hb rfl, bcl hb rfl, bcl hb rfl, bcl hb rfl, bcl hb rfl, bcl hb rfl, bcl hb rfl⟩, fun j hj => ⟨B + 7, 0, rfl, ?_⟩, fun j hj => absurd hj (Nat.not_lt_zero j), fun j hj => ⟨B + 8, 0, rfl, ?_⟩, (show (4 : Nat) ≤ 9223372036854775807 by decide), (show (0 : Nat) ≤ 9223372036854775807 by decide), (show (2 : Nat) ≤ 9223372036854775807 by decide)⟩
    · change j < 4 at hj
      rcases (show j = 0 ∨ j = 1 ∨ j = 2 ∨ j = 3 by omega) with rfl | rfl | rfl | rfl <;> exact bcl h.2.2.1 rfl
    · change j < 2 at hj
      rcases (show j = 0 ∨ j = 1 by omega) with rfl | rfl <;> exact bcl h.2.2.2.1 rfl
set_option maxRecDepth 10000 in
theorem e6_ok (B : Nat) : chE (e6N B) = 0 ∧ chA (e6N B) = 0 := by
  have h0 : whE (e6N B) = 0 := by kernel_rfl
  refine ch_ok h0 fun j hj => ?_
  change j < 2 at hj
  rcases (show j = 0 ∨ j = 1 by omega) with rfl | rfl <;> kernel_rfl
set_option maxRecDepth 10000 in
theorem e6_sz (B : Nat) : szN (e6N B) 0 = 2 ∧ szN (e6N B) 1 = 2 ∧ szN (e6N B) 2 = 2 ∧ toN (e6N B) = 4 := ⟨by kernel_rfl, by kernel_rfl, by kernel_rfl, by kernel_rfl⟩
theorem e6_run (B : Nat) : valN (e6N B) (fun j => s8 ([128, 127].getD j 0)) 2 0 = -1 ∧ valN (e6N B) (fun j => s8 ([128, 127].getD j 0)) 2 1 = 5 := ⟨by kernel_rfl, by kernel_rfl⟩
theorem e6_tr (B : Nat) : (valN (e6N B) (fun j => s8 ([3, 4].getD j 0)) 1 0 = 1 ∧ valN (e6N B) (fun j => s8 ([3, 4].getD j 0)) 1 1 = -1) ∧ valN (e6N B) (fun j => s8 ([3, 4].getD j 0)) 2 0 = 1 ∧ valN (e6N B) (fun j => s8 ([3, 4].getD j 0)) 2 1 = 3 := ⟨⟨by kernel_rfl, by kernel_rfl⟩, by kernel_rfl, by kernel_rfl⟩
theorem heap_five {Y : World} {b c i j k l m : Nat} {u v x z y : Value} (hn : b ≠ c) : (((((Y.setCell ⟨c, i, none⟩ u).setCell ⟨c, j, none⟩ v).setCell ⟨c, k, none⟩ x).setCell ⟨c, l, none⟩ z).setCell ⟨c, m, none⟩ y).heap[b]? = Y.heap[b]? := by rw [Below.heap_setCell _ _ _ _ (by show b ≠ c; exact hn), heap_four hn]
set_option maxHeartbeats 3200000 in
set_option maxRecDepth 100000 in
theorem example6_any (w : World) : Calls Try.prog 16 #[] w fun e w' => e = .returned (ntv (e6N w.heap.size)) ∧ E6B w' w.heap.size ∧ Below w.heap.size w w' := by
  obtain ⟨B, hB⟩ : ∃ B, w.heap.size = B := ⟨_, rfl⟩
  rw [hB]
  go_enter Try.func16, Try.ntmps16
  go_upto_region 4 with fail
  refine gen_world (fun X => Below w.heap.size w X ∧ X.heap.size = B + 4 ∧ X.heap[B]? = some netZ ∧ X.heap[B + 3]? = some (.cells (i64c [1, 1, 0, 1, 0, 1, 1, 1]) 62)) ⟨by repeat (first | (with_reducible exact Below.refl _ _) | (with_reducible refine bl_alloc ?_ _) | (with_reducible refine Below.drew ?_) | (with_reducible refine bl_drewN ?_ _) | (with_reducible refine bl_set ?_ (by omega) _) | (with_reducible refine bl_step ?_ (by assumption))), by simp [hB], old_at (old_at (old_at (new_at hB _) _) _) _, new_at (by simp [hB]) _⟩ ?_
  rintro X ⟨BX, zX, r0, r3⟩
  have w0 := bcl r3 (j := 0) rfl; have w1 := bcl r3 (j := 1) rfl; have w2 := bcl r3 (j := 2) rfl; have w3 := bcl r3 (j := 3) rfl; have w4 := bcl r3 (j := 4) rfl; have w5 := bcl r3 (j := 5) rfl; have w6 := bcl r3 (j := 6) rfl; have w7 := bcl r3 (j := 7) rfl
  have l1 : B + 3 < X.heap.size := by omega
  go_upto_region 5 with fail
  clear w0 w1 w2 w3 w4 w5 w6 w7 l1
  refine gen_world (fun Y => Below w.heap.size w Y ∧ Y.heap.size = B + 7 ∧ Y.heap[B]? = some netZ ∧ Y.heap[B + 4]? = some (.cells (i8c [1, 1, 1, -1]) 60) ∧ Y.heap[B + 5]? = some (.cells (i64c [1, 1, 0, 1, 0, 1, 1, 1, 1, 1, 0, 1, 0, 1, 1, 1]) 62) ∧ Y.heap[B + 6]? = some (layO (e6A B))) ⟨by repeat (first | (with_reducible exact Below.refl _ _) | (with_reducible refine bl_alloc ?_ _) | (with_reducible refine Below.drew ?_) | (with_reducible refine bl_drewN ?_ _) | (with_reducible refine bl_set ?_ (by omega) _) | (with_reducible refine bl_step ?_ (by assumption))), by simp [zX], old_at (old_at (old_at r0 _) _) _, old_at (old_at (new_at zX _) _) _, old_at (new_at (by simp [zX]) _) _, new_at (by simp [zX]) _⟩ ?_
  clear r0 r3 zX BX X
  rintro Y ⟨BY, zY, r0, r4, r5, r6⟩
  go_upto_region 6 with fail
  refine gen_world (fun Z => Below w.heap.size w Z ∧ Z.heap.size = B + 10 ∧ Z.heap[B]? = some netZ ∧ Z.heap[B + 4]? = some (.cells (i8c [1, 1, 1, -1]) 60) ∧ Z.heap[B + 5]? = some (.cells (i64c [1, 1, 0, 1, 0, 1, 1, 1, 1, 1, 0, 1, 0, 1, 1, 1]) 62) ∧ Z.heap[B + 6]? = some (layO (e6A B)) ∧ Z.heap[B + 7]? = some (.cells (i8c [1, 0, -1, 1]) 60) ∧ Z.heap[B + 8]? = some (.cells (i64c [0, 5]) 2) ∧ Z.heap[B + 9]? = some (layO (e6B B))) ⟨by repeat (first | (with_reducible exact Below.refl _ _) | (with_reducible refine bl_alloc ?_ _) | (with_reducible refine Below.drew ?_) | (with_reducible refine bl_drewN ?_ _) | (with_reducible refine bl_set ?_ (by omega) _) | (with_reducible refine bl_step ?_ (by assumption))), by simp [zY], old_at (old_at (old_at r0 _) _) _, old_at (old_at (old_at r4 _) _) _, old_at (old_at (old_at r5 _) _) _, old_at (old_at (old_at r6 _) _) _, old_at (old_at (new_at zY _) _) _, old_at (new_at (by simp [zY]) _) _, new_at (by simp [zY]) _⟩ ?_
  clear r0 r4 r5 r6 zY BY Y
  rintro Z ⟨BZ, zZ, r0, r4, r5, r6, r7, r8, r9⟩
  have ⟨a0, a1, a2, a3, a4, a5, a6, a7, a8, a9, a10, a11, a12, a13, a14⟩ : Lp Z (B + 6) (e6A B) := ⟨bcl r6 rfl, bcl r6 rfl, bcl r6 rfl, bcl r6 rfl, bcl r6 rfl, bcl r6 rfl, bcl r6 rfl, bcl r6 rfl, bcl r6 rfl, bcl r6 rfl, bcl r6 rfl, bcl r6 rfl, bcl r6 rfl, bcl r6 rfl, bcl r6 rfl⟩
  have ⟨b0, b1, b2, b3, b4, b5, b6, b7, b8, b9, b10, b11, b12, b13, b14⟩ : Lp Z (B + 9) (e6B B) := ⟨bcl r9 rfl, bcl r9 rfl, bcl r9 rfl, bcl r9 rfl, bcl r9 rfl, bcl r9 rfl, bcl r9 rfl, bcl r9 rfl, bcl r9 rfl, bcl r9 rfl, bcl r9 rfl, bcl r9 rfl, bcl r9 rfl, bcl r9 rfl, bcl r9 rfl⟩
  have HR := hid1 (row_of_block r0)
  have hlt := lt_block r0
  have n0 := bcl r0 (j := 0) rfl; have n1 := bcl r0 (j := 1) rfl; have n2 := bcl r0 (j := 2) rfl; have n3 := bcl r0 (j := 3) rfl; have n4 := bcl r0 (j := 4) rfl
  have z0 := bfz r0 0; have z1 := bfz r0 1; have z2 := bfz r0 2; have z3 := bfz r0 3; have z4 := bfz r0 4
  have HZ := hid1 (And.intro r4 (And.intro r5 (And.intro r7 (And.intro r8 zZ))))
  have HBZ := hid1 BZ
  clear r0 r4 r5 r6 r7 r8 r9 BZ
  go_wp2_with fail
  clear n0 n1 n2 n3 n4 z0 z1 z2 z3 z4 a0 a1 a2 a3 a4 a5 a6 a7 a8 a9 a10 a11 a12 a13 a14 b0 b1 b2 b3 b4 b5 b6 b7 b8 b9 b10 b11 b12 b13 b14
  obtain ⟨r4, r5, r7, r8, zq⟩ := HZ.out
  refine gen_body (fun Y => Y.rowIs B 31 5 (fun j => match j with | 0 => .string ⟨#[110]⟩ | 1 => .int .i64 1 | 2 => .int .i64 1 | 3 => .int .i64 2 | _ => .slice (some ⟨B + 10, 0, none⟩) 2 2) ∧ E6B Y B ∧ Below B w Y) ⟨World.rowIs.alloc (net_cells HR.out) _, ⟨old_at ((heap_five (by omega)).trans r4) _, old_at ((heap_five (by omega)).trans r5) _, old_at ((heap_five (by omega)).trans r7) _, old_at ((heap_five (by omega)).trans r8) _, new_at (by simp [zq]) _⟩, hB ▸ bl_alloc (bl_set (bl_set (bl_set (bl_set (bl_set HBZ.out (by omega) _) (by omega) _) (by omega) _) (by omega) _) (by omega) _) _⟩ ?_
  rintro Y ⟨RY, EY, BY⟩
  have n0 := RY.cell (i := 0) (by decide)
  have n1 := RY.cell (i := 1) (by decide)
  have n2 := RY.cell (i := 2) (by decide)
  have n3 := RY.cell (i := 3) (by decide)
  have n4 := RY.cell (i := 4) (by decide)
  refine bodyPost_ret (v := ntv (e6N B)) (by simp [results, Try.results16, go_sem, n0, n1, n2, n3, n4, e6N]) rfl ⟨rfl, EY, BY⟩
end Go.Proofs.Ytkhlhcbbbhbgeaa.Nn
/- PLAIN'S STATEMENTS: WHAT EACH ASKS AHEAD. -/
namespace Go.Proofs.Ytkhlhcbbbhbgeaa.Nn
open Go.RowKit

theorem StR.congr {W : World} {ao : Option Addr} {n : Nat} {fh fv fc fh' fv' fc' : Nat → Int} {sz sz' : Nat → Nat} {val val' : Nat → Nat → Int} (h : StR W ao n fh fv fc sz val) (hc : ∀ j, j < n → fh j = fh' j ∧ fv j = fv' j ∧ fc j = fc' j ∧ sz j = sz' j ∧ ∀ i, i < sz j → val j i = val' j i) : StR W ao n fh' fv' fc' sz' val' := fun j hj => by
  obtain ⟨g, o, xo, xc, e, ⟨a, b, c⟩, d, r, l⟩ := h j hj
  obtain ⟨c1, c2, c3, c4, c5⟩ := hc j hj
  refine ⟨g, o, xo, xc, e, ⟨by rw [← c1]; exact a, by rw [← c2]; exact b, by rw [← c3]; exact c⟩, by rw [← c4]; exact d, fun i hi => ?_, by rw [← c4]; exact l⟩
  rw [← c4] at hi
  obtain ⟨g2, o2, e2, q⟩ := r i hi
  exact ⟨g2, o2, e2, by rw [← c5 i hi]; exact q⟩
theorem rb2 {W : World} {g : Nat} {a b : Int} (h : W.heap[g]? = some (.cells #[.int .u8 a, .int .u8 b] 5)) (ha : 0 ≤ a ∧ a < 256) (hb : 0 ≤ b ∧ b < 256) : RB W (some ⟨g, 0, none⟩) 2 (fun j => [a, b].getD j 0) := fun k hk => by
  rcases (show k = 0 ∨ k = 1 by omega) with rfl | rfl
  · exact ⟨g, 0, rfl, bcl h rfl, ha.1, ha.2⟩
  · exact ⟨g, 0, rfl, bcl h rfl, hb.1, hb.2⟩
theorem e6_gr (B : Nat) : grV (valN (e6N B) (fun j => s8 ([128, 127].getD j 0)) 2) 2 = 1 := by kernel_rfl
theorem e6_cap (B i : Nat) (hi : i < (e6N B).ml) : ((e6N B).lf i).mw ≤ ((e6N B).lf i).cw := by
  change i < 2 at hi
  rcases (show i = 0 ∨ i = 1 by omega) with rfl | rfl <;> exact Nat.le_refl 4
theorem e6_runs (B g : Nat) (W : World) (hE : E6B W B) (hx : W.heap[g]? = some (.cells #[.int .u8 128, .int .u8 127] 5)) :
    Calls Try.prog 8 #[ntv (e6N B), .slice (some ⟨g, 0, none⟩) 2 2] W fun e w' => ∃ g' cp, e = .returned (.tuple #[.agg #[.slice (some ⟨g', 0, none⟩) 2 cp, .int .i64 1], .int .i64 0]) ∧ R64 w' (some ⟨g', 0, none⟩) 2 (fun j => [-1, 5].getD j 0) ∧ Below W.heap.size W w' := by
  have h0 := (e6_sz B).1
  have h2 : szN (e6N B) (e6N B).ml = 2 := (e6_sz B).2.2.1
  have hr : RB W (some ⟨g, 0, none⟩) (szN (e6N B) 0) (fun j => [128, 127].getD j 0) := by rw [h0]; exact rb2 hx (by decide) (by decide)
  have := prun_all (e6N B) (e6_ok B).1 (e6_cap B) (some ⟨g, 0, none⟩) 2 (fun j => [128, 127].getD j 0) (fun j hj => by
    rw [h0] at hj
    rcases (show j = 0 ∨ j = 1 by omega) with rfl | rfl <;> decide) W (e6W hE) hr
  rw [h0, h2] at this
  refine this.mono ?_
  rintro e w' ⟨g', cp, rfl, -, R, hb⟩
  refine ⟨g', cp, congrArg (fun z => Ending.returned (.tuple #[.agg #[.slice (some ⟨g', 0, none⟩) 2 cp, .int .i64 z], .int .i64 0])) (show ((grV (valN (e6N B) (fun j => s8 ([128, 127].getD j 0)) 2) 2 : Nat) : Int) = 1 by rw [e6_gr B]; rfl), fun k hk => ?_, hb⟩
  · obtain ⟨a, o, e, c⟩ := R k hk
    refine ⟨a, o, e, ?_⟩
    rcases (show k = 0 ∨ k = 1 by omega) with rfl | rfl
    · rw [c, show valN (e6N B) (fun j => s8 ([128, 127].getD j 0)) (e6N B).ml 0 = -1 from (e6_run B).1]; rfl
    · rw [c, show valN (e6N B) (fun j => s8 ([128, 127].getD j 0)) (e6N B).ml 1 = 5 from (e6_run B).2]; rfl
def e6V (j i : Nat) : Int := if j = 0 then [1, -1].getD i 0 else [1, 3].getD i 0
theorem e6_shape (B : Nat) : ((sp (e6N B) 1).h = 1 ∧ (sp (e6N B) 1).v = 1 ∧ (sp (e6N B) 1).c = 2) ∧ (sp (e6N B) 2).h = 1 ∧ (sp (e6N B) 2).v = 1 ∧ (sp (e6N B) 2).c = 2 := ⟨⟨by kernel_rfl, by kernel_rfl, by kernel_rfl⟩, by kernel_rfl, by kernel_rfl, by kernel_rfl⟩
theorem e6_traces (B g : Nat) (W : World) (hE : E6B W B) (hx : W.heap[g]? = some (.cells #[.int .u8 3, .int .u8 4] 5)) :
    Calls Try.prog 5 #[ntv (e6N B), .slice (some ⟨g, 0, none⟩) 2 2] W fun e w' => ∃ g' cp, e = .returned (.tuple #[.slice (some ⟨g', 0, none⟩) 2 cp, .int .i64 0]) ∧ StR w' (some ⟨g', 0, none⟩) 2 (fun _ => 1) (fun _ => 1) (fun _ => 2) (fun _ => 2) e6V ∧ Below W.heap.size W w' := by
  have h0 := (e6_sz B).1
  have hr : RB W (some ⟨g, 0, none⟩) (szN (e6N B) 0) (fun j => [3, 4].getD j 0) := by rw [h0]; exact rb2 hx (by decide) (by decide)
  have := ptrace_all (e6N B) (e6_ok B).1 (e6_cap B) (by rw [(e6_sz B).2.2.2]; decide) (some ⟨g, 0, none⟩) 2 (fun j => [3, 4].getD j 0) (fun j hj => by
    rw [h0] at hj
    rcases (show j = 0 ∨ j = 1 by omega) with rfl | rfl <;> decide) W (e6W hE) hr
  rw [h0] at this
  refine this.mono ?_
  rintro e w' ⟨u, gl, cl, rfl, TS, hb⟩
  have hs : ∀ j, j < (e6N B).ml → 1 ≤ szN (e6N B) (j + 1) ∧ szN (e6N B) (j + 1) ≤ 9223372036854775807 := fun j hj => by
    change j < 2 at hj
    rcases (show j = 0 ∨ j = 1 by omega) with rfl | rfl
    · rw [(e6_sz B).2.1]; decide
    · rw [(e6_sz B).2.2.1]; decide
  obtain ⟨g', cp, rfl, -, S⟩ := TS.str (show 1 ≤ 2 by decide) hs
  refine ⟨g', cp, rfl, S.congr fun j hj => ?_, hb⟩
  change j < 2 at hj
  rcases (show j = 0 ∨ j = 1 by omega) with rfl | rfl
  · refine ⟨(e6_shape B).1.1, (e6_shape B).1.2.1, (e6_shape B).1.2.2, (e6_sz B).2.1, fun i hi => ?_⟩
    have hi : i < szN (e6N B) 1 := hi
    rw [(e6_sz B).2.1] at hi
    rcases (show i = 0 ∨ i = 1 by omega) with rfl | rfl
    · exact (e6_tr B).1.1
    · exact (e6_tr B).1.2
  · refine ⟨(e6_shape B).2.1, (e6_shape B).2.2.1, (e6_shape B).2.2.2, (e6_sz B).2.2.1, fun i hi => ?_⟩
    have hi : i < szN (e6N B) 2 := hi
    rw [(e6_sz B).2.2.1] at hi
    rcases (show i = 0 ∨ i = 1 by omega) with rfl | rfl
    · exact (e6_tr B).2.1
    · exact (e6_tr B).2.2
theorem r64_lit {W : World} {g : Nat} {a b : Int} (h : W.heap[g]? = some (.cells #[.int .i64 a, .int .i64 b] 2)) : R64 W (some ⟨g, 0, none⟩) 2 (fun j => [a, b].getD j 0) := fun k hk => by
  rcases (show k = 0 ∨ k = 1 by omega) with rfl | rfl
  · exact ⟨g, 0, rfl, bcl h rfl⟩
  · exact ⟨g, 0, rfl, bcl h rfl⟩
theorem st_lit {W : World} {g h k : Nat} (h1 : W.heap[g]? = some (.cells #[.int .i64 1, .int .i64 (-1)] 2)) (h2 : W.heap[h]? = some (.cells #[.int .i64 1, .int .i64 3] 2)) (h3 : W.heap[k]? = some (.cells #[.int .i64 1, .int .i64 1, .int .i64 2, .slice (some ⟨g, 0, none⟩) 2 2, .int .i64 1, .int .i64 1, .int .i64 2, .slice (some ⟨h, 0, none⟩) 2 2] 36)) : StR W (some ⟨k, 0, none⟩) 2 (fun _ => 1) (fun _ => 1) (fun _ => 2) (fun _ => 2) e6V := fun j hj => by
  rcases (show j = 0 ∨ j = 1 by omega) with rfl | rfl
  · exact ⟨k, 0, some ⟨g, 0, none⟩, 2, rfl, ⟨bcl h3 rfl, bcl h3 rfl, bcl h3 rfl⟩, bcl h3 rfl, fun i hi => by
      change i < 2 at hi
      rcases (show i = 0 ∨ i = 1 by omega) with rfl | rfl
      · exact ⟨g, 0, rfl, bcl h1 rfl⟩
      · exact ⟨g, 0, rfl, bcl h1 rfl⟩, by decide⟩
  · exact ⟨k, 0, some ⟨h, 0, none⟩, 2, rfl, ⟨bcl h3 rfl, bcl h3 rfl, bcl h3 rfl⟩, bcl h3 rfl, fun i hi => by
      change i < 2 at hi
      rcases (show i = 0 ∨ i = 1 by omega) with rfl | rfl
      · exact ⟨h, 0, rfl, bcl h2 rfl⟩
      · exact ⟨h, 0, rfl, bcl h2 rfl⟩, by decide⟩
set_option maxHeartbeats 3200000 in
set_option maxRecDepth 100000 in
theorem begun6_any (w : World) : Calls Try.prog 7 #[] w fun e w' => e = .returned (.bool true) ∧ Below w.heap.size w w' := by
  go_enter Try.func7, Try.ntmps7
  go_wp2_with fail
  refine (example6_any _).mono ?_
  rintro e z0 ⟨rfl, EB, hb0⟩
  generalize hB : w.heap.size = B at EB ⊢
  obtain ⟨gx, hgx⟩ : ∃ g, z0.heap.size = g := ⟨_, rfl⟩
  have C1 := hid1 (e6_runs B gx _ (EB.keep (bl_alloc (Below.refl _ _) _)) (new_at hgx (.cells #[.int .u8 128, .int .u8 127] 5)))
  have B0 := hid1 (bl_alloc hb0 (.cells #[.int .u8 128, .int .u8 127] 5))
  clear EB hb0
  go_wp2_with fail
  refine C1.out.mono ?_
  rintro e y1 ⟨g', cp, rfl, R, h1⟩
  have B1 := hid1 (bl_step B0.out h1)
  have HR := hid1 R
  clear C1 h1 R B0 hB
  obtain ⟨g1, hg1⟩ : ∃ g, y1.heap.size = g := ⟨_, rfl⟩
  go_upto_region 2 with fail
  refine gen_world (fun X => X.rowIs g1 38 2 (rsf (some ⟨g', 0, none⟩) 2 cp 1) ∧ R64 X (some ⟨g', 0, none⟩) 2 (fun j => [-1, 5].getD j 0) ∧ Below w.heap.size w X) ⟨by rw [← hg1]; exact rs_new _ _ _ _ _ _, HR.out.keep' (bl_alloc (Below.refl _ _) _), bl_alloc B1.out _⟩ ?_
  clear HR B1 hg1 hgx
  rintro X ⟨RX, R6, BX⟩
  go_wp2_with fail
  refine (example6_any _).mono ?_
  rintro e z2 ⟨rfl, EB, hb0⟩
  generalize hB : X.heap.size = B2 at EB ⊢
  obtain ⟨gx2, hgx⟩ : ∃ g, z2.heap.size = g := ⟨_, rfl⟩
  have C1 := hid1 (e6_traces B2 gx2 _ (EB.keep (bl_alloc (Below.refl _ _) _)) (new_at hgx (.cells #[.int .u8 3, .int .u8 4] 5)))
  have B0 := hid1 (bl_alloc hb0 (.cells #[.int .u8 3, .int .u8 4] 5))
  have HX := hid1 (And.intro RX (And.intro R6 BX))
  clear EB hb0 RX R6 BX
  go_wp2_with fail
  refine C1.out.mono ?_
  rintro e y2 ⟨gt, ct, rfl, ST, h2⟩
  have B2b := bl_step B0.out h2
  obtain ⟨RX, R6, BX⟩ := HX.out
  have HR1 := hid1 (World.rowIs.of_block RX (B2b.block _ RX.lt))
  have HR6 := hid1 (R6.keep' B2b)
  have HBX := hid1 (bl_step BX B2b)
  have HST := hid1 ST
  clear C1 h2 ST B0 HX RX R6 BX B2b hB hgx
  obtain ⟨g5, hg5⟩ : ∃ g, y2.heap.size = g := ⟨_, rfl⟩
  go_upto_region 4 with fail
  refine gen_world (fun X => X.heap[g5]? = some (.cells #[.int .i64 1, .int .i64 1, .int .i64 2] 28) ∧ X.heap.size = g5 + 1 ∧ Below y2.heap.size y2 X) ⟨new_at hg5 _, by simp [hg5], bl_alloc (Below.refl _ _) _⟩ ?_
  rintro X2 ⟨S5, zX2, BX2⟩
  have s0 := bcl S5 (j := 0) rfl
  have s1 := bcl S5 (j := 1) rfl
  have s2 := bcl S5 (j := 2) rfl
  have l5 : g5 < X2.heap.size := by omega
  clear S5
  go_upto_region 5 with fail
  refine gen_world (fun Z => StR Z (some ⟨g5 + 3, 0, none⟩) 2 (fun _ => 1) (fun _ => 1) (fun _ => 2) (fun _ => 2) e6V ∧ Below y2.heap.size y2 Z) ⟨st_lit (g := g5 + 1) (h := g5 + 2) (old_at (old_at (new_at zX2 _) _) _) (old_at (new_at (by simp [zX2]) _) _) (new_at (by simp [zX2]) _), bl_alloc (bl_alloc (bl_alloc BX2 _) _) _⟩ ?_
  clear s0 s1 s2 l5 zX2 BX2 hg5
  rintro Z ⟨SZ, BZ⟩
  have KR1 := World.rowIs.of_block HR1.out (BZ.block _ HR1.out.lt)
  have r0 : Z.cell? ⟨g1, 0, none⟩ = some (.slice (some ⟨g', 0, none⟩) 2 cp) := KR1.cell (i := 0) (by decide)
  have r1 : Z.cell? ⟨g1, 1, none⟩ = some (.int .i64 1) := KR1.cell (i := 1) (by decide)
  have HT := hid1 (HST.out.keep BZ)
  have HW := hid1 SZ
  have H6 := hid1 (HR6.out.keep' BZ)
  have HB := hid1 (bl_step HBX.out BZ)
  have lg := KR1.lt
  clear KR1 SZ BZ HST HR6 HBX HR1
  obtain ⟨gz, hgz⟩ : ∃ g, Z.heap.size = g := ⟨_, rfl⟩
  have CR := hid1 (results_same 2 (fun j => [-1, 5].getD j 0) 1 (some ⟨g', 0, none⟩) (some ⟨gz, 0, none⟩) cp 2 _ (by decide) (H6.out.keep' (bl_alloc (Below.refl _ _) _)) (r64_lit (new_at hgz (.cells #[.int .i64 (-1), .int .i64 5] 2))))
  have HT2 := hid1 (HT.out.keep (bl_alloc (Below.refl _ _) (.cells #[.int .i64 (-1), .int .i64 5] 2)))
  have HW2 := hid1 (HW.out.keep (bl_alloc (Below.refl _ _) (.cells #[.int .i64 (-1), .int .i64 5] 2)))
  have HB2 := hid1 (bl_alloc HB.out (.cells #[.int .i64 (-1), .int .i64 5] 2))
  clear HT HW HB H6
  go_wp2_with fail
  refine CR.out.mono ?_
  rintro e y4 ⟨rfl, h4⟩
  have CS := hid1 (steps_same 2 (fun _ => 1) (fun _ => 1) (fun _ => 2) (fun _ => 2) e6V (some ⟨gt, 0, none⟩) (some ⟨g5 + 3, 0, none⟩) ct 2 y4 (by decide) (HT2.out.keep h4) (HW2.out.keep h4))
  have HB3 := hid1 (bl_step HB2.out h4)
  clear CR r0 r1 h4 HT2 HW2 HB2
  go_wp2_with fail
  refine CS.out.mono ?_
  rintro e y5 ⟨rfl, h5⟩
  have HB4 := hid1 (bl_step HB3.out h5)
  clear h5 CS
  go_wp2_with fail
  go_ret
  exact ⟨rfl, HB4.out⟩
end Go.Proofs.Ytkhlhcbbbhbgeaa.Nn
/- Lists of lists of reaches that are alike; the network tiny. -/
namespace Go.Proofs.Ytkhlhcbbbhbgeaa.Nn
open Go.RowKit

/-- A list of reaches in memory. -/
def Lr1 (W : World) (g o m : Nat) (f h : Nat → Int) : Prop := ∀ j, j < m → W.cell? ⟨g, o + j * 2, none⟩ = some (.int .i64 (f j)) ∧ W.cell? ⟨g, o + j * 2 + 1, none⟩ = some (.int .i64 (h j))
theorem Lr1.keep {W X : World} {g o m : Nat} {f h : Nat → Int} (r : Lr1 W g o m f h) (hb : Below W.heap.size W X) : Lr1 X g o m f h := fun j hj => ⟨keepc hb (r j hj).1, keepc hb (r j hj).2⟩
/-- A list of lists of reaches in memory. -/
def Lrr (W : World) (g o m : Nat) (C : Nat → Nat) (f h : Nat → Nat → Int) : Prop := ∀ i, i < m → ∃ g' o' cp, W.cell? ⟨g, o + i, none⟩ = some (.slice (some ⟨g', o', none⟩) (C i) cp) ∧ C i ≤ 9223372036854775807 ∧ Lr1 W g' o' (C i) (f i) (h i)
theorem Lrr.keep {W X : World} {g o m : Nat} {C : Nat → Nat} {f h : Nat → Nat → Int} (r : Lrr W g o m C f h) (hb : Below W.heap.size W X) : Lrr X g o m C f h := fun i hi => by
  obtain ⟨g', o', cp, c, hc, hr⟩ := r i hi
  exact ⟨g', o', cp, keepc hb c, hc, hr.keep hb⟩
/-- What Net answers is such a list. -/
theorem cN_le {N : Nt} (hz : chE N = 0) : ∀ i, i ≤ N.ml → 1 ≤ cN N i ∧ cN N i ≤ 4096 := fun i hi => by
  have hall : whE N = 0 ∧ ∀ j, j < N.ml → fl N j = 0 := by
    unfold chE at hz
    by_cases h0 : whE N = 0
    · rw [if_pos h0] at hz; exact ⟨h0, frF_z hz⟩
    · rw [if_neg h0] at hz; exact absurd hz h0
  have := (sp_ok (wh_parts hall.1).2.1 (k := i) (fun j hj => hall.2 j (by omega))).1.2.2
  unfold cN
  omega
end Go.Proofs.Ytkhlhcbbbhbgeaa.Nn
/- bound.Row. -/
namespace Go.Proofs.Ytkhlhcbbbhbgeaa
open Go.RowKit

theorem pcO_and (A B : Nat) : ∀ n, pc (A &&& B) n ≤ pc B n
  | 0 => Nat.le_refl _
  | n + 1 => by
    have ih := pcO_and A B n
    simp only [pc]
    rw [Nat.testBit_and]
    cases A.testBit n <;> cases B.testBit n <;> simp <;> omega
/-- How many weights are plus; minus. -/
def rP (A : Bt) : Int := (pc A.N (64 * A.m) : Nat)
def rM (A B : Bt) : Int := (pc B.N (64 * B.m) : Nat) - (pc A.N (64 * A.m) : Nat)
def rL (A B : Bt) (lo hi : Int) : Int := rP A * lo - rM A B * hi
def rH (A B : Bt) (lo hi : Int) : Int := rP A * hi - rM A B * lo
/-- What Row tells. -/
def roE (A B : Bt) (lo hi : Int) : Int := if dck A B ≠ 0 then dck A B else if maR lo hi then (if maR (rL A B lo hi) (rH A B lo hi) then 0 else 55) else 1
def roL (A B : Bt) (lo hi : Int) : Int := if roE A B lo hi = 0 then rL A B lo hi else 0
def roH (A B : Bt) (lo hi : Int) : Int := if roE A B lo hi = 0 then rH A B lo hi else 0
theorem mulO {p x : Int} (hp : 0 ≤ p ∧ p ≤ 16777216) (hx : -2147483647 ≤ x ∧ x ≤ 2147483647) : -36028797018963968 ≤ p * x ∧ p * x ≤ 36028797018963968 := by
  have h1 : p * x ≤ 16777216 * 2147483647 := by
    by_cases h0 : 0 ≤ x
    · exact Int.le_trans (Int.mul_le_mul_of_nonneg_right hp.2 h0) (Int.mul_le_mul_of_nonneg_left hx.2 (by decide))
    · exact Int.le_trans (Int.mul_nonpos_of_nonneg_of_nonpos hp.1 (by omega)) (by decide)
  have h2 : p * (-x) ≤ 16777216 * 2147483647 := by
    by_cases h0 : 0 ≤ -x
    · exact Int.le_trans (Int.mul_le_mul_of_nonneg_right hp.2 h0) (Int.mul_le_mul_of_nonneg_left (by omega) (by decide))
    · exact Int.le_trans (Int.mul_nonpos_of_nonneg_of_nonpos hp.1 (by omega)) (by decide)
  rw [Int.mul_neg] at h2
  omega
theorem rB {A B : Bt} (h : dck A B = 0) : (0 ≤ rP A ∧ rP A ≤ 16777216) ∧ (0 ≤ rM A B ∧ rM A B ≤ 16777216) := by
  obtain ⟨n, e1, e2, hn, m1, m2, l1, l2, ha⟩ := dck_zero h
  unfold rP rM
  have q1 := pc_le B.N (64 * B.m)
  have a1 : pc A.N (64 * A.m) = pc A.N n := pc_above l1 (by rw [m1]; exact nw_le n)
  have a2 : pc B.N (64 * B.m) = pc B.N n := pc_above l2 (by rw [m2]; exact nw_le n)
  have a3 := pcO_and A.N B.N n
  rw [ha] at a3
  have a4 := pc_le A.N n
  have a5 := pc_le B.N n
  rw [a1, a2]
  omega
theorem dck_m {A B : Bt} (h : dck A B = 0) : A.m ≤ 262144 ∧ B.m ≤ 262144 := by
  obtain ⟨n, e1, e2, hn, m1, m2, l1, l2, ha⟩ := dck_zero h
  have := nw_bd hn
  rw [m1, m2]; unfold nw at *; omega
theorem kpO {V Y : World} {b2 b3 t2 t3 : Nat} {A B : Bt} {lo hi : Int} (h2 : V.rowIs b2 t2 4 (qf A B)) (h3 : V.rowIs b3 t3 2 (duf lo hi)) (hb : Below V.heap.size V Y) :
    (Y.cell? ⟨b2, 0, none⟩ = some (.int .i64 A.n) ∧ Y.cell? ⟨b2, 1, none⟩ = some (.slice A.ao A.m A.cap) ∧ Y.cell? ⟨b2, 2, none⟩ = some (.int .i64 B.n) ∧ Y.cell? ⟨b2, 3, none⟩ = some (.slice B.ao B.m B.cap)) ∧ (Y.cell? ⟨b3, 0, none⟩ = some (.int .i64 lo) ∧ Y.cell? ⟨b3, 1, none⟩ = some (.int .i64 hi)) :=
  ⟨⟨q0 (keepr hb h2), q1 (keepr hb h2), q2 (keepr hb h2), q3 (keepr hb h2)⟩, du0 (keepr hb h3), du1 (keepr hb h3)⟩
theorem du_set {w : World} {b t : Nat} {x y : Int} (h : w.rowIs b t 2 (duf x y)) (u v : Int) : ((w.setCell ⟨b, 0, none⟩ (.int .i64 u)).setCell ⟨b, 1, none⟩ (.int .i64 v)).rowIs b t 2 (duf u v) := by
  have h1 := (h.set 0 (.int .i64 u)).set 1 (.int .i64 v)
  refine h1.congr fun i hi => ?_
  rcases i with _ | _ | i
  · rfl
  · rfl
  · omega
end Go.Proofs.Ytkhlhcbbbhbgeaa
/- bound.Row, walked. -/
namespace Go.Proofs.Ytkhlhcbbbhbgeaa
open Go.RowKit

theorem kmeet_of {J K : Act → World → Prop} {Q : Exit → Act → World → Prop} {a : Act} {w : World} (hK : ∀ a' w', Met J a' w' → K a' w') (h : Met J a w) : Exit.then K Q Exit.normal a w := hK _ _ h
end Go.Proofs.Ytkhlhcbbbhbgeaa
/- BOUND: WHAT EVERY STATEMENT ASKS AHEAD. -/
namespace Go.Proofs.Ytkhlhcbbbhbgeaa.Nn
open Go.RowKit

def tiL (B : Nat) : Ly := ⟨2, 2, 2, 0, 0, 0, 0, 0, 0, 0, 0, 0, some ⟨B + 1, 0, none⟩, 6, 6, none, 0, 0, some ⟨B + 2, 0, none⟩, 2, 2, fun j => [1, 0, -1, 1, 1, 1].getD j 0, fun _ _ => 0, fun j => [5, -5].getD j 0⟩
def tiN (B : Nat) : Nt := ⟨⟨#[116, 105, 110, 121]⟩, 1, 1, 3, some ⟨B + 3, 0, none⟩, 1, 1, fun _ => tiL B⟩
/-- Its lists lie in memory. -/
def TiB (W : World) (B : Nat) : Prop := W.heap[B + 1]? = some (.cells (i8c [1, 0, -1, 1, 1, 1]) 60) ∧ W.heap[B + 2]? = some (.cells (i64c [5, -5]) 2) ∧ W.heap[B + 3]? = some (layO (tiL B))
theorem TiB.keep {W w' : World} {B : Nat} (h : TiB W B) (hb : Below W.heap.size W w') : TiB w' B := ⟨keepb hb h.1, keepb hb h.2.1, keepb hb h.2.2⟩
set_option maxRecDepth 10000 in
theorem tiW {W : World} {B : Nat} (h : TiB W B) : NtW W (tiN B) := by
  refine ⟨fun i hi => ⟨B + 3, 0, rfl, ?_⟩, (show (1 : Nat) ≤ 9223372036854775807 by decide), (show (4 : Nat) ≤ 9223372036854775807 by decide)⟩
  change i < 1 at hi
  have hb := h.2.2
  obtain rfl : i = 0 := by omega
  refine ⟨⟨bcl hb rfl, bcl hb rfl, bcl hb rfl, bcl hb rfl, bcl hb rfl, bcl hb rfl, bcl hb rfl, bcl hb rfl, bcl hb rfl, bcl hb rfl, bcl hb rfl, bcl hb rfl, bcl hb rfl, bcl hb rfl, bcl hb rfl⟩, ⟨fun j hj => ⟨B + 1, 0, rfl, ?_⟩, fun j hj => absurd hj (Nat.not_lt_zero j), fun j hj => ⟨B + 2, 0, rfl, ?_⟩, (show (6 : Nat) ≤ 9223372036854775807 by decide), (show (0 : Nat) ≤ 9223372036854775807 by decide), (show (2 : Nat) ≤ 9223372036854775807 by decide)⟩⟩
  · change j < 6 at hj
    rcases (show j = 0 ∨ j = 1 ∨ j = 2 ∨ j = 3 ∨ j = 4 ∨ j = 5 by omega) with rfl | rfl | rfl | rfl | rfl | rfl <;> exact bcl h.1 rfl
  · change j < 2 at hj
    rcases (show j = 0 ∨ j = 1 by omega) with rfl | rfl <;> exact bcl h.2.1 rfl
set_option maxRecDepth 10000 in
theorem ti_ok (B : Nat) : chE (tiN B) = 0 ∧ chA (tiN B) = 0 := by
  have h0 : whE (tiN B) = 0 := by kernel_rfl
  refine ch_ok h0 fun j hj => ?_
  change j < 1 at hj
  obtain rfl : j = 0 := by omega
  kernel_rfl
def tiF (_ j : Nat) : Int := [-250, -389].getD j 0
def tiH (_ j : Nat) : Int := [260, 376].getD j 0
set_option maxRecDepth 10000 in
theorem ti_r (B : Nat) : cN (tiN B) 1 = 2 ∧ ∀ j, j < 2 → yLo (tiL B) (fanN (tiN B) 0) 0 j = tiF 0 j ∧ yHi (tiL B) (fanN (tiN B) 0) 0 j = tiH 0 j := by
  refine ⟨by kernel_rfl, fun j hj => ?_⟩
  rcases (show j = 0 ∨ j = 1 by omega) with rfl | rfl <;> exact ⟨by kernel_rfl, by kernel_rfl⟩
def emN : Nt := ⟨⟨#[]⟩, 0, 0, 0, none, 0, 0, fun _ => tiL 0⟩
theorem emW (W : World) : NtW W emN := ⟨fun i hi => absurd hi (Nat.not_lt_zero i), (show (0 : Nat) ≤ 9223372036854775807 by decide), (show (0 : Nat) ≤ 9223372036854775807 by decide)⟩
theorem em_no : chE emN = 50 ∧ chA emN = -1 := ch_whole (by decide)
abbrev bA (g : Nat) : Bt := ⟨4, some ⟨g, 0, none⟩, 1, 1, 3⟩
abbrev bB (g : Nat) : Bt := ⟨4, some ⟨g, 0, none⟩, 1, 1, 7⟩
theorem bA_rw {W : World} {g : Nat} (h : W.heap[g]? = some (.cells #[.int .u64 3] 126)) : Rw W (bA g) := ⟨(show 3 < 2 ^ (64 * 1) by decide), (show (1 : Nat) ≤ 9223372036854775807 by decide), fun k hk => ⟨g, 0, rfl, by
  have hk' : k < 1 := hk
  obtain rfl : k = 0 := by omega
  exact bcl h (by simp [wf, wd])⟩⟩
theorem bB_rw {W : World} {g : Nat} (h : W.heap[g]? = some (.cells #[.int .u64 7] 126)) : Rw W (bB g) := ⟨(show 7 < 2 ^ (64 * 1) by decide), (show (1 : Nat) ≤ 9223372036854775807 by decide), fun k hk => ⟨g, 0, rfl, by
  have hk' : k < 1 := hk
  obtain rfl : k = 0 := by omega
  exact bcl h (by simp [wf, wd])⟩⟩
set_option maxRecDepth 100000 in
theorem bAB (g h : Nat) : (roE (bA g) (bB h) 0 5 = 0 ∧ roL (bA g) (bB h) 0 5 = -5 ∧ roH (bA g) (bB h) 0 5 = 10) ∧ roE (bA g) (bB h) 2 1 = 1 ∧ roL (bA g) (bB h) 2 1 = 0 ∧ roH (bA g) (bB h) 2 1 = 0 := by
  refine ⟨⟨by kernel_rfl, by kernel_rfl, by kernel_rfl⟩, by kernel_rfl, by kernel_rfl, by kernel_rfl⟩
end Go.Proofs.Ytkhlhcbbbhbgeaa.Nn
/- planeOf, Planes. -/
namespace Go.Proofs.Ytkhlhcbbbhbgeaa
open Go.RowKit

/-- Bit p of a number of eight bits. -/
def plb (l : List Int) (p i : Nat) : Bool := ((ia l i % 256).toNat).testBit p
theorem plb_is (v : Int) (p : Nat) : (bits .and .u8 (v % 256 / 2 ^ p) 1 == 1) = ((v % 256).toNat).testBit p := by
  have e : v % 256 = (((v % 256).toNat : Nat) : Int) := by omega
  have hx : (v % 256).toNat < 256 := by omega
  generalize (v % 256).toNat = x at *
  rw [e]
  have e2 : (x : Int) / 2 ^ p = ((x / 2 ^ p : Nat) : Int) := by simp
  rw [e2]
  have e3 : bits .and .u8 ((x / 2 ^ p : Nat) : Int) 1 = _ := u8_and_nat (x / 2 ^ p) 1 (Nat.lt_of_le_of_lt (Nat.div_le_self _ _) hx) (by decide)
  rw [e3, Nat.and_one_is_mod, Nat.testBit_eq_decide_div_mod_eq]
  rcases Nat.mod_two_eq_zero_or_one (x / 2 ^ p) with h | h <;> simp [h]
theorem bn_set {f : Nat → Bool} {k : Nat} (h : f k = true) : bn f (k + 1) = bn f k ||| 2 ^ k := by simp only [bn]; rw [if_pos h]
theorem bn_not {f : Nat → Bool} {k : Nat} (h : f k = false) : bn f (k + 1) = bn f k := by simp only [bn]; rw [if_neg (by simp [h])]; simp

end Go.Proofs.Ytkhlhcbbbhbgeaa
/- Planes. -/
namespace Go.Proofs.Ytkhlhcbbbhbgeaa
open Go.RowKit

/-- Eight rows of bits as a value, and as cells. -/
abbrev pv (P : Nat → Bt) : Value := .agg #[.int .i64 (P 0).n, .slice (P 0).ao (P 0).m (P 0).cap, .int .i64 (P 1).n, .slice (P 1).ao (P 1).m (P 1).cap, .int .i64 (P 2).n, .slice (P 2).ao (P 2).m (P 2).cap, .int .i64 (P 3).n, .slice (P 3).ao (P 3).m (P 3).cap, .int .i64 (P 4).n, .slice (P 4).ao (P 4).m (P 4).cap, .int .i64 (P 5).n, .slice (P 5).ao (P 5).m (P 5).cap, .int .i64 (P 6).n, .slice (P 6).ao (P 6).m (P 6).cap, .int .i64 (P 7).n, .slice (P 7).ao (P 7).m (P 7).cap]
def pfc (P : Nat → Bt) : Nat → Value := fun j => if j % 2 = 0 then .int .i64 (P (j / 2)).n else .slice (P (j / 2)).ao (P (j / 2)).m (P (j / 2)).cap
theorem pfc_even (P : Nat → Bt) (p : Nat) : pfc P (p * 2) = .int .i64 (P p).n := by
  unfold pfc; rw [if_pos (by omega), show p * 2 / 2 = p by omega]
theorem pfc_odd (P : Nat → Bt) (p : Nat) : pfc P (p * 2 + 1) = .slice (P p).ao (P p).m (P p).cap := by
  unfold pfc; rw [if_neg (by omega), show (p * 2 + 1) / 2 = p by omega]
theorem p_new (w : World) (P : Nat → Bt) (t : TypeId) : (w.alloc (.cells #[.int .i64 (P 0).n, .slice (P 0).ao (P 0).m (P 0).cap, .int .i64 (P 1).n, .slice (P 1).ao (P 1).m (P 1).cap, .int .i64 (P 2).n, .slice (P 2).ao (P 2).m (P 2).cap, .int .i64 (P 3).n, .slice (P 3).ao (P 3).m (P 3).cap, .int .i64 (P 4).n, .slice (P 4).ao (P 4).m (P 4).cap, .int .i64 (P 5).n, .slice (P 5).ao (P 5).m (P 5).cap, .int .i64 (P 6).n, .slice (P 6).ao (P 6).m (P 6).cap, .int .i64 (P 7).n, .slice (P 7).ao (P 7).m (P 7).cap] t)).rowIs w.heap.size t 16 (pfc P) :=
  World.rowIs_alloc w _ t _ (fun i hi => by
    rcases i with _ | _ | _ | _ | _ | _ | _ | _ | _ | _ | _ | _ | _ | _ | _ | _ | i
    · rfl
    · rfl
    · rfl
    · rfl
    · rfl
    · rfl
    · rfl
    · rfl
    · rfl
    · rfl
    · rfl
    · rfl
    · rfl
    · rfl
    · rfl
    · rfl
    · simp at hi; omega)
/-- All sixteen cells. -/
def C16 (w : World) (b : Nat) (P : Nat → Bt) : Prop := w.cell? ⟨b, 0, none⟩ = some (.int .i64 (P 0).n) ∧ w.cell? ⟨b, 1, none⟩ = some (.slice (P 0).ao (P 0).m (P 0).cap) ∧ w.cell? ⟨b, 2, none⟩ = some (.int .i64 (P 1).n) ∧ w.cell? ⟨b, 3, none⟩ = some (.slice (P 1).ao (P 1).m (P 1).cap) ∧ w.cell? ⟨b, 4, none⟩ = some (.int .i64 (P 2).n) ∧ w.cell? ⟨b, 5, none⟩ = some (.slice (P 2).ao (P 2).m (P 2).cap) ∧ w.cell? ⟨b, 6, none⟩ = some (.int .i64 (P 3).n) ∧ w.cell? ⟨b, 7, none⟩ = some (.slice (P 3).ao (P 3).m (P 3).cap) ∧ w.cell? ⟨b, 8, none⟩ = some (.int .i64 (P 4).n) ∧ w.cell? ⟨b, 9, none⟩ = some (.slice (P 4).ao (P 4).m (P 4).cap) ∧ w.cell? ⟨b, 10, none⟩ = some (.int .i64 (P 5).n) ∧ w.cell? ⟨b, 11, none⟩ = some (.slice (P 5).ao (P 5).m (P 5).cap) ∧ w.cell? ⟨b, 12, none⟩ = some (.int .i64 (P 6).n) ∧ w.cell? ⟨b, 13, none⟩ = some (.slice (P 6).ao (P 6).m (P 6).cap) ∧ w.cell? ⟨b, 14, none⟩ = some (.int .i64 (P 7).n) ∧ w.cell? ⟨b, 15, none⟩ = some (.slice (P 7).ao (P 7).m (P 7).cap)
theorem c16 {w : World} {b t : Nat} {P : Nat → Bt} (h : w.rowIs b t 16 (pfc P)) : C16 w b P :=
  ⟨h.cell (by omega), h.cell (by omega), h.cell (by omega), h.cell (by omega), h.cell (by omega), h.cell (by omega), h.cell (by omega), h.cell (by omega), h.cell (by omega), h.cell (by omega), h.cell (by omega), h.cell (by omega), h.cell (by omega), h.cell (by omega), h.cell (by omega), h.cell (by omega)⟩
/-- The first k of the planes. -/
def frt (N : Nat) (G : Nat → Nat) (k : Nat) : Nat → Bt := fun p => if p < k then ob N (G p) 0 else zb
def upd (G : Nat → Nat) (k g : Nat) : Nat → Nat := fun p => if p = k then g else G p
theorem upd_same (G : Nat → Nat) (k g : Nat) : upd G k g k = g := by unfold upd; rw [if_pos rfl]
theorem upd_ne {G : Nat → Nat} {k g p : Nat} (h : p ≠ k) : upd G k g p = G p := by unfold upd; rw [if_neg h]
theorem frt_step {N k g : Nat} {G : Nat → Nat} (j : Nat) : (if j = k * 2 + 1 then Value.slice (some ⟨g, 0, none⟩) (nw N) (nw N) else if j = k * 2 then Value.int .i64 N else pfc (frt N G k) j) = pfc (frt N (upd G k g) (k + 1)) j := by
  unfold pfc frt
  by_cases e1 : j = k * 2 + 1
  · rw [if_pos e1, if_neg (by omega), show j / 2 = k by omega, if_pos (by omega), upd_same]
  · rw [if_neg e1]
    by_cases e2 : j = k * 2
    · rw [if_pos e2, if_pos (by omega), show j / 2 = k by omega, if_pos (by omega)]
    · have e3 : ¬ j / 2 = k := by omega
      have e4 : (j / 2 < k + 1) ↔ (j / 2 < k) := by omega
      rw [if_neg e2, upd_ne e3]
      simp only [e4]
end Go.Proofs.Ytkhlhcbbbhbgeaa
/- Numbers. -/
namespace Go.Proofs.Ytkhlhcbbbhbgeaa
open Go.RowKit
attribute [local go_sem ↓] Go.wp_at_zero Go.wp_at_succ

def aF (P : Nat → Bt) (len : Int) : Bool := (List.range 8).all fun p => ftB (P p).n (P p).m (P p).N len
theorem aF_iff (P : Nat → Bt) (len : Int) : aF P len = true ↔ ∀ p, p < 8 → ftB (P p).n (P p).m (P p).N len = true := by simp [aF, List.all_eq_true]
def nmE (A B : Bt) (P : Nat → Bt) : Int := if dck A B ≠ 0 then dck A B else if aF P A.n = true then 0 else 20
def nmV (A B : Bt) (P : Nat → Bt) : Int := if nmE A B P = 0 then npl A.N B.N (fun p => (P p).N) A.n.toNat 8 else 0
theorem nmE_bad {A B : Bt} {P : Nat → Bt} (h : dck A B ≠ 0) : nmE A B P = dck A B := by unfold nmE; rw [if_pos h]
theorem nmV_bad {A B : Bt} {P : Nat → Bt} (h : nmE A B P ≠ 0) : nmV A B P = 0 := by unfold nmV; rw [if_neg h]
theorem eight {p : Nat → Prop} {i : Nat} (h : i < 8) (h0 : p 0) (h1 : p 1) (h2 : p 2) (h3 : p 3) (h4 : p 4) (h5 : p 5) (h6 : p 6) (h7 : p 7) : p i := by
  match i, h with
  | 0, _ => exact h0
  | 1, _ => exact h1
  | 2, _ => exact h2
  | 3, _ => exact h3
  | 4, _ => exact h4
  | 5, _ => exact h5
  | 6, _ => exact h6
  | 7, _ => exact h7
theorem pw_bd {p : Nat} (h : p < 8) : -128 ≤ pw p ∧ pw p ≤ 64 := eight (p := fun p => -128 ≤ pw p ∧ pw p ≤ 64) h (by decide) (by decide) (by decide) (by decide) (by decide) (by decide) (by decide) (by decide)
theorem mul_bd {a b : Int} {n : Nat} (ha : -128 ≤ a ∧ a ≤ 64) (hb : -(n : Int) ≤ b ∧ b ≤ n) : -(128 * (n : Int)) ≤ a * b ∧ a * b ≤ 128 * n := by
  have h1 : (a * b).natAbs ≤ 128 * n := by
    rw [Int.natAbs_mul]
    exact Nat.mul_le_mul (by omega) (by omega)
  omega
theorem npl_bd (S M : Nat) (P : Nat → Nat) (n : Nat) : ∀ q : Nat, q ≤ 8 → -(128 * (q : Int) * n) ≤ npl S M P n q ∧ npl S M P n q ≤ 128 * (q : Int) * n
  | 0, _ => by simp [npl]
  | q + 1, h => by
    have := npl_bd S M P n q (by omega)
    have := mul_bd (pw_bd (show q < 8 by omega)) (tq_bd (M &&& P q) S (P q) n)
    have e : 128 * ((q + 1 : Nat) : Int) * n = 128 * (q : Int) * n + 128 * n := by
      rw [Int.natCast_add, Int.mul_add, Int.add_mul]; simp
    simp only [npl]; rw [e]; omega
theorem npl_lim (S M : Nat) (P : Nat → Nat) {n q : Nat} (hn : n ≤ 16777216) (hq : q ≤ 8) : -17179869184 ≤ npl S M P n q ∧ npl S M P n q ≤ 17179869184 := by
  have := npl_bd S M P n q hq
  have h1 : 128 * (q : Int) * n ≤ 17179869184 := by
    have h2 : 128 * q * n ≤ 128 * 8 * 16777216 := Nat.mul_le_mul (Nat.mul_le_mul (Nat.le_refl _) hq) hn
    have h3 : ((128 * q * n : Nat) : Int) = 128 * (q : Int) * n := by simp
    omega
  omega

theorem qp_new (w : World) (A B : Bt) (P : Nat → Bt) (t u : TypeId) : ((w.alloc (.cells #[.int .i64 A.n, .slice A.ao A.m A.cap, .int .i64 B.n, .slice B.ao B.m B.cap] t)).alloc (.cells #[.int .i64 (P 0).n, .slice (P 0).ao (P 0).m (P 0).cap, .int .i64 (P 1).n, .slice (P 1).ao (P 1).m (P 1).cap, .int .i64 (P 2).n, .slice (P 2).ao (P 2).m (P 2).cap, .int .i64 (P 3).n, .slice (P 3).ao (P 3).m (P 3).cap, .int .i64 (P 4).n, .slice (P 4).ao (P 4).m (P 4).cap, .int .i64 (P 5).n, .slice (P 5).ao (P 5).m (P 5).cap, .int .i64 (P 6).n, .slice (P 6).ao (P 6).m (P 6).cap, .int .i64 (P 7).n, .slice (P 7).ao (P 7).m (P 7).cap] u)).rowIs (w.heap.size + 1) u 16 (pfc P) := by
  have := p_new (w.alloc (.cells #[.int .i64 A.n, .slice A.ao A.m A.cap, .int .i64 B.n, .slice B.ao B.m B.cap] t)) P u
  rw [World.size_alloc] at this
  exact this
theorem kpn {W X : World} {bx t bz u v0 : Nat} {A B : Bt} {C : Bt} {k : Nat} (h1 : W.rowIs bx t 4 (qf A B)) (h2 : W.rowIs bz u 2 (sf C.n C.ao C.m C.cap)) (h3 : W.cell? ⟨v0, k, none⟩ = some (.int .i64 (pw k))) (hb : Below W.heap.size W X) :
    (X.cell? ⟨bx, 0, none⟩ = some (.int .i64 A.n) ∧ X.cell? ⟨bx, 1, none⟩ = some (.slice A.ao A.m A.cap) ∧ X.cell? ⟨bx, 2, none⟩ = some (.int .i64 B.n) ∧ X.cell? ⟨bx, 3, none⟩ = some (.slice B.ao B.m B.cap)) ∧ (X.cell? ⟨bz, 0, none⟩ = some (.int .i64 C.n) ∧ X.cell? ⟨bz, 1, none⟩ = some (.slice C.ao C.m C.cap)) ∧ X.cell? ⟨v0, k, none⟩ = some (.int .i64 (pw k)) := by
  have r := keepr hb h1
  have s := keepr hb h2
  exact ⟨⟨q0 r, q1 r, q2 r, q3 r⟩, ⟨sf_len s, sf_ws s⟩, keepc hb h3⟩
end Go.Proofs.Ytkhlhcbbbhbgeaa
/- begun. -/
namespace Go.Proofs.Ytkhlhcbbbhbgeaa
open Go.RowKit

/-- Rows of four bits. -/
abbrev o4 (g N : Nat) : Bt := ⟨4, some ⟨g, 0, none⟩, 1, 1, N⟩
theorem ob4 (g N : Nat) : ob 4 g N = o4 g N := rfl
theorem four_in {l : List Int} {p : Int → Prop} (h0 : p (ia l 0)) (h1 : p (ia l 1)) (h2 : p (ia l 2)) (h3 : p (ia l 3)) : ∀ i, i < 4 → p (ia l i) := by
  intro i hi
  match i, hi with
  | 0, _ => exact h0
  | 1, _ => exact h1
  | 2, _ => exact h2
  | 3, _ => exact h3
theorem r8_four {w : World} {t : TypeId} (a b c d : Int) : R8 (w.alloc (.cells #[.int .i8 a, .int .i8 b, .int .i8 c, .int .i8 d] t)) (some ⟨w.heap.size, 0, none⟩) [a, b, c, d] := by
  intro k hk
  refine ⟨w.heap.size, 0, rfl, ?_⟩
  rcases k with _ | _ | _ | _ | k
  · simp [go_sem, ia]
  · simp [go_sem, ia]
  · simp [go_sem, ia]
  · simp [go_sem, ia]
  · simp at hk; omega
theorem rw4 {w : World} {g N : Nat} (h : w.rowIs g 126 1 (wf N)) (hN : N < 16) : Rw w (o4 g N) :=
  ⟨by show N < 2 ^ (64 * 1); omega, by show 1 ≤ _; decide, fun k hk => ⟨g, 0, rfl, by rw [Nat.zero_add]; exact h.cell hk⟩⟩
theorem wok1 : Wok [1, 0, -1, 1] 4 := four_in (p := fun x => -1 ≤ x ∧ x ≤ 1) (by decide) (by decide) (by decide) (by decide)
theorem wok2 : Wok [0, 1, 1, -1] 4 := four_in (p := fun x => -1 ≤ x ∧ x ≤ 1) (by decide) (by decide) (by decide) (by decide)
theorem bn4_lt (f : Nat → Bool) : bn f 4 < 16 := bn_lt f 4
theorem w_one (w : World) (o : Obj) (t : TypeId) : ((w.alloc o).alloc (.cells #[.int .u64 1] t)).rowIs (w.heap.size + 1) t 1 (wf 1) := by
  have h : ((w.alloc o).alloc (.cells #[.int .u64 1] t)).rowIs (w.alloc o).heap.size t 1 (wf 1) := World.rowIs_alloc (w.alloc o) _ t _ (fun i hi => by
    rcases i with _ | i
    · rfl
    · simp at hi)
  rw [World.size_alloc] at h
  exact h
theorem sg4 {g1 g2 g : Nat} : sgV (o4 g1 9) (o4 g2 13) (o4 g 1) = 1 := by kernel_rfl
theorem sg4e {g1 g2 g : Nat} : sgE (o4 g1 9) (o4 g2 13) (o4 g 1) = 0 := by kernel_rfl
theorem so4 {g1 g2 g3 g4 : Nat} : soV (o4 g1 9) (o4 g2 13) (o4 g3 6) (o4 g4 14) = -2 := by kernel_rfl
theorem so4e {g1 g2 g3 g4 : Nat} : soE (o4 g1 9) (o4 g2 13) (o4 g3 6) (o4 g4 14) = 0 := by kernel_rfl
theorem nm4 {g1 g2 : Nat} {G : Nat → Nat} : nmV (o4 g1 9) (o4 g2 13) (fun p => o4 (G p) (bn (plb [5, 9, -7, -128] p) 4)) = -116 := by kernel_rfl
theorem nm4e {g1 g2 : Nat} {G : Nat → Nat} : nmE (o4 g1 9) (o4 g2 13) (fun p => o4 (G p) (bn (plb [5, 9, -7, -128] p) 4)) = 0 := by kernel_rfl
end Go.Proofs.Ytkhlhcbbbhbgeaa
/- Lists of small numbers: own, copied, grown; tame, even, sameSmall. -/
namespace Go.Proofs.Ytkhlhcbbbhbgeaa
open Go.RowKit

def rowL (f : Nat → Value) (m : Nat) : List Value := (List.range m).map f
theorem rowL_len (f : Nat → Value) (m : Nat) : (rowL f m).length = m * 1 := by simp [rowL]
theorem rowL_get {f : Nat → Value} {m j : Nat} {u : Value} (h : (rowL f m)[j]? = some u) : j < m ∧ u = f j := by
  unfold rowL at h
  rw [List.getElem?_map, Option.map_eq_some_iff] at h
  obtain ⟨x, hx, rfl⟩ := h
  obtain ⟨h1, h2⟩ := List.getElem?_eq_some_iff.1 hx
  simp at h1 h2
  subst h2
  exact ⟨h1, rfl⟩
theorem rowL_at {f : Nat → Value} {m j : Nat} (h : j < m) (v : Value) : (rowL f m ++ [v])[j]? = some (f j) := by
  rw [List.getElem?_append_left (by simpa [rowL] using h)]
  simp [rowL, h]
theorem rowL_last (f : Nat → Value) (m : Nat) (v : Value) : (rowL f m ++ [v])[m]? = some v := by
  rw [List.getElem?_append_right (by simp [rowL])]
  simp [rowL]
theorem rowL_wf {N m : Nat} : ∀ u ∈ rowL (wf N) m, u.oneCell' = true := by
  intro u hu
  obtain ⟨j, hj, e⟩ := List.getElem_of_mem hu
  obtain ⟨_, rfl⟩ := rowL_get (List.getElem?_eq_some_iff.2 ⟨hj, e⟩)
  rfl
/-- An own row, as a row of cells. -/
theorem own_row {w : World} {base e : Nat} {v : Value} {n : Nat} {xs : List Value} (h : w.ownsRow base e 1 v n xs) (hn : 0 < n) :
    ∃ g cap f, v = .slice (some ⟨g, 0, none⟩) n cap ∧ base ≤ g ∧ n ≤ cap ∧ cap ≤ maxLen ∧ w.rowIs g e cap f ∧ ∀ k, k < n → xs[k]? = some (f k) := by
  rcases h.2 with ⟨_, h0⟩ | ⟨g, cap, cur, hv, hb, hg, h4, h5, h6, h7⟩
  · omega
  · refine ⟨g, cap, fun k => cur[k]?.getD undef, hv, hb, h4, h5, ⟨cur, hg, by omega, fun i hi => ?_⟩, fun k hk => ?_⟩
    · simp [Array.getElem?_eq_getElem (show i < cur.size by omega)]
    · rw [← h7, Nat.mul_one, List.getElem?_take_of_lt hk]
      simp [Array.getElem?_eq_getElem (show k < cur.size by omega)]

def i8s (l : List Int) : List Value := l.map (Value.int .i8)
theorem i8s_len (l : List Int) : (i8s l).length = l.length * 1 := by simp [i8s]
theorem i8s_get {l : List Int} {j : Nat} {u : Value} (h : (i8s l)[j]? = some u) : j < l.length ∧ u = .int .i8 (ia l j) := by
  unfold i8s at h
  rw [List.getElem?_map, Option.map_eq_some_iff] at h
  obtain ⟨x, hx, rfl⟩ := h
  obtain ⟨h1, _⟩ := List.getElem?_eq_some_iff.1 hx
  refine ⟨h1, ?_⟩
  unfold ia
  rw [List.getD_eq_getElem?_getD, hx]
  rfl
theorem i8s_at {l : List Int} {j : Nat} (h : j < l.length) : (i8s l)[j]? = some (.int .i8 (ia l j)) := by
  unfold i8s ia
  rw [List.getElem?_map, List.getD_eq_getElem?_getD, List.getElem?_eq_getElem h]
  rfl
theorem i8s_one {l : List Int} : ∀ u ∈ i8s l, u.oneCell' = true := by
  intro u hu
  unfold i8s at hu
  obtain ⟨x, _, rfl⟩ := List.mem_map.1 hu
  rfl
theorem i8s_snoc (l : List Int) (x : Int) : i8s (l ++ [x]) = i8s l ++ [.int .i8 x] := by simp [i8s]
theorem r8_add {w : World} {a : Addr} {l : List Int} (h : R8 w (some a) l) {j : Nat} (hj : j < l.length) : w.cell? (a.add j) = some (.int .i8 (ia l j)) := by
  obtain ⟨g, o, e, c⟩ := h j hj
  obtain rfl : a = ⟨g, o, none⟩ := Option.some.inj e
  by_cases h0 : j = 0
  · subst h0; exact c
  · simp [Addr.add, h0, c]
theorem r8_take {w : World} {ao : Option Addr} {l : List Int} (h : R8 w ao l) (n : Nat) : R8 w ao (l.take n) := by
  intro k hk
  have hk' : k < n ∧ k < l.length := by simp at hk; omega
  obtain ⟨g, o, e, c⟩ := h k hk'.2
  exact ⟨g, o, e, by rw [ia_take hk'.1]; exact c⟩
/-- An own row of small numbers reads as they do. -/
theorem r8_own {w : World} {base : Nat} {v : Value} {l : List Int} (h : w.ownsRow base 60 1 v l.length (i8s l)) : ∃ ao cap, v = .slice ao l.length cap ∧ l.length ≤ cap ∧ cap ≤ maxLen ∧ (ao = none → l.length = 0 ∧ cap = 0) ∧ (∀ a, ao = some a → ∃ g, a = ⟨g, 0, none⟩) ∧ R8 w ao l := by
  rcases Nat.eq_zero_or_pos l.length with h0 | h0
  · rcases h.2 with ⟨h1, _⟩ | ⟨g, cap, cur, hv, _, _, h4, h5, _⟩
    · exact ⟨none, 0, by rw [h0]; exact h1, by omega, by simp [maxLen], fun _ => ⟨h0, rfl⟩, fun _ e => (by cases e), fun k hk => absurd hk (by omega)⟩
    · exact ⟨_, cap, hv, h4, h5, fun e => (by cases e), fun a e => ⟨g, (Option.some.inj e).symm⟩, fun k hk => absurd hk (by omega)⟩
  · obtain ⟨g, cap, f, hv, _, h4, h5, hr, hf⟩ := own_row h h0
    refine ⟨_, cap, hv, h4, h5, fun e => (by cases e), fun a e => ⟨g, (Option.some.inj e).symm⟩, fun k hk => ⟨g, 0, rfl, ?_⟩⟩
    rw [Nat.zero_add]
    refine (hr.cell (by omega)).trans ?_
    have := hf k hk
    rw [i8s_at hk] at this
    exact congrArg some (Option.some.inj this).symm

theorem app_nil {ops : Array Oper} {rest : List Oper} {o : Oper} {a : Act} {Q : Exit → Act → World → Prop} {w : World} (hgd : o.guard = none) (s x : Operand)
    (ho : o.op = .call { callee := .builtin .append, args := #[s, x], argTypes := #[44, 44] }) (hs : a.eval s = .slice none 0 0)
    (bo : Option Addr) (l : List Int) (cb : Nat) (hx : a.eval x = .slice bo l.length cb) (hr : R8 w bo l) (hn : bo = none → l.length = 0 ∧ cb = 0) (hM : l.length ≤ 140737488351232)
    (h : ∀ v' w', w'.ownsRow w.heap.size 60 1 v' l.length (i8s l) → Below w.heap.size w w' → wpList Try.prog ops Q rest (a.put o.dst v') w') : wpList Try.prog ops Q (o :: rest) a w := by
  obtain ⟨i0, hi, hz0, hz1, hz2⟩ := info_parts info_i8
  cases bo with
  | none =>
    obtain ⟨h0, rfl⟩ := hn rfl
    rw [h0] at hx
    refine wpList_append_own_none hgd s x _ ho w.heap.size 60 i0 1 und_i8s hi (.slice none 0 0) 0 [] hs (World.ownsRow_nil _ _ _ _) hx (h _ _ ?_ (Below.refl _ _))
    have e : l = [] := List.eq_nil_of_length_eq_zero h0
    subst e
    exact World.ownsRow_nil _ _ _ _
  | some ad =>
    refine wpList_append_own w hgd s x _ ho w.heap.size 60 i0 (.int .i8 0) 1 1 und_i8s hi hz0 hz1 hz2 rfl (by decide) (.slice none 0 0) 0 [] hs (World.ownsRow_nil _ _ _ _) ad l.length cb (i8s l) hx (i8s_len l)
      (fun j u hu => by obtain ⟨h1, rfl⟩ := i8s_get hu; exact r8_add hr h1) i8s_one (by unfold maxLen; omega) (by omega) (Nat.le_refl _) ?_
    intro v' w' h1 h2 _
    rw [Nat.zero_add, List.nil_append] at h1
    exact h v' w' h1 ((Below.refl _ _).grown h2 (Nat.le_refl _) (fun _ e => by cases e))

/-- One small number appended to a list of one's own. -/
theorem app_one {ops : Array Oper} {rest : List Oper} {o : Oper} {a : Act} {Q : Exit → Act → World → Prop} {w : World} (hgd : o.guard = none) (s x : Operand)
    (ho : o.op = .call { callee := .builtin .append, args := #[s, x], argTypes := #[44, 44] }) (base : Nat) (v : Value) (l : List Int) (hs : a.eval s = v) (hown : w.ownsRow base 60 1 v l.length (i8s l))
    (g : Nat) (y : Int) (cb : Nat) (hx : a.eval x = .slice (some ⟨g, 0, none⟩) 1 cb) (hr : w.cell? ⟨g, 0, none⟩ = some (.int .i8 y)) (hM : l.length < 140737488355328) (hb : base ≤ w.heap.size)
    (h : ∀ v' w', w'.ownsRow base 60 1 v' (l.length + 1) (i8s (l ++ [y])) → w.grownBy w' v.ownBlock → wpList Try.prog ops Q rest (a.put o.dst v') w') : wpList Try.prog ops Q (o :: rest) a w := by
  obtain ⟨i0, hi, hz0, hz1, hz2⟩ := info_parts info_i8
  refine wpList_append_own w hgd s x _ ho base 60 i0 (.int .i8 0) 1 1 und_i8s hi hz0 hz1 hz2 rfl (by decide) v l.length (i8s l) hs hown ⟨g, 0, none⟩ 1 cb [.int .i8 y] hx rfl
    (fun j u hu => ?_) (fun u hu => by simp at hu; subst hu; rfl) (by unfold maxLen; omega) (by omega) hb ?_
  · rcases j with _ | j
    · simp at hu; subst hu; exact hr
    · simp at hu
  · intro v' w' h1 h2 _
    exact h v' w' (by rw [i8s_snoc]; exact h1) h2

/-- Made weights. -/
def tml (l : List Int) : List Int := l.map fun x => x.tmod 2
theorem ia_snoc {l : List Int} {k : Nat} (h : k < l.length) : l.take (k + 1) = l.take k ++ [ia l k] := by
  rw [List.take_succ_eq_append_getElem h]
  congr 2
  unfold ia
  simp [List.getD, h]
theorem tml_len (l : List Int) : (tml l).length = l.length := by simp [tml]
theorem tml_ia {l : List Int} {k : Nat} (h : k < l.length) : ia (tml l) k = (ia l k).tmod 2 := by
  unfold ia tml
  simp [List.getD, h]
theorem tml_take {l : List Int} {k : Nat} (h : k < l.length) : (tml l).take (k + 1) = (tml l).take k ++ [(ia l k).tmod 2] := by
  rw [ia_snoc (by rw [tml_len]; exact h), tml_ia h]
theorem tmod2 (x : Int) : -1 ≤ x.tmod 2 ∧ x.tmod 2 ≤ 1 := by
  rcases Int.le_total 0 x with h | h
  · rw [Int.tmod_eq_emod_of_nonneg h]; omega
  · obtain ⟨y, rfl⟩ : ∃ y, x = -y := ⟨-x, by omega⟩
    rw [Int.neg_tmod, Int.tmod_eq_emod_of_nonneg (by omega)]; omega
theorem r8_nil {w : World} {ao : Option Addr} {l : List Int} (h : R8 w ao l) (h0 : 0 < l.length) : ∃ g o, ao = some ⟨g, o, none⟩ := by
  obtain ⟨g, o, e, _⟩ := h 0 h0
  exact ⟨g, o, e⟩
end Go.Proofs.Ytkhlhcbbbhbgeaa
/- BoundRows: mathematics. -/
namespace Go.Proofs.Ytkhlhcbbbhbgeaa
open Go.RowKit

/-- How many of the first k weights are above 0; below 0. -/
def cP (f : Nat → Int) : Nat → Nat
  | 0 => 0
  | k + 1 => cP f k + if 0 < f k then 1 else 0
def cM (f : Nat → Int) : Nat → Nat
  | 0 => 0
  | k + 1 => cM f k + if f k < 0 then 1 else 0
theorem cP_le (f : Nat → Int) : ∀ k, cP f k + cM f k ≤ k
  | 0 => Nat.le_refl _
  | k + 1 => by
    have := cP_le f k
    simp only [cP, cM]
    by_cases h : 0 < f k
    · rw [if_pos h, if_neg (by omega)]; omega
    · rw [if_neg h]; split <;> omega
theorem pc_pk (l : List Int) (N : Nat) : ∀ k, k ≤ N → pc (pk l N) k = cP (ia l) k
  | 0, _ => rfl
  | k + 1, h => by
    simp only [pc, cP]
    rw [pc_pk l N k (by omega), pk_bit]
    by_cases hp : 0 < ia l k
    · rw [if_pos hp]; simp [hp]; omega
    · rw [if_neg hp]; simp [hp]
theorem pc_nz (l : List Int) (N : Nat) : ∀ k, k ≤ N → pc (bn (nz l) N) k = cP (ia l) k + cM (ia l) k
  | 0, _ => rfl
  | k + 1, h => by
    simp only [pc, cP, cM]
    rw [pc_nz l N k (by omega), bn_bit]
    have hk : decide (k < N) = true := decide_eq_true (by omega)
    by_cases hp : 0 < ia l k
    · rw [if_pos hp, if_neg (by omega), hk]; simp [nz, show ia l k ≠ 0 by omega]; omega
    · by_cases hm : ia l k < 0
      · rw [if_neg hp, if_pos hm, hk]; simp [nz, show ia l k ≠ 0 by omega]; omega
      · rw [if_neg hp, if_neg hm, hk]; simp [nz, show ia l k = 0 by omega]
theorem pk_sub (l : List Int) (N : Nat) : pk l N &&& bn (nz l) N = pk l N := by
  refine Nat.eq_of_testBit_eq fun i => ?_
  rw [Nat.testBit_and, pk_bit, bn_bit]
  by_cases hp : 0 < ia l i
  · simp [nz, hp, show ia l i ≠ 0 by omega]
  · simp [hp]
theorem dck_ob4 {n g1 g2 S M : Nat} (h1 : n ≤ 16777216) (hS : S < 2 ^ n) (hM : M < 2 ^ n) (h : S &&& M = S) : dck (ob n g1 S) (ob n g2 M) = 0 := by
  have c1 := chk_ok h1 hS
  have c2 := chk_ok h1 hM
  unfold dck
  rw [if_neg (by simp [ftB, c1, c2]), if_pos h]
theorem mulS {p : Nat} {x : Int} (hp : p ≤ 300) (hx : -1000000 ≤ x ∧ x ≤ 1000000) : -300000000 ≤ (p : Int) * x ∧ (p : Int) * x ≤ 300000000 := by
  have h1 : (p : Int) * x ≤ 300 * 1000000 := by
    by_cases h0 : 0 ≤ x
    · exact Int.le_trans (Int.mul_le_mul_of_nonneg_right (show (p : Int) ≤ 300 by omega) h0) (Int.mul_le_mul_of_nonneg_left (by omega) (by decide))
    · exact Int.le_trans (Int.mul_nonpos_of_nonneg_of_nonpos (by omega) (by omega)) (by decide)
  have h2 : (p : Int) * (-x) ≤ 300 * 1000000 := by
    by_cases h0 : 0 ≤ -x
    · exact Int.le_trans (Int.mul_le_mul_of_nonneg_right (show (p : Int) ≤ 300 by omega) h0) (Int.mul_le_mul_of_nonneg_left (by omega) (by decide))
    · exact Int.le_trans (Int.mul_nonpos_of_nonneg_of_nonpos (by omega) (by omega)) (by decide)
  rw [Int.mul_neg] at h2
  omega
/-- What Row tells of packed weights. -/
theorem row_pack {l : List Int} {N g1 g2 : Nat} {lo hi : Int} (h1 : N ≤ 300) (hl : -1000000 ≤ lo) (hlh : lo ≤ hi) (hh : hi ≤ 1000000) :
    roE (ob N g1 (pk l N)) (ob N g2 (bn (nz l) N)) lo hi = 0 ∧ roL (ob N g1 (pk l N)) (ob N g2 (bn (nz l) N)) lo hi = (cP (ia l) N : Nat) * lo - (cM (ia l) N : Nat) * hi ∧ roH (ob N g1 (pk l N)) (ob N g2 (bn (nz l) N)) lo hi = (cP (ia l) N : Nat) * hi - (cM (ia l) N : Nat) * lo := by
  have hd := dck_ob4 (g1 := g1) (g2 := g2) (show N ≤ 16777216 by omega) (pk_lt l N) (bn_lt (nz l) N) (pk_sub l N)
  have e1 : rP (ob N g1 (pk l N)) = (cP (ia l) N : Nat) := by
    unfold rP
    show ((pc (pk l N) (64 * nw N) : Nat) : Int) = _
    rw [pc_above (pk_lt l N) (nw_le N), pc_pk l N N (Nat.le_refl _)]
  have e2 : rM (ob N g1 (pk l N)) (ob N g2 (bn (nz l) N)) = (cM (ia l) N : Nat) := by
    unfold rM
    show ((pc (bn (nz l) N) (64 * nw N) : Nat) : Int) - ((pc (pk l N) (64 * nw N) : Nat) : Int) = _
    rw [pc_above (pk_lt l N) (nw_le N), pc_pk l N N (Nat.le_refl _), pc_above (bn_lt (nz l) N) (nw_le N), pc_nz l N N (Nat.le_refl _)]
    omega
  have hb := cP_le (ia l) N
  generalize cP (ia l) N = P at *
  generalize cM (ia l) N = Q at *
  have eL : rL (ob N g1 (pk l N)) (ob N g2 (bn (nz l) N)) lo hi = (P : Nat) * lo - (Q : Nat) * hi := by unfold rL; rw [e1, e2]
  have eH : rH (ob N g1 (pk l N)) (ob N g2 (bn (nz l) N)) lo hi = (P : Nat) * hi - (Q : Nat) * lo := by unfold rH; rw [e1, e2]
  have m1 := mulS (p := P) (by omega) (show -1000000 ≤ lo ∧ lo ≤ 1000000 by omega)
  have m2 := mulS (p := P) (by omega) (show -1000000 ≤ hi ∧ hi ≤ 1000000 by omega)
  have m3 := mulS (p := Q) (by omega) (show -1000000 ≤ lo ∧ lo ≤ 1000000 by omega)
  have m4 := mulS (p := Q) (by omega) (show -1000000 ≤ hi ∧ hi ≤ 1000000 by omega)
  have n1 : (P : Int) * lo ≤ P * hi := Int.mul_le_mul_of_nonneg_left hlh (by omega)
  have n2 : (Q : Int) * lo ≤ Q * hi := Int.mul_le_mul_of_nonneg_left hlh (by omega)
  have e3 : roE (ob N g1 (pk l N)) (ob N g2 (bn (nz l) N)) lo hi = 0 := by
    unfold roE
    rw [if_neg (by simpa using hd), if_pos (show maR lo hi from ⟨by omega, hlh, by omega⟩), if_pos]
    rw [eL, eH]
    exact ⟨by omega, by omega, by omega⟩
  refine ⟨e3, ?_, ?_⟩
  · unfold roL; rw [if_pos e3, eL]
  · unfold roH; rw [if_pos e3, eH]
def clV (n lo hi : Int) : Int := if n < lo then lo else if n > hi then hi else n
theorem clV_in {n lo hi : Int} (h : lo ≤ hi) : lo ≤ clV n lo hi ∧ clV n lo hi ≤ hi := by unfold clV; split <;> (try split) <;> omega
end Go.Proofs.Ytkhlhcbbbhbgeaa
/- BOUND MET: what the walk wants. -/
namespace Go.Proofs.Ytkhlhcbbbhbgeaa.Nn
open Go.RowKit

def pkV (f : Nat → Int) (m i : Nat) (n : Int) : Int := if m = 0 then 0 else f (i % m) % n
theorem pkV_in {f : Nat → Int} {m i : Nat} {n : Int} (hn : 1 ≤ n) : 0 ≤ pkV f m i n ∧ pkV f m i n < n := by
  unfold pkV
  split
  · omega
  · exact ⟨Int.emod_nonneg _ (by omega), Int.emod_lt_of_pos _ (by omega)⟩
/-- The sums of the two inputs are both ends. -/
def loX (f : Nat → Int) (j : Nat) : Int := if f j < 0 then 127 else -128
def hiX (f : Nat → Int) (j : Nat) : Int := if f j < 0 then -128 else 127
theorem sm_lo {f : Nat → Int} : ∀ {m : Nat}, (∀ j, j < m → -1 ≤ f j ∧ f j ≤ 1) → smV f (loX f) m = (cnW f 1 m : Nat) * (-128) - (cnW f (-1) m : Nat) * 127
  | 0, _ => rfl
  | m + 1, h => by
    have ih := sm_lo (m := m) fun j hj => h j (by omega)
    have h3 := h m (by omega)
    simp only [smV, cnW, loX]
    rw [ih]
    rcases (show f m = -1 ∨ f m = 0 ∨ f m = 1 by omega) with e | e | e <;> simp [e] <;> omega
theorem sm_hi {f : Nat → Int} : ∀ {m : Nat}, (∀ j, j < m → -1 ≤ f j ∧ f j ≤ 1) → smV f (hiX f) m = (cnW f 1 m : Nat) * 127 - (cnW f (-1) m : Nat) * (-128)
  | 0, _ => rfl
  | m + 1, h => by
    have ih := sm_hi (m := m) fun j hj => h j (by omega)
    have h3 := h m (by omega)
    simp only [smV, cnW, hiX]
    rw [ih]
    rcases (show f m = -1 ∨ f m = 0 ∨ f m = 1 by omega) with e | e | e <;> simp [e] <;> omega
theorem info_i8P : (Try.prog.info? 60).map (fun i => (i.zero, i.size, i.bytes)) = some (some (.int .i8 0), 1, 1) := by kernel_rfl
theorem und_i8P : Try.prog.underlying 44 = some (.slice 60) := by kernel_rfl
def i8L (l : List Int) : List Value := l.map (Value.int .i8)
theorem i8L_snoc (l : List Int) (x : Int) : i8L (l ++ [x]) = i8L l ++ [.int .i8 x] := by simp [i8L]
theorem step_app8 {ops : Array Oper} {o : Oper} {a : Act} {w : World} {K : Act → World → Prop} {Q : Exit → Act → World → Prop} {E : Prop} (hgd : o.guard = none) (s x : Operand)
    (ho : o.op = .call { callee := .builtin .append, args := #[s, x], argTypes := #[44, 44] }) (base : Nat) (v : Value) (l : List Int) (n : Nat) (hs : a.eval s = v) (hown : w.ownsRow base 60 1 v n (i8L l))
    (g : Nat) (y : Int) (cb : Nat) (hx : a.eval x = .slice (some ⟨g, 0, none⟩) 1 cb) (hr : w.cell? ⟨g, 0, none⟩ = some (.int .i8 y)) (hM : n ≤ 1000000000) (hb : base ≤ w.heap.size)
    (h : ∀ v' w', w'.ownsRow base 60 1 v' (n + 1) (i8L (l ++ [y])) → w.grownBy w' v.ownBlock → K (a.put o.dst v') w') : if Region.wanted o (yielded ops a.tmps) = true then Oper.wp Try.prog o a w K Q else E := by
  have hw : Region.wanted o (yielded ops a.tmps) = true := by simp [Region.wanted, hgd]
  rw [if_pos hw]
  obtain ⟨i0, hi, hz0, hz1, hz2⟩ := info_parts info_i8P
  obtain ⟨v', w', hr2, h2, h3, h4, h5⟩ := run_append_own_at (P := Try.prog) w base 44 o.type 60 i0 (.int .i8 0) 1 1 und_i8P hi hz0 hz1 hz2 rfl (by decide) v n (i8L l) hown ⟨g, 0, none⟩ 1 cb [.int .i8 y] rfl
    (fun j u hu => by
      rcases j with _ | j
      · simp at hu; subst hu; exact hr
      · simp at hu) (fun u hu => by simp at hu; subst hu; rfl) (by unfold maxLen; omega) (by omega) hb
  unfold Oper.wp execOp
  simp only [ho, resolve, invoke, builtin, Sem.run_bind, Sem.run_pure, Result.andThen_ok, List.map_toArray, List.map_cons, List.map_nil, hs, hx, hr2]
  exact h v' w' (by rw [i8L_snoc]; exact h2) h3
theorem own_isP {W : World} {b T s n : Nat} {v : Value} {xs : List Value} (h : W.ownsRow b T s v n xs) : ∃ a c, v = .slice a n c := by
  rcases h.2 with ⟨e, hn⟩ | ⟨g, c, _, e, _⟩
  · exact ⟨none, 0, by rw [e, hn]⟩
  · exact ⟨_, _, e⟩
theorem info_u8P : (Try.prog.info? 5).map (fun i => (i.zero, i.size, i.bytes)) = some (some (.int .u8 0), 1, 1) := by kernel_rfl
theorem und_u8P : Try.prog.underlying 22 = some (.slice 5) := by kernel_rfl
def u8L (l : List Int) : List Value := l.map (Value.int .u8)
theorem u8L_snoc (l : List Int) (x : Int) : u8L (l ++ [x]) = u8L l ++ [.int .u8 x] := by simp [u8L]
theorem app_u8P {ops : Array Oper} {rest : List Oper} {o : Oper} {a : Act} {Q : Exit → Act → World → Prop} {w : World} (hgd : o.guard = none) (s x : Operand)
    (ho : o.op = .call { callee := .builtin .append, args := #[s, x], argTypes := #[22, 22] }) (base : Nat) (v : Value) (l : List Int) (n : Nat) (hs : a.eval s = v) (hown : w.ownsRow base 5 1 v n (u8L l))
    (g : Nat) (y : Int) (cb : Nat) (hx : a.eval x = .slice (some ⟨g, 0, none⟩) 1 cb) (hr : w.cell? ⟨g, 0, none⟩ = some (.int .u8 y)) (hM : n ≤ 1000000000) (hb : base ≤ w.heap.size)
    (h : ∀ v' w', w'.ownsRow base 5 1 v' (n + 1) (u8L (l ++ [y])) → w.grownBy w' v.ownBlock → (v'.ownBlock = v.ownBlock ∨ v'.ownBlock = some w.heap.size) → wpList Try.prog ops Q rest (a.put o.dst v') w') : wpList Try.prog ops Q (o :: rest) a w := by
  obtain ⟨i0, hi, hz0, hz1, hz2⟩ := info_parts info_u8P
  refine wpList_append_own_at w hgd s x _ ho base 5 i0 (.int .u8 0) 1 1 und_u8P hi hz0 hz1 hz2 rfl (by decide) v n (u8L l) hs hown ⟨g, 0, none⟩ 1 cb [.int .u8 y] hx rfl
    (fun j u hu => ?_) (fun u hu => by simp at hu; subst hu; rfl) (by unfold maxLen; omega) (by omega) hb ?_
  · rcases j with _ | j
    · simp at hu; subst hu; exact hr
    · simp at hu
  · intro v' w' h1 h2 _ h3
    exact h v' w' (by rw [u8L_snoc]; exact h1) h2 h3
end Go.Proofs.Ytkhlhcbbbhbgeaa.Nn
/- NETWORKS THAT ARE MADE: pick, weights, norms, after. -/
namespace Go.Proofs.Ytkhlhcbbbhbgeaa.Nn
open Go.RowKit

/-- What pick answers, as a number of a number. -/
def pk5 (f : Nat → Int) (m : Nat) (i n : Int) : Int := pkV f m i.toNat n
theorem pk5_in (f : Nat → Int) (m : Nat) (i : Int) {n : Int} (hn : 1 ≤ n) : 0 ≤ pk5 f m i n ∧ pk5 f m i n ≤ n - 1 := by have := pkV_in (f := f) (m := m) (i := i.toNat) hn; unfold pk5; omega
theorem app_i8P {ops : Array Oper} {rest : List Oper} {o : Oper} {a : Act} {Q : Exit → Act → World → Prop} {w : World} (hgd : o.guard = none) (s x : Operand)
    (ho : o.op = .call { callee := .builtin .append, args := #[s, x], argTypes := #[44, 44] }) (base : Nat) (v : Value) (l : List Int) (n : Nat) (hs : a.eval s = v) (hown : w.ownsRow base 60 1 v n (i8L l))
    (g : Nat) (y : Int) (cb : Nat) (hx : a.eval x = .slice (some ⟨g, 0, none⟩) 1 cb) (hr : w.cell? ⟨g, 0, none⟩ = some (.int .i8 y)) (hM : n ≤ 1000000000) (hb : base ≤ w.heap.size)
    (h : ∀ v' w', w'.ownsRow base 60 1 v' (n + 1) (i8L (l ++ [y])) → w.grownBy w' v.ownBlock → wpList Try.prog ops Q rest (a.put o.dst v') w') : wpList Try.prog ops Q (o :: rest) a w := by
  obtain ⟨i0, hi, hz0, hz1, hz2⟩ := info_parts info_i8P
  refine wpList_append_own_at w hgd s x _ ho base 60 i0 (.int .i8 0) 1 1 und_i8P hi hz0 hz1 hz2 rfl (by decide) v n (i8L l) hs hown ⟨g, 0, none⟩ 1 cb [.int .i8 y] hx rfl
    (fun j u hu => ?_) (fun u hu => by simp at hu; subst hu; rfl) (by unfold maxLen; omega) (by omega) hb ?_
  · rcases j with _ | j
    · simp at hu; subst hu; exact hr
    · simp at hu
  · intro v' w' h1 h2 _ _
    exact h v' w' (by rw [i8L_snoc]; exact h1) h2
theorem i8_idD {z : Int} (h1 : -128 ≤ z) (h2 : z ≤ 127) : IntKind.i8.wrap z = z := by
  simp [IntKind.wrap, IntKind.bits, IntKind.signed]
  omega
/-- The weights that are made. -/
def wgV (f : Nat → Int) (m : Nat) (kd : Int) (j : Nat) : Int := if pk5 f m (3 * j + 1) 3 - 1 = 0 ∧ kd = 1 then 1 else pk5 f m (3 * j + 1) 3 - 1
def wgL (f : Nat → Int) (m : Nat) (kd : Int) (n : Nat) : List Int := (List.range n).map (wgV f m kd)
theorem wgL_succ (f : Nat → Int) (m : Nat) (kd : Int) (i : Nat) : wgL f m kd (i + 1) = wgL f m kd i ++ [wgV f m kd i] := by unfold wgL; rw [List.range_succ, List.map_append]; rfl
theorem wgV_ok (f : Nat → Int) (m : Nat) (kd : Int) (j : Nat) : okW kd (wgV f m kd j) := by
  have := pk5_in f m (3 * j + 1) (n := 3) (by decide)
  unfold okW wgV
  split
  · omega
  · omega
end Go.Proofs.Ytkhlhcbbbhbgeaa.Nn
/- NETWORKS THAT ARE MADE: norms, after. -/
namespace Go.Proofs.Ytkhlhcbbbhbgeaa.Nn
open Go.RowKit

theorem info_nrD : (Try.prog.info? 62).map (fun i => (i.zero, i.size, i.bytes)) = some (some (.agg #[.int .i64 0, .int .i64 0, .int .i64 0, .int .i64 0, .int .i64 0, .int .i64 0, .int .i64 0, .int .i64 0]), 8, 64) := by kernel_rfl
theorem und_nrD : Try.prog.underlying 45 = some (.slice 62) := by kernel_rfl
/-- Norms, eight cells each. -/
def nmC (ns : Nat → Int) : List Value := [.int .i64 (ns 0), .int .i64 (ns 1), .int .i64 (ns 2), .int .i64 (ns 3), .int .i64 (ns 4), .int .i64 (ns 5), .int .i64 (ns 6), .int .i64 (ns 7)]
def nmL (ns : Nat → Nat → Int) : Nat → List Value
  | 0 => []
  | n + 1 => nmL ns n ++ nmC (ns n)
theorem app_nrD {ops : Array Oper} {rest : List Oper} {o : Oper} {a : Act} {Q : Exit → Act → World → Prop} {w : World} (hgd : o.guard = none) (s x : Operand)
    (ho : o.op = .call { callee := .builtin .append, args := #[s, x], argTypes := #[45, 45] }) (base : Nat) (v : Value) (xs : List Value) (n : Nat) (hs : a.eval s = v) (hown : w.ownsRow base 62 8 v n xs)
    (g : Nat) (y : Nat → Int) (cb : Nat) (hx : a.eval x = .slice (some ⟨g, 0, none⟩) 1 cb) (hr : w.cell? ⟨g, 0, none⟩ = some (.int .i64 (y 0)) ∧ w.cell? ⟨g, 1, none⟩ = some (.int .i64 (y 1)) ∧ w.cell? ⟨g, 2, none⟩ = some (.int .i64 (y 2)) ∧ w.cell? ⟨g, 3, none⟩ = some (.int .i64 (y 3)) ∧ w.cell? ⟨g, 4, none⟩ = some (.int .i64 (y 4)) ∧ w.cell? ⟨g, 5, none⟩ = some (.int .i64 (y 5)) ∧ w.cell? ⟨g, 6, none⟩ = some (.int .i64 (y 6)) ∧ w.cell? ⟨g, 7, none⟩ = some (.int .i64 (y 7))) (hM : n ≤ 1000000000) (hb : base ≤ w.heap.size)
    (h : ∀ v' w', w'.ownsRow base 62 8 v' (n + 1) (xs ++ nmC y) → w.grownBy w' v.ownBlock → wpList Try.prog ops Q rest (a.put o.dst v') w') : wpList Try.prog ops Q (o :: rest) a w := by
  obtain ⟨i0, hi, hz0, hz1, hz2⟩ := info_parts info_nrD
  obtain ⟨r0, r1, r2, r3, r4, r5, r6, r7⟩ := hr
  refine wpList_append_own_at w hgd s x _ ho base 62 i0 _ 8 64 und_nrD hi hz0 hz1 hz2 rfl (by decide) v n xs hs hown ⟨g, 0, none⟩ 1 cb (nmC y) hx rfl
    (fun j u hu => ?_) (fun u hu => by simp [nmC] at hu; rcases hu with rfl | rfl | rfl | rfl | rfl | rfl | rfl | rfl <;> rfl) (by unfold maxLen; omega) (by omega) hb ?_
  · rcases j with _ | _ | _ | _ | _ | _ | _ | _ | j
    · simp [nmC] at hu; subst hu; exact r0
    · simp [nmC] at hu; subst hu; exact r1
    · simp [nmC] at hu; subst hu; exact r2
    · simp [nmC] at hu; subst hu; exact r3
    · simp [nmC] at hu; subst hu; exact r4
    · simp [nmC] at hu; subst hu; exact r5
    · simp [nmC] at hu; subst hu; exact r6
    · simp [nmC] at hu; subst hu; exact r7
    · simp [nmC] at hu
  · intro v' w' h1 h2 _ _
    exact h v' w' h1 h2
/-- The norms that are made. -/
def nsV (f : Nat → Int) (m : Nat) (at' : Int) (i : Nat) (c : Nat) : Int := match c with
  | 0 => pk5 f m (at' + i) 7 - 3
  | 1 => 1 + pk5 f m (at' + i + 1) 4
  | 2 => pk5 f m (at' + i + 2) 9 - 4
  | 3 => 3
  | 4 => pk5 f m (at' + i + 3) 9 - 4
  | 5 => 2
  | 6 => 1 + i
  | _ => 2
theorem nsV_ok (f : Nat → Int) (m : Nat) (at' : Int) (i : Nat) (hi : i ≤ 1000) : noE (nsV f m at' i 0) (nsV f m at' i 1) (nsV f m at' i 2) (nsV f m at' i 3) (nsV f m at' i 4) (nsV f m at' i 5) (nsV f m at' i 6) (nsV f m at' i 7) = 0 := by
  have h1 := pk5_in f m (at' + i) (n := 7) (by decide)
  have h2 := pk5_in f m (at' + i + 1) (n := 4) (by decide)
  have h3 := pk5_in f m (at' + i + 2) (n := 9) (by decide)
  have h4 := pk5_in f m (at' + i + 3) (n := 9) (by decide)
  show noE (pk5 f m (at' + i) 7 - 3) (1 + pk5 f m (at' + i + 1) 4) (pk5 f m (at' + i + 2) 9 - 4) 3 (pk5 f m (at' + i + 3) 9 - 4) 2 (1 + i) 2 = 0
  unfold noE Fr
  rw [if_pos (by omega), if_neg (by omega)]
end Go.Proofs.Ytkhlhcbbbhbgeaa.Nn
/- NETWORKS THAT ARE MADE: after. -/
namespace Go.Proofs.Ytkhlhcbbbhbgeaa.Nn
open Go.RowKit

/-- The shape behind a layer that is made. -/
def afH (L : Ly) (h : Int) : Int := if L.kd = 2 then 1 else (h + L.t + L.b - L.r) / L.sy + 1
def afV (L : Ly) (v : Int) : Int := if L.kd = 2 then 1 else (v + L.l + L.q - L.s) / L.sx + 1
end Go.Proofs.Ytkhlhcbbbhbgeaa.Nn
/- NETWORKS THAT ARE MADE: that they may be; how they lie. -/
namespace Go.Proofs.Ytkhlhcbbbhbgeaa.Nn
open Go.RowKit

theorem mul3_le {a b c A B C : Int} (ha : 0 ≤ a ∧ a ≤ A) (hb : 0 ≤ b ∧ b ≤ B) (hc : 0 ≤ c ∧ c ≤ C) : 0 ≤ a * b * c ∧ a * b * c ≤ A * B * C := by
  have h1 : 0 ≤ a * b := Int.mul_nonneg ha.1 hb.1
  have h2 : a * b ≤ A * B := Int.mul_le_mul ha.2 hb.2 hb.1 (by omega)
  exact ⟨Int.mul_nonneg h1 hc.1, Int.mul_le_mul h2 hc.2 hc.1 (by have := Int.mul_nonneg (show 0 ≤ A by omega) (show 0 ≤ B by omega); omega)⟩
/-- A shape that is made: small. -/
def SmS (S : Sp) : Prop := (1 ≤ S.h ∧ S.h ≤ 15) ∧ (1 ≤ S.v ∧ S.v ≤ 15) ∧ (1 ≤ S.c ∧ S.c ≤ 4) ∧ 0 ≤ S.ah ∧ S.ah ≤ 1000000
theorem chk_small {h v c : Int} (a : 1 ≤ h ∧ h ≤ 100) (b : 1 ≤ v ∧ v ≤ 100) (d : 1 ≤ c ∧ c ≤ 100) : chk h v c = 0 := by
  have := mul3_le (a := h) (b := v) (c := c) (A := 100) (B := 100) (C := 100) (by omega) (by omega) (by omega)
  unfold chk
  rw [if_pos (show Sides h v c from ⟨by omega, by omega, by omega⟩), if_neg (by omega)]
theorem st_bd {n bf af wi st : Int} (h : wi ≤ bf + n + af) (h1 : 1 ≤ wi) (h2 : 1 ≤ st) : stN n bf af wi st = (n + bf + af - wi) / st + 1 ∧ 1 ≤ stN n bf af wi st ∧ stN n bf af wi st ≤ bf + n + af := by
  unfold stN
  rw [if_neg (by omega)]
  have e : bf + n + af - wi = n + bf + af - wi := by omega
  rw [e]
  have c1 : 0 ≤ (n + bf + af - wi) / st := Int.ediv_nonneg (by omega) (by omega)
  have c2 : (n + bf + af - wi) / st ≤ n + bf + af - wi := Int.ediv_le_self _ (by omega)
  exact ⟨rfl, by omega, by omega⟩
/-- The window of a layer that is made. -/
theorem sl_made {S : Sp} (hS : SmS S) {L : Ly} {k : Int} (hk : 1 ≤ k ∧ k ≤ 100) (hr : 1 ≤ L.r ∧ L.r ≤ S.h) (hs : 1 ≤ L.s ∧ L.s ≤ S.v) (hy : 1 ≤ L.sy ∧ L.sy ≤ 3) (hx : 1 ≤ L.sx ∧ L.sx ≤ 3) (ht : 0 ≤ L.t ∧ L.t ≤ 2) (hl : L.l = 0) (hb : L.b = 0) (hq : 0 ≤ L.q ∧ L.q ≤ 1) :
    WOk L.r L.s L.sy L.sx L.t L.l L.b L.q ∧ slE S.h S.v S.c L.r L.s L.sy L.sx L.t L.l L.b L.q k = 0 ∧ stN S.h L.t L.b L.r L.sy = (S.h + L.t + L.b - L.r) / L.sy + 1 ∧ stN S.v L.l L.q L.s L.sx = (S.v + L.l + L.q - L.s) / L.sx + 1 ∧ (1 ≤ stN S.h L.t L.b L.r L.sy ∧ stN S.h L.t L.b L.r L.sy ≤ S.h + 2) ∧ (1 ≤ stN S.v L.l L.q L.s L.sx ∧ stN S.v L.l L.q L.s L.sx ≤ S.v + 1) := by
  obtain ⟨a, b, c, -⟩ := hS
  have w : WOk L.r L.s L.sy L.sx L.t L.l L.b L.q := ⟨⟨by omega, by omega, by omega, by omega⟩, ⟨by omega, by omega, by omega, by omega⟩⟩
  obtain ⟨e1, e2, e3⟩ := st_bd (n := S.h) (bf := L.t) (af := L.b) (wi := L.r) (st := L.sy) (by omega) hr.1 hy.1
  obtain ⟨f1, f2, f3⟩ := st_bd (n := S.v) (bf := L.l) (af := L.q) (wi := L.s) (st := L.sx) (by omega) hs.1 hx.1
  refine ⟨w, ?_, e1, f1, ⟨e2, by omega⟩, ⟨f2, by omega⟩⟩
  unfold slE
  rw [if_neg (by rw [chk_small (by omega) (by omega) (by omega)]; decide), if_neg (by omega), if_neg (fun h => h w), if_neg (by unfold mn2; split <;> omega)]
  exact chk_small (by omega) (by omega) hk
/-- The weights, norms and biases of a layer that is made. -/
def WsOk (L : Ly) (F : Int) : Prop := (L.mw : Int) = L.k * F ∧ ∀ j, j < L.mw → okW L.wt (L.ws j)
def NsOk (L : Ly) : Prop := (L.mn : Int) = L.k ∧ L.mb = 0 ∧ ∀ j, j < L.mn → nno L j = 0
theorem made_conv {S : Sp} (hS : SmS S) (hla : S.la = false) {L : Ly} (h1 : L.kd = 1) (hwt : L.wt = 1 ∨ L.wt = 2) (hk : 1 ≤ L.k ∧ L.k ≤ 3) (hr : 1 ≤ L.r ∧ L.r ≤ S.h) (hs : 1 ≤ L.s ∧ L.s ≤ S.v) (hy : 1 ≤ L.sy ∧ L.sy ≤ 3) (hx : 1 ≤ L.sx ∧ L.sx ≤ 3) (ht : 0 ≤ L.t ∧ L.t ≤ 2) (hl : L.l = 0) (hb : L.b = 0) (hq : 0 ≤ L.q ∧ L.q ≤ 1) (hbd : L.bd = 0 ∨ (1 ≤ L.t + L.q ∧ -1 ≤ L.bd ∧ L.bd ≤ 1)) (hw : WsOk L (L.r * L.s * S.c)) (hn : NsOk L) : faE L S = 0 := by
  obtain ⟨w1, w2, -⟩ := sl_made hS (L := L) (k := L.k) (by omega) hr hs hy hx ht hl hb hq
  obtain ⟨a, b, c, d⟩ := hS
  have hf : fan L S.h S.v S.c = L.r * L.s * S.c := by unfold fan; rw [if_neg (by omega)]
  have hwc : wc L S.h S.v S.c = L.k * (L.r * L.s * S.c) := by unfold wc; rw [hf]
  have m1 := mul3_le (a := L.r) (b := L.s) (c := S.c) (A := 15) (B := 15) (C := 4) (by omega) (by omega) (by omega)
  have m2 : L.k * (L.r * L.s * S.c) ≤ 3 * (15 * 15 * 4) := Int.mul_le_mul hk.2 m1.2 m1.1 (by omega)
  unfold faE
  rw [if_pos h1]
  refine frF_ok fun j hj => ?_
  rcases (show j = 0 ∨ j = 1 ∨ j = 2 ∨ j = 3 ∨ j = 4 ∨ j = 5 ∨ j = 6 ∨ j = 7 ∨ j = 8 ∨ j = 9 by omega) with rfl | rfl | rfl | rfl | rfl | rfl | rfl | rfl | rfl | rfl
  · show (if S.la = true then (51 : Int) else 0) = 0
    rw [hla]; rfl
  · exact if_pos (by omega)
  · exact if_pos w1
  · refine if_pos ?_
    unfold Wz
    omega
  · show oE L S.h S.v S.c = 0
    unfold oE
    rw [if_neg (by omega), if_neg (by omega)]
    exact w2
  · exact if_pos hwt
  · show wrE L S = 0
    unfold wrE
    rw [hwc]
    exact if_pos (by omega)
  · show wsE L S = 0
    unfold wsE
    rw [hwc]
    exact if_pos ⟨hw.1, hw.2⟩
  · exact if_pos ⟨⟨hn.1, hn.2.1⟩, hn.2.2⟩
  · show reE L S = 0
    refine if_pos ⟨?_, fun j hj => by rw [hn.2.1] at hj; omega⟩
    unfold lef
    rw [hf]
    split <;> omega
theorem made_dense {S : Sp} (hS : SmS S) {L : Ly} (h2 : L.kd = 2) (hwt : L.wt = 1 ∨ L.wt = 2) (hk : 1 ≤ L.k ∧ L.k ≤ 3) (hz : L.r = 0 ∧ L.s = 0 ∧ L.sy = 0 ∧ L.sx = 0 ∧ L.t = 0 ∧ L.l = 0 ∧ L.b = 0 ∧ L.q = 0) (hbd : L.bd = 0) (hw : WsOk L (S.h * S.v * S.c)) (hn : (S.la = false ∧ NsOk L) ∨ (S.la = true ∧ (L.mb : Int) = L.k ∧ L.mn = 0 ∧ ∀ j, j < L.mb → -100 ≤ L.bs j ∧ L.bs j ≤ 100)) : faE L S = 0 := by
  obtain ⟨a, b, c, d⟩ := hS
  have hf : fan L S.h S.v S.c = S.h * S.v * S.c := by unfold fan; rw [if_pos h2]
  have hwc : wc L S.h S.v S.c = L.k * (S.h * S.v * S.c) := by unfold wc; rw [hf]
  have m1 := mul3_le (a := S.h) (b := S.v) (c := S.c) (A := 15) (B := 15) (C := 4) (by omega) (by omega) (by omega)
  have m2 : L.k * (S.h * S.v * S.c) ≤ 3 * (15 * 15 * 4) := Int.mul_le_mul hk.2 m1.2 m1.1 (by omega)
  unfold faE
  rw [if_neg (by omega), if_pos h2]
  refine frF_ok fun j hj => ?_
  rcases (show j = 0 ∨ j = 1 ∨ j = 2 ∨ j = 3 ∨ j = 4 ∨ j = 5 ∨ j = 6 by omega) with rfl | rfl | rfl | rfl | rfl | rfl | rfl
  · exact if_pos (by omega)
  · exact if_pos ⟨hz, hbd⟩
  · exact if_pos hwt
  · show wrE L S = 0
    unfold wrE
    rw [hwc]
    exact if_pos (by omega)
  · show wsE L S = 0
    unfold wsE
    rw [hwc]
    exact if_pos ⟨hw.1, hw.2⟩
  · show enE L S = 0
    unfold enE
    rcases hn with ⟨e, hn⟩ | ⟨e, hn⟩
    · rw [if_neg (by rw [e]; decide)]
      exact if_pos ⟨⟨hn.1, hn.2.1⟩, hn.2.2⟩
    · rw [if_pos e]
      exact if_pos ⟨hn.1, hn.2.1⟩
  · show reE L S = 0
    have hl : 2147000000 ≤ lef L S := by
      unfold lef
      rw [hf]
      split <;> omega
    refine if_pos ⟨by omega, fun j hj => ?_⟩
    unfold bok
    rcases hn with ⟨e, hn⟩ | ⟨e, hn⟩
    · rw [hn.2.1] at hj; omega
    · have := hn.2.2 j hj
      omega
theorem made_pool {S : Sp} (hS : SmS S) (hla : S.la = false) (hfs : S.fs = false) {L : Ly} (h3 : L.kd = 3) (hz : (L.k = 0 ∧ L.wt = 0 ∧ L.bd = 0) ∧ L.mw = 0 ∧ L.mn = 0 ∧ L.mb = 0) (hr : 1 ≤ L.r ∧ L.r ≤ S.h) (hs : 1 ≤ L.s ∧ L.s ≤ S.v) (hy : 1 ≤ L.sy ∧ L.sy ≤ 3) (hx : 1 ≤ L.sx ∧ L.sx ≤ 3) (hw : Wz L) : faE L S = 0 := by
  obtain ⟨z1, z2, z3, z4⟩ := hw
  obtain ⟨w1, w2, -⟩ := sl_made hS (L := L) (k := S.c) (by have := hS.2.2.1; omega) hr hs hy hx (by omega) z2 z3 (by omega)
  unfold faE
  rw [if_neg (by omega), if_neg (by omega), if_pos h3]
  refine frF_ok fun j hj => ?_
  rcases (show j = 0 ∨ j = 1 ∨ j = 2 ∨ j = 3 ∨ j = 4 ∨ j = 5 by omega) with rfl | rfl | rfl | rfl | rfl | rfl
  · show (if S.fs = true then (51 : Int) else 0) = 0
    rw [hfs]; rfl
  · show (if S.la = true then (51 : Int) else 0) = 0
    rw [hla]; rfl
  · exact if_pos hz
  · exact if_pos w1
  · exact if_pos ⟨z1, z2, z3, z4⟩
  · show oE L S.h S.v S.c = 0
    unfold oE
    rw [if_neg (by omega), if_pos h3]
    exact w2
/-- What comes out of a layer that is made, as after tells it. -/
theorem made_out {S : Sp} (hS : SmS S) {L : Ly} (h0 : faE L S = 0) (hw : L.kd = 2 ∨ ((1 ≤ L.r ∧ L.r ≤ S.h) ∧ (1 ≤ L.s ∧ L.s ≤ S.v) ∧ (1 ≤ L.sy ∧ L.sy ≤ 3) ∧ (1 ≤ L.sx ∧ L.sx ≤ 3) ∧ (0 ≤ L.t ∧ L.t ≤ 2) ∧ L.l = 0 ∧ L.b = 0 ∧ 0 ≤ L.q ∧ L.q ≤ 1)) :
    (L.kd = 2 ∨ (WOk L.r L.s L.sy L.sx L.t L.l L.b L.q ∧ L.r ≤ S.h + L.t + L.b ∧ L.s ≤ S.v + L.l + L.q)) ∧ oH L S.h S.v S.c = afH L S.h ∧ oV L S.h S.v S.c = afV L S.v ∧ (1 ≤ oH L S.h S.v S.c ∧ oH L S.h S.v S.c ≤ S.h + 2) ∧ (1 ≤ oV L S.h S.v S.c ∧ oV L S.h S.v S.c ≤ S.v + 1) ∧ oC L S.h S.v S.c = (if L.kd = 3 then S.c else L.k) := by
  have hS' := hS
  obtain ⟨a, b, c, d⟩ := hS'
  by_cases h2 : L.kd = 2
  · have e1 : oH L S.h S.v S.c = 1 := by unfold oH; rw [if_pos h2]
    have e2 : oV L S.h S.v S.c = 1 := by unfold oV; rw [if_pos h2]
    have e3 : oC L S.h S.v S.c = L.k := by unfold oC; rw [if_pos h2]
    have e4 : afH L S.h = 1 := by unfold afH; rw [if_pos h2]
    have e5 : afV L S.v = 1 := by unfold afV; rw [if_pos h2]
    rw [e1, e2, e3, e4, e5, if_neg (by omega)]
    exact ⟨.inl h2, rfl, rfl, by omega, by omega, rfl⟩
  · obtain ⟨hr, hs, hy, hx, ht, hl, hb, hq⟩ := hw.resolve_left h2
    obtain ⟨qo, q1, -⟩ := win_ok h0 h2
    obtain ⟨w1, -, e1, e2, e3, e4⟩ := sl_made hS (L := L) (k := 1) (by omega) hr hs hy hx ht hl hb hq
    have f1 : oH L S.h S.v S.c = stN S.h L.t L.b L.r L.sy := by unfold oH; rw [if_neg h2, if_pos qo]
    have f2 : oV L S.h S.v S.c = stN S.v L.l L.q L.s L.sx := by unfold oV; rw [if_neg h2, if_pos qo]
    have f3 : oC L S.h S.v S.c = (if L.kd = 3 then S.c else L.k) := by unfold oC; rw [if_neg h2, if_pos qo]
    have e6 : afH L S.h = stN S.h L.t L.b L.r L.sy := by unfold afH; rw [if_neg h2, e1]
    have e7 : afV L S.v = stN S.v L.l L.q L.s L.sx := by unfold afV; rw [if_neg h2, e2]
    rw [f1, f2, f3, e6, e7]
    exact ⟨.inr ⟨w1, by omega, by omega⟩, rfl, rfl, e3, e4, rfl⟩
/-- The network that is made: its name. -/
def nmX : ByteArray := ⟨#[78, 101, 116, 95, 55, 45, 120]⟩
theorem nmX_ok : nmB nmX = true := by decide +kernel
abbrev mkN (H V C : Int) (M : Nat) (al : Option Addr) (cl : Nat) (lf : Nat → Ly) : Nt := ⟨nmX, H, V, C, al, M, cl, lf⟩
theorem sp_mk (H V C : Int) (M : Nat) (al al' : Option Addr) (cl cl' : Nat) (lf lf' : Nat → Ly) : ∀ i, (∀ j, j < i → lf j = lf' j) → sp (mkN H V C M al cl lf) i = sp (mkN H V C M al' cl' lf') i
  | 0, _ => rfl
  | i + 1, h => by
    have ih := sp_mk H V C M al al' cl cl' lf lf' i fun j hj => h j (by omega)
    have e := h i (by omega)
    simp only [sp, mkN] at ih ⊢
    rw [ih, e]
/-- A network under way: its first i layers have no fault. -/
def Mk (H V C : Int) (M i : Nat) (lf : Nat → Ly) : Prop :=
  (∀ j, j < i → fl (mkN H V C M none 0 lf) j = 0 ∧ (lf j).mw ≤ (lf j).cw ∧ (sp (mkN H V C M none 0 lf) j).h ≤ 5 + 2 * j) ∧ (1 ≤ (sp (mkN H V C M none 0 lf) i).h ∧ (sp (mkN H V C M none 0 lf) i).h ≤ 5 + 2 * i) ∧ (1 ≤ (sp (mkN H V C M none 0 lf) i).v ∧ (sp (mkN H V C M none 0 lf) i).v ≤ 5 + i) ∧ (1 ≤ (sp (mkN H V C M none 0 lf) i).c ∧ (sp (mkN H V C M none 0 lf) i).c ≤ 4) ∧ (0 ≤ (sp (mkN H V C M none 0 lf) i).ah ∧ (sp (mkN H V C M none 0 lf) i).ah ≤ 10000 * i)
theorem Mk.sms {H V C : Int} {M i : Nat} {lf : Nat → Ly} (h : Mk H V C M i lf) (hi : i ≤ 4) : SmS (sp (mkN H V C M none 0 lf) i) := by
  obtain ⟨-, a, b, c, d⟩ := h
  exact ⟨by omega, by omega, by omega, by omega⟩
def sn (lf : Nat → Ly) (i : Nat) (L : Ly) : Nat → Ly := fun j => if j = i then L else lf j
theorem sn_ne {lf : Nat → Ly} {i : Nat} {L : Ly} {j : Nat} (h : j < i) : sn lf i L j = lf j := if_neg (by omega)
theorem sn_eq {lf : Nat → Ly} {i : Nat} {L : Ly} : sn lf i L i = L := if_pos rfl
theorem Mk.snoc {H V C : Int} {M i : Nat} {lf : Nat → Ly} (h : Mk H V C M i lf) (hi : i ≤ 3) {L : Ly} (h0 : faE L (sp (mkN H V C M none 0 lf) i) = 0) (hc : L.mw ≤ L.cw) (hk : 0 ≤ L.k ∧ L.k ≤ 3)
    (hw : L.kd = 2 ∨ ((1 ≤ L.r ∧ L.r ≤ (sp (mkN H V C M none 0 lf) i).h) ∧ (1 ≤ L.s ∧ L.s ≤ (sp (mkN H V C M none 0 lf) i).v) ∧ (1 ≤ L.sy ∧ L.sy ≤ 3) ∧ (1 ≤ L.sx ∧ L.sx ≤ 3) ∧ (0 ≤ L.t ∧ L.t ≤ 2) ∧ L.l = 0 ∧ L.b = 0 ∧ 0 ≤ L.q ∧ L.q ≤ 1)) : Mk H V C M (i + 1) (sn lf i L) ∧ (sp (mkN H V C M none 0 (sn lf i L)) (i + 1)).h = afH L (sp (mkN H V C M none 0 lf) i).h ∧ (sp (mkN H V C M none 0 (sn lf i L)) (i + 1)).v = afV L (sp (mkN H V C M none 0 lf) i).v ∧ (sp (mkN H V C M none 0 (sn lf i L)) (i + 1)).c = (if L.kd = 3 then (sp (mkN H V C M none 0 lf) i).c else L.k) := by
  have hS := h.sms (by omega)
  have es : ∀ j, j ≤ i → sp (mkN H V C M none 0 (sn lf i L)) j = sp (mkN H V C M none 0 lf) j := fun j hj => sp_mk _ _ _ _ _ _ _ _ _ _ j fun q hq => sn_ne (by omega)
  obtain ⟨-, q1, q2, q3, q4, q5⟩ := made_out hS h0 hw
  have hst := sp_step (L := L) ⟨⟨by have := hS.1; omega, by have := hS.2.1; omega, by have := hS.2.2.1; omega⟩, by have := hS.2.2.2; omega⟩ h0
  have hfk : 0 ≤ fan L (sp (mkN H V C M none 0 lf) i).h (sp (mkN H V C M none 0 lf) i).v (sp (mkN H V C M none 0 lf) i).c ∧ fan L (sp (mkN H V C M none 0 lf) i).h (sp (mkN H V C M none 0 lf) i).v (sp (mkN H V C M none 0 lf) i).c ≤ 15 * 15 * 4 := by
    obtain ⟨a, b, c, d⟩ := hS
    unfold fan
    split
    · exact mul3_le (by omega) (by omega) (by omega)
    · have hw := hw.resolve_left (by assumption)
      exact mul3_le (by omega) (by omega) (by omega)
  have hwc : 0 ≤ wc L (sp (mkN H V C M none 0 lf) i).h (sp (mkN H V C M none 0 lf) i).v (sp (mkN H V C M none 0 lf) i).c ∧ wc L (sp (mkN H V C M none 0 lf) i).h (sp (mkN H V C M none 0 lf) i).v (sp (mkN H V C M none 0 lf) i).c ≤ 3 * (15 * 15 * 4) := by
    unfold wc
    exact ⟨Int.mul_nonneg hk.1 hfk.1, Int.mul_le_mul hk.2 hfk.2 hfk.1 (by omega)⟩
  have eH : (sp (mkN H V C M none 0 (sn lf i L)) (i + 1)).h = oH L (sp (mkN H V C M none 0 lf) i).h (sp (mkN H V C M none 0 lf) i).v (sp (mkN H V C M none 0 lf) i).c := by
    show oH (sn lf i L i) _ _ _ = _
    rw [sn_eq, es i (Nat.le_refl _)]
  have eV : (sp (mkN H V C M none 0 (sn lf i L)) (i + 1)).v = oV L (sp (mkN H V C M none 0 lf) i).h (sp (mkN H V C M none 0 lf) i).v (sp (mkN H V C M none 0 lf) i).c := by
    show oV (sn lf i L i) _ _ _ = _
    rw [sn_eq, es i (Nat.le_refl _)]
  have eC : (sp (mkN H V C M none 0 (sn lf i L)) (i + 1)).c = oC L (sp (mkN H V C M none 0 lf) i).h (sp (mkN H V C M none 0 lf) i).v (sp (mkN H V C M none 0 lf) i).c := by
    show oC (sn lf i L i) _ _ _ = _
    rw [sn_eq, es i (Nat.le_refl _)]
  have eA : (sp (mkN H V C M none 0 (sn lf i L)) (i + 1)).ah = (sp (mkN H V C M none 0 lf) i).ah + wc L (sp (mkN H V C M none 0 lf) i).h (sp (mkN H V C M none 0 lf) i).v (sp (mkN H V C M none 0 lf) i).c := by
    show (sp (mkN H V C M none 0 (sn lf i L)) i).ah + wc (sn lf i L i) _ _ _ = _
    rw [sn_eq, es i (Nat.le_refl _)]
  obtain ⟨h1, h2, h3, h4, h5⟩ := h
  refine ⟨⟨fun j hj => ?_, ?_, ?_, ?_, ?_⟩, by rw [eH, q1], by rw [eV, q2], by rw [eC, q5]⟩
  · by_cases hji : j = i
    · subst hji
      refine ⟨?_, by rw [sn_eq]; exact hc, by rw [es j (Nat.le_refl _)]; exact h2.2⟩
      show faE (sn lf j L j) _ = 0
      rw [sn_eq, es j (Nat.le_refl _)]
      exact h0
    · obtain ⟨g1, g2, g3⟩ := h1 j (by omega)
      refine ⟨?_, by rw [sn_ne (by omega)]; exact g2, by rw [es j (by omega)]; exact g3⟩
      show faE (sn lf i L j) _ = 0
      rw [sn_ne (by omega), es j (by omega)]
      exact g1
  · rw [eH]; push_cast; omega
  · rw [eV]; push_cast; omega
  · rw [eC]
    have := hst.1.2.2
    rw [q5] at this ⊢
    split <;> omega
  · rw [eA]; push_cast; omega
end Go.Proofs.Ytkhlhcbbbhbgeaa.Nn
/- PLAINBIG: the long network, its mathematics. -/
namespace Go.Proofs.Ytkhlhcbbbhbgeaa.Nn
open Go.RowKit

def laA (aw : Option Addr) (cw : Nat) (an : Option Addr) (cn n : Nat) : Ly := ⟨1, 1, 2774, 1, 1, 1, 1, 0, 0, 0, 0, 0, aw, n, cw, an, n, cn, none, 0, 0, fun _ => 1, fun _ i => [1, 1, 0, 1, 0, 1, 1, 1].getD i 0, fun _ => 0⟩
def laP : Ly := ⟨3, 0, 0, 1, 1, 1, 1, 0, 0, 0, 0, 0, none, 0, 0, none, 0, 0, none, 0, 0, fun _ => 0, fun _ _ => 0, fun _ => 0⟩
def laD (k : Nat) (aw : Option Addr) (cw : Nat) (ab : Option Addr) (cb : Nat) : Ly := ⟨2, 1, k, 0, 0, 0, 0, 0, 0, 0, 0, 0, aw, 66576 * k, cw, none, 0, 0, ab, k, cb, fun _ => 1, fun _ _ => 0, fun _ => 0⟩
def nmL6 : ByteArray := ⟨#[108, 111, 110, 103]⟩
/-- What the long network is. -/
structure Lg (k : Nat) (N : Nt) : Prop where
  nm : N.nm = nmL6
  h : N.h = 4
  v : N.v = 6
  c : N.c = 1
  ml : N.ml = 64
  l0 : ∃ aw cw an cn, N.lf 0 = laA aw cw an cn 2774 ∧ 2774 ≤ cw
  lp : ∀ j, 1 ≤ j → j < 63 → N.lf j = laP
  ld : ∃ aw cw ab cb, N.lf 63 = laD k aw cw ab cb ∧ 66576 * k ≤ cw
theorem lg_sp0 {k : Nat} {N : Nt} (h : Lg k N) : sp N 0 = ⟨4, 6, 1, 0, true, false⟩ := by simp only [sp, h.h, h.v, h.c, h.ml]; rfl
theorem oP6 : oH laP 4 6 2774 = 4 ∧ oV laP 4 6 2774 = 6 ∧ oC laP 4 6 2774 = 2774 ∧ wc laP 4 6 2774 = 0 := ⟨by kernel_rfl, by kernel_rfl, by kernel_rfl, by kernel_rfl⟩
theorem oA6 (aw : Option Addr) (cw : Nat) (an : Option Addr) (cn n : Nat) : oH (laA aw cw an cn n) 4 6 1 = 4 ∧ oV (laA aw cw an cn n) 4 6 1 = 6 ∧ oC (laA aw cw an cn n) 4 6 1 = 2774 ∧ wc (laA aw cw an cn n) 4 6 1 = 2774 := ⟨by kernel_rfl, by kernel_rfl, by kernel_rfl, by kernel_rfl⟩
theorem lg_sp {k : Nat} {N : Nt} (h : Lg k N) : ∀ i, i < 63 → sp N (i + 1) = ⟨4, 6, 2774, 2774, false, decide (64 = i + 2)⟩
  | 0, _ => by
    obtain ⟨aw, cw, an, cn, e, -⟩ := h.l0
    obtain ⟨o1, o2, o3, o4⟩ := oA6 aw cw an cn 2774
    show (⟨oH (N.lf 0) (sp N 0).h (sp N 0).v (sp N 0).c, oV (N.lf 0) (sp N 0).h (sp N 0).v (sp N 0).c, oC (N.lf 0) (sp N 0).h (sp N 0).v (sp N 0).c, (sp N 0).ah + wc (N.lf 0) (sp N 0).h (sp N 0).v (sp N 0).c, false, decide (N.ml = 0 + 2)⟩ : Sp) = _
    rw [lg_sp0 h, e, h.ml]
    dsimp only
    rw [o1, o2, o3, o4]
    rfl
  | i + 1, hi => by
    have ih := lg_sp h i (by omega)
    have e := h.lp (i + 1) (by omega) (by omega)
    obtain ⟨o1, o2, o3, o4⟩ := oP6
    show (⟨oH (N.lf (i + 1)) (sp N (i + 1)).h (sp N (i + 1)).v (sp N (i + 1)).c, oV (N.lf (i + 1)) (sp N (i + 1)).h (sp N (i + 1)).v (sp N (i + 1)).c, oC (N.lf (i + 1)) (sp N (i + 1)).h (sp N (i + 1)).v (sp N (i + 1)).c, (sp N (i + 1)).ah + wc (N.lf (i + 1)) (sp N (i + 1)).h (sp N (i + 1)).v (sp N (i + 1)).c, false, decide (N.ml = i + 1 + 2)⟩ : Sp) = _
    rw [ih, e, h.ml]
    dsimp only
    rw [o1, o2, o3, o4]
    rfl
theorem lg_sp64 {k : Nat} {N : Nt} (h : Lg k N) : (sp N 64).h = 1 ∧ (sp N 64).v = 1 ∧ (sp N 64).c = k := by
  obtain ⟨aw, cw, ab, cb, e, -⟩ := h.ld
  rw [sp, e]
  exact ⟨rfl, rfl, rfl⟩
theorem la_nno (aw : Option Addr) (cw : Nat) (an : Option Addr) (cn n j : Nat) : nno (laA aw cw an cn n) j = 0 := by kernel_rfl
theorem la_fa (aw : Option Addr) (cw : Nat) (an : Option Addr) (cn n : Nat) (hn : (n : Int) = 2774) : faE (laA aw cw an cn n) ⟨4, 6, 1, 0, true, false⟩ = 0 := by
  have hwc := (oA6 aw cw an cn n).2.2.2
  have hf : fan (laA aw cw an cn n) 4 6 1 = 1 := by kernel_rfl
  unfold faE
  rw [if_pos (show (laA aw cw an cn n).kd = 1 from rfl)]
  refine frF_ok fun q hq => ?_
  rcases (show q = 0 ∨ q = 1 ∨ q = 2 ∨ q = 3 ∨ q = 4 ∨ q = 5 ∨ q = 6 ∨ q = 7 ∨ q = 8 ∨ q = 9 by omega) with rfl | rfl | rfl | rfl | rfl | rfl | rfl | rfl | rfl | rfl
  · kernel_rfl
  · kernel_rfl
  · kernel_rfl
  · kernel_rfl
  · kernel_rfl
  · kernel_rfl
  · kernel_rfl
  · show wsE (laA aw cw an cn n) ⟨4, 6, 1, 0, true, false⟩ = 0
    unfold wsE
    dsimp only
    rw [hwc]
    exact if_pos ⟨hn, fun j _ => by show okW 1 1; unfold okW; decide⟩
  · show nmE (laA aw cw an cn n) = 0
    unfold nmE
    exact if_pos ⟨⟨hn, rfl⟩, fun j _ => la_nno aw cw an cn n j⟩
  · show reE (laA aw cw an cn n) ⟨4, 6, 1, 0, true, false⟩ = 0
    unfold reE
    refine if_pos ⟨?_, fun j hj => absurd hj (Nat.not_lt_zero j)⟩
    unfold lef
    dsimp only
    rw [hf]
    decide
theorem ld_fa (k : Nat) (hk : 1 ≤ k ∧ k ≤ 20) (n : Nat) (hn : (n : Int) = (k : Int) * 66576) (aw : Option Addr) (cw : Nat) (ab : Option Addr) (cb : Nat) : faE ⟨2, 1, k, 0, 0, 0, 0, 0, 0, 0, 0, 0, aw, n, cw, none, 0, 0, ab, k, cb, fun _ => 1, fun _ _ => 0, fun _ => 0⟩ ⟨4, 6, 2774, 2774, false, true⟩ = 0 := by
  generalize hL : (⟨2, 1, k, 0, 0, 0, 0, 0, 0, 0, 0, 0, aw, n, cw, none, 0, 0, ab, k, cb, fun _ => 1, fun _ _ => 0, fun _ => 0⟩ : Ly) = L
  have hf : fan L 4 6 2774 = 66576 := by rw [← hL]; kernel_rfl
  have hlk : L.k = k := by rw [← hL]
  have hwc : wc L 4 6 2774 = (k : Int) * 66576 := by unfold wc; rw [hf, hlk]
  have h2 : L.kd = 2 := by rw [← hL]
  unfold faE
  rw [if_neg (by omega), if_pos h2]
  refine frF_ok fun q hq => ?_
  rcases (show q = 0 ∨ q = 1 ∨ q = 2 ∨ q = 3 ∨ q = 4 ∨ q = 5 ∨ q = 6 by omega) with rfl | rfl | rfl | rfl | rfl | rfl | rfl
  · exact if_pos (by rw [hlk]; omega)
  · rw [← hL]; kernel_rfl
  · rw [← hL]; kernel_rfl
  · show wrE L ⟨4, 6, 2774, 2774, false, true⟩ = 0
    unfold wrE
    dsimp only
    rw [hwc]
    exact if_pos (by omega)
  · show wsE L ⟨4, 6, 2774, 2774, false, true⟩ = 0
    unfold wsE
    dsimp only
    rw [hwc]
    refine if_pos ⟨by rw [← hL]; exact hn, fun j _ => by rw [← hL]; show okW 1 1; unfold okW; decide⟩
  · show enE L ⟨4, 6, 2774, 2774, false, true⟩ = 0
    unfold enE
    rw [if_pos rfl]
    exact if_pos (by rw [← hL]; exact ⟨rfl, rfl⟩)
  · show reE L ⟨4, 6, 2774, 2774, false, true⟩ = 0
    have hl : 2147000000 ≤ lef L ⟨4, 6, 2774, 2774, false, true⟩ := by
      unfold lef
      dsimp only
      rw [hf]
      decide
    unfold reE
    refine if_pos ⟨by omega, fun j _ => ?_⟩
    have : L.bs j = 0 := by rw [← hL]
    rw [this]
    unfold bok
    omega
theorem lp_fa : faE laP ⟨4, 6, 2774, 2774, false, false⟩ = 0 := by kernel_rfl
theorem lg_ok {k : Nat} {N : Nt} (h : Lg k N) (hk : 1 ≤ k ∧ k ≤ 20) : chE N = 0 := by
  have hw : whE N = 0 := by unfold whE; rw [h.nm, h.h, h.v, h.c, h.ml]; kernel_rfl
  refine (ch_ok hw fun j hj => ?_).1
  rw [h.ml] at hj
  unfold fl
  by_cases j0 : j = 0
  · subst j0
    rw [lg_sp0 h]
    obtain ⟨aw, cw, an, cn, e, -⟩ := h.l0
    rw [e]
    exact la_fa aw cw an cn 2774 rfl
  · by_cases j3 : j = 63
    · subst j3
      rw [lg_sp h 62 (by omega)]
      obtain ⟨aw, cw, ab, cb, e, -⟩ := h.ld
      rw [e]
      exact ld_fa k hk (66576 * k) (by omega) aw cw ab cb
    · obtain ⟨i, rfl⟩ : ∃ i, j = i + 1 := ⟨j - 1, by omega⟩
      rw [lg_sp h i (by omega), h.lp (i + 1) (by omega) (by omega)]
      rw [decide_eq_false (show ¬ 64 = i + 2 by omega)]
      exact lp_fa
theorem lg_cap {k : Nat} {N : Nt} (h : Lg k N) (i : Nat) (hi : i < N.ml) : (N.lf i).mw ≤ (N.lf i).cw := by
  rw [h.ml] at hi
  by_cases j0 : i = 0
  · subst j0
    obtain ⟨aw, cw, an, cn, e, hc⟩ := h.l0
    rw [e]; exact hc
  · by_cases j3 : i = 63
    · subst j3
      obtain ⟨aw, cw, ab, cb, e, hc⟩ := h.ld
      rw [e]; exact hc
    · rw [h.lp i (by omega) (by omega)]; exact Nat.le_refl _
theorem lg_sz {k : Nat} {N : Nt} (h : Lg k N) : szN N 0 = 24 ∧ (∀ i, i < 63 → szN N (i + 1) = 66576) ∧ szN N 64 = k := by
  refine ⟨by unfold szN cN; rw [lg_sp0 h]; rfl, fun i hi => by unfold szN cN; rw [lg_sp h i hi]; show (4 : Int).toNat * (6 : Int).toNat * (2774 : Int).toNat = 66576; decide +kernel, ?_⟩
  obtain ⟨a, b, c⟩ := lg_sp64 h
  unfold szN cN
  rw [a, b, c]
  simp
theorem lg_to {k : Nat} {N : Nt} (h : Lg k N) (hk : 1 ≤ k ∧ k ≤ 20) : toN N = 4194288 + k := by
  have key : ∀ i, i ≤ 63 → toV (fun k => (sp N (k + 1)).h) (fun k => (sp N (k + 1)).v) (fun k => (sp N (k + 1)).c) i = 66576 * (i : Int) := fun i => by
    induction i with
    | zero => intro _; rfl
    | succ i ih =>
      intro hi
      rw [toV, ih (by omega), lg_sp h i (by omega)]
      show 66576 * (i : Int) + elN 4 6 2774 = _
      rw [show elN 4 6 2774 = 66576 by decide +kernel]
      omega
  unfold toN
  rw [h.ml, toV, key 63 (by omega)]
  obtain ⟨a, b, c⟩ := lg_sp64 h
  show _ + elN (sp N 64).h (sp N 64).v (sp N 64).c = _
  rw [a, b, c]
  have : elN 1 1 (k : Int) = k := by
    unfold elN
    rw [if_pos (by unfold chk; rw [if_pos (show Sides 1 1 (k : Int) from ⟨by decide, by decide, by omega⟩), if_neg (by omega)])]
    omega
  rw [this]
  omega
theorem plV_one : Wd.plV 1 1 0 1 0 1 1 1 0 = true := by kernel_rfl
theorem sm_ones (n : Nat) : ∀ {x : Nat → Int}, (∀ j, j < n → x j = 1) → smV (fun _ => 1) x n = n := by
  induction n with
  | zero => intro x _; rfl
  | succ n ih =>
    intro x hx
    rw [smV, ih fun j hj => hx j (by omega), hx n (by omega)]
    omega
theorem lg_val {k : Nat} {N : Nt} (h : Lg k N) : ∀ i, i < 63 → ∀ j, j < 66576 → valN N (fun _ => 0) (i + 1) j = 1
  | 0, _, j, hj => by
    obtain ⟨aw, cw, an, cn, e, -⟩ := h.l0
    have hF : fanN N 0 = 1 := by unfold fanN; rw [lg_sp0 h, e]; rfl
    rw [valN, hF, e]
    show ouV (laA aw cw an cn 2774) 1 _ _ = 1
    unfold ouV
    have hz : ∀ y x' H V C S q, lkW y x' 0 H V C S (fun _ => 0) q = 0 := fun y x' H V C S q => by unfold lkW; split <;> rfl
    have : smV (fun j_1 => (laA aw cw an cn 2774).ws (j % (laA aw cw an cn 2774).k.toNat * 1 + j_1)) (plW (laA aw cw an cn 2774) (sp N 0).h.toNat (sp N 0).v.toNat (cN N 0) (laA aw cw an cn 2774).s.toNat (sp N (0 + 1)).v.toNat (valN N (fun _ => 0) 0) (j / (laA aw cw an cn 2774).k.toNat)) 1 = 0 := by
      rw [smV, smV]
      unfold plW
      show 0 + (1 : Int) * lkW _ _ 0 _ _ _ _ (fun _ => 0) 0 = 0
      rw [hz]; rfl
    rw [this]
    unfold beV
    rw [if_neg (by show ¬ 0 < 0; omega)]
    show (if Wd.plV 1 1 0 1 0 1 1 1 0 = true then (1 : Int) else -1) = 1
    rw [if_pos plV_one]
  | i + 1, hi, j, hj => by
    have ih := lg_val h i (by omega)
    have e := h.lp (i + 1) (by omega) (by omega)
    have hq : j / 2774 < 24 := by omega
    rw [valN, e, lg_sp h (i + 1) hi, show cN N (i + 1) = 2774 by unfold cN; rw [lg_sp h i (by omega)]; rfl, lg_sp h i (by omega)]
    show lkW (((j / 2774 / 6 : Nat) : Int) * 1 - 0) (((j / 2774 % 6 : Nat) : Int) * 1 - 0) 0 4 6 2774 1 (valN N (fun _ => 0) (i + 1)) (j % 2774) = 1
    unfold lkW
    have h1 : j % 2774 / 2774 = 0 := Nat.div_eq_of_lt (Nat.mod_lt _ (by decide))
    rw [h1]
    rw [if_pos (by unfold Inw; refine ⟨⟨by omega, by omega⟩, by omega, by omega⟩)]
    refine ih _ ?_
    have e1 : ((((j / 2774 / 6 : Nat) : Int) * 1 - 0 + ((0 / 1 : Nat) : Int)).toNat * 6 + (((j / 2774 % 6 : Nat) : Int) * 1 - 0 + ((0 % 1 : Nat) : Int)).toNat) * 2774 + j % 2774 % 2774 = j := by
      have a : (((j / 2774 / 6 : Nat) : Int) * 1 - 0 + ((0 / 1 : Nat) : Int)).toNat = j / 2774 / 6 := by omega
      have b : (((j / 2774 % 6 : Nat) : Int) * 1 - 0 + ((0 % 1 : Nat) : Int)).toNat = j / 2774 % 6 := by omega
      rw [a, b]
      omega
    rw [e1]
    exact hj
theorem lg_last {k : Nat} {N : Nt} (h : Lg k N) (hk : 1 ≤ k) (j : Nat) : valN N (fun _ => 0) 64 j = 66576 := by
  obtain ⟨aw, cw, ab, cb, e, -⟩ := h.ld
  have hF : fanN N 63 = 66576 := by unfold fanN; rw [lg_sp h 62 (by omega), e]; rfl
  rw [valN, hF, e]
  show ouV (laD k aw cw ab cb) 66576 (valN N (fun _ => 0) 63) j = 66576
  unfold ouV beV
  rw [if_pos (show 0 < (laD k aw cw ab cb).mb by show 0 < k; omega)]
  show smV (fun _ => 1) (valN N (fun _ => 0) 63) 66576 + 0 = 66576
  rw [sm_ones 66576 fun q hq => lg_val h 62 (by omega) q hq]
  rfl
theorem gr_const {f : Nat → Int} {v : Int} (hf : ∀ j, f j = v) : ∀ n, grV f n = 0
  | 0 => rfl
  | n + 1 => by rw [grV, gr_const hf n, if_neg (by rw [hf, hf]; omega)]
end Go.Proofs.Ytkhlhcbbbhbgeaa.Nn
/- NETWORKS THAT ARE MADE: how they lie in memory. -/
namespace Go.Proofs.Ytkhlhcbbbhbgeaa.Nn
open Go.RowKit

/-- Lists of pieces. -/
def rl (F : Nat → List Value) : Nat → List Value
  | 0 => []
  | n + 1 => rl F n ++ F n
theorem rl_len {F : Nat → List Value} {s : Nat} (h : ∀ j, (F j).length = s) : ∀ n, (rl F n).length = n * s
  | 0 => by simp [rl]
  | n + 1 => by rw [rl, List.length_append, rl_len h n, h, Nat.succ_mul]
theorem rl_get {F : Nat → List Value} {s : Nat} (h : ∀ j, (F j).length = s) : ∀ n {j c : Nat}, j < n → c < s → (rl F n)[j * s + c]? = (F j)[c]?
  | 0, j, c, hj, hc => by omega
  | n + 1, j, c, hj, hc => by
    rw [rl]
    by_cases hjn : j < n
    · have hl : j * s + s ≤ n * s := by have := Nat.mul_le_mul_right s (show j + 1 ≤ n by omega); rw [Nat.succ_mul] at this; exact this
      rw [List.getElem?_append_left (by rw [rl_len h]; omega)]
      exact rl_get h n hjn hc
    · obtain rfl : j = n := by omega
      rw [List.getElem?_append_right (by rw [rl_len h]; omega), rl_len h, Nat.add_sub_cancel_left]
theorem rl_congr {F G : Nat → List Value} : ∀ n, (∀ j, j < n → F j = G j) → rl F n = rl G n
  | 0, _ => rfl
  | n + 1, h => by rw [rl, rl, rl_congr n fun j hj => h j (by omega), h n (by omega)]
theorem nmL_rl (ns : Nat → Nat → Int) : ∀ n, nmL ns n = rl (fun j => nmC (ns j)) n
  | 0 => rfl
  | n + 1 => by rw [nmL, rl, nmL_rl ns n]
/-- A layer's fifteen cells. -/
def lyC (L : Ly) : List Value := [.int .i64 L.kd, .int .i64 L.wt, .int .i64 L.k, .int .i64 L.r, .int .i64 L.s, .int .i64 L.sy, .int .i64 L.sx, .int .i64 L.t, .int .i64 L.l, .int .i64 L.b, .int .i64 L.q, .int .i64 L.bd, .slice L.aw L.mw L.cw, .slice L.an L.mn L.cn, .slice L.ab L.mb L.cb]
abbrev lyLs (lf : Nat → Ly) (n : Nat) : List Value := rl (fun j => lyC (lf j)) n
theorem own_cellsS {W : World} {base e s n uc : Nat} {ua : Option Addr} {xs : List Value} (h : W.ownsRow base e s (.slice ua n uc) n xs) (hn : 1 ≤ n) : ∃ g, ua = some ⟨g, 0, none⟩ ∧ n ≤ uc ∧ base ≤ g ∧ g < W.heap.size ∧ ∀ k, k < n * s → W.cell? ⟨g, k, none⟩ = xs[k]? := by
  rcases h.2 with ⟨_, h0⟩ | ⟨g, cap, cur, hv, hb, hg, h4, h5, h6, h7⟩
  · omega
  · cases hv
    refine ⟨g, rfl, h4, hb, (Array.getElem?_eq_some_iff.1 hg).1, fun k hk => ?_⟩
    rw [← h7, List.getElem?_take_of_lt hk]
    rw [Array.getElem?_toList]
    simp [World.cell?, hg]
theorem own_setD {W : World} {base e size n c j : Nat} {v : Value} {xs : List Value} {u : Value} (h : W.ownsRow base e size v n xs) (hc : c < base) : (W.setCell ⟨c, j, none⟩ u).ownsRow base e size v n xs :=
  h.kept (row := some c) ⟨rfl, rfl, rfl, by simp, fun k _ hne => Below.heap_setCell _ _ _ _ (fun e => hne (by rw [e]))⟩ (by
    cases hv : v.ownBlock with
    | none => exact .inl rfl
    | some q => exact .inr (fun e => by cases e; have := (h.lt c hv).1; omega))
theorem own_neD {W : World} {b1 b2 e1 e2 s1 s2 n1 n2 : Nat} {v1 v2 : Value} {x1 x2 : List Value} (h1 : W.ownsRow b1 e1 s1 v1 n1 x1) (h2 : W.ownsRow b2 e2 s2 v2 n2 x2) (hne : e1 ≠ e2) : v1.ownBlock = none ∨ v1.ownBlock ≠ v2.ownBlock := by
  rcases h1.2 with ⟨e, _⟩ | ⟨g, c, cu, e, _, hg, _⟩
  · subst e; exact .inl rfl
  · refine .inr fun he => ?_
    rcases h2.2 with ⟨e', _⟩ | ⟨g', c', cu', e', _, hg', _⟩
    · subst e e'; cases he
    · subst e e'
      have : g = g' := by simpa [Value.ownBlock] using he
      subst this
      rw [hg] at hg'
      simp at hg'
      exact hne hg'.2
/-- A layer's lists, each in memory of its own. -/
def Lo (W : World) (base : Nat) (L : Ly) : Prop := W.ownsRow base 60 1 (.slice L.aw L.mw L.cw) L.mw (i8L ((List.range L.mw).map L.ws)) ∧ W.ownsRow base 62 8 (.slice L.an L.mn L.cn) L.mn (nmL L.ns L.mn) ∧ W.ownsRow base 2 1 (.slice L.ab L.mb L.cb) L.mb (i64L ((List.range L.mb).map L.bs))
theorem Lo.mono {W : World} {b1 b2 : Nat} {L : Ly} (h : Lo W b1 L) (hb : b2 ≤ b1) : Lo W b2 L := ⟨h.1.mono hb, h.2.1.mono hb, h.2.2.mono hb⟩
theorem Lo.bl {W X : World} {base : Nat} {L : Ly} (h : Lo W base L) (hb : Below W.heap.size W X) : Lo X base L := ⟨own_bl h.1 hb, own_bl h.2.1 hb, own_bl h.2.2 hb⟩
theorem Lo.set {W : World} {base c j : Nat} {L : Ly} {u : Value} (h : Lo W base L) (hc : c < base) : Lo (W.setCell ⟨c, j, none⟩ u) base L := ⟨own_setD h.1 hc, own_setD h.2.1 hc, own_setD h.2.2 hc⟩
theorem Lo.but {W X : World} {base c : Nat} {L : Ly} (h : Lo W base L) (hg : W.grownBy X (some c)) (hc : c < base) : Lo X base L := by
  have k : ∀ {e s n : Nat} {v : Value} {xs : List Value}, W.ownsRow base e s v n xs → X.ownsRow base e s v n xs := fun {e s n v xs} h => h.kept hg (by
    cases hv : v.ownBlock with
    | none => exact .inl rfl
    | some q => exact .inr (fun e => by cases e; have := (h.lt c hv).1; omega))
  exact ⟨k h.1, k h.2.1, k h.2.2⟩
theorem Lo.grow {W X : World} {base b2 s2 n2 e2 : Nat} {v2 : Value} {x2 : List Value} {L : Ly} (h : Lo W base L) (h2 : W.ownsRow b2 e2 s2 v2 n2 x2) (h8 : 60 ≠ e2) (hn : 62 ≠ e2) (h6 : 2 ≠ e2) (hg : W.grownBy X v2.ownBlock) : Lo X base L :=
  ⟨h.1.kept hg (own_neD h.1 h2 h8), h.2.1.kept hg (own_neD h.2.1 h2 hn), h.2.2.kept hg (own_neD h.2.2 h2 h6)⟩
theorem Lo.lst {W : World} {base : Nat} {L : Ly} (h : Lo W base L) (h1 : L.mw ≤ 1000000) (h2 : L.mn ≤ 1000000) (h3 : L.mb ≤ 1000000) : Lst W L := by
  refine ⟨fun j hj => ?_, fun j hj => ?_, fun j hj => ?_, by omega, by omega, by omega⟩
  · obtain ⟨g, e, -, -, -, hc⟩ := own_cellsS h.1 (by omega)
    refine ⟨g, 0, e, ?_⟩
    rw [Nat.zero_add, hc j (by omega)]
    simp [i8L, hj]
  · obtain ⟨g, e, -, -, -, hc⟩ := own_cellsS h.2.1 (by omega)
    refine ⟨g, 0, e, ?_⟩
    have hm : j * 8 + 8 ≤ L.mn * 8 := by omega
    have key : ∀ c, c < 8 → W.cell? ⟨g, 0 + j * 8 + c, none⟩ = (nmC (L.ns j))[c]? := fun c hc' => by
      rw [Nat.zero_add, hc _ (by omega), nmL_rl]
      exact rl_get (s := 8) (fun _ => rfl) L.mn hj hc'
    exact ⟨key 0 (by decide), key 1 (by decide), key 2 (by decide), key 3 (by decide), key 4 (by decide), key 5 (by decide), key 6 (by decide), key 7 (by decide)⟩
  · obtain ⟨g, e, -, -, -, hc⟩ := own_cellsS h.2.2 (by omega)
    refine ⟨g, 0, e, ?_⟩
    rw [Nat.zero_add, hc j (by omega)]
    simp [i64L, hj]
theorem info_lyD : (Try.prog.info? 47).map (fun i => (i.zero, i.size, i.bytes)) = some (some (.agg #[.int .i64 0, .int .i64 0, .int .i64 0, .int .i64 0, .int .i64 0, .int .i64 0, .int .i64 0, .int .i64 0, .int .i64 0, .int .i64 0, .int .i64 0, .int .i64 0, .slice none 0 0, .slice none 0 0, .slice none 0 0]), 15, 168) := by kernel_rfl
theorem und_lyD : Try.prog.underlying 29 = some (.slice 47) := by kernel_rfl
theorem app_lyD {ops : Array Oper} {rest : List Oper} {o : Oper} {a : Act} {Q : Exit → Act → World → Prop} {w : World} (hgd : o.guard = none) (s x : Operand)
    (ho : o.op = .call { callee := .builtin .append, args := #[s, x], argTypes := #[29, 29] }) (base : Nat) (v : Value) (xs : List Value) (n : Nat) (hs : a.eval s = v) (hown : w.ownsRow base 47 15 v n xs)
    (g : Nat) (L : Ly) (cb : Nat) (hx : a.eval x = .slice (some ⟨g, 0, none⟩) 1 cb) (hr : Lp w g L) (hM : n ≤ 1000000000) (hb : base ≤ w.heap.size)
    (h : ∀ v' w', w'.ownsRow base 47 15 v' (n + 1) (xs ++ lyC L) → w.grownBy w' v.ownBlock → wpList Try.prog ops Q rest (a.put o.dst v') w') : wpList Try.prog ops Q (o :: rest) a w := by
  obtain ⟨i0, hi, hz0, hz1, hz2⟩ := info_parts info_lyD
  obtain ⟨r0, r1, r2, r3, r4, r5, r6, r7, r8, r9, r10, r11, r12, r13, r14⟩ := hr
  refine wpList_append_own_at w hgd s x _ ho base 47 i0 _ 15 168 und_lyD hi hz0 hz1 hz2 rfl (by decide) v n xs hs hown ⟨g, 0, none⟩ 1 cb (lyC L) hx rfl
    (fun j u hu => ?_) (fun u hu => by simp [lyC] at hu; rcases hu with rfl | rfl | rfl | rfl | rfl | rfl | rfl | rfl | rfl | rfl | rfl | rfl | rfl | rfl | rfl <;> rfl) (by unfold maxLen; omega) (by omega) hb ?_
  · rcases j with _ | _ | _ | _ | _ | _ | _ | _ | _ | _ | _ | _ | _ | _ | _ | j
    · simp [lyC] at hu; subst hu; exact r0
    · simp [lyC] at hu; subst hu; exact r1
    · simp [lyC] at hu; subst hu; exact r2
    · simp [lyC] at hu; subst hu; exact r3
    · simp [lyC] at hu; subst hu; exact r4
    · simp [lyC] at hu; subst hu; exact r5
    · simp [lyC] at hu; subst hu; exact r6
    · simp [lyC] at hu; subst hu; exact r7
    · simp [lyC] at hu; subst hu; exact r8
    · simp [lyC] at hu; subst hu; exact r9
    · simp [lyC] at hu; subst hu; exact r10
    · simp [lyC] at hu; subst hu; exact r11
    · simp [lyC] at hu; subst hu; exact r12
    · simp [lyC] at hu; subst hu; exact r13
    · simp [lyC] at hu; subst hu; exact r14
    · simp [lyC] at hu
  · intro v' w' h1 h2 _ _
    exact h v' w' h1 h2
/-- A network that lies so is one that may be asked. -/
theorem mk_net {W : World} {base : Nat} {H V C : Int} {M : Nat} {ua : Option Addr} {uc : Nat} {lf : Nat → Ly} (hM : 1 ≤ M ∧ M ≤ 64) (hrow : W.ownsRow base 47 15 (.slice ua M uc) M (lyLs lf M)) (hlo : ∀ j, j < M → Lo W base (lf j) ∧ (lf j).mw ≤ 1000000 ∧ (lf j).mn ≤ 1000000 ∧ (lf j).mb ≤ 1000000) : NtW W (mkN H V C M ua uc lf) := by
  obtain ⟨g, e, -, -, -, hc⟩ := own_cellsS hrow hM.1
  refine ⟨fun j hj => ?_, by show M ≤ _; omega, (show (7 : Nat) ≤ 9223372036854775807 by decide)⟩
  have hj : j < M := hj
  have key : ∀ c, c < 15 → W.cell? ⟨g, 0 + j * 15 + c, none⟩ = (lyC (lf j))[c]? := fun c hc' => by
    rw [Nat.zero_add, hc _ (by omega)]
    exact rl_get (s := 15) (fun _ => rfl) M hj hc'
  obtain ⟨h1, h2, h3, h4⟩ := hlo j hj
  exact ⟨g, 0, e, ⟨key 0 (by decide), key 1 (by decide), key 2 (by decide), key 3 (by decide), key 4 (by decide), key 5 (by decide), key 6 (by decide), key 7 (by decide), key 8 (by decide), key 9 (by decide), key 10 (by decide), key 11 (by decide), key 12 (by decide), key 13 (by decide), key 14 (by decide)⟩, h1.lst h2 h3 h4⟩
end Go.Proofs.Ytkhlhcbbbhbgeaa.Nn
/- NETWORKS THAT ARE MADE: the state under way. -/
namespace Go.Proofs.Ytkhlhcbbbhbgeaa.Nn
open Go.RowKit

def netF (s : ByteArray) (H V C : Int) (u : Value) : Nat → Value := fun i => if i = 0 then .string s else if i = 1 then .int .i64 H else if i = 2 then .int .i64 V else if i = 3 then .int .i64 C else u
def shF (h v c : Int) : Nat → Value := fun i => if i = 0 then .int .i64 h else if i = 1 then .int .i64 v else .int .i64 c
def wnF (r s sy sx : Int) : Nat → Value := fun i => if i = 0 then .int .i64 r else if i = 1 then .int .i64 s else if i = 2 then .int .i64 sy else if i = 3 then .int .i64 sx else .int .i64 0
def lyf (L : Ly) : Nat → Value := fun i => if i = 0 then .int .i64 L.kd else if i = 1 then .int .i64 L.wt else if i = 2 then .int .i64 L.k else if i = 3 then .int .i64 L.r else if i = 4 then .int .i64 L.s else if i = 5 then .int .i64 L.sy else if i = 6 then .int .i64 L.sx else if i = 7 then .int .i64 L.t else if i = 8 then .int .i64 L.l else if i = 9 then .int .i64 L.b else if i = 10 then .int .i64 L.q else if i = 11 then .int .i64 L.bd else if i = 12 then .slice L.aw L.mw L.cw else if i = 13 then .slice L.an L.mn L.cn else .slice L.ab L.mb L.cb
theorem fif {i : Nat} (hi : i < 15) {p : Nat → Prop} (h : p 0 ∧ p 1 ∧ p 2 ∧ p 3 ∧ p 4 ∧ p 5 ∧ p 6 ∧ p 7 ∧ p 8 ∧ p 9 ∧ p 10 ∧ p 11 ∧ p 12 ∧ p 13 ∧ p 14) : p i := by
  obtain ⟨h0, h1, h2, h3, h4, h5, h6, h7, h8, h9, h10, h11, h12, h13, h14⟩ := h
  rcases (show i = 0 ∨ i = 1 ∨ i = 2 ∨ i = 3 ∨ i = 4 ∨ i = 5 ∨ i = 6 ∨ i = 7 ∨ i = 8 ∨ i = 9 ∨ i = 10 ∨ i = 11 ∨ i = 12 ∨ i = 13 ∨ i = 14 by omega) with rfl | rfl | rfl | rfl | rfl | rfl | rfl | rfl | rfl | rfl | rfl | rfl | rfl | rfl | rfl <;> assumption
theorem lyf_new (W : World) (L : Ly) (t : TypeId) : (W.alloc (.cells #[.int .i64 L.kd, .int .i64 L.wt, .int .i64 L.k, .int .i64 L.r, .int .i64 L.s, .int .i64 L.sy, .int .i64 L.sx, .int .i64 L.t, .int .i64 L.l, .int .i64 L.b, .int .i64 L.q, .int .i64 L.bd, .slice L.aw L.mw L.cw, .slice L.an L.mn L.cn, .slice L.ab L.mb L.cb] t)).rowIs W.heap.size t 15 (lyf L) :=
  World.rowIs_alloc W _ t _ fun i hi => by
    have hi' : i < 15 := by simpa using hi
    rcases (show i = 0 ∨ i = 1 ∨ i = 2 ∨ i = 3 ∨ i = 4 ∨ i = 5 ∨ i = 6 ∨ i = 7 ∨ i = 8 ∨ i = 9 ∨ i = 10 ∨ i = 11 ∨ i = 12 ∨ i = 13 ∨ i = 14 by omega) with rfl | rfl | rfl | rfl | rfl | rfl | rfl | rfl | rfl | rfl | rfl | rfl | rfl | rfl | rfl <;> rfl
theorem lyf_newD (W : World) (L : Ly) : ((W.alloc (lyo L)).drew).rowIs W.heap.size 47 15 (lyf L) := World.rowIs.of_block (lyf_new W L _) rfl
theorem lyf_set {W : World} {g : Nat} {t : TypeId} {L : Ly} (h : W.rowIs g t 15 (lyf L)) (L' : Ly) (c : Nat) (u : Value) (e : (if 0 = c then u else lyf L 0) = lyf L' 0 ∧ (if 1 = c then u else lyf L 1) = lyf L' 1 ∧ (if 2 = c then u else lyf L 2) = lyf L' 2 ∧ (if 3 = c then u else lyf L 3) = lyf L' 3 ∧ (if 4 = c then u else lyf L 4) = lyf L' 4 ∧ (if 5 = c then u else lyf L 5) = lyf L' 5 ∧ (if 6 = c then u else lyf L 6) = lyf L' 6 ∧ (if 7 = c then u else lyf L 7) = lyf L' 7 ∧ (if 8 = c then u else lyf L 8) = lyf L' 8 ∧ (if 9 = c then u else lyf L 9) = lyf L' 9 ∧ (if 10 = c then u else lyf L 10) = lyf L' 10 ∧ (if 11 = c then u else lyf L 11) = lyf L' 11 ∧ (if 12 = c then u else lyf L 12) = lyf L' 12 ∧ (if 13 = c then u else lyf L 13) = lyf L' 13 ∧ (if 14 = c then u else lyf L 14) = lyf L' 14) : (W.setCell ⟨g, c, none⟩ u).rowIs g t 15 (lyf L') := by
  refine (h.set c u).congr fun i hi => ?_
  exact fif (p := fun i => (if i = c then u else lyf L i) = lyf L' i) hi e
theorem lyf_cells {W : World} {g : Nat} {t : TypeId} {L : Ly} (h : W.rowIs g t 15 (lyf L)) : Lp W g L := ⟨h.cell (i := 0) (by decide), h.cell (i := 1) (by decide), h.cell (i := 2) (by decide), h.cell (i := 3) (by decide), h.cell (i := 4) (by decide), h.cell (i := 5) (by decide), h.cell (i := 6) (by decide), h.cell (i := 7) (by decide), h.cell (i := 8) (by decide), h.cell (i := 9) (by decide), h.cell (i := 10) (by decide), h.cell (i := 11) (by decide), h.cell (i := 12) (by decide), h.cell (i := 13) (by decide), h.cell (i := 14) (by decide)⟩
/-- The network under way: the answer's place, the network, the shape, the layers so far. -/
def MS (W : World) (b : Nat) (H V C h v c : Int) (lf : Nat → Ly) (i : Nat) (ua : Option Addr) (uc : Nat) : Prop :=
  W.rowIs b 31 5 (netF ⟨#[]⟩ 0 0 0 (.slice none 0 0)) ∧ W.rowIs (b + 1) 31 5 (netF nmX H V C (.slice ua i uc)) ∧ W.rowIs (b + 1 + 1) 28 3 (shF h v c) ∧ W.ownsRow (b + 3) 47 15 (.slice ua i uc) i (lyLs lf i) ∧ (∀ j, j < i → Lo W (b + 3) (lf j) ∧ (lf j).mw ≤ 1000000 ∧ (lf j).mn ≤ 1000000 ∧ (lf j).mb ≤ 1000000) ∧ b + 3 ≤ W.heap.size
theorem MS.keep {W X : World} {b : Nat} {H V C h v c : Int} {lf : Nat → Ly} {i : Nat} {ua : Option Addr} {uc : Nat} (k : MS W b H V C h v c lf i ua uc) (hb : Below W.heap.size W X) : MS X b H V C h v c lf i ua uc := by
  obtain ⟨a1, a2, a3, a4, a5, a6⟩ := k
  exact ⟨World.rowIs.of_block a1 (hb.block _ a1.lt), World.rowIs.of_block a2 (hb.block _ a2.lt), World.rowIs.of_block a3 (hb.block _ a3.lt), own_bl a4 hb, fun j hj => ⟨(a5 j hj).1.bl hb, (a5 j hj).2⟩, Nat.le_trans a6 hb.size⟩
/-- A layer of its kind and window, with nothing yet. -/
abbrev L0 (kd r s sy sx : Int) : Ly := ⟨kd, 0, 0, r, s, sy, sx, 0, 0, 0, 0, 0, none, 0, 0, none, 0, 0, none, 0, 0, fun _ => 0, fun _ _ => 0, fun _ => 0⟩
abbrev LK (kd wt k r s sy sx : Int) : Ly := ⟨kd, wt, k, r, s, sy, sx, 0, 0, 0, 0, 0, none, 0, 0, none, 0, 0, none, 0, 0, fun _ => 0, fun _ _ => 0, fun _ => 0⟩
/-- A layer with its norms. -/
abbrev L1 (kd wt : Int) (K : Nat) (r s sy sx : Int) (an : Option Addr) (cn : Nat) (ns : Nat → Nat → Int) : Ly := ⟨kd, wt, K, r, s, sy, sx, 0, 0, 0, 0, 0, none, 0, 0, an, K, cn, none, 0, 0, fun _ => 0, ns, fun _ => 0⟩
theorem lyf_i {P Q : Nat → Value} {i : Nat} (hi : i < 15) (h : P 0 = Q 0 ∧ P 1 = Q 1 ∧ P 2 = Q 2 ∧ P 3 = Q 3 ∧ P 4 = Q 4 ∧ P 5 = Q 5 ∧ P 6 = Q 6 ∧ P 7 = Q 7 ∧ P 8 = Q 8 ∧ P 9 = Q 9 ∧ P 10 = Q 10 ∧ P 11 = Q 11 ∧ P 12 = Q 12 ∧ P 13 = Q 13 ∧ P 14 = Q 14) : P i = Q i := fif (p := fun i => P i = Q i) hi h
/-- A layer with its window, its weights and its norms. -/
abbrev LV (kd wt : Int) (K : Nat) (r s sy sx t q bd : Int) (aw : Option Addr) (mw cw : Nat) (an : Option Addr) (cn : Nat) (ws : Nat → Int) (ns : Nat → Nat → Int) : Ly := ⟨kd, wt, K, r, s, sy, sx, t, 0, 0, q, bd, aw, mw, cw, an, K, cn, none, 0, 0, ws, ns, fun _ => 0⟩
theorem own_cap {W : World} {base e s n c : Nat} {a : Option Addr} {xs : List Value} (h : W.ownsRow base e s (.slice a n c) n xs) : n ≤ c := by
  by_cases hn : n = 0
  · omega
  · obtain ⟨g, -, h2, -⟩ := own_cellsS h (by omega)
    exact h2
/-- The last layer, under way. -/
def bsV (f : Nat → Int) (m t : Nat) : Int := pk5 f m t 200 - 100
def bsLL (f : Nat → Int) (m j : Nat) : List Int := (List.range j).map (bsV f m)
theorem bsLL_succ (f : Nat → Int) (m j : Nat) : bsLL f m (j + 1) = bsLL f m j ++ [bsV f m j] := by unfold bsLL; rw [List.range_succ, List.map_append]; rfl
abbrev LE (f : Nat → Int) (m K : Nat) (aw : Option Addr) (N cw : Nat) (za : Option Addr) (j zc : Nat) : Ly := ⟨2, 2, K, 0, 0, 0, 0, 0, 0, 0, 0, 0, aw, N, cw, none, 0, 0, za, j, zc, wgV f m 2, fun _ _ => 0, bsV f m⟩
theorem row5 {W : World} {g t : Nat} {F : Nat → Value} (h : W.rowIs g t 5 F) : W.heap[g]? = some (.cells #[F 0, F 1, F 2, F 3, F 4] t (0, 0)) := by
  obtain ⟨c, hc, hn, hF⟩ := h
  rw [hc]
  congr 2
  apply Array.ext_getElem?
  intro i
  by_cases hi : i < 5
  · rw [hF i hi]
    rcases (show i = 0 ∨ i = 1 ∨ i = 2 ∨ i = 3 ∨ i = 4 by omega) with rfl | rfl | rfl | rfl | rfl <;> rfl
  · rw [Array.getElem?_eq_none (by omega), Array.getElem?_eq_none (by simp; omega)]
theorem lo_nil (W : World) (base : Nat) (kd wt k r s sy sx t l b q bd : Int) : Lo W base ⟨kd, wt, k, r, s, sy, sx, t, l, b, q, bd, none, 0, 0, none, 0, 0, none, 0, 0, fun _ => 0, fun _ _ => 0, fun _ => 0⟩ := ⟨World.ownsRow_nil _ _ _ _, World.ownsRow_nil _ _ _ _, World.ownsRow_nil _ _ _ _⟩
theorem net_newF (W : World) (s : ByteArray) (H V C : Int) (u : Value) (t : TypeId) : (W.alloc (.cells #[.string s, .int .i64 H, .int .i64 V, .int .i64 C, u] t)).rowIs W.heap.size t 5 (netF s H V C u) :=
  World.rowIs_alloc W _ t _ fun i hi => by
    have hi' : i < 5 := by simpa using hi
    rcases (show i = 0 ∨ i = 1 ∨ i = 2 ∨ i = 3 ∨ i = 4 by omega) with rfl | rfl | rfl | rfl | rfl <;> rfl
theorem sh_newF (W : World) (h v c : Int) (t : TypeId) : (W.alloc (.cells #[.int .i64 h, .int .i64 v, .int .i64 c] t)).rowIs W.heap.size t 3 (shF h v c) :=
  World.rowIs_alloc W _ t _ fun i hi => by
    have hi' : i < 3 := by simpa using hi
    rcases (show i = 0 ∨ i = 1 ∨ i = 2 by omega) with rfl | rfl | rfl <;> rfl
theorem wn_newF (W : World) (r s sy sx : Int) (t : TypeId) : (W.alloc (.cells #[.int .i64 r, .int .i64 s, .int .i64 sy, .int .i64 sx, .int .i64 0, .int .i64 0, .int .i64 0, .int .i64 0] t)).rowIs W.heap.size t 8 (wnF r s sy sx) :=
  World.rowIs_alloc W _ t _ fun i hi => by
    have hi' : i < 8 := by simpa using hi
    rcases (show i = 0 ∨ i = 1 ∨ i = 2 ∨ i = 3 ∨ i = 4 ∨ i = 5 ∨ i = 6 ∨ i = 7 by omega) with rfl | rfl | rfl | rfl | rfl | rfl | rfl | rfl <;> rfl
theorem ms_new {w : World} {b : Nat} (hb0 : w.heap.size = b) (H V C : Int) (lf : Nat → Ly) : MS (((w.alloc (.cells #[.string ⟨#[]⟩, .int .i64 0, .int .i64 0, .int .i64 0, .slice none 0 0] 31)).alloc (.cells #[.string nmX, .int .i64 H, .int .i64 V, .int .i64 C, .slice none 0 0] 31)).alloc (.cells #[.int .i64 H, .int .i64 V, .int .i64 C] 28)) b H V C H V C lf 0 none 0 := by
  subst hb0
  refine ⟨((net_newF w _ _ _ _ _ _).alloc _).alloc _, ?_, ?_, World.ownsRow_nil _ _ _ _, fun j hj => absurd hj (Nat.not_lt_zero j), by simp⟩
  · have := (net_newF (w.alloc (.cells #[.string ⟨#[]⟩, .int .i64 0, .int .i64 0, .int .i64 0, .slice none 0 0] 31)) nmX H V C (.slice none 0 0) 31).alloc (.cells #[.int .i64 H, .int .i64 V, .int .i64 C] 28)
    simpa using this
  · have := sh_newF ((w.alloc (.cells #[.string ⟨#[]⟩, .int .i64 0, .int .i64 0, .int .i64 0, .slice none 0 0] 31)).alloc (.cells #[.string nmX, .int .i64 H, .int .i64 V, .int .i64 C, .slice none 0 0] 31)) H V C 28
    simpa using this
/-- A row of its own stays where a block of another type is set. -/
theorem own_setHi {W : World} {base e size n g j k t : Nat} {v : Value} {xs : List Value} {u : Value} {F : Nat → Value} (h : W.ownsRow base e size v n xs) (hl : g < W.heap.size) (hr : W.rowIs g t k F) (hne : e ≠ t) : (W.setCell ⟨g, j, none⟩ u).ownsRow base e size v n xs :=
  h.kept (row := some g) ⟨rfl, rfl, rfl, by simp, fun k _ hne => Below.heap_setCell _ _ _ _ (fun e => hne (by rw [e]))⟩ (by
    rcases h.2 with ⟨e', _⟩ | ⟨g', c', cu', e', _, hg', _⟩
    · subst e'; exact .inl rfl
    · subst e'
      refine .inr fun e => ?_
      have : g' = g := by simpa [Value.ownBlock] using e
      subst this
      obtain ⟨cs, hcs, -⟩ := hr
      rw [hg'] at hcs
      simp at hcs
      exact hne hcs.2)
theorem own_ne_row {W : World} {base e size n g k t : Nat} {v : Value} {xs : List Value} {F : Nat → Value} (h : W.ownsRow base e size v n xs) (hr : W.rowIs g t k F) (hne : e ≠ t) : ∀ q, v.ownBlock = some q → q ≠ g := by
  intro q hq e
  subst e
  rcases h.2 with ⟨e', _⟩ | ⟨g', c', cu', e', _, hg', _⟩
  · subst e'; cases hq
  · subst e'
    have : g' = q := by simpa [Value.ownBlock] using hq
    subst this
    obtain ⟨cs, hcs, -⟩ := hr
    rw [hg'] at hcs
    simp at hcs
    exact hne hcs.2
theorem own_setNe {W : World} {base e size n g j : Nat} {v : Value} {xs : List Value} {u : Value} (h : W.ownsRow base e size v n xs) (hne : ∀ q, v.ownBlock = some q → q ≠ g) : (W.setCell ⟨g, j, none⟩ u).ownsRow base e size v n xs :=
  h.kept (row := some g) ⟨rfl, rfl, rfl, by simp, fun k _ hne => Below.heap_setCell _ _ _ _ (fun e => hne (by rw [e]))⟩ (by
    cases hv : v.ownBlock with
    | none => exact .inl rfl
    | some q => exact .inr (fun e => by cases e; exact hne g hv rfl))
/-- What a layer that is made right has. -/
def Ld (L : Ly) (S : Sp) (c' : Int) : Prop := faE L S = 0 ∧ L.mw ≤ L.cw ∧ (0 ≤ L.k ∧ L.k ≤ 3) ∧ (L.kd = 2 ∨ ((1 ≤ L.r ∧ L.r ≤ S.h) ∧ (1 ≤ L.s ∧ L.s ≤ S.v) ∧ (1 ≤ L.sy ∧ L.sy ≤ 3) ∧ (1 ≤ L.sx ∧ L.sx ≤ 3) ∧ (0 ≤ L.t ∧ L.t ≤ 2) ∧ L.l = 0 ∧ L.b = 0 ∧ 0 ≤ L.q ∧ L.q ≤ 1)) ∧ c' = (if L.kd = 3 then S.c else L.k) ∧ L.mw ≤ 1000000 ∧ L.mn ≤ 1000000 ∧ L.mb ≤ 1000000
theorem lyLs_sn (lf : Nat → Ly) (i : Nat) (L : Ly) : lyLs (sn lf i L) (i + 1) = lyLs lf i ++ lyC L := by
  show rl _ i ++ lyC (sn lf i L i) = _
  rw [sn_eq, rl_congr (G := fun j => lyC (lf j)) i fun j hj => by rw [sn_ne hj]]
/-- One layer more. -/
theorem MS.snoc {X Y : World} {b : Nat} {H V C h v c : Int} {lf : Nat → Ly} {i : Nat} {ua a3 : Option Addr} {uc c3 : Nat} {L : Ly} (k : MS X b H V C h v c lf i ua uc) (lo : Lo X (b + 3) L) (hL : L.mw ≤ 1000000 ∧ L.mn ≤ 1000000 ∧ L.mb ≤ 1000000) (own : Y.ownsRow (b + 3) 47 15 (.slice a3 (i + 1) c3) (i + 1) (lyLs lf i ++ lyC L)) (gr : (X.alloc (lyo L)).grownBy Y (Value.slice ua i uc).ownBlock) : MS (Y.setCell ⟨b + 1, 4, none⟩ (.slice a3 (i + 1) c3)) b H V C h v c (sn lf i L) (i + 1) a3 c3 := by
  have hb1 : Below X.heap.size X (X.alloc (lyo L)) := bl_alloc (Below.refl _ _) _
  obtain ⟨a1, a2, a4, a5, a6, a7⟩ := k.keep hb1
  have huo : ∀ q, (Value.slice ua i uc).ownBlock = some q → b + 3 ≤ q := fun q hq => (a5.lt q hq).1
  have blk : ∀ {g t n F}, g < b + 3 → (X.alloc (lyo L)).rowIs g t n F → Y.rowIs g t n F := fun {g t n F} hg r => World.rowIs.of_block r (gr.block g r.lt (fun e => by have := huo g e.symm; omega))
  have hsz : (X.alloc (lyo L)).heap.size ≤ Y.heap.size := gr.size
  refine ⟨(blk (by omega) a1).setOther (by show b ≠ b + 1; omega) _, ?_, (blk (by omega) a4).setOther (by show b + 1 + 1 ≠ b + 1; omega) _, own_setD (by rw [lyLs_sn]; exact own) (by omega), fun j hj => ?_, by simp; omega⟩
  · refine ((blk (by omega) a2).set 4 (.slice a3 (i + 1) c3)).congr fun q hq => ?_
    rcases (show q = 0 ∨ q = 1 ∨ q = 2 ∨ q = 3 ∨ q = 4 by omega) with rfl | rfl | rfl | rfl | rfl <;> rfl
  · by_cases hji : j = i
    · subst hji
      rw [sn_eq]
      exact ⟨((lo.bl hb1).grow a5 (by decide) (by decide) (by decide) gr).set (by omega), hL⟩
    · rw [sn_ne (by omega)]
      obtain ⟨l1, l2⟩ := a6 j (by omega)
      exact ⟨(l1.grow a5 (by decide) (by decide) (by decide) gr).set (by omega), l2⟩
theorem MS.shape {W : World} {b : Nat} {H V C h v c : Int} {lf : Nat → Ly} {i : Nat} {ua : Option Addr} {uc : Nat} (k : MS W b H V C h v c lf i ua uc) (h' v' c' : Int) : MS (((W.setCell ⟨b + 1 + 1, 0, none⟩ (.int .i64 h')).setCell ⟨b + 1 + 1, 1, none⟩ (.int .i64 v')).setCell ⟨b + 1 + 1, 2, none⟩ (.int .i64 c')) b H V C h' v' c' lf i ua uc := by
  obtain ⟨a1, a2, a3, a4, a5, a6⟩ := k
  refine ⟨((a1.setOther (by show b ≠ b + 1 + 1; omega) _).setOther (by show b ≠ b + 1 + 1; omega) _).setOther (by show b ≠ b + 1 + 1; omega) _, ((a2.setOther (by show b + 1 ≠ b + 1 + 1; omega) _).setOther (by show b + 1 ≠ b + 1 + 1; omega) _).setOther (by show b + 1 ≠ b + 1 + 1; omega) _, ?_, own_setD (own_setD (own_setD a4 (by omega)) (by omega)) (by omega), fun j hj => ⟨(((a5 j hj).1.set (by omega)).set (by omega)).set (by omega), (a5 j hj).2⟩, by simp; omega⟩
  refine (((a3.set 0 (.int .i64 h')).set 1 (.int .i64 v')).set 2 (.int .i64 c')).congr fun q hq => ?_
  rcases (show q = 0 ∨ q = 1 ∨ q = 2 by omega) with rfl | rfl | rfl <;> rfl
theorem netF_all {W : World} {b : Nat} {H V C : Int} {u : Value} {F : Nat → Value} (h : W.rowIs b 31 5 F) : (((((W.setCell ⟨b, 0, none⟩ (.string nmX)).setCell ⟨b, 1, none⟩ (.int .i64 H)).setCell ⟨b, 2, none⟩ (.int .i64 V)).setCell ⟨b, 3, none⟩ (.int .i64 C)).setCell ⟨b, 4, none⟩ u).rowIs b 31 5 (netF nmX H V C u) := by
  refine (((((h.set 0 (.string nmX)).set 1 (.int .i64 H)).set 2 (.int .i64 V)).set 3 (.int .i64 C)).set 4 u).congr fun q hq => ?_
  rcases (show q = 0 ∨ q = 1 ∨ q = 2 ∨ q = 3 ∨ q = 4 by omega) with rfl | rfl | rfl | rfl | rfl <;> rfl
end Go.Proofs.Ytkhlhcbbbhbgeaa.Nn
/- PLAINBIG: the long network, made: the memory of its first layer. -/
namespace Go.Proofs.Ytkhlhcbbbhbgeaa.Nn
open Go.RowKit

theorem ownNeB {W : World} {b1 b2 e1 e2 s1 s2 n1 n2 q : Nat} {v1 v2 : Value} {x1 x2 : List Value} (h1 : W.ownsRow b1 e1 s1 v1 n1 x1) (h2 : W.ownsRow b2 e2 s2 v2 n2 x2) (hne : e1 ≠ e2) (hq : v2.ownBlock = some q) : ∀ p, v1.ownBlock = some p → p ≠ q := fun p hp e => by
  subst e
  rcases own_neD h1 h2 hne with h | h
  · rw [h] at hp; cases hp
  · exact h (hp.trans hq.symm)
theorem rowNeB {W : World} {g t k b2 e2 s2 n2 q : Nat} {F : Nat → Value} {v2 : Value} {x2 : List Value} (h : W.rowIs g t k F) (h2 : W.ownsRow b2 e2 s2 v2 n2 x2) (hne : e2 ≠ t) (hq : v2.ownBlock = some q) : g ≠ q := fun e => (own_ne_row h2 h hne q hq) e.symm
theorem Lo.hiB {W : World} {base g j t k : Nat} {L : Ly} {u : Value} {F : Nat → Value} (h : Lo W base L) (hr : W.rowIs g t k F) (h8 : 60 ≠ t) (hn : 62 ≠ t) (h6 : 2 ≠ t) : Lo (W.setCell ⟨g, j, none⟩ u) base L := ⟨own_setHi h.1 hr.lt hr h8, own_setHi h.2.1 hr.lt hr hn, own_setHi h.2.2 hr.lt hr h6⟩
def laG (aw : Option Addr) (nw cw : Nat) (an : Option Addr) (nn cn : Nat) : Ly := ⟨1, 1, 2774, 1, 1, 1, 1, 0, 0, 0, 0, 0, aw, nw, cw, an, nn, cn, none, 0, 0, fun _ => 1, fun _ i => [1, 1, 0, 1, 0, 1, 1, 1].getD i 0, fun _ => 0⟩
def one8 (n : Nat) : List Int := (List.range n).map fun _ => 1
theorem one8_succ (n : Nat) : one8 (n + 1) = one8 n ++ [1] := by unfold one8; rw [List.range_succ, List.map_append]; rfl
/-- What stands ahead of the first layer. -/
def Fx (W : World) (B : Nat) : Prop := W.heap[B]? = some netZ ∧ W.heap[B + 1]? = some (.cells #[.int .i64 1, .int .i64 1] 59) ∧ W.heap[B + 2]? = some (.cells #[.int .i64 0, .int .i64 1] 59) ∧ W.heap[B + 3]? = some (.cells #[.int .i64 1, .int .i64 1, .int .i64 1, .int .i64 1, .int .i64 0, .int .i64 0, .int .i64 0, .int .i64 0] 43)
theorem Fx.of {W X : World} {B : Nat} (h : Fx W B) (hb : ∀ b, b < B + 4 → X.heap[b]? = W.heap[b]?) : Fx X B := ⟨(hb _ (by omega)).trans h.1, (hb _ (by omega)).trans h.2.1, (hb _ (by omega)).trans h.2.2.1, (hb _ (by omega)).trans h.2.2.2⟩
def LA (W w0 : World) (B : Nat) (aw : Option Addr) (nw cw : Nat) (an : Option Addr) (nn cn : Nat) : Prop :=
  Fx W B ∧ W.rowIs (B + 4) 47 15 (lyf (laG aw nw cw an nn cn)) ∧ W.ownsRow (B + 5) 60 1 (.slice aw nw cw) nw (i8L (one8 nw)) ∧ W.ownsRow (B + 5) 62 8 (.slice an nn cn) nn (nmL (fun _ i => [1, 1, 0, 1, 0, 1, 1, 1].getD i 0) nn) ∧ B + 5 ≤ W.heap.size ∧ Below w0.heap.size w0 W
theorem gr_low {W y : World} {B : Nat} {q : Option Nat} {o : Obj} (gr : (W.alloc o).grownBy y q) (hq : ∀ k, q = some k → B + 5 ≤ k) (hs : B + 5 ≤ W.heap.size) : ∀ b, b < B + 5 → y.heap[b]? = W.heap[b]? := fun b hb => by
  rw [gr.block b (by simp; omega) (fun e => by have := hq b e.symm; omega), old_block _ _ (by omega)]
theorem LA.stepW {W y w0 : World} {B : Nat} {aw an a2 : Option Addr} {nw cw nn cn c2 : Nat} {o : Obj} (hB : w0.heap.size = B) (h : LA W w0 B aw nw cw an nn cn) (own2 : y.ownsRow (B + 5) 60 1 (.slice a2 (nw + 1) c2) (nw + 1) (i8L (one8 nw ++ [1]))) (gr : (W.alloc o).grownBy y (Value.slice aw nw cw).ownBlock) :
    y.rowIs (B + 4) 47 15 (lyf (laG aw nw cw an nn cn)) ∧ LA (y.setCell ⟨B + 4, 12, none⟩ (.slice a2 (nw + 1) c2)) w0 B a2 (nw + 1) c2 an nn cn := by
  obtain ⟨h1, h2, h3, h4, h5, h6⟩ := h
  have hq : ∀ k, (Value.slice aw nw cw).ownBlock = some k → B + 5 ≤ k := fun k hk => (h3.lt k hk).1
  have lo := gr_low gr hq h5
  have R := World.rowIs.of_block h2 (lo (B + 4) (by omega))
  have by1 : Below w0.heap.size w0 y := gr_bel gr (bl_alloc h6 o) (fun k hk => by have := hq k hk; omega)
  refine ⟨R, h1.of fun b hb => ?_, ?_, ?_, ?_, ?_, bl_set by1 (by omega) _⟩
  · rw [Below.heap_setCell _ _ _ _ (by show b ≠ B + 4; omega)]
    exact lo b (by omega)
  · exact lyf_set R (laG a2 (nw + 1) c2 an nn cn) 12 _ ⟨rfl, rfl, rfl, rfl, rfl, rfl, rfl, rfl, rfl, rfl, rfl, rfl, rfl, rfl, rfl⟩
  · rw [one8_succ]; exact own_setD own2 (by omega)
  · refine own_setD ((own_bl h4 (bl_alloc (Below.refl _ _) o)).kept gr ?_) (by omega)
    cases hv : (Value.slice an nn cn).ownBlock with
    | none => exact .inl rfl
    | some p => exact .inr (fun e => ownNeB h4 h3 (by decide) e.symm p hv rfl)
  · have := gr.size
    simp at this ⊢
    omega
theorem LA.stepN {W y w0 : World} {B : Nat} {aw an a2 : Option Addr} {nw cw nn cn c2 : Nat} {o : Obj} (hB : w0.heap.size = B) (h : LA W w0 B aw nw cw an nn cn) (own2 : y.ownsRow (B + 5) 62 8 (.slice a2 (nn + 1) c2) (nn + 1) (nmL (fun _ i => [1, 1, 0, 1, 0, 1, 1, 1].getD i 0) nn ++ nmC fun i => [1, 1, 0, 1, 0, 1, 1, 1].getD i 0)) (gr : (W.alloc o).grownBy y (Value.slice an nn cn).ownBlock) :
    y.rowIs (B + 4) 47 15 (lyf (laG aw nw cw an nn cn)) ∧ LA (y.setCell ⟨B + 4, 13, none⟩ (.slice a2 (nn + 1) c2)) w0 B aw nw cw a2 (nn + 1) c2 := by
  obtain ⟨h1, h2, h3, h4, h5, h6⟩ := h
  have hq : ∀ k, (Value.slice an nn cn).ownBlock = some k → B + 5 ≤ k := fun k hk => (h4.lt k hk).1
  have lo := gr_low gr hq h5
  have R := World.rowIs.of_block h2 (lo (B + 4) (by omega))
  have by1 : Below w0.heap.size w0 y := gr_bel gr (bl_alloc h6 o) (fun k hk => by have := hq k hk; omega)
  refine ⟨R, h1.of fun b hb => ?_, ?_, ?_, ?_, ?_, bl_set by1 (by omega) _⟩
  · rw [Below.heap_setCell _ _ _ _ (by show b ≠ B + 4; omega)]
    exact lo b (by omega)
  · exact lyf_set R (laG aw nw cw a2 (nn + 1) c2) 13 _ ⟨rfl, rfl, rfl, rfl, rfl, rfl, rfl, rfl, rfl, rfl, rfl, rfl, rfl, rfl, rfl⟩
  · refine own_setD ((own_bl h3 (bl_alloc (Below.refl _ _) o)).kept gr ?_) (by omega)
    cases hv : (Value.slice aw nw cw).ownBlock with
    | none => exact .inl rfl
    | some p => exact .inr (fun e => ownNeB h3 h4 (by decide) e.symm p hv rfl)
  · exact own_setD own2 (by omega)
  · have := gr.size
    simp at this ⊢
    omega
end Go.Proofs.Ytkhlhcbbbhbgeaa.Nn
/- PLAINBIG: the long network, made: its last layer. -/
namespace Go.Proofs.Ytkhlhcbbbhbgeaa.Nn
open Go.RowKit

def laE (k n : Nat) (aw ab : Option Addr) : Ly := ⟨2, 1, k, 0, 0, 0, 0, 0, 0, 0, 0, 0, aw, n, n, none, 0, 0, ab, k, k, fun _ => 1, fun _ _ => 0, fun _ => 0⟩
def zer8 (n : Nat) : Obj := .cells (madeCells #[.int .i8 0] n) 60
def zer64 (n : Nat) : Obj := .cells (madeCells #[.int .i64 0] n) 2
theorem at0 {Z : World} {o1 o2 o3 : Obj} : (((Z.alloc o1).alloc o2).alloc o3).drew.heap[Z.heap.size]? = some o1 := old_at (old_at (new_at rfl _) _) _
theorem at1 {Z : World} {o1 o2 o3 : Obj} : (((Z.alloc o1).alloc o2).alloc o3).drew.heap[Z.heap.size + 1]? = some o2 := old_at (new_at (by simp) _) _
theorem at2 {Z : World} {o1 o2 o3 : Obj} : (((Z.alloc o1).alloc o2).alloc o3).drew.heap[Z.heap.size + 1 + 1]? = some o3 := new_at (by simp) _
theorem ly_row {W : World} {g : Nat} {L : Ly} (h : W.heap[g]? = some (lyo L)) : W.rowIs g 47 15 (lyf L) := ⟨_, h, rfl, fun i hi => by
  rcases (show i = 0 ∨ i = 1 ∨ i = 2 ∨ i = 3 ∨ i = 4 ∨ i = 5 ∨ i = 6 ∨ i = 7 ∨ i = 8 ∨ i = 9 ∨ i = 10 ∨ i = 11 ∨ i = 12 ∨ i = 13 ∨ i = 14 by omega) with rfl | rfl | rfl | rfl | rfl | rfl | rfl | rfl | rfl | rfl | rfl | rfl | rfl | rfl | rfl <;> rfl⟩
noncomputable def cl15 : Code := (Try.f6.body.bind (regionOf 15)).getD .skip
set_option maxHeartbeats 6400000 in
set_option maxRecDepth 100000 in
theorem long_r15 (u1 u2 u3 u4 u5 u6 u7 u8 u9 u10 u11 u12 u13 u14 u15 u16 u17 u18 u19 u20 u21 u22 u23 u24 u25 u26 u27 u28 u29 u30 u31 u32 u33 u34 u35 u36 u37 u38 u39 u40 u41 u42 u43 u44 u45 u46 u47 u48 u49 u50 u51 u52 u53 u54 u55 u56 u57 u58 u59 u60 u61 u62 u63 u64 u65 u66 u67 u68 u69 u70 u71 u72 u73 u74 u75 : Value) (k n : Nat) (hk : 1 ≤ k ∧ k ≤ 20) (hn : n = 66576 * k) (Z : World) (Q : Exit → Act → World → Prop)
    (hQ : Hid (∀ (X : World) (g10 gw gb : Nat) (v51 v52 v53 v54 v55 v56 v57 : Value), (X.rowIs g10 47 15 (lyf (laE k n (some ⟨gw, 0, none⟩) (some ⟨gb, 0, none⟩))) ∧ X.heap[gw]? = some (zer8 n) ∧ X.heap[gb]? = some (zer64 k) ∧ Z.heap.size ≤ gw ∧ Z.heap.size ≤ gb ∧ Z.heap.size ≤ g10 ∧ Below Z.heap.size Z X) → Q .normal ⟨#[.int .i64 (k : Int), u1, u2, u3, u4, u5, u6, u7, u8, u9, .pointer (some ⟨g10, 0, none⟩), u11, u12, u13, u14, u15, u16, u17, u18, u19, u20, u21, u22, u23, u24, u25, u26, u27, u28, u29, u30, u31, u32, u33, u34, u35, u36, u37, u38, u39, u40, u41, u42, u43, u44, u45, u46, u47, u48, u49, u50, v51, v52, v53, v54, v55, v56, v57, u58, u59, u60, u61, u62, u63, u64, u65, u66, u67, u68, u69, u70, u71, u72, u73, u74, u75], []⟩ X)) :
    Code.wp Try.prog cl15 Q ⟨#[.int .i64 (k : Int), u1, u2, u3, u4, u5, u6, u7, u8, u9, u10, u11, u12, u13, u14, u15, u16, u17, u18, u19, u20, u21, u22, u23, u24, u25, u26, u27, u28, u29, u30, u31, u32, u33, u34, u35, u36, u37, u38, u39, u40, u41, u42, u43, u44, u45, u46, u47, u48, u49, u50, u51, u52, u53, u54, u55, u56, u57, u58, u59, u60, u61, u62, u63, u64, u65, u66, u67, u68, u69, u70, u71, u72, u73, u74, u75], []⟩ Z := by
  conv => arg 2; whnf
  obtain ⟨i0, hi, hz0, hz1, hz2⟩ := info_parts info_i8P
  have mkW : ∀ w, (Instr.makeSlice 44 (.int .i64 (n : Int)) (.int .i64 (n : Int))).run Try.prog w = .ok (.slice (some ⟨w.heap.size, 0, none⟩) n n) (w.alloc (zer8 n)) := fun w => run_make_row 44 60 i0 (.int .i8 0) und_i8P hi hz0 hz1 rfl .i64 .i64 n (by rw [hz2]; omega) (by omega) w
  obtain ⟨i1, hi', hz0', hz1', hz2'⟩ := info_parts info_i64
  have mkB : ∀ w, (Instr.makeSlice 34 (.int .i64 (k : Int)) (.int .i64 (k : Int))).run Try.prog w = .ok (.slice (some ⟨w.heap.size, 0, none⟩) k k) (w.alloc (zer64 k)) := fun w => run_make_row 34 2 i1 (.int .i64 0) und_i64s hi' hz0' hz1' rfl .i64 .i64 k (by rw [hz2']; omega) (by omega) w
  have em : IntKind.i64.wrap (66576 * (k : Int)) = (n : Int) := by rw [IntKind.wrap_i64]; omega
  have HNK := hid1 hn
  clear hn
  clear hi hz0 hz1 hz2 hi' hz0' hz1' hz2'
  have hfo := followsP
  refine wp_region_noPanic ?_
  go_region_held3 (fun _ => True) (trivial) (fail)
  all_goals (refine NoPanic.normal ?_; exact hQ.out _ _ _ _ _ _ _ _ _ _ _ ⟨ly_row (by first | exact at0 | exact at1 | exact at2), (by first | exact at0 | exact at1 | exact at2), (by first | exact at0 | exact at1 | exact at2), by omega, by omega, by omega, (bl_alloc (bl_alloc (bl_alloc (Below.refl _ _) _) _) _).drew⟩)
end Go.Proofs.Ytkhlhcbbbhbgeaa.Nn
