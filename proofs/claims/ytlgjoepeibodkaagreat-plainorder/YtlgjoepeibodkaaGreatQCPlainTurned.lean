import Derived.Test.YtlgjoepeibodkaaGreatNP5
import Derived.Test.YtlgjoepeibodkaaGreatQBPlainTurned
import Derived.Test.YtlgjoepeibodkaaGreatNP4
import Derived.Test.YtlgjoepeibodkaaGreatSW3
import Derived.Test.YtlgjoepeibodkaaGreatSW4
import Derived.Test.YtlgjoepeibodkaaGreatNQ6
import Derived.Lib.QuietBelow
import Derived.BigQuiet
import Derived.Test.YtlgjoepeibodkaaGreatNF1
import Derived.Deep.DrawnRows
import Derived.Test.YtlgjoepeibodkaaGreatNQ7
import Derived.Test.YtlgjoepeibodkaaGreatNQ8
import Derived.Deep.DeepCutAuto
/- NETWORKS: THE CHAPTER'S EXAMPLE. -/
namespace Go.Proofs.YtlgjoepeibodkaaGreat.Nn
open Go.RowKit

def exA (B : Nat) : Ly := ⟨1, 1, 1, 2, 2, 1, 1, 1, 1, 1, 1, 1, some ⟨B + 4, 0, none⟩, 4, 4, some ⟨B + 5, 0, none⟩, 1, 1, none, 0, 0, fun j => [1, -1, -1, 1].getD j 0, fun _ i => [1, 1, 0, 1, 0, 1, 1, 1].getD i 0, fun _ => 0⟩
def exP : Ly := ⟨3, 0, 0, 2, 2, 1, 1, 0, 0, 0, 0, 0, none, 0, 0, none, 0, 0, none, 0, 0, fun _ => 0, fun _ _ => 0, fun _ => 0⟩
def exD (B : Nat) (x : Int) : Ly := ⟨2, 2, 2, 0, 0, 0, 0, 0, 0, 0, 0, 0, some ⟨B + 8, 0, none⟩, 8, 8, none, 0, 0, some ⟨B + 9, 0, none⟩, 2, 2, fun j => [1, 0, -1, 1, 0, 0, 0, 1].getD j 0, fun _ _ => 0, fun j => [x, -4].getD j 0⟩
def exN (B : Nat) (x : Int) : Nt := ⟨⟨#[110]⟩, 2, 2, 1, some ⟨B + 11, 0, none⟩, 3, 3, fun i => match i with | 0 => exA B | 1 => exP | _ => exD B x⟩
abbrev lcs (L : Ly) : List Value := [.int .i64 L.kd, .int .i64 L.wt, .int .i64 L.k, .int .i64 L.r, .int .i64 L.s, .int .i64 L.sy, .int .i64 L.sx, .int .i64 L.t, .int .i64 L.l, .int .i64 L.b, .int .i64 L.q, .int .i64 L.bd, .slice L.aw L.mw L.cw, .slice L.an L.mn L.cn, .slice L.ab L.mb L.cb]
abbrev i8c (l : List Int) : Array Value := (l.map (Value.int .i8)).toArray
abbrev i64c (l : List Int) : Array Value := (l.map (Value.int .i64)).toArray
abbrev exRow (B : Nat) : Array Value := #[.int .i64 (exA B).kd, .int .i64 (exA B).wt, .int .i64 (exA B).k, .int .i64 (exA B).r, .int .i64 (exA B).s, .int .i64 (exA B).sy, .int .i64 (exA B).sx, .int .i64 (exA B).t, .int .i64 (exA B).l, .int .i64 (exA B).b, .int .i64 (exA B).q, .int .i64 (exA B).bd, .slice (exA B).aw (exA B).mw (exA B).cw, .slice (exA B).an (exA B).mn (exA B).cn, .slice (exA B).ab (exA B).mb (exA B).cb, .int .i64 exP.kd, .int .i64 exP.wt, .int .i64 exP.k, .int .i64 exP.r, .int .i64 exP.s, .int .i64 exP.sy, .int .i64 exP.sx, .int .i64 exP.t, .int .i64 exP.l, .int .i64 exP.b, .int .i64 exP.q, .int .i64 exP.bd, .slice exP.aw exP.mw exP.cw, .slice exP.an exP.mn exP.cn, .slice exP.ab exP.mb exP.cb, .int .i64 (exD B 3).kd, .int .i64 (exD B 3).wt, .int .i64 (exD B 3).k, .int .i64 (exD B 3).r, .int .i64 (exD B 3).s, .int .i64 (exD B 3).sy, .int .i64 (exD B 3).sx, .int .i64 (exD B 3).t, .int .i64 (exD B 3).l, .int .i64 (exD B 3).b, .int .i64 (exD B 3).q, .int .i64 (exD B 3).bd, .slice (exD B 3).aw (exD B 3).mw (exD B 3).cw, .slice (exD B 3).an (exD B 3).mn (exD B 3).cn, .slice (exD B 3).ab (exD B 3).mb (exD B 3).cb]
/-- The example's lists lie in memory. -/
def ExB (W : World) (B : Nat) (x : Int) : Prop := W.heap[B + 4]? = some (.cells (i8c [1, -1, -1, 1]) 39) ∧ W.heap[B + 5]? = some (.cells (i64c [1, 1, 0, 1, 0, 1, 1, 1]) 43) ∧ W.heap[B + 8]? = some (.cells (i8c [1, 0, -1, 1, 0, 0, 0, 1]) 39) ∧ W.heap[B + 9]? = some (.cells (i64c [x, -4]) 2) ∧ W.heap[B + 11]? = some (.cells (exRow B) 38)
theorem lt_block {W : World} {b : Nat} {o : Obj} (h : W.heap[b]? = some o) : b < W.heap.size := (Array.getElem?_eq_some_iff.1 h).1
theorem keepb {W w' : World} (hb : Below W.heap.size W w') {b : Nat} {o : Obj} (h : W.heap[b]? = some o) : w'.heap[b]? = some o := (hb.block b (lt_block h)).trans h
theorem ExB.keep {W w' : World} {B : Nat} {x : Int} (h : ExB W B x) (hb : Below W.heap.size W w') : ExB w' B x := ⟨keepb hb h.1, keepb hb h.2.1, keepb hb h.2.2.1, keepb hb h.2.2.2.1, keepb hb h.2.2.2.2⟩
theorem bcl {W : World} {b : Nat} {cs : Array Value} {t : TypeId} (h : W.heap[b]? = some (.cells cs t)) {j : Nat} {v : Value} (e : cs[j]? = some v) : W.cell? ⟨b, j, none⟩ = some v := (block_cell h j).trans e
theorem four' {p : Nat → Prop} {i n : Nat} (h : i < n) (hp : ∀ j : Fin n, p j.1) : p i := hp ⟨i, h⟩
theorem lst_nil {W : World} {L : Ly} (h1 : L.mw = 0) (h2 : L.mn = 0) (h3 : L.mb = 0) : Lst W L := ⟨fun j hj => by omega, fun j hj => by omega, fun j hj => by omega, by omega, by omega, by omega⟩
set_option maxRecDepth 10000 in
theorem exB_A {W : World} {B : Nat} {x : Int} (h : ExB W B x) : Lst W (exA B) := by
  refine ⟨fun j hj => ⟨B + 4, 0, rfl, ?_⟩, fun j hj => ⟨B + 5, 0, rfl, ?_⟩, fun j hj => absurd hj (Nat.not_lt_zero j), (show (4 : Nat) ≤ 9223372036854775807 by decide), (show (1 : Nat) ≤ 9223372036854775807 by decide), (show (0 : Nat) ≤ 9223372036854775807 by decide)⟩
  · change j < 4 at hj
    rcases (show j = 0 ∨ j = 1 ∨ j = 2 ∨ j = 3 by omega) with rfl | rfl | rfl | rfl <;> exact bcl h.1 rfl
  · change j < 1 at hj
    obtain rfl : j = 0 := by omega
    exact ⟨bcl h.2.1 rfl, bcl h.2.1 rfl, bcl h.2.1 rfl, bcl h.2.1 rfl, bcl h.2.1 rfl, bcl h.2.1 rfl, bcl h.2.1 rfl, bcl h.2.1 rfl⟩
set_option maxRecDepth 10000 in
theorem exB_D {W : World} {B : Nat} {x : Int} (h : ExB W B x) : Lst W (exD B x) := by
  refine ⟨fun j hj => ⟨B + 8, 0, rfl, ?_⟩, fun j hj => absurd hj (Nat.not_lt_zero j), fun j hj => ⟨B + 9, 0, rfl, ?_⟩, (show (8 : Nat) ≤ 9223372036854775807 by decide), (show (0 : Nat) ≤ 9223372036854775807 by decide), (show (2 : Nat) ≤ 9223372036854775807 by decide)⟩
  · change j < 8 at hj
    rcases (show j = 0 ∨ j = 1 ∨ j = 2 ∨ j = 3 ∨ j = 4 ∨ j = 5 ∨ j = 6 ∨ j = 7 by omega) with rfl | rfl | rfl | rfl | rfl | rfl | rfl | rfl <;> exact bcl h.2.2.1 rfl
  · change j < 2 at hj
    rcases (show j = 0 ∨ j = 1 by omega) with rfl | rfl <;> exact bcl h.2.2.2.1 rfl
set_option maxRecDepth 10000 in
theorem exW {W : World} {B : Nat} {x : Int} (h : ExB W B x) : NtW W (exN B x) := by
  refine ⟨fun i hi => ⟨B + 11, 0, rfl, ?_⟩, (show (3 : Nat) ≤ 9223372036854775807 by decide), (show (1 : Nat) ≤ 9223372036854775807 by decide)⟩
  change i < 3 at hi
  have hb := h.2.2.2.2
  rcases (show i = 0 ∨ i = 1 ∨ i = 2 by omega) with rfl | rfl | rfl
  · exact ⟨⟨bcl hb rfl, bcl hb rfl, bcl hb rfl, bcl hb rfl, bcl hb rfl, bcl hb rfl, bcl hb rfl, bcl hb rfl, bcl hb rfl, bcl hb rfl, bcl hb rfl, bcl hb rfl, bcl hb rfl, bcl hb rfl, bcl hb rfl⟩, exB_A h⟩
  · exact ⟨⟨bcl hb rfl, bcl hb rfl, bcl hb rfl, bcl hb rfl, bcl hb rfl, bcl hb rfl, bcl hb rfl, bcl hb rfl, bcl hb rfl, bcl hb rfl, bcl hb rfl, bcl hb rfl, bcl hb rfl, bcl hb rfl, bcl hb rfl⟩, lst_nil rfl rfl rfl⟩
  · exact ⟨⟨bcl hb rfl, bcl hb rfl, bcl hb rfl, bcl hb rfl, bcl hb rfl, bcl hb rfl, bcl hb rfl, bcl hb rfl, bcl hb rfl, bcl hb rfl, bcl hb rfl, bcl hb rfl, bcl hb rfl, bcl hb rfl, bcl hb rfl⟩, exB_D h⟩
set_option maxRecDepth 10000 in
theorem ex_ok (B : Nat) : chE (exN B 3) = 0 ∧ chA (exN B 3) = 0 := by
  have h0 : whE (exN B 3) = 0 := by kernel_rfl
  refine ch_ok h0 fun j hj => ?_
  change j < 3 at hj
  rcases (show j = 0 ∨ j = 1 ∨ j = 2 by omega) with rfl | rfl | rfl <;> kernel_rfl
set_option maxRecDepth 10000 in
theorem ex_no (B : Nat) : chE (exN B 2147483644) = 55 ∧ chA (exN B 2147483644) = 2 := by
  have h0 : whE (exN B 2147483644) = 0 := by kernel_rfl
  have h2 : fl (exN B 2147483644) 2 = 55 := by kernel_rfl
  have := ch_at h0 (k := 2) (show 2 < 3 by decide) (fun j hj => by rcases (show j = 0 ∨ j = 1 by omega) with rfl | rfl <;> kernel_rfl) (by rw [h2]; decide)
  rw [h2] at this
  exact this
end Go.Proofs.YtlgjoepeibodkaaGreat.Nn
/- NETWORKS: THE CHAPTER'S EXAMPLE, MADE. -/
namespace Go.Proofs.YtlgjoepeibodkaaGreat.Nn
open Go.RowKit

theorem new_at {W : World} {g : Nat} (hg : W.heap.size = g) (o : Obj) : (W.alloc o).heap[g]? = some o := by subst hg; exact new_block W o
theorem old_at {W : World} {g : Nat} {o' : Obj} (h : W.heap[g]? = some o') (o : Obj) : (W.alloc o).heap[g]? = some o' := (old_block W o (lt_block h)).trans h
theorem bfz {W : World} {b : Nat} {cs : Array Value} {t : TypeId} (h : W.heap[b]? = some (.cells cs t)) (j : Nat) : W.frozen? ⟨b, j, none⟩ = false := by simp [World.frozen?, h]
theorem ExB.exc {W w' : World} {B b : Nat} {x : Int} (h : ExB W B x) (hb : Exc b W w') (hne : b ≤ B) : ExB w' B x := ⟨(hb.2 _ (by omega)).trans h.1, (hb.2 _ (by omega)).trans h.2.1, (hb.2 _ (by omega)).trans h.2.2.1, (hb.2 _ (by omega)).trans h.2.2.2.1, (hb.2 _ (by omega)).trans h.2.2.2.2⟩
theorem row_of_block {W : World} {b : Nat} {c : Array Value} {t : TypeId} (h : W.heap[b]? = some (.cells c t)) : W.rowIs b t c.size (fun i => (c[i]?).getD undef) := ⟨c, h, rfl, fun i hi => by simp [hi]⟩
theorem gen_body {P : Program} {fn : Func} {R : Ending → World → Prop} {x : Exit} {a : Act} {W : World} (p : World → Prop) (hp : p W) (h : ∀ W', p W' → bodyPost P fn R x a W') : bodyPost P fn R x a W := h W hp
theorem net_cells {W : World} {g : Nat} {t : TypeId} {f : Nat → Value} {a b c d e : Value} (h : W.rowIs g t 5 f) : (((((W.setCell ⟨g, 0, none⟩ a).setCell ⟨g, 1, none⟩ b).setCell ⟨g, 2, none⟩ c).setCell ⟨g, 3, none⟩ d).setCell ⟨g, 4, none⟩ e).rowIs g t 5 (fun j => match j with | 0 => a | 1 => b | 2 => c | 3 => d | _ => e) :=
  (((((h.set 0 a).set 1 b).set 2 c).set 3 d).set 4 e).congr fun i hi => by
    rcases (show i = 0 ∨ i = 1 ∨ i = 2 ∨ i = 3 ∨ i = 4 by omega) with rfl | rfl | rfl | rfl | rfl <;> rfl
abbrev netZ : Obj := .cells #[.string ⟨#[]⟩, .int .i64 0, .int .i64 0, .int .i64 0, .slice none 0 0] 26
abbrev layO (L : Ly) : Obj := .cells #[.int .i64 L.kd, .int .i64 L.wt, .int .i64 L.k, .int .i64 L.r, .int .i64 L.s, .int .i64 L.sy, .int .i64 L.sx, .int .i64 L.t, .int .i64 L.l, .int .i64 L.b, .int .i64 L.q, .int .i64 L.bd, .slice L.aw L.mw L.cw, .slice L.an L.mn L.cn, .slice L.ab L.mb L.cb] 38
abbrev row3 (LA LB LC : Ly) : Array Value := #[.int .i64 LA.kd, .int .i64 LA.wt, .int .i64 LA.k, .int .i64 LA.r, .int .i64 LA.s, .int .i64 LA.sy, .int .i64 LA.sx, .int .i64 LA.t, .int .i64 LA.l, .int .i64 LA.b, .int .i64 LA.q, .int .i64 LA.bd, .slice LA.aw LA.mw LA.cw, .slice LA.an LA.mn LA.cn, .slice LA.ab LA.mb LA.cb, .int .i64 LB.kd, .int .i64 LB.wt, .int .i64 LB.k, .int .i64 LB.r, .int .i64 LB.s, .int .i64 LB.sy, .int .i64 LB.sx, .int .i64 LB.t, .int .i64 LB.l, .int .i64 LB.b, .int .i64 LB.q, .int .i64 LB.bd, .slice LB.aw LB.mw LB.cw, .slice LB.an LB.mn LB.cn, .slice LB.ab LB.mb LB.cb, .int .i64 LC.kd, .int .i64 LC.wt, .int .i64 LC.k, .int .i64 LC.r, .int .i64 LC.s, .int .i64 LC.sy, .int .i64 LC.sx, .int .i64 LC.t, .int .i64 LC.l, .int .i64 LC.b, .int .i64 LC.q, .int .i64 LC.bd, .slice LC.aw LC.mw LC.cw, .slice LC.an LC.mn LC.cn, .slice LC.ab LC.mb LC.cb]
end Go.Proofs.YtlgjoepeibodkaaGreat.Nn
/- PLAIN'S STATEMENTS: THE FIRST EXAMPLE, MADE. -/
namespace Go.Proofs.YtlgjoepeibodkaaGreat.Nn
open Go.RowKit

def e6A (B : Nat) : Ly := ⟨2, 1, 2, 0, 0, 0, 0, 0, 0, 0, 0, 0, some ⟨B + 4, 0, none⟩, 4, 4, some ⟨B + 5, 0, none⟩, 2, 2, none, 0, 0, fun j => [1, 1, 1, -1].getD j 0, fun _ i => [1, 1, 0, 1, 0, 1, 1, 1].getD i 0, fun _ => 0⟩
def e6B (B : Nat) : Ly := ⟨2, 2, 2, 0, 0, 0, 0, 0, 0, 0, 0, 0, some ⟨B + 7, 0, none⟩, 4, 4, none, 0, 0, some ⟨B + 8, 0, none⟩, 2, 2, fun j => [1, 0, -1, 1].getD j 0, fun _ _ => 0, fun j => [0, 5].getD j 0⟩
def e6N (B : Nat) : Nt := ⟨⟨#[110]⟩, 1, 1, 2, some ⟨B + 10, 0, none⟩, 2, 2, fun i => match i with | 0 => e6A B | _ => e6B B⟩
abbrev e6Row (B : Nat) : Array Value := #[.int .i64 (e6A B).kd, .int .i64 (e6A B).wt, .int .i64 (e6A B).k, .int .i64 (e6A B).r, .int .i64 (e6A B).s, .int .i64 (e6A B).sy, .int .i64 (e6A B).sx, .int .i64 (e6A B).t, .int .i64 (e6A B).l, .int .i64 (e6A B).b, .int .i64 (e6A B).q, .int .i64 (e6A B).bd, .slice (e6A B).aw (e6A B).mw (e6A B).cw, .slice (e6A B).an (e6A B).mn (e6A B).cn, .slice (e6A B).ab (e6A B).mb (e6A B).cb, .int .i64 (e6B B).kd, .int .i64 (e6B B).wt, .int .i64 (e6B B).k, .int .i64 (e6B B).r, .int .i64 (e6B B).s, .int .i64 (e6B B).sy, .int .i64 (e6B B).sx, .int .i64 (e6B B).t, .int .i64 (e6B B).l, .int .i64 (e6B B).b, .int .i64 (e6B B).q, .int .i64 (e6B B).bd, .slice (e6B B).aw (e6B B).mw (e6B B).cw, .slice (e6B B).an (e6B B).mn (e6B B).cn, .slice (e6B B).ab (e6B B).mb (e6B B).cb]
def E6B (W : World) (B : Nat) : Prop := W.heap[B + 4]? = some (.cells (i8c [1, 1, 1, -1]) 39) ∧ W.heap[B + 5]? = some (.cells (i64c [1, 1, 0, 1, 0, 1, 1, 1, 1, 1, 0, 1, 0, 1, 1, 1]) 43) ∧ W.heap[B + 7]? = some (.cells (i8c [1, 0, -1, 1]) 39) ∧ W.heap[B + 8]? = some (.cells (i64c [0, 5]) 2) ∧ W.heap[B + 10]? = some (.cells (e6Row B) 38)
theorem E6B.keep {W w' : World} {B : Nat} (h : E6B W B) (hb : Below W.heap.size W w') : E6B w' B := ⟨keepb hb h.1, keepb hb h.2.1, keepb hb h.2.2.1, keepb hb h.2.2.2.1, keepb hb h.2.2.2.2⟩
set_option maxRecDepth 10000 in
theorem e6W {W : World} {B : Nat} (h : E6B W B) : NtW W (e6N B) := by
  refine ⟨fun i hi => ⟨B + 10, 0, rfl, ?_⟩, (show (2 : Nat) ≤ 9223372036854775807 by decide), (show (1 : Nat) ≤ 9223372036854775807 by decide)⟩
  change i < 2 at hi
  have hb := h.2.2.2.2
  rcases (show i = 0 ∨ i = 1 by omega) with rfl | rfl
  · refine ⟨⟨bcl hb rfl, bcl hb rfl, bcl hb rfl, bcl hb rfl, bcl hb rfl, bcl hb rfl, bcl hb rfl, bcl hb rfl, bcl hb rfl, bcl hb rfl, bcl hb rfl, bcl hb rfl, bcl hb rfl, bcl hb rfl, bcl hb rfl⟩, fun j hj => ⟨B + 4, 0, rfl, ?_⟩, fun j hj => ⟨B + 5, 0, rfl, ?_⟩, fun j hj => absurd hj (Nat.not_lt_zero j), (show (4 : Nat) ≤ 9223372036854775807 by decide), (show (2 : Nat) ≤ 9223372036854775807 by decide), (show (0 : Nat) ≤ 9223372036854775807 by decide)⟩
    · change j < 4 at hj
      rcases (show j = 0 ∨ j = 1 ∨ j = 2 ∨ j = 3 by omega) with rfl | rfl | rfl | rfl <;> exact bcl h.1 rfl
    · change j < 2 at hj
      have h5 := h.2.1
      rcases (show j = 0 ∨ j = 1 by omega) with rfl | rfl
      · exact ⟨bcl h5 rfl, bcl h5 rfl, bcl h5 rfl, bcl h5 rfl, bcl h5 rfl, bcl h5 rfl, bcl h5 rfl, bcl h5 rfl⟩
      · exact ⟨bcl h5 rfl, bcl h5 rfl, bcl h5 rfl, bcl h5 rfl, bcl h5 rfl, bcl h5 rfl, bcl h5 rfl, bcl h5 rfl⟩
  · refine ⟨⟨bcl hb rfl, bcl hb rfl, bcl hb rfl, bcl hb rfl, bcl hb rfl, bcl hb rfl, bcl hb rfl, bcl hb rfl, bcl hb rfl, bcl hb rfl, bcl hb rfl, bcl hb rfl, bcl hb rfl, bcl hb rfl, bcl hb rfl⟩, fun j hj => ⟨B + 7, 0, rfl, ?_⟩, fun j hj => absurd hj (Nat.not_lt_zero j), fun j hj => ⟨B + 8, 0, rfl, ?_⟩, (show (4 : Nat) ≤ 9223372036854775807 by decide), (show (0 : Nat) ≤ 9223372036854775807 by decide), (show (2 : Nat) ≤ 9223372036854775807 by decide)⟩
    · change j < 4 at hj
      rcases (show j = 0 ∨ j = 1 ∨ j = 2 ∨ j = 3 by omega) with rfl | rfl | rfl | rfl <;> exact bcl h.2.2.1 rfl
    · change j < 2 at hj
      rcases (show j = 0 ∨ j = 1 by omega) with rfl | rfl <;> exact bcl h.2.2.2.1 rfl
set_option maxRecDepth 10000 in
theorem e6_ok (B : Nat) : chE (e6N B) = 0 ∧ chA (e6N B) = 0 := by
  have h0 : whE (e6N B) = 0 := by kernel_rfl
  refine ch_ok h0 fun j hj => ?_
  change j < 2 at hj
  rcases (show j = 0 ∨ j = 1 by omega) with rfl | rfl <;> kernel_rfl
set_option maxRecDepth 10000 in
theorem e6_sz (B : Nat) : szN (e6N B) 0 = 2 ∧ szN (e6N B) 1 = 2 ∧ szN (e6N B) 2 = 2 ∧ toN (e6N B) = 4 := ⟨by kernel_rfl, by kernel_rfl, by kernel_rfl, by kernel_rfl⟩
theorem e6_run (B : Nat) : valN (e6N B) (fun j => s8 ([128, 127].getD j 0)) 2 0 = -1 ∧ valN (e6N B) (fun j => s8 ([128, 127].getD j 0)) 2 1 = 5 := ⟨by kernel_rfl, by kernel_rfl⟩
theorem e6_tr (B : Nat) : (valN (e6N B) (fun j => s8 ([3, 4].getD j 0)) 1 0 = 1 ∧ valN (e6N B) (fun j => s8 ([3, 4].getD j 0)) 1 1 = -1) ∧ valN (e6N B) (fun j => s8 ([3, 4].getD j 0)) 2 0 = 1 ∧ valN (e6N B) (fun j => s8 ([3, 4].getD j 0)) 2 1 = 3 := ⟨⟨by kernel_rfl, by kernel_rfl⟩, by kernel_rfl, by kernel_rfl⟩
theorem heap_five {Y : World} {b c i j k l m : Nat} {u v x z y : Value} (hn : b ≠ c) : (((((Y.setCell ⟨c, i, none⟩ u).setCell ⟨c, j, none⟩ v).setCell ⟨c, k, none⟩ x).setCell ⟨c, l, none⟩ z).setCell ⟨c, m, none⟩ y).heap[b]? = Y.heap[b]? := by rw [Below.heap_setCell _ _ _ _ (by show b ≠ c; exact hn), heap_four hn]
set_option maxHeartbeats 3200000 in
set_option maxRecDepth 100000 in
theorem example6_any (w : World) : Calls Tryz.prog 14 #[] w fun e w' => e = .returned (ntv (e6N w.heap.size)) ∧ E6B w' w.heap.size ∧ Below w.heap.size w w' := by
  obtain ⟨B, hB⟩ : ∃ B, w.heap.size = B := ⟨_, rfl⟩
  rw [hB]
  go_enter Tryz.func14, Tryz.ntmps14
  go_upto_region 4 with fail
  refine gen_world (fun X => Below w.heap.size w X ∧ X.heap.size = B + 4 ∧ X.heap[B]? = some netZ ∧ X.heap[B + 3]? = some (.cells (i64c [1, 1, 0, 1, 0, 1, 1, 1]) 43)) ⟨by repeat (first | (with_reducible exact Below.refl _ _) | (with_reducible refine bl_alloc ?_ _) | (with_reducible refine Below.drew ?_) | (with_reducible refine bl_drewN ?_ _) | (with_reducible refine bl_set ?_ (by omega) _) | (with_reducible refine bl_step ?_ (by assumption))), by simp [hB], old_at (old_at (old_at (new_at hB _) _) _) _, new_at (by simp [hB]) _⟩ ?_
  rintro X ⟨BX, zX, r0, r3⟩
  have w0 := bcl r3 (j := 0) rfl; have w1 := bcl r3 (j := 1) rfl; have w2 := bcl r3 (j := 2) rfl; have w3 := bcl r3 (j := 3) rfl; have w4 := bcl r3 (j := 4) rfl; have w5 := bcl r3 (j := 5) rfl; have w6 := bcl r3 (j := 6) rfl; have w7 := bcl r3 (j := 7) rfl
  have l1 : B + 3 < X.heap.size := by omega
  go_upto_region 5 with fail
  clear w0 w1 w2 w3 w4 w5 w6 w7 l1
  refine gen_world (fun Y => Below w.heap.size w Y ∧ Y.heap.size = B + 7 ∧ Y.heap[B]? = some netZ ∧ Y.heap[B + 4]? = some (.cells (i8c [1, 1, 1, -1]) 39) ∧ Y.heap[B + 5]? = some (.cells (i64c [1, 1, 0, 1, 0, 1, 1, 1, 1, 1, 0, 1, 0, 1, 1, 1]) 43) ∧ Y.heap[B + 6]? = some (layO (e6A B))) ⟨by repeat (first | (with_reducible exact Below.refl _ _) | (with_reducible refine bl_alloc ?_ _) | (with_reducible refine Below.drew ?_) | (with_reducible refine bl_drewN ?_ _) | (with_reducible refine bl_set ?_ (by omega) _) | (with_reducible refine bl_step ?_ (by assumption))), by simp [zX], old_at (old_at (old_at r0 _) _) _, old_at (old_at (new_at zX _) _) _, old_at (new_at (by simp [zX]) _) _, new_at (by simp [zX]) _⟩ ?_
  clear r0 r3 zX BX X
  rintro Y ⟨BY, zY, r0, r4, r5, r6⟩
  go_upto_region 6 with fail
  refine gen_world (fun Z => Below w.heap.size w Z ∧ Z.heap.size = B + 10 ∧ Z.heap[B]? = some netZ ∧ Z.heap[B + 4]? = some (.cells (i8c [1, 1, 1, -1]) 39) ∧ Z.heap[B + 5]? = some (.cells (i64c [1, 1, 0, 1, 0, 1, 1, 1, 1, 1, 0, 1, 0, 1, 1, 1]) 43) ∧ Z.heap[B + 6]? = some (layO (e6A B)) ∧ Z.heap[B + 7]? = some (.cells (i8c [1, 0, -1, 1]) 39) ∧ Z.heap[B + 8]? = some (.cells (i64c [0, 5]) 2) ∧ Z.heap[B + 9]? = some (layO (e6B B))) ⟨by repeat (first | (with_reducible exact Below.refl _ _) | (with_reducible refine bl_alloc ?_ _) | (with_reducible refine Below.drew ?_) | (with_reducible refine bl_drewN ?_ _) | (with_reducible refine bl_set ?_ (by omega) _) | (with_reducible refine bl_step ?_ (by assumption))), by simp [zY], old_at (old_at (old_at r0 _) _) _, old_at (old_at (old_at r4 _) _) _, old_at (old_at (old_at r5 _) _) _, old_at (old_at (old_at r6 _) _) _, old_at (old_at (new_at zY _) _) _, old_at (new_at (by simp [zY]) _) _, new_at (by simp [zY]) _⟩ ?_
  clear r0 r4 r5 r6 zY BY Y
  rintro Z ⟨BZ, zZ, r0, r4, r5, r6, r7, r8, r9⟩
  have ⟨a0, a1, a2, a3, a4, a5, a6, a7, a8, a9, a10, a11, a12, a13, a14⟩ : Lp Z (B + 6) (e6A B) := ⟨bcl r6 rfl, bcl r6 rfl, bcl r6 rfl, bcl r6 rfl, bcl r6 rfl, bcl r6 rfl, bcl r6 rfl, bcl r6 rfl, bcl r6 rfl, bcl r6 rfl, bcl r6 rfl, bcl r6 rfl, bcl r6 rfl, bcl r6 rfl, bcl r6 rfl⟩
  have ⟨b0, b1, b2, b3, b4, b5, b6, b7, b8, b9, b10, b11, b12, b13, b14⟩ : Lp Z (B + 9) (e6B B) := ⟨bcl r9 rfl, bcl r9 rfl, bcl r9 rfl, bcl r9 rfl, bcl r9 rfl, bcl r9 rfl, bcl r9 rfl, bcl r9 rfl, bcl r9 rfl, bcl r9 rfl, bcl r9 rfl, bcl r9 rfl, bcl r9 rfl, bcl r9 rfl, bcl r9 rfl⟩
  have HR := hid1 (row_of_block r0)
  have hlt := lt_block r0
  have n0 := bcl r0 (j := 0) rfl; have n1 := bcl r0 (j := 1) rfl; have n2 := bcl r0 (j := 2) rfl; have n3 := bcl r0 (j := 3) rfl; have n4 := bcl r0 (j := 4) rfl
  have z0 := bfz r0 0; have z1 := bfz r0 1; have z2 := bfz r0 2; have z3 := bfz r0 3; have z4 := bfz r0 4
  have HZ := hid1 (And.intro r4 (And.intro r5 (And.intro r7 (And.intro r8 zZ))))
  have HBZ := hid1 BZ
  clear r0 r4 r5 r6 r7 r8 r9 BZ
  go_wp2_with fail
  clear n0 n1 n2 n3 n4 z0 z1 z2 z3 z4 a0 a1 a2 a3 a4 a5 a6 a7 a8 a9 a10 a11 a12 a13 a14 b0 b1 b2 b3 b4 b5 b6 b7 b8 b9 b10 b11 b12 b13 b14
  obtain ⟨r4, r5, r7, r8, zq⟩ := HZ.out
  refine gen_body (fun Y => Y.rowIs B 26 5 (fun j => match j with | 0 => .string ⟨#[110]⟩ | 1 => .int .i64 1 | 2 => .int .i64 1 | 3 => .int .i64 2 | _ => .slice (some ⟨B + 10, 0, none⟩) 2 2) ∧ E6B Y B ∧ Below B w Y) ⟨World.rowIs.alloc (net_cells HR.out) _, ⟨old_at ((heap_five (by omega)).trans r4) _, old_at ((heap_five (by omega)).trans r5) _, old_at ((heap_five (by omega)).trans r7) _, old_at ((heap_five (by omega)).trans r8) _, new_at (by simp [zq]) _⟩, hB ▸ bl_alloc (bl_set (bl_set (bl_set (bl_set (bl_set HBZ.out (by omega) _) (by omega) _) (by omega) _) (by omega) _) (by omega) _) _⟩ ?_
  rintro Y ⟨RY, EY, BY⟩
  have n0 := RY.cell (i := 0) (by decide)
  have n1 := RY.cell (i := 1) (by decide)
  have n2 := RY.cell (i := 2) (by decide)
  have n3 := RY.cell (i := 3) (by decide)
  have n4 := RY.cell (i := 4) (by decide)
  refine bodyPost_ret (v := ntv (e6N B)) (by simp [results, Tryz.results14, go_sem, n0, n1, n2, n3, n4, e6N]) rfl ⟨rfl, EY, BY⟩
end Go.Proofs.YtlgjoepeibodkaaGreat.Nn
/- PLAIN'S STATEMENTS: WHAT EACH ASKS AHEAD. -/
namespace Go.Proofs.YtlgjoepeibodkaaGreat.Nn
open Go.RowKit

theorem StR.congr {W : World} {ao : Option Addr} {n : Nat} {fh fv fc fh' fv' fc' : Nat → Int} {sz sz' : Nat → Nat} {val val' : Nat → Nat → Int} (h : StR W ao n fh fv fc sz val) (hc : ∀ j, j < n → fh j = fh' j ∧ fv j = fv' j ∧ fc j = fc' j ∧ sz j = sz' j ∧ ∀ i, i < sz j → val j i = val' j i) : StR W ao n fh' fv' fc' sz' val' := fun j hj => by
  obtain ⟨g, o, xo, xc, e, ⟨a, b, c⟩, d, r, l⟩ := h j hj
  obtain ⟨c1, c2, c3, c4, c5⟩ := hc j hj
  refine ⟨g, o, xo, xc, e, ⟨by rw [← c1]; exact a, by rw [← c2]; exact b, by rw [← c3]; exact c⟩, by rw [← c4]; exact d, fun i hi => ?_, by rw [← c4]; exact l⟩
  rw [← c4] at hi
  obtain ⟨g2, o2, e2, q⟩ := r i hi
  exact ⟨g2, o2, e2, by rw [← c5 i hi]; exact q⟩
theorem rb2 {W : World} {g : Nat} {a b : Int} (h : W.heap[g]? = some (.cells #[.int .u8 a, .int .u8 b] 5)) (ha : 0 ≤ a ∧ a < 256) (hb : 0 ≤ b ∧ b < 256) : RB W (some ⟨g, 0, none⟩) 2 (fun j => [a, b].getD j 0) := fun k hk => by
  rcases (show k = 0 ∨ k = 1 by omega) with rfl | rfl
  · exact ⟨g, 0, rfl, bcl h rfl, ha.1, ha.2⟩
  · exact ⟨g, 0, rfl, bcl h rfl, hb.1, hb.2⟩
theorem e6_gr (B : Nat) : grV (valN (e6N B) (fun j => s8 ([128, 127].getD j 0)) 2) 2 = 1 := by kernel_rfl
theorem e6_cap (B i : Nat) (hi : i < (e6N B).ml) : ((e6N B).lf i).mw ≤ ((e6N B).lf i).cw := by
  change i < 2 at hi
  rcases (show i = 0 ∨ i = 1 by omega) with rfl | rfl <;> exact Nat.le_refl 4
theorem e6_runs (B g : Nat) (W : World) (hE : E6B W B) (hx : W.heap[g]? = some (.cells #[.int .u8 128, .int .u8 127] 5)) :
    Calls Tryz.prog 12 #[ntv (e6N B), .slice (some ⟨g, 0, none⟩) 2 2] W fun e w' => ∃ g' cp, e = .returned (.tuple #[.agg #[.slice (some ⟨g', 0, none⟩) 2 cp, .int .i64 1], .int .i64 0]) ∧ R64 w' (some ⟨g', 0, none⟩) 2 (fun j => [-1, 5].getD j 0) ∧ Below W.heap.size W w' := by
  have h0 := (e6_sz B).1
  have h2 : szN (e6N B) (e6N B).ml = 2 := (e6_sz B).2.2.1
  have hr : RB W (some ⟨g, 0, none⟩) (szN (e6N B) 0) (fun j => [128, 127].getD j 0) := by rw [h0]; exact rb2 hx (by decide) (by decide)
  have := prun_all (e6N B) (e6_ok B).1 (e6_cap B) (some ⟨g, 0, none⟩) 2 (fun j => [128, 127].getD j 0) (fun j hj => by
    rw [h0] at hj
    rcases (show j = 0 ∨ j = 1 by omega) with rfl | rfl <;> decide) W (e6W hE) hr
  rw [h0, h2] at this
  refine this.mono ?_
  rintro e w' ⟨g', cp, rfl, -, R, hb⟩
  refine ⟨g', cp, congrArg (fun z => Ending.returned (.tuple #[.agg #[.slice (some ⟨g', 0, none⟩) 2 cp, .int .i64 z], .int .i64 0])) (show ((grV (valN (e6N B) (fun j => s8 ([128, 127].getD j 0)) 2) 2 : Nat) : Int) = 1 by rw [e6_gr B]; rfl), fun k hk => ?_, hb⟩
  · obtain ⟨a, o, e, c⟩ := R k hk
    refine ⟨a, o, e, ?_⟩
    rcases (show k = 0 ∨ k = 1 by omega) with rfl | rfl
    · rw [c, show valN (e6N B) (fun j => s8 ([128, 127].getD j 0)) (e6N B).ml 0 = -1 from (e6_run B).1]; rfl
    · rw [c, show valN (e6N B) (fun j => s8 ([128, 127].getD j 0)) (e6N B).ml 1 = 5 from (e6_run B).2]; rfl
def e6V (j i : Nat) : Int := if j = 0 then [1, -1].getD i 0 else [1, 3].getD i 0
theorem e6_shape (B : Nat) : ((sp (e6N B) 1).h = 1 ∧ (sp (e6N B) 1).v = 1 ∧ (sp (e6N B) 1).c = 2) ∧ (sp (e6N B) 2).h = 1 ∧ (sp (e6N B) 2).v = 1 ∧ (sp (e6N B) 2).c = 2 := ⟨⟨by kernel_rfl, by kernel_rfl, by kernel_rfl⟩, by kernel_rfl, by kernel_rfl, by kernel_rfl⟩
theorem e6_traces (B g : Nat) (W : World) (hE : E6B W B) (hx : W.heap[g]? = some (.cells #[.int .u8 3, .int .u8 4] 5)) :
    Calls Tryz.prog 8 #[ntv (e6N B), .slice (some ⟨g, 0, none⟩) 2 2] W fun e w' => ∃ g' cp, e = .returned (.tuple #[.slice (some ⟨g', 0, none⟩) 2 cp, .int .i64 0]) ∧ StR w' (some ⟨g', 0, none⟩) 2 (fun _ => 1) (fun _ => 1) (fun _ => 2) (fun _ => 2) e6V ∧ Below W.heap.size W w' := by
  have h0 := (e6_sz B).1
  have hr : RB W (some ⟨g, 0, none⟩) (szN (e6N B) 0) (fun j => [3, 4].getD j 0) := by rw [h0]; exact rb2 hx (by decide) (by decide)
  have := ptrace_all (e6N B) (e6_ok B).1 (e6_cap B) (by rw [(e6_sz B).2.2.2]; decide) (some ⟨g, 0, none⟩) 2 (fun j => [3, 4].getD j 0) (fun j hj => by
    rw [h0] at hj
    rcases (show j = 0 ∨ j = 1 by omega) with rfl | rfl <;> decide) W (e6W hE) hr
  rw [h0] at this
  refine this.mono ?_
  rintro e w' ⟨u, gl, cl, rfl, TS, hb⟩
  have hs : ∀ j, j < (e6N B).ml → 1 ≤ szN (e6N B) (j + 1) ∧ szN (e6N B) (j + 1) ≤ 9223372036854775807 := fun j hj => by
    change j < 2 at hj
    rcases (show j = 0 ∨ j = 1 by omega) with rfl | rfl
    · rw [(e6_sz B).2.1]; decide
    · rw [(e6_sz B).2.2.1]; decide
  obtain ⟨g', cp, rfl, -, S⟩ := TS.str (show 1 ≤ 2 by decide) hs
  refine ⟨g', cp, rfl, S.congr fun j hj => ?_, hb⟩
  change j < 2 at hj
  rcases (show j = 0 ∨ j = 1 by omega) with rfl | rfl
  · refine ⟨(e6_shape B).1.1, (e6_shape B).1.2.1, (e6_shape B).1.2.2, (e6_sz B).2.1, fun i hi => ?_⟩
    have hi : i < szN (e6N B) 1 := hi
    rw [(e6_sz B).2.1] at hi
    rcases (show i = 0 ∨ i = 1 by omega) with rfl | rfl
    · exact (e6_tr B).1.1
    · exact (e6_tr B).1.2
  · refine ⟨(e6_shape B).2.1, (e6_shape B).2.2.1, (e6_shape B).2.2.2, (e6_sz B).2.2.1, fun i hi => ?_⟩
    have hi : i < szN (e6N B) 2 := hi
    rw [(e6_sz B).2.2.1] at hi
    rcases (show i = 0 ∨ i = 1 by omega) with rfl | rfl
    · exact (e6_tr B).2.1
    · exact (e6_tr B).2.2
theorem r64_lit {W : World} {g : Nat} {a b : Int} (h : W.heap[g]? = some (.cells #[.int .i64 a, .int .i64 b] 2)) : R64 W (some ⟨g, 0, none⟩) 2 (fun j => [a, b].getD j 0) := fun k hk => by
  rcases (show k = 0 ∨ k = 1 by omega) with rfl | rfl
  · exact ⟨g, 0, rfl, bcl h rfl⟩
  · exact ⟨g, 0, rfl, bcl h rfl⟩
theorem st_lit {W : World} {g h k : Nat} (h1 : W.heap[g]? = some (.cells #[.int .i64 1, .int .i64 (-1)] 2)) (h2 : W.heap[h]? = some (.cells #[.int .i64 1, .int .i64 3] 2)) (h3 : W.heap[k]? = some (.cells #[.int .i64 1, .int .i64 1, .int .i64 2, .slice (some ⟨g, 0, none⟩) 2 2, .int .i64 1, .int .i64 1, .int .i64 2, .slice (some ⟨h, 0, none⟩) 2 2] 61)) : StR W (some ⟨k, 0, none⟩) 2 (fun _ => 1) (fun _ => 1) (fun _ => 2) (fun _ => 2) e6V := fun j hj => by
  rcases (show j = 0 ∨ j = 1 by omega) with rfl | rfl
  · exact ⟨k, 0, some ⟨g, 0, none⟩, 2, rfl, ⟨bcl h3 rfl, bcl h3 rfl, bcl h3 rfl⟩, bcl h3 rfl, fun i hi => by
      change i < 2 at hi
      rcases (show i = 0 ∨ i = 1 by omega) with rfl | rfl
      · exact ⟨g, 0, rfl, bcl h1 rfl⟩
      · exact ⟨g, 0, rfl, bcl h1 rfl⟩, by decide⟩
  · exact ⟨k, 0, some ⟨h, 0, none⟩, 2, rfl, ⟨bcl h3 rfl, bcl h3 rfl, bcl h3 rfl⟩, bcl h3 rfl, fun i hi => by
      change i < 2 at hi
      rcases (show i = 0 ∨ i = 1 by omega) with rfl | rfl
      · exact ⟨h, 0, rfl, bcl h2 rfl⟩
      · exact ⟨h, 0, rfl, bcl h2 rfl⟩, by decide⟩
set_option maxHeartbeats 3200000 in
set_option maxRecDepth 100000 in
theorem begun6_any (w : World) : Calls Tryz.prog 5 #[] w fun e w' => e = .returned (.bool true) ∧ Below w.heap.size w w' := by
  go_enter Tryz.func5, Tryz.ntmps5
  go_wp2_with fail
  refine (example6_any _).mono ?_
  rintro e z0 ⟨rfl, EB, hb0⟩
  generalize hB : w.heap.size = B at EB ⊢
  obtain ⟨gx, hgx⟩ : ∃ g, z0.heap.size = g := ⟨_, rfl⟩
  have C1 := hid1 (e6_runs B gx _ (EB.keep (bl_alloc (Below.refl _ _) _)) (new_at hgx (.cells #[.int .u8 128, .int .u8 127] 5)))
  have B0 := hid1 (bl_alloc hb0 (.cells #[.int .u8 128, .int .u8 127] 5))
  clear EB hb0
  go_wp2_with fail
  refine C1.out.mono ?_
  rintro e y1 ⟨g', cp, rfl, R, h1⟩
  have B1 := hid1 (bl_step B0.out h1)
  have HR := hid1 R
  clear C1 h1 R B0 hB
  obtain ⟨g1, hg1⟩ : ∃ g, y1.heap.size = g := ⟨_, rfl⟩
  go_upto_region 2 with fail
  refine gen_world (fun X => X.rowIs g1 54 2 (rsf (some ⟨g', 0, none⟩) 2 cp 1) ∧ R64 X (some ⟨g', 0, none⟩) 2 (fun j => [-1, 5].getD j 0) ∧ Below w.heap.size w X) ⟨by rw [← hg1]; exact rs_new _ _ _ _ _ _, HR.out.keep' (bl_alloc (Below.refl _ _) _), bl_alloc B1.out _⟩ ?_
  clear HR B1 hg1 hgx
  rintro X ⟨RX, R6, BX⟩
  go_wp2_with fail
  refine (example6_any _).mono ?_
  rintro e z2 ⟨rfl, EB, hb0⟩
  generalize hB : X.heap.size = B2 at EB ⊢
  obtain ⟨gx2, hgx⟩ : ∃ g, z2.heap.size = g := ⟨_, rfl⟩
  have C1 := hid1 (e6_traces B2 gx2 _ (EB.keep (bl_alloc (Below.refl _ _) _)) (new_at hgx (.cells #[.int .u8 3, .int .u8 4] 5)))
  have B0 := hid1 (bl_alloc hb0 (.cells #[.int .u8 3, .int .u8 4] 5))
  have HX := hid1 (And.intro RX (And.intro R6 BX))
  clear EB hb0 RX R6 BX
  go_wp2_with fail
  refine C1.out.mono ?_
  rintro e y2 ⟨gt, ct, rfl, ST, h2⟩
  have B2b := bl_step B0.out h2
  obtain ⟨RX, R6, BX⟩ := HX.out
  have HR1 := hid1 (World.rowIs.of_block RX (B2b.block _ RX.lt))
  have HR6 := hid1 (R6.keep' B2b)
  have HBX := hid1 (bl_step BX B2b)
  have HST := hid1 ST
  clear C1 h2 ST B0 HX RX R6 BX B2b hB hgx
  obtain ⟨g5, hg5⟩ : ∃ g, y2.heap.size = g := ⟨_, rfl⟩
  go_upto_region 4 with fail
  refine gen_world (fun X => X.heap[g5]? = some (.cells #[.int .i64 1, .int .i64 1, .int .i64 2] 23) ∧ X.heap.size = g5 + 1 ∧ Below y2.heap.size y2 X) ⟨new_at hg5 _, by simp [hg5], bl_alloc (Below.refl _ _) _⟩ ?_
  rintro X2 ⟨S5, zX2, BX2⟩
  have s0 := bcl S5 (j := 0) rfl
  have s1 := bcl S5 (j := 1) rfl
  have s2 := bcl S5 (j := 2) rfl
  have l5 : g5 < X2.heap.size := by omega
  clear S5
  go_upto_region 5 with fail
  refine gen_world (fun Z => StR Z (some ⟨g5 + 3, 0, none⟩) 2 (fun _ => 1) (fun _ => 1) (fun _ => 2) (fun _ => 2) e6V ∧ Below y2.heap.size y2 Z) ⟨st_lit (g := g5 + 1) (h := g5 + 2) (old_at (old_at (new_at zX2 _) _) _) (old_at (new_at (by simp [zX2]) _) _) (new_at (by simp [zX2]) _), bl_alloc (bl_alloc (bl_alloc BX2 _) _) _⟩ ?_
  clear s0 s1 s2 l5 zX2 BX2 hg5
  rintro Z ⟨SZ, BZ⟩
  have KR1 := World.rowIs.of_block HR1.out (BZ.block _ HR1.out.lt)
  have r0 : Z.cell? ⟨g1, 0, none⟩ = some (.slice (some ⟨g', 0, none⟩) 2 cp) := KR1.cell (i := 0) (by decide)
  have r1 : Z.cell? ⟨g1, 1, none⟩ = some (.int .i64 1) := KR1.cell (i := 1) (by decide)
  have HT := hid1 (HST.out.keep BZ)
  have HW := hid1 SZ
  have H6 := hid1 (HR6.out.keep' BZ)
  have HB := hid1 (bl_step HBX.out BZ)
  have lg := KR1.lt
  clear KR1 SZ BZ HST HR6 HBX HR1
  obtain ⟨gz, hgz⟩ : ∃ g, Z.heap.size = g := ⟨_, rfl⟩
  have CR := hid1 (results_same 2 (fun j => [-1, 5].getD j 0) 1 (some ⟨g', 0, none⟩) (some ⟨gz, 0, none⟩) cp 2 _ (by decide) (H6.out.keep' (bl_alloc (Below.refl _ _) _)) (r64_lit (new_at hgz (.cells #[.int .i64 (-1), .int .i64 5] 2))))
  have HT2 := hid1 (HT.out.keep (bl_alloc (Below.refl _ _) (.cells #[.int .i64 (-1), .int .i64 5] 2)))
  have HW2 := hid1 (HW.out.keep (bl_alloc (Below.refl _ _) (.cells #[.int .i64 (-1), .int .i64 5] 2)))
  have HB2 := hid1 (bl_alloc HB.out (.cells #[.int .i64 (-1), .int .i64 5] 2))
  clear HT HW HB H6
  go_wp2_with fail
  refine CR.out.mono ?_
  rintro e y4 ⟨rfl, h4⟩
  have CS := hid1 (steps_same 2 (fun _ => 1) (fun _ => 1) (fun _ => 2) (fun _ => 2) e6V (some ⟨gt, 0, none⟩) (some ⟨g5 + 3, 0, none⟩) ct 2 y4 (by decide) (HT2.out.keep h4) (HW2.out.keep h4))
  have HB3 := hid1 (bl_step HB2.out h4)
  clear CR r0 r1 h4 HT2 HW2 HB2
  go_wp2_with fail
  refine CS.out.mono ?_
  rintro e y5 ⟨rfl, h5⟩
  have HB4 := hid1 (bl_step HB3.out h5)
  clear h5 CS
  go_wp2_with fail
  go_ret
  exact ⟨rfl, HB4.out⟩
end Go.Proofs.YtlgjoepeibodkaaGreat.Nn
/- THE DOCUMENT'S NETWORKS: WHERE A LAYER STANDS. -/
namespace Go.Proofs.YtlgjoepeibodkaaGreat.Nn
open Go.RowKit

abbrev inv (at' : Int) (S : Sp) : Value := .agg #[.int .i64 at', .bool S.la, .int .i64 S.h, .int .i64 S.v, .int .i64 S.c, .int .i64 S.ah]
def Iv (W : World) (g : Nat) (at' : Int) (S : Sp) : Prop := W.cell? ⟨g, 0, none⟩ = some (.int .i64 at') ∧ W.cell? ⟨g, 1, none⟩ = some (.bool S.la) ∧ W.cell? ⟨g, 2, none⟩ = some (.int .i64 S.h) ∧ W.cell? ⟨g, 3, none⟩ = some (.int .i64 S.v) ∧ W.cell? ⟨g, 4, none⟩ = some (.int .i64 S.c) ∧ W.cell? ⟨g, 5, none⟩ = some (.int .i64 S.ah)
theorem Iv.keep {W w' : World} {g : Nat} {at' : Int} {S : Sp} (k : Iv W g at' S) (hb : Below W.heap.size W w') : Iv w' g at' S := by
  obtain ⟨c0, c1, c2, c3, c4, c5⟩ := k
  exact ⟨keepc hb c0, keepc hb c1, keepc hb c2, keepc hb c3, keepc hb c4, keepc hb c5⟩
theorem iv_new {W : World} {g : Nat} (hg : W.heap.size = g) (at' : Int) (S : Sp) (t : TypeId) : Iv (W.alloc (.cells #[.int .i64 at', .bool S.la, .int .i64 S.h, .int .i64 S.v, .int .i64 S.c, .int .i64 S.ah] t)) g at' S := by
  subst hg
  refine ⟨?_, ?_, ?_, ?_, ?_, ?_⟩ <;> simp [go_sem]
end Go.Proofs.YtlgjoepeibodkaaGreat.Nn
/- THE DOCUMENT'S NETWORKS: NAMES, KINDS, FAN-IN. -/
namespace Go.Proofs.YtlgjoepeibodkaaGreat.Nn
open Go.RowKit

set_option maxHeartbeats 1600000 in
set_option maxRecDepth 100000 in
theorem rnamed_any (s : ByteArray) (hs : s.size ≤ 9223372036854775807) (w : World) : Calls Tryz.prog 30 #[.string s] w fun e w' => e = .returned (.bool (nmB s)) ∧ w' = w := by
  by_cases h1 : s.size < 1
  · rw [nmB_len (by omega)]
    go_enter Tryz.func30, Tryz.ntmps30
    go_wp2
    go_ret
    exact ⟨rfl, rfl⟩
  · by_cases h2 : 32 < s.size
    · rw [nmB_len (by omega)]
      go_enter Tryz.func30, Tryz.ntmps30
      go_wp2
      go_ret
      exact ⟨rfl, rfl⟩
    · have HN := hid1 (fun k (hk : k < s.size) h => nmB_no hk h)
      have HO := hid1 (fun h => nmB_ok (s := s) (by omega) h)
      go_enter Tryz.func30, Tryz.ntmps30
      go_wp2_with fail
      go_loop [3] (fun i => ∃ k : Nat, k ≤ s.size ∧ i = .int .i64 k ∧ Hid (∀ j, j < k → inB (byt s j) = true)) (fun i => s.size - (intOf i).toNat)
      case atStart => exact ⟨0, Nat.zero_le _, rfl, hid1 fun j hj => absurd hj (by omega)⟩
      case round =>
        obtain ⟨k, hk, rfl, HA⟩ := hrel
        by_cases hlt : k < s.size
        · have hby := hid1 (byt_at hlt)
          have hn := HN.out k hlt
          have hc : (97 ≤ (s[k].toNat : Int) ∧ (s[k].toNat : Int) ≤ 122) ∨ (65 ≤ (s[k].toNat : Int) ∧ (s[k].toNat : Int) ≤ 90) ∨ (48 ≤ (s[k].toNat : Int) ∧ (s[k].toNat : Int) ≤ 57) ∨ (s[k].toNat : Int) = 95 ∨ (s[k].toNat : Int) = 45 ∨ (s[k].toNat : Int) < 45 ∨ (45 < (s[k].toNat : Int) ∧ (s[k].toNat : Int) < 48) ∨ (57 < (s[k].toNat : Int) ∧ (s[k].toNat : Int) < 65) ∨ (90 < (s[k].toNat : Int) ∧ (s[k].toNat : Int) < 95) ∨ (95 < (s[k].toNat : Int) ∧ (s[k].toNat : Int) < 97) ∨ 122 < (s[k].toNat : Int) := by omega
          by_cases hx : inB (byt s k) = true
          · have hy := hx
            rw [← hby.out] at hy
            have hy2 : (97 ≤ (s[k].toNat : Int) ∧ (s[k].toNat : Int) ≤ 122) ∨ (65 ≤ (s[k].toNat : Int) ∧ (s[k].toNat : Int) ≤ 90) ∨ (48 ≤ (s[k].toNat : Int) ∧ (s[k].toNat : Int) ≤ 57) ∨ (s[k].toNat : Int) = 95 ∨ (s[k].toNat : Int) = 45 := of_decide_eq_true hy
            have HX := hid1 hx
            clear hx hy hc hn
            generalize hcc : (s[k].toNat : Int) = c at hy2
            rcases hy2 with ⟨g1, g2⟩ | ⟨g1, g2⟩ | ⟨g1, g2⟩ | g1 | g1
            all_goals
              go_wp2_with fail
              go_round
              case rel => exact ⟨k + 1, by omega, by go_num, hid1 fun j hj => by
                by_cases e : j = k
                · rw [e]; exact HX.out
                · exact HA.out j (by omega)⟩
              case measure => simp [intOf]; omega
          · have hy : inB (byt s k) = false := by simpa using hx
            have HF := hid1 (hn hy)
            rw [← hby.out] at hy
            have hy2 := of_decide_eq_false hy
            clear hx hy hn
            generalize hcc : (s[k].toNat : Int) = c at hy2 hc
            have e1 : (c != 95) = true := by simp; omega
            have e2 : (c != 45) = true := by simp; omega
            have e3 : 48 ≤ c → decide (c ≤ 57) = false := fun h => by simp; omega
            have e4 : 65 ≤ c → decide (c ≤ 90) = false := fun h => by simp; omega
            have e5 : 97 ≤ c → decide (c ≤ 122) = false := fun h => by simp; omega
            rcases hc with ⟨g1, g2⟩ | ⟨g1, g2⟩ | ⟨g1, g2⟩ | g1 | g1 | g1 | ⟨g1, g2⟩ | ⟨g1, g2⟩ | ⟨g1, g2⟩ | ⟨g1, g2⟩ | g1
            · omega
            · omega
            · omega
            · omega
            · omega
            all_goals
              clear hy2
              go_wp2_with fail
              go_ret
              exact ⟨by rw [HF.out]; first | rfl | (simp; omega), rfl⟩
        · have : k = s.size := by omega
          subst this
          go_wp2_with fail
          go_ret
          exact ⟨by rw [HO.out HA.out]; rfl, rfl⟩
def rkE (L : Ly) (S : Sp) : Int := if L.kd = 1 then (if S.la = true then 51 else ouE L) else if L.kd = 2 then (if ouE L = 0 then nwE L else 30) else if L.kd = 3 then (if S.fs = true then 51 else if S.la = true then 51 else owE L) else 51
theorem ouE_ok {L : Ly} (h1 : 1 ≤ L.k) (h2 : L.k ≤ 4096) : ouE L = 0 := if_pos ⟨h1, h2⟩
theorem ouE_no {L : Ly} (h : ¬ (1 ≤ L.k ∧ L.k ≤ 4096)) : ouE L = 30 := if_neg h
set_option maxHeartbeats 3200000 in
set_option maxRecDepth 100000 in
theorem rkind_any (L : Ly) (S : Sp) (at' : Int) (hat : S.fs = decide (at' = 0)) (w : World) : Calls Tryz.prog 39 #[lyv L, inv at' S] w fun e w' => e = .returned (.int .i64 (rkE L S)) ∧ Below w.heap.size w w' := by
  obtain ⟨E, hE⟩ : ∃ E, rkE L S = E := ⟨_, rfl⟩
  rw [hE]
  unfold rkE at hE
  by_cases h1 : L.kd = 1
  · rw [if_pos h1] at hE
    by_cases hl : S.la = true
    · rw [if_pos hl] at hE
      subst hE
      clear hat
      go_enter Tryz.func39, Tryz.ntmps39
      go_wp2_with fail
      all_goals go_ret
      all_goals exact ⟨by first | rfl | simp [*], by repeat (first | (with_reducible exact Below.refl _ _) | (with_reducible refine bl_alloc ?_ _) | (with_reducible refine Below.drew ?_) | (with_reducible refine bl_drewN ?_ _) | (with_reducible refine bl_set ?_ (by omega) _) | (with_reducible refine bl_step ?_ (by assumption)))⟩
    · rw [if_neg hl] at hE
      have hl2 : S.la = false := by simpa using hl
      clear hl
      by_cases k1 : L.k < 1
      · rw [ouE_no (by omega)] at hE
        subst hE
        clear hat
        go_enter Tryz.func39, Tryz.ntmps39
        go_wp2_with fail
        all_goals go_ret
        all_goals exact ⟨by first | rfl | simp [*], by repeat (first | (with_reducible exact Below.refl _ _) | (with_reducible refine bl_alloc ?_ _) | (with_reducible refine Below.drew ?_) | (with_reducible refine bl_drewN ?_ _) | (with_reducible refine bl_set ?_ (by omega) _) | (with_reducible refine bl_step ?_ (by assumption)))⟩
      · by_cases k2 : 4096 < L.k
        · rw [ouE_no (by omega)] at hE
          subst hE
          clear hat
          go_enter Tryz.func39, Tryz.ntmps39
          go_wp2_with fail
          all_goals go_ret
          all_goals exact ⟨by first | rfl | simp [*], by repeat (first | (with_reducible exact Below.refl _ _) | (with_reducible refine bl_alloc ?_ _) | (with_reducible refine Below.drew ?_) | (with_reducible refine bl_drewN ?_ _) | (with_reducible refine bl_set ?_ (by omega) _) | (with_reducible refine bl_step ?_ (by assumption)))⟩
        · rw [ouE_ok (by omega) (by omega)] at hE
          subst hE
          clear hat
          go_enter Tryz.func39, Tryz.ntmps39
          go_wp2_with fail
          all_goals go_ret
          all_goals exact ⟨by first | rfl | simp [*], by repeat (first | (with_reducible exact Below.refl _ _) | (with_reducible refine bl_alloc ?_ _) | (with_reducible refine Below.drew ?_) | (with_reducible refine bl_drewN ?_ _) | (with_reducible refine bl_set ?_ (by omega) _) | (with_reducible refine bl_step ?_ (by assumption)))⟩
  · rw [if_neg h1] at hE
    have h1b : (L.kd != 1) = true := by simpa using h1
    by_cases h2 : L.kd = 2
    · rw [if_pos h2] at hE
      by_cases k1 : L.k < 1
      · rw [ouE_no (by omega), if_neg (by decide)] at hE
        subst hE
        clear hat
        go_enter Tryz.func39, Tryz.ntmps39
        go_wp2_with fail
        all_goals go_ret
        all_goals exact ⟨by first | rfl | simp [*], by repeat (first | (with_reducible exact Below.refl _ _) | (with_reducible refine bl_alloc ?_ _) | (with_reducible refine Below.drew ?_) | (with_reducible refine bl_drewN ?_ _) | (with_reducible refine bl_set ?_ (by omega) _) | (with_reducible refine bl_step ?_ (by assumption)))⟩
      · by_cases k2 : 4096 < L.k
        · rw [ouE_no (by omega), if_neg (by decide)] at hE
          subst hE
          clear hat
          go_enter Tryz.func39, Tryz.ntmps39
          go_wp2_with fail
          all_goals go_ret
          all_goals exact ⟨by first | rfl | simp [*], by repeat (first | (with_reducible exact Below.refl _ _) | (with_reducible refine bl_alloc ?_ _) | (with_reducible refine Below.drew ?_) | (with_reducible refine bl_drewN ?_ _) | (with_reducible refine bl_set ?_ (by omega) _) | (with_reducible refine bl_step ?_ (by assumption)))⟩
        · rw [ouE_ok (by omega) (by omega), if_pos rfl] at hE
          have we := fun w => win_eql L.r L.s L.sy L.sx L.t L.l L.b L.q 0 0 0 0 0 0 0 0 w
          unfold nwE at hE
          by_cases hz : L.r = 0 ∧ L.s = 0 ∧ L.sy = 0 ∧ L.sx = 0 ∧ L.t = 0 ∧ L.l = 0 ∧ L.b = 0 ∧ L.q = 0
          · rw [decide_eq_true hz] at we
            by_cases hb : L.bd = 0
            · rw [if_pos ⟨hz, hb⟩] at hE
              have hb2 : (L.bd != 0) = false := by simp [hb]
              subst hE
              clear hz hb
              clear hat
              go_enter Tryz.func39, Tryz.ntmps39
              go_wp2_with fail
              all_goals go_ret
              all_goals exact ⟨by first | rfl | simp [*], by repeat (first | (with_reducible exact Below.refl _ _) | (with_reducible refine bl_alloc ?_ _) | (with_reducible refine Below.drew ?_) | (with_reducible refine bl_drewN ?_ _) | (with_reducible refine bl_set ?_ (by omega) _) | (with_reducible refine bl_step ?_ (by assumption)))⟩
            · rw [if_neg (fun h => hb h.2)] at hE
              have hb2 : (L.bd != 0) = true := by simpa using hb
              subst hE
              clear hz hb
              clear hat
              go_enter Tryz.func39, Tryz.ntmps39
              go_wp2_with fail
              all_goals go_ret
              all_goals exact ⟨by first | rfl | simp [*], by repeat (first | (with_reducible exact Below.refl _ _) | (with_reducible refine bl_alloc ?_ _) | (with_reducible refine Below.drew ?_) | (with_reducible refine bl_drewN ?_ _) | (with_reducible refine bl_set ?_ (by omega) _) | (with_reducible refine bl_step ?_ (by assumption)))⟩
          · rw [decide_eq_false hz] at we
            rw [if_neg (fun h => hz h.1)] at hE
            subst hE
            clear hz
            clear hat
            go_enter Tryz.func39, Tryz.ntmps39
            go_wp2_with fail
            all_goals go_ret
            all_goals exact ⟨by first | rfl | simp [*], by repeat (first | (with_reducible exact Below.refl _ _) | (with_reducible refine bl_alloc ?_ _) | (with_reducible refine Below.drew ?_) | (with_reducible refine bl_drewN ?_ _) | (with_reducible refine bl_set ?_ (by omega) _) | (with_reducible refine bl_step ?_ (by assumption)))⟩
    · rw [if_neg h2] at hE
      have h2b : (L.kd != 2) = true := by simpa using h2
      have h2c : (L.kd == 2) = false := by simpa using h2
      by_cases h3 : L.kd = 3
      · rw [if_pos h3] at hE
        clear h1 h2
        by_cases ha : at' = 0
        · rw [if_pos (by rw [hat]; simpa using ha)] at hE
          subst hE
          clear hat
          go_enter Tryz.func39, Tryz.ntmps39
          go_wp2_with fail
          all_goals go_ret
          all_goals exact ⟨by first | rfl | simp [*], by repeat (first | (with_reducible exact Below.refl _ _) | (with_reducible refine bl_alloc ?_ _) | (with_reducible refine Below.drew ?_) | (with_reducible refine bl_drewN ?_ _) | (with_reducible refine bl_set ?_ (by omega) _) | (with_reducible refine bl_step ?_ (by assumption)))⟩
        · rw [if_neg (by rw [hat]; simpa using ha)] at hE
          have ha2 : (at' == 0) = false := by simpa using ha
          clear ha
          by_cases hl : S.la = true
          · rw [if_pos hl] at hE
            subst hE
            clear hat
            go_enter Tryz.func39, Tryz.ntmps39
            go_wp2_with fail
            all_goals go_ret
            all_goals exact ⟨by first | rfl | simp [*], by repeat (first | (with_reducible exact Below.refl _ _) | (with_reducible refine bl_alloc ?_ _) | (with_reducible refine Below.drew ?_) | (with_reducible refine bl_drewN ?_ _) | (with_reducible refine bl_set ?_ (by omega) _) | (with_reducible refine bl_step ?_ (by assumption)))⟩
          · rw [if_neg hl] at hE
            have hl2 : S.la = false := by simpa using hl
            clear hl
            unfold owE at hE
            have hcs : L.k ≠ 0 ∨ (L.k = 0 ∧ L.wt ≠ 0) ∨ (L.k = 0 ∧ L.wt = 0 ∧ L.bd ≠ 0) ∨ (L.k = 0 ∧ L.wt = 0 ∧ L.bd = 0 ∧ 0 < L.mw) ∨ (L.k = 0 ∧ L.wt = 0 ∧ L.bd = 0 ∧ L.mw = 0 ∧ 0 < L.mn) ∨ (L.k = 0 ∧ L.wt = 0 ∧ L.bd = 0 ∧ L.mw = 0 ∧ L.mn = 0 ∧ 0 < L.mb) ∨ (L.k = 0 ∧ L.wt = 0 ∧ L.bd = 0 ∧ L.mw = 0 ∧ L.mn = 0 ∧ L.mb = 0) := by omega
            rcases hcs with c1 | ⟨c1, c2⟩ | ⟨c1, c2, c3⟩ | ⟨c1, c2, c3, c4⟩ | ⟨c1, c2, c3, c4, c5⟩ | ⟨c1, c2, c3, c4, c5, c6⟩ | ⟨c1, c2, c3, c4, c5, c6⟩
            · rw [if_neg (fun h => c1 h.1.1)] at hE
              subst hE
              clear hat
              go_enter Tryz.func39, Tryz.ntmps39
              go_wp2_with fail
              all_goals go_ret
              all_goals exact ⟨by first | rfl | simp [*], by repeat (first | (with_reducible exact Below.refl _ _) | (with_reducible refine bl_alloc ?_ _) | (with_reducible refine Below.drew ?_) | (with_reducible refine bl_drewN ?_ _) | (with_reducible refine bl_set ?_ (by omega) _) | (with_reducible refine bl_step ?_ (by assumption)))⟩
            · rw [if_neg (fun h => c2 h.1.2.1)] at hE
              subst hE
              clear hat
              go_enter Tryz.func39, Tryz.ntmps39
              go_wp2_with fail
              all_goals go_ret
              all_goals exact ⟨by first | rfl | simp [*], by repeat (first | (with_reducible exact Below.refl _ _) | (with_reducible refine bl_alloc ?_ _) | (with_reducible refine Below.drew ?_) | (with_reducible refine bl_drewN ?_ _) | (with_reducible refine bl_set ?_ (by omega) _) | (with_reducible refine bl_step ?_ (by assumption)))⟩
            · rw [if_neg (fun h => c3 h.1.2.2)] at hE
              subst hE
              clear hat
              go_enter Tryz.func39, Tryz.ntmps39
              go_wp2_with fail
              all_goals go_ret
              all_goals exact ⟨by first | rfl | simp [*], by repeat (first | (with_reducible exact Below.refl _ _) | (with_reducible refine bl_alloc ?_ _) | (with_reducible refine Below.drew ?_) | (with_reducible refine bl_drewN ?_ _) | (with_reducible refine bl_set ?_ (by omega) _) | (with_reducible refine bl_step ?_ (by assumption)))⟩
            · rw [if_neg (fun h => by have := h.2.1; omega)] at hE
              subst hE
              clear hat
              go_enter Tryz.func39, Tryz.ntmps39
              go_wp2_with fail
              all_goals go_ret
              all_goals exact ⟨by first | rfl | simp [*], by repeat (first | (with_reducible exact Below.refl _ _) | (with_reducible refine bl_alloc ?_ _) | (with_reducible refine Below.drew ?_) | (with_reducible refine bl_drewN ?_ _) | (with_reducible refine bl_set ?_ (by omega) _) | (with_reducible refine bl_step ?_ (by assumption)))⟩
            · rw [if_neg (fun h => by have := h.2.2.1; omega)] at hE
              subst hE
              clear hat
              go_enter Tryz.func39, Tryz.ntmps39
              go_wp2_with fail
              all_goals go_ret
              all_goals exact ⟨by first | rfl | simp [*], by repeat (first | (with_reducible exact Below.refl _ _) | (with_reducible refine bl_alloc ?_ _) | (with_reducible refine Below.drew ?_) | (with_reducible refine bl_drewN ?_ _) | (with_reducible refine bl_set ?_ (by omega) _) | (with_reducible refine bl_step ?_ (by assumption)))⟩
            · rw [if_neg (fun h => by have := h.2.2.2; omega)] at hE
              subst hE
              clear hat
              go_enter Tryz.func39, Tryz.ntmps39
              go_wp2_with fail
              all_goals go_ret
              all_goals exact ⟨by first | rfl | simp [*], by repeat (first | (with_reducible exact Below.refl _ _) | (with_reducible refine bl_alloc ?_ _) | (with_reducible refine Below.drew ?_) | (with_reducible refine bl_drewN ?_ _) | (with_reducible refine bl_set ?_ (by omega) _) | (with_reducible refine bl_step ?_ (by assumption)))⟩
            · rw [if_pos ⟨⟨c1, c2, c3⟩, c4, c5, c6⟩] at hE
              subst hE
              clear hat
              go_enter Tryz.func39, Tryz.ntmps39
              go_wp2_with fail
              all_goals go_ret
              all_goals exact ⟨by first | rfl | simp [*], by repeat (first | (with_reducible exact Below.refl _ _) | (with_reducible refine bl_alloc ?_ _) | (with_reducible refine Below.drew ?_) | (with_reducible refine bl_drewN ?_ _) | (with_reducible refine bl_set ?_ (by omega) _) | (with_reducible refine bl_step ?_ (by assumption)))⟩
      · rw [if_neg h3] at hE
        have h3b : (L.kd != 3) = true := by simpa using h3
        subst hE
        clear hat
        go_enter Tryz.func39, Tryz.ntmps39
        go_wp2_with fail
        all_goals go_ret
        all_goals exact ⟨by first | rfl | simp [*], by repeat (first | (with_reducible exact Below.refl _ _) | (with_reducible refine bl_alloc ?_ _) | (with_reducible refine Below.drew ?_) | (with_reducible refine bl_drewN ?_ _) | (with_reducible refine bl_set ?_ (by omega) _) | (with_reducible refine bl_step ?_ (by assumption)))⟩
end Go.Proofs.YtlgjoepeibodkaaGreat.Nn
/- SHAPES: THE DOCUMENT'S OWN CHECK, ELEMS, WORDS, INDEX, WALKED. -/
namespace Go.Proofs.YtlgjoepeibodkaaGreat.Nn
open Go.RowKit

set_option maxRecDepth 100000 in
theorem in_yes (n lo hi : Int) (h1 : lo ≤ n) (h2 : n ≤ hi) (w : World) : Calls Tryz.prog 38 #[.int .i64 n, .int .i64 lo, .int .i64 hi] w fun e w' => e = .returned (.bool true) ∧ w' = w := by
  go_enter Tryz.func38, Tryz.ntmps38
  go_wp2
  go_ret
  exact ⟨rfl, rfl⟩
set_option maxRecDepth 100000 in
theorem in_no1 (n lo hi : Int) (h1 : ¬ n ≥ lo) (w : World) : Calls Tryz.prog 38 #[.int .i64 n, .int .i64 lo, .int .i64 hi] w fun e w' => e = .returned (.bool false) ∧ w' = w := by
  go_enter Tryz.func38, Tryz.ntmps38
  go_wp2
  go_ret
  exact ⟨rfl, rfl⟩
set_option maxRecDepth 100000 in
theorem in_no2 (n lo hi : Int) (h1 : n ≥ lo) (h2 : ¬ n ≤ hi) (w : World) : Calls Tryz.prog 38 #[.int .i64 n, .int .i64 lo, .int .i64 hi] w fun e w' => e = .returned (.bool false) ∧ w' = w := by
  go_enter Tryz.func38, Tryz.ntmps38
  go_wp2
  go_ret
  exact ⟨rfl, rfl⟩
theorem in_no (n lo hi : Int) (h : ¬ (lo ≤ n ∧ n ≤ hi)) (w : World) : Calls Tryz.prog 38 #[.int .i64 n, .int .i64 lo, .int .i64 hi] w fun e w' => e = .returned (.bool false) ∧ w' = w := by
  by_cases h1 : n ≥ lo
  · exact in_no2 n lo hi h1 (by omega) w
  · exact in_no1 n lo hi h1 w
set_option maxRecDepth 100000 in
theorem rcheck_ok (h v c : Int) (hs : Sides h v c) (w : World) :
    Calls Tryz.prog 31 #[shp h v c] w fun e w' => e = .returned (.int .i64 (if h * v * c > 16777216 then 31 else 0)) ∧ Below w.heap.size w w' := by
  have m1 := mul2 hs.1 hs.2.1
  have m2 := mul3 hs
  have e1 := wr_id (x := h * v) (by omega) (by omega)
  have e2 := wr_id (x := h * v * c) (by omega) (by omega)
  obtain ⟨⟨a1, a2⟩, ⟨a3, a4⟩, a5, a6⟩ := hs
  go_enter Tryz.func31, Tryz.ntmps31
  go_wp2_with (first | (go_at_call 38; refine (in_yes _ _ _ (by omega) (by omega) _).mono ?_; rintro e w' ⟨rfl, rfl⟩) | (go_at_call 38; refine (in_no _ _ _ (by omega) _).mono ?_; rintro e w' ⟨rfl, rfl⟩))
  all_goals (go_ret; exact ⟨rfl, bl_alloc (Below.refl _ _) _⟩)
set_option maxRecDepth 100000 in
theorem rcheck_n1 (h v c : Int) (h1 : ¬ (1 ≤ h ∧ h ≤ 4096)) (w : World) :
    Calls Tryz.prog 31 #[shp h v c] w fun e w' => e = .returned (.int .i64 30) ∧ Below w.heap.size w w' := by
  go_enter Tryz.func31, Tryz.ntmps31
  go_wp2_with (first | (go_at_call 38; refine (in_yes _ _ _ (by omega) (by omega) _).mono ?_; rintro e w' ⟨rfl, rfl⟩) | (go_at_call 38; refine (in_no _ _ _ (by omega) _).mono ?_; rintro e w' ⟨rfl, rfl⟩))
  all_goals (go_ret; exact ⟨rfl, bl_alloc (Below.refl _ _) _⟩)
set_option maxRecDepth 100000 in
theorem rcheck_n2 (h v c : Int) (h1 : 1 ≤ h ∧ h ≤ 4096) (h2 : ¬ (1 ≤ v ∧ v ≤ 4096)) (w : World) :
    Calls Tryz.prog 31 #[shp h v c] w fun e w' => e = .returned (.int .i64 30) ∧ Below w.heap.size w w' := by
  go_enter Tryz.func31, Tryz.ntmps31
  go_wp2_with (first | (go_at_call 38; refine (in_yes _ _ _ (by omega) (by omega) _).mono ?_; rintro e w' ⟨rfl, rfl⟩) | (go_at_call 38; refine (in_no _ _ _ (by omega) _).mono ?_; rintro e w' ⟨rfl, rfl⟩))
  all_goals (go_ret; exact ⟨rfl, bl_alloc (Below.refl _ _) _⟩)
set_option maxRecDepth 100000 in
theorem rcheck_n3 (h v c : Int) (h1 : 1 ≤ h ∧ h ≤ 4096) (h2 : 1 ≤ v ∧ v ≤ 4096) (h3 : ¬ (1 ≤ c ∧ c ≤ 4096)) (w : World) :
    Calls Tryz.prog 31 #[shp h v c] w fun e w' => e = .returned (.int .i64 30) ∧ Below w.heap.size w w' := by
  go_enter Tryz.func31, Tryz.ntmps31
  go_wp2_with (first | (go_at_call 38; refine (in_yes _ _ _ (by omega) (by omega) _).mono ?_; rintro e w' ⟨rfl, rfl⟩) | (go_at_call 38; refine (in_no _ _ _ (by omega) _).mono ?_; rintro e w' ⟨rfl, rfl⟩))
  all_goals (go_ret; exact ⟨rfl, bl_alloc (Below.refl _ _) _⟩)
theorem rcheck_any (h v c : Int) (w : World) :
    Calls Tryz.prog 31 #[shp h v c] w fun e w' => e = .returned (.int .i64 (chk h v c)) ∧ Below w.heap.size w w' := by
  unfold chk
  by_cases hs : Sides h v c
  · rw [if_pos hs]; exact rcheck_ok h v c hs w
  · rw [if_neg hs]
    by_cases h1 : 1 ≤ h ∧ h ≤ 4096
    · by_cases h2 : 1 ≤ v ∧ v ≤ 4096
      · exact rcheck_n3 h v c h1 h2 (fun h3 => hs ⟨h1, h2, h3⟩) w
      · exact rcheck_n2 h v c h1 h2 w
    · exact rcheck_n1 h v c h1 w
end Go.Proofs.YtlgjoepeibodkaaGreat.Nn
/- SHAPES: THE DOCUMENT'S OWN INDEX, PLACE, WINDOW, STEPS, WALKED. -/
namespace Go.Proofs.YtlgjoepeibodkaaGreat.Nn
open Go.RowKit

theorem div_is {a b q r : Int} (h : a = q * b + r) (h1 : 0 ≤ r) (h2 : r < b) : a / b = q ∧ a % b = r :=
  (Int.ediv_emod_unique (by omega)).2 ⟨by rw [h, Int.mul_comm q b]; omega, h1, h2⟩
theorem place_math {i j I m J v c : Int} (h1 : i = j * (v * c) + I) (h2 : I < v * c) (h3 : I = m * c + J) (h4 : 0 ≤ J) (h5 : J < c) (hm : 0 ≤ m) : i / c / v = j ∧ i / c % v = m ∧ i % c = J := by
  have a1 : i = (j * v + m) * c + J := by rw [h1, h3, Int.add_mul, Int.mul_assoc]; omega
  obtain ⟨q, r⟩ := div_is a1 h4 h5
  have hv : m < v := by
    apply Int.lt_of_mul_lt_mul_right (a := c) _ (by omega)
    omega
  obtain ⟨q2, r2⟩ := div_is (a := j * v + m) (b := v) (q := j) (r := m) rfl hm hv
  rw [q, r]
  exact ⟨q2, r2, rfl⟩
end Go.Proofs.YtlgjoepeibodkaaGreat.Nn
/- SHAPES: THE DOCUMENT'S OWN WINDOW, STEPS, WALKED. -/
namespace Go.Proofs.YtlgjoepeibodkaaGreat.Nn
open Go.RowKit

set_option maxHeartbeats 800000 in
set_option maxRecDepth 100000 in
theorem rwin_ok (r s sy sx t l b q : Int) (h0 : 1 ≤ r ∧ r ≤ 15) (h1 : 1 ≤ s ∧ s ≤ 15) (h2 : 1 ≤ sy ∧ sy ≤ 15) (h3 : 1 ≤ sx ∧ sx ≤ 15) (h4 : 0 ≤ t ∧ t ≤ 14) (h5 : 0 ≤ l ∧ l ≤ 14) (h6 : 0 ≤ b ∧ b ≤ 14) (h7 : 0 ≤ q ∧ q ≤ 14) (w : World) :
    Calls Tryz.prog 55 #[win r s sy sx t l b q] w fun e w' => e = .returned (.int .i64 0) ∧ Below w.heap.size w w' := by
  go_enter Tryz.func55, Tryz.ntmps55
  go_wp2_with (first | (go_at_call 38; refine (in_yes _ _ _ (by omega) (by omega) _).mono ?_; rintro e w' ⟨rfl, rfl⟩) | (go_at_call 38; refine (in_no _ _ _ (by omega) _).mono ?_; rintro e w' ⟨rfl, rfl⟩))
  go_ret
  exact ⟨rfl, bl_alloc (Below.refl _ _) _⟩
set_option maxHeartbeats 800000 in
set_option maxRecDepth 100000 in
theorem rwin_n0 (r s sy sx t l b q : Int) (h0 : ¬ (1 ≤ r ∧ r ≤ 15)) (w : World) :
    Calls Tryz.prog 55 #[win r s sy sx t l b q] w fun e w' => e = .returned (.int .i64 56) ∧ Below w.heap.size w w' := by
  go_enter Tryz.func55, Tryz.ntmps55
  go_wp2_with (first | (go_at_call 38; refine (in_yes _ _ _ (by omega) (by omega) _).mono ?_; rintro e w' ⟨rfl, rfl⟩) | (go_at_call 38; refine (in_no _ _ _ (by omega) _).mono ?_; rintro e w' ⟨rfl, rfl⟩))
  go_ret
  exact ⟨rfl, bl_alloc (Below.refl _ _) _⟩
set_option maxHeartbeats 800000 in
set_option maxRecDepth 100000 in
theorem rwin_n1 (r s sy sx t l b q : Int) (h0 : 1 ≤ r ∧ r ≤ 15) (h1 : ¬ (1 ≤ s ∧ s ≤ 15)) (w : World) :
    Calls Tryz.prog 55 #[win r s sy sx t l b q] w fun e w' => e = .returned (.int .i64 56) ∧ Below w.heap.size w w' := by
  go_enter Tryz.func55, Tryz.ntmps55
  go_wp2_with (first | (go_at_call 38; refine (in_yes _ _ _ (by omega) (by omega) _).mono ?_; rintro e w' ⟨rfl, rfl⟩) | (go_at_call 38; refine (in_no _ _ _ (by omega) _).mono ?_; rintro e w' ⟨rfl, rfl⟩))
  go_ret
  exact ⟨rfl, bl_alloc (Below.refl _ _) _⟩
set_option maxHeartbeats 800000 in
set_option maxRecDepth 100000 in
theorem rwin_n2 (r s sy sx t l b q : Int) (h0 : 1 ≤ r ∧ r ≤ 15) (h1 : 1 ≤ s ∧ s ≤ 15) (h2 : ¬ (1 ≤ sy ∧ sy ≤ 15)) (w : World) :
    Calls Tryz.prog 55 #[win r s sy sx t l b q] w fun e w' => e = .returned (.int .i64 56) ∧ Below w.heap.size w w' := by
  go_enter Tryz.func55, Tryz.ntmps55
  go_wp2_with (first | (go_at_call 38; refine (in_yes _ _ _ (by omega) (by omega) _).mono ?_; rintro e w' ⟨rfl, rfl⟩) | (go_at_call 38; refine (in_no _ _ _ (by omega) _).mono ?_; rintro e w' ⟨rfl, rfl⟩))
  go_ret
  exact ⟨rfl, bl_alloc (Below.refl _ _) _⟩
set_option maxHeartbeats 800000 in
set_option maxRecDepth 100000 in
theorem rwin_n3 (r s sy sx t l b q : Int) (h0 : 1 ≤ r ∧ r ≤ 15) (h1 : 1 ≤ s ∧ s ≤ 15) (h2 : 1 ≤ sy ∧ sy ≤ 15) (h3 : ¬ (1 ≤ sx ∧ sx ≤ 15)) (w : World) :
    Calls Tryz.prog 55 #[win r s sy sx t l b q] w fun e w' => e = .returned (.int .i64 56) ∧ Below w.heap.size w w' := by
  go_enter Tryz.func55, Tryz.ntmps55
  go_wp2_with (first | (go_at_call 38; refine (in_yes _ _ _ (by omega) (by omega) _).mono ?_; rintro e w' ⟨rfl, rfl⟩) | (go_at_call 38; refine (in_no _ _ _ (by omega) _).mono ?_; rintro e w' ⟨rfl, rfl⟩))
  go_ret
  exact ⟨rfl, bl_alloc (Below.refl _ _) _⟩
set_option maxHeartbeats 800000 in
set_option maxRecDepth 100000 in
theorem rwin_n4 (r s sy sx t l b q : Int) (h0 : 1 ≤ r ∧ r ≤ 15) (h1 : 1 ≤ s ∧ s ≤ 15) (h2 : 1 ≤ sy ∧ sy ≤ 15) (h3 : 1 ≤ sx ∧ sx ≤ 15) (h4 : ¬ (0 ≤ t ∧ t ≤ 14)) (w : World) :
    Calls Tryz.prog 55 #[win r s sy sx t l b q] w fun e w' => e = .returned (.int .i64 56) ∧ Below w.heap.size w w' := by
  go_enter Tryz.func55, Tryz.ntmps55
  go_wp2_with (first | (go_at_call 38; refine (in_yes _ _ _ (by omega) (by omega) _).mono ?_; rintro e w' ⟨rfl, rfl⟩) | (go_at_call 38; refine (in_no _ _ _ (by omega) _).mono ?_; rintro e w' ⟨rfl, rfl⟩))
  go_ret
  exact ⟨rfl, bl_alloc (Below.refl _ _) _⟩
set_option maxHeartbeats 800000 in
set_option maxRecDepth 100000 in
theorem rwin_n5 (r s sy sx t l b q : Int) (h0 : 1 ≤ r ∧ r ≤ 15) (h1 : 1 ≤ s ∧ s ≤ 15) (h2 : 1 ≤ sy ∧ sy ≤ 15) (h3 : 1 ≤ sx ∧ sx ≤ 15) (h4 : 0 ≤ t ∧ t ≤ 14) (h5 : ¬ (0 ≤ l ∧ l ≤ 14)) (w : World) :
    Calls Tryz.prog 55 #[win r s sy sx t l b q] w fun e w' => e = .returned (.int .i64 56) ∧ Below w.heap.size w w' := by
  go_enter Tryz.func55, Tryz.ntmps55
  go_wp2_with (first | (go_at_call 38; refine (in_yes _ _ _ (by omega) (by omega) _).mono ?_; rintro e w' ⟨rfl, rfl⟩) | (go_at_call 38; refine (in_no _ _ _ (by omega) _).mono ?_; rintro e w' ⟨rfl, rfl⟩))
  go_ret
  exact ⟨rfl, bl_alloc (Below.refl _ _) _⟩
set_option maxHeartbeats 800000 in
set_option maxRecDepth 100000 in
theorem rwin_n6 (r s sy sx t l b q : Int) (h0 : 1 ≤ r ∧ r ≤ 15) (h1 : 1 ≤ s ∧ s ≤ 15) (h2 : 1 ≤ sy ∧ sy ≤ 15) (h3 : 1 ≤ sx ∧ sx ≤ 15) (h4 : 0 ≤ t ∧ t ≤ 14) (h5 : 0 ≤ l ∧ l ≤ 14) (h6 : ¬ (0 ≤ b ∧ b ≤ 14)) (w : World) :
    Calls Tryz.prog 55 #[win r s sy sx t l b q] w fun e w' => e = .returned (.int .i64 56) ∧ Below w.heap.size w w' := by
  go_enter Tryz.func55, Tryz.ntmps55
  go_wp2_with (first | (go_at_call 38; refine (in_yes _ _ _ (by omega) (by omega) _).mono ?_; rintro e w' ⟨rfl, rfl⟩) | (go_at_call 38; refine (in_no _ _ _ (by omega) _).mono ?_; rintro e w' ⟨rfl, rfl⟩))
  go_ret
  exact ⟨rfl, bl_alloc (Below.refl _ _) _⟩
set_option maxHeartbeats 800000 in
set_option maxRecDepth 100000 in
theorem rwin_n7 (r s sy sx t l b q : Int) (h0 : 1 ≤ r ∧ r ≤ 15) (h1 : 1 ≤ s ∧ s ≤ 15) (h2 : 1 ≤ sy ∧ sy ≤ 15) (h3 : 1 ≤ sx ∧ sx ≤ 15) (h4 : 0 ≤ t ∧ t ≤ 14) (h5 : 0 ≤ l ∧ l ≤ 14) (h6 : 0 ≤ b ∧ b ≤ 14) (h7 : ¬ (0 ≤ q ∧ q ≤ 14)) (w : World) :
    Calls Tryz.prog 55 #[win r s sy sx t l b q] w fun e w' => e = .returned (.int .i64 56) ∧ Below w.heap.size w w' := by
  go_enter Tryz.func55, Tryz.ntmps55
  go_wp2_with (first | (go_at_call 38; refine (in_yes _ _ _ (by omega) (by omega) _).mono ?_; rintro e w' ⟨rfl, rfl⟩) | (go_at_call 38; refine (in_no _ _ _ (by omega) _).mono ?_; rintro e w' ⟨rfl, rfl⟩))
  go_ret
  exact ⟨rfl, bl_alloc (Below.refl _ _) _⟩
theorem rwindow_any (r s sy sx t l b q : Int) (w : World) :
    Calls Tryz.prog 55 #[win r s sy sx t l b q] w fun e w' => e = .returned (.int .i64 (wiE r s sy sx t l b q)) ∧ Below w.heap.size w w' := by
  unfold wiE
  by_cases hw : WOk r s sy sx t l b q
  · rw [if_pos hw]
    obtain ⟨⟨a1, a2, a3, a4⟩, b1, b2, b3, b4⟩ := hw
    exact rwin_ok r s sy sx t l b q a1 b1 a2 b2 a3 b3 a4 b4 w
  · rw [if_neg hw]
    by_cases h0 : 1 ≤ r ∧ r ≤ 15
    rotate_left
    · exact rwin_n0 r s sy sx t l b q h0 w
    by_cases h1 : 1 ≤ s ∧ s ≤ 15
    rotate_left
    · exact rwin_n1 r s sy sx t l b q h0 h1 w
    by_cases h2 : 1 ≤ sy ∧ sy ≤ 15
    rotate_left
    · exact rwin_n2 r s sy sx t l b q h0 h1 h2 w
    by_cases h3 : 1 ≤ sx ∧ sx ≤ 15
    rotate_left
    · exact rwin_n3 r s sy sx t l b q h0 h1 h2 h3 w
    by_cases h4 : 0 ≤ t ∧ t ≤ 14
    rotate_left
    · exact rwin_n4 r s sy sx t l b q h0 h1 h2 h3 h4 w
    by_cases h5 : 0 ≤ l ∧ l ≤ 14
    rotate_left
    · exact rwin_n5 r s sy sx t l b q h0 h1 h2 h3 h4 h5 w
    by_cases h6 : 0 ≤ b ∧ b ≤ 14
    rotate_left
    · exact rwin_n6 r s sy sx t l b q h0 h1 h2 h3 h4 h5 h6 w
    by_cases h7 : 0 ≤ q ∧ q ≤ 14
    rotate_left
    · exact rwin_n7 r s sy sx t l b q h0 h1 h2 h3 h4 h5 h6 h7 w
    exact absurd ⟨⟨h0, h2, h4, h6⟩, h1, h3, h5, h7⟩ hw
theorem stN_done {n bf af wi st j all : Int} (ha : all = n + bf + af) (h1 : 1 ≤ st) (h2 : j * st + wi > all) (h3 : j = 0 ∨ (1 ≤ j ∧ (j - 1) * st + wi ≤ all)) : stN n bf af wi st = j := by
  have e : bf + n + af = all := by omega
  unfold stN
  rw [e]
  rcases h3 with rfl | ⟨h4, h5⟩
  · rw [if_pos (by omega)]
  · have e2 : (j - 1) * st = j * st - st := by rw [Int.sub_mul, Int.one_mul]
    have k : 0 ≤ (j - 1) * st := Int.mul_nonneg (by omega) (by omega)
    rw [if_neg (by omega), (div_is (a := all - wi) (b := st) (q := j - 1) (r := all - wi - (j - 1) * st) (by omega) (by omega) (by omega)).1]
    omega
set_option maxHeartbeats 800000 in
set_option maxRecDepth 100000 in
theorem steps_any (n bf af wi st all V : Int) (hn : 1 ≤ n ∧ n ≤ 4096) (hs : SideOk bf af wi st) (ha : all = n + bf + af) (hV : stN n bf af wi st = V) (w : World) :
    Calls Tryz.prog 80 #[.int .i64 all, .int .i64 wi, .int .i64 st] w fun e w' => e = .returned (.int .i64 V) ∧ w' = w := by
  obtain ⟨h1, h2, h3, h4⟩ := hs
  have HV := hid1 hV
  clear hV
  go_enter Tryz.func80, Tryz.ntmps80
  go_wp2_with fail
  go_loop [7, 8] (fun n x => ∃ j A : Int, 0 ≤ j ∧ A = j * st ∧ (j = 0 ∨ (1 ≤ j ∧ (j - 1) * st + wi ≤ all)) ∧ n = .int .i64 j ∧ x = .int .i64 A) (fun _ x => (all + 32 - intOf x).toNat)
  case atStart => exact ⟨0, 0, by omega, by omega, .inl rfl, rfl, rfl⟩
  case round =>
    obtain ⟨j, A, hj, hA, hp, rfl, rfl⟩ := hrel
    have pj : j ≤ j * st := by
      have := Int.mul_le_mul_of_nonneg_left h2.1 hj
      omega
    have e2 : (j - 1) * st = j * st - st := by rw [Int.sub_mul, Int.one_mul]
    have e3 : (j + 1) * st = j * st + st := by rw [Int.add_mul, Int.one_mul]
    have z1 : 0 ≤ A := by omega
    have z2 : A ≤ 4140 := by rcases hp with rfl | hp <;> omega
    have d0 := wr_id (x := A + wi) (by omega) (by omega)
    have z3 : j ≤ A := by omega
    have F1 := hid1 (show A + st = (j + 1) * st by omega)
    have F2 := hid1 hA
    clear hA e2 e3 pj
    by_cases hlt : A + wi ≤ all
    · have d1 := wr_id (x := j + 1) (by omega) (by omega)
      have d2 := wr_id (x := A + st) (by omega) (by omega)
      go_wp2_with fail
      refine ⟨⟨j + 1, A + st, by omega, F1.out, .inr ⟨by omega, ?_⟩, rfl, rfl⟩, by simp [intOf]; omega⟩
      rw [show j + 1 - 1 = j by omega, ← F2.out]; omega
    · obtain rfl : V = j := HV.out.symm.trans (stN_done ha h2.1 (by rw [← F2.out]; omega) hp)
      go_wp2_with fail
      go_ret
      exact ⟨rfl, rfl⟩
end Go.Proofs.YtlgjoepeibodkaaGreat.Nn
/- SHAPES: THE DOCUMENT'S OWN SLIDE, WALKED. -/
namespace Go.Proofs.YtlgjoepeibodkaaGreat.Nn
open Go.RowKit

theorem wi_id {x : Int} (h1 : -9223372036854775808 ≤ x) (h2 : x ≤ 9223372036854775807) : IntKind.i64.wrap x = x := by
  have := wr_id h1 h2
  first | exact this | (rw [IntKind.wrap_i64]; exact this) | (simp [IntKind.wrap, IntKind.signed, IntKind.bits]; omega)
set_option maxRecDepth 100000 in
theorem rslide_bad1 (h v c r s sy sx t l b q k : Int) (hk : chk h v c ≠ 0) (w : World) :
    Calls Tryz.prog 56 #[shp h v c, win r s sy sx t l b q, .int .i64 k] w fun e w' => e = .returned (sle 0 0 0 (chk h v c)) ∧ Below w.heap.size w w' := by
  have HC := rcheck_any h v c
  generalize chk h v c = E at *
  go_enter Tryz.func56, Tryz.ntmps56
  go_wp2_with fail
  refine gen_calls (fun W => Below w.heap.size w W ∧ Wn W (w.heap.size + 1) 0 r s sy sx t l b q ∧ Rz W (w.heap.size + 1 + 1)) ⟨by repeat (first | exact Below.refl _ _ | refine bl_alloc ?_ _ | refine Below.drew ?_ | refine bl_drewN ?_ _ | refine bl_set ?_ (by first | omega | (simp; done) | (simp; omega)) _ | refine bl_step ?_ (by assumption)), (wn_new' (by simp)).keep (bl_alloc (Below.refl _ _) _), rz_new (by simp)⟩ ?_
  rintro W ⟨B0, W0, R0⟩
  refine (HC W).mono ?_
  rintro e w1 ⟨rfl, hb1⟩
  replace R0 := R0.keep hb1
  replace W0 := W0.keep hb1
  replace B0 := bl_step B0 hb1
  clear hb1
  obtain ⟨x0, x1, x2, x3, x4, x5, x6, x7⟩ := W0
  obtain ⟨⟨r0, r1, r2⟩, f0, f1, f2⟩ := R0
  clear x0 x1 x2 x3 x4 x5 x6 x7
  go_wp2_with fail
  simp [bodyPost, results, Tryz.results56, go_sem, *]
  repeat (first | exact Below.refl _ _ | refine bl_alloc ?_ _ | refine Below.drew ?_ | refine bl_drewN ?_ _ | refine bl_set ?_ (by first | omega | (simp; done) | (simp; omega)) _ | refine bl_step ?_ (by assumption))
set_option maxRecDepth 100000 in
theorem rslide_bad2 (h v c r s sy sx t l b q k : Int) (hk : chk h v c = 0) (k1 : ¬ (1 ≤ k ∧ k ≤ 4096)) (w : World) :
    Calls Tryz.prog 56 #[shp h v c, win r s sy sx t l b q, .int .i64 k] w fun e w' => e = .returned (sle 0 0 0 30) ∧ Below w.heap.size w w' := by
  have HC := rcheck_any h v c
  rw [hk] at HC
  go_enter Tryz.func56, Tryz.ntmps56
  go_wp2_with fail
  refine gen_calls (fun W => Below w.heap.size w W ∧ Wn W (w.heap.size + 1) 0 r s sy sx t l b q ∧ Rz W (w.heap.size + 1 + 1)) ⟨by repeat (first | exact Below.refl _ _ | refine bl_alloc ?_ _ | refine Below.drew ?_ | refine bl_drewN ?_ _ | refine bl_set ?_ (by first | omega | (simp; done) | (simp; omega)) _ | refine bl_step ?_ (by assumption)), (wn_new' (by simp)).keep (bl_alloc (Below.refl _ _) _), rz_new (by simp)⟩ ?_
  rintro W ⟨B0, W0, R0⟩
  refine (HC W).mono ?_
  rintro e w1 ⟨rfl, hb1⟩
  replace R0 := R0.keep hb1
  replace W0 := W0.keep hb1
  replace B0 := bl_step B0 hb1
  clear hb1
  obtain ⟨x0, x1, x2, x3, x4, x5, x6, x7⟩ := W0
  obtain ⟨⟨r0, r1, r2⟩, f0, f1, f2⟩ := R0
  clear x0 x1 x2 x3 x4 x5 x6 x7
  go_wp2_with (first | (go_at_call 38; refine (in_yes _ _ _ (by omega) (by omega) _).mono ?_; rintro e w' ⟨rfl, hx⟩; subst w') | (go_at_call 38; refine (in_no _ _ _ (by omega) _).mono ?_; rintro e w' ⟨rfl, hx⟩; subst w'))
  simp [bodyPost, results, Tryz.results56, go_sem, *]
  repeat (first | exact Below.refl _ _ | refine bl_alloc ?_ _ | refine Below.drew ?_ | refine bl_drewN ?_ _ | refine bl_set ?_ (by first | omega | (simp; done) | (simp; omega)) _ | refine bl_step ?_ (by assumption))
set_option maxRecDepth 100000 in
theorem rslide_bad4 (h v c r s sy sx t l b q k : Int) (hk : chk h v c = 0) (k1 : 1 ≤ k ∧ k ≤ 4096) (hw : ¬ WOk r s sy sx t l b q) (w : World) :
    Calls Tryz.prog 56 #[shp h v c, win r s sy sx t l b q, .int .i64 k] w fun e w' => e = .returned (sle 0 0 0 56) ∧ Below w.heap.size w w' := by
  have HC := rcheck_any h v c
  rw [hk] at HC
  have HW := rwindow_any r s sy sx t l b q
  unfold wiE at HW
  rw [if_neg hw] at HW
  go_enter Tryz.func56, Tryz.ntmps56
  go_wp2_with fail
  refine gen_calls (fun W => Below w.heap.size w W ∧ Wn W (w.heap.size + 1) 0 r s sy sx t l b q ∧ Rz W (w.heap.size + 1 + 1)) ⟨by repeat (first | exact Below.refl _ _ | refine bl_alloc ?_ _ | refine Below.drew ?_ | refine bl_drewN ?_ _ | refine bl_set ?_ (by first | omega | (simp; done) | (simp; omega)) _ | refine bl_step ?_ (by assumption)), (wn_new' (by simp)).keep (bl_alloc (Below.refl _ _) _), rz_new (by simp)⟩ ?_
  rintro W ⟨B0, W0, R0⟩
  refine (HC W).mono ?_
  rintro e w1 ⟨rfl, hb1⟩
  replace R0 := R0.keep hb1
  replace W0 := W0.keep hb1
  replace B0 := bl_step B0 hb1
  clear hb1
  obtain ⟨x0, x1, x2, x3, x4, x5, x6, x7⟩ := W0
  obtain ⟨⟨r0, r1, r2⟩, f0, f1, f2⟩ := R0
  go_wp2_with (first | (go_at_call 38; refine (in_yes _ _ _ (by omega) (by omega) _).mono ?_; rintro e w' ⟨rfl, hx⟩; subst w') | (go_at_call 38; refine (in_no _ _ _ (by omega) _).mono ?_; rintro e w' ⟨rfl, hx⟩; subst w'))
  refine (HW w1).mono ?_
  rintro e w2 ⟨rfl, hb2⟩
  have R0 : Rz w1 (w.heap.size + 1 + 1) := ⟨⟨r0, r1, r2⟩, f0, f1, f2⟩
  replace R0 := R0.keep hb2
  replace B0 := bl_step B0 hb2
  clear hb2 x0 x1 x2 x3 x4 x5 x6 x7 r0 r1 r2 f0 f1 f2
  obtain ⟨⟨r0, r1, r2⟩, f0, f1, f2⟩ := R0
  go_wp2_with fail
  simp [bodyPost, results, Tryz.results56, go_sem, *]
  repeat (first | exact Below.refl _ _ | refine bl_alloc ?_ _ | refine Below.drew ?_ | refine bl_drewN ?_ _ | refine bl_set ?_ (by first | omega | (simp; done) | (simp; omega)) _ | refine bl_step ?_ (by assumption))
set_option maxHeartbeats 1600000 in
set_option maxRecDepth 100000 in
theorem rslide_good (h v c r s sy sx t l b q k OH OW : Int) (hk : chk h v c = 0) (k1 : 1 ≤ k ∧ k ≤ 4096) (hw : WOk r s sy sx t l b q) (eh : stN h t b r sy = OH) (ew : stN v l q s sx = OW) (ans : Value)
    (A0 : OH = 0 → ans = sle 0 0 0 32) (A1 : ¬ OH = 0 → OW = 0 → ans = sle 0 0 0 32) (A2 : ¬ OH = 0 → ¬ OW = 0 → chk OH OW k ≠ 0 → ans = sle 0 0 0 (chk OH OW k)) (A3 : ¬ OH = 0 → ¬ OW = 0 → chk OH OW k = 0 → ans = sle OH OW k 0) (w : World) :
    Calls Tryz.prog 56 #[shp h v c, win r s sy sx t l b q, .int .i64 k] w fun e w' => e = .returned ans ∧ Below w.heap.size w w' := by
  have HC := rcheck_any h v c
  rw [hk] at HC
  have HW := rwindow_any r s sy sx t l b q
  unfold wiE at HW
  rw [if_pos hw] at HW
  have hs := (chk_zero hk).1
  have s1 := hs.1; have s2 := hs.2.1
  obtain ⟨v1, v2, v3, v4⟩ := hw.1
  obtain ⟨v5, v6, v7, v8⟩ := hw.2
  have H1 := steps_any h t b r sy (IntKind.i64.wrap (IntKind.i64.wrap (h + t) + b)) OH hs.1 hw.1 (by rw [wi_id (x := h + t) (by omega) (by omega), wi_id (by omega) (by omega)]) eh
  have H2 := steps_any v l q s sx (IntKind.i64.wrap (IntKind.i64.wrap (v + l) + q)) OW hs.2.1 hw.2 (by rw [wi_id (x := v + l) (by omega) (by omega), wi_id (by omega) (by omega)]) ew
  have HO := rcheck_any OH OW k
  clear hs hw eh ew hk s1 s2 v1 v2 v3 v4 v5 v6 v7 v8
  have AA := hid1 (And.intro A0 (And.intro A1 (And.intro A2 A3)))
  clear A0 A1 A2 A3
  go_enter Tryz.func56, Tryz.ntmps56
  go_wp2_with fail
  refine gen_calls (fun W => Below w.heap.size w W ∧ Sh W w.heap.size 0 h v c ∧ Wn W (w.heap.size + 1) 0 r s sy sx t l b q ∧ Rz W (w.heap.size + 1 + 1)) ⟨by repeat (first | exact Below.refl _ _ | refine bl_alloc ?_ _ | refine Below.drew ?_ | refine bl_drewN ?_ _ | refine bl_set ?_ (by first | omega | (simp; done) | (simp; omega)) _ | refine bl_step ?_ (by assumption)), (sh_new' rfl).keep (bl_alloc (bl_alloc (Below.refl _ _) _) _), (wn_new' (by simp)).keep (bl_alloc (Below.refl _ _) _), rz_new (by simp)⟩ ?_
  rintro W ⟨B0, S0, W0, R0⟩
  refine (HC W).mono ?_
  rintro e w1 ⟨rfl, hb1⟩
  replace S0 := S0.keep hb1
  replace R0 := R0.keep hb1
  replace W0 := W0.keep hb1
  replace B0 := bl_step B0 hb1
  clear hb1 HC W
  have Z := W0
  obtain ⟨x0, x1, x2, x3, x4, x5, x6, x7⟩ := Z
  go_wp2_with (first | (go_at_call 38; refine (in_yes _ _ _ (by omega) (by omega) _).mono ?_; rintro e w' ⟨rfl, hx⟩; subst w') | (go_at_call 38; refine (in_no _ _ _ (by omega) _).mono ?_; rintro e w' ⟨rfl, hx⟩; subst w'))
  refine (HW w1).mono ?_
  rintro e W2 ⟨rfl, hb2⟩
  clear x0 x1 x2 x3 x4 x5 x6 x7
  replace S0 := S0.keep hb2
  replace R0 := R0.keep hb2
  replace W0 := W0.keep hb2
  replace B0 := bl_step B0 hb2
  clear hb2 HW
  have SS := hid1 S0
  have WW := hid1 W0
  have RR := hid1 R0
  obtain ⟨x0, x1, x2, x3, x4, x5, x6, x7⟩ := W0
  obtain ⟨y0, y1, y2⟩ := S0
  have zr := (World.block_lt_of_cell? W2 ⟨w.heap.size + 1 + 1, 0, none⟩ R0.1.1)
  go_wp2_with fail
  go_region_held3 (fun X => X.cell? ⟨w.heap.size, 0, none⟩ = some (.int .i64 h) ∧ X.cell? ⟨w.heap.size, 1, none⟩ = some (.int .i64 v) ∧ X.cell? ⟨w.heap.size, 2, none⟩ = some (.int .i64 c) ∧ X.cell? ⟨w.heap.size + 1, 0, none⟩ = some (.int .i64 r) ∧ X.cell? ⟨w.heap.size + 1, 1, none⟩ = some (.int .i64 s) ∧ X.cell? ⟨w.heap.size + 1, 2, none⟩ = some (.int .i64 sy) ∧ X.cell? ⟨w.heap.size + 1, 3, none⟩ = some (.int .i64 sx) ∧ X.cell? ⟨w.heap.size + 1, 4, none⟩ = some (.int .i64 t) ∧ X.cell? ⟨w.heap.size + 1, 5, none⟩ = some (.int .i64 l) ∧ X.cell? ⟨w.heap.size + 1, 6, none⟩ = some (.int .i64 b) ∧ X.cell? ⟨w.heap.size + 1, 7, none⟩ = some (.int .i64 q)) (((try dsimp only); refine sw_keep SS.out WW.out ?_; repeat (first | exact Below.refl _ _ | refine bl_alloc ?_ _ | refine Below.drew ?_ | refine bl_drewN ?_ _ | refine bl_set ?_ (by first | omega | (simp; done) | (simp; omega)) _ | refine bl_step ?_ (by assumption))))
    (first
      | (go_at_call 80; (with_reducible refine (H1 _).mono ?_); rintro e w3 ⟨rfl, hx⟩; subst w3)
      | (go_at_call 80; (with_reducible refine (H2 _).mono ?_); rintro e w4 ⟨rfl, hx⟩; subst w4))
  all_goals (
    first
      | refine gen_then (fun X => Below w.heap.size w X ∧ Sh X W2.heap.size 0 OH OW k ∧ Rz X (w.heap.size + 1 + 1)) ⟨by repeat (first | exact Below.refl _ _ | refine bl_alloc ?_ _ | refine Below.drew ?_ | refine bl_drewN ?_ _ | refine bl_set ?_ (by first | omega | (simp; done) | (simp; omega)) _ | refine bl_step ?_ (by assumption)), sh_new' rfl, RR.out.keep (by repeat (first | exact Below.refl _ _ | refine bl_alloc ?_ _ | refine Below.drew ?_ | refine bl_drewN ?_ _ | refine bl_set ?_ (by first | omega | (simp; done) | (simp; omega)) _ | refine bl_step ?_ (by assumption)))⟩ ?_
      | refine gen_then (fun X => Below w.heap.size w X ∧ Sh X W2.heap.size 0 OH OW k ∧ Rz X (w.heap.size + 1 + 1)) ⟨by repeat (first | exact Below.refl _ _ | refine bl_alloc ?_ _ | refine Below.drew ?_ | refine bl_drewN ?_ _ | refine bl_set ?_ (by first | omega | (simp; done) | (simp; omega)) _ | refine bl_step ?_ (by assumption)), sh_set (sh_new' rfl), RR.out.keep (by repeat (first | exact Below.refl _ _ | refine bl_alloc ?_ _ | refine Below.drew ?_ | refine bl_drewN ?_ _ | refine bl_set ?_ (by first | omega | (simp; done) | (simp; omega)) _ | refine bl_step ?_ (by assumption)))⟩ ?_
    rintro X ⟨BX, ⟨q0, q1, q2⟩, ⟨⟨r0, r1, r2⟩, f0, f1, f2⟩⟩
    clear x0 x1 x2 x3 x4 x5 x6 x7 y0 y1 y2 SS WW RR R0 B0 H1 H2
    generalize W2.heap.size = G at *
    obtain ⟨A0, A1, A2, A3⟩ := AA.out
    by_cases hm : OH = 0
    · obtain rfl := A0 hm
      subst hm
      clear A0 A1 A2 A3 AA HO
      obtain ⟨u0, u1, u2⟩ := sh_set (a := 0) (b := 0) (c := 0) (Sh.intro r0 r1 r2)
      simp only [Nat.zero_add] at u1 u2
      go_wp2_with fail
      simp [bodyPost, results, Tryz.results56, go_sem, u0, u1, u2]
      repeat (first | exact Below.refl _ _ | refine bl_alloc ?_ _ | refine Below.drew ?_ | refine bl_drewN ?_ _ | refine bl_set ?_ (by first | omega | (simp; done) | (simp; omega)) _ | refine bl_step ?_ (by assumption))
    · replace A1 := A1 hm
      replace A2 := A2 hm
      replace A3 := A3 hm
      clear A0 AA
      by_cases hn : OW = 0
      · obtain rfl := A1 hn
        subst hn
        clear A1 A2 A3 HO
        obtain ⟨u0, u1, u2⟩ := sh_set (a := 0) (b := 0) (c := 0) (Sh.intro r0 r1 r2)
        simp only [Nat.zero_add] at u1 u2
        go_wp2_with fail
        simp [bodyPost, results, Tryz.results56, go_sem, u0, u1, u2]
        repeat (first | exact Below.refl _ _ | refine bl_alloc ?_ _ | refine Below.drew ?_ | refine bl_drewN ?_ _ | refine bl_set ?_ (by first | omega | (simp; done) | (simp; omega)) _ | refine bl_step ?_ (by assumption))
      · have AB := hid1 (And.intro (A2 hn) (A3 hn))
        clear A1 A2 A3
        have bm : (OH == 0) = false := by simpa using hm
        have bn : (OW == 0) = false := by simpa using hn
        go_wp2_with fail
        refine (HO X).mono ?_
        rintro e w7 ⟨rfl, hb7⟩
        obtain ⟨q0, q1, q2⟩ := (Sh.intro q0 q1 q2).keep hb7
        have RX : Rz X (w.heap.size + 1 + 1) := ⟨Sh.intro r0 r1 r2, f0, f1, f2⟩
        replace RX := RX.keep hb7
        clear r0 r1 r2 f0 f1 f2
        obtain ⟨⟨r0, r1, r2⟩, f0, f1, f2⟩ := RX
        obtain ⟨A2, A3⟩ := AB.out
        clear AB
        by_cases hc : chk OH OW k = 0
        · obtain rfl := A3 hc
          rw [hc]
          clear A2 A3
          obtain ⟨u0, u1, u2⟩ := sh_set (a := OH) (b := OW) (c := k) (Sh.intro r0 r1 r2)
          simp only [Nat.zero_add] at u1 u2
          go_wp2_with fail
          simp [bodyPost, results, Tryz.results56, go_sem, u0, u1, u2]
          repeat (first | exact Below.refl _ _ | refine bl_alloc ?_ _ | refine Below.drew ?_ | refine bl_drewN ?_ _ | refine bl_set ?_ (by first | omega | (simp; done) | (simp; omega)) _ | refine bl_step ?_ (by assumption))
        · obtain rfl := A2 hc
          clear A2 A3
          obtain ⟨E, hE⟩ : ∃ E, chk OH OW k = E := ⟨_, rfl⟩
          rw [hE] at hc ⊢
          obtain ⟨u0, u1, u2⟩ := sh_set (a := 0) (b := 0) (c := 0) (Sh.intro r0 r1 r2)
          simp only [Nat.zero_add] at u1 u2
          go_wp2_with fail
          simp [bodyPost, results, Tryz.results56, go_sem, u0, u1, u2, hE]
          repeat (first | exact Below.refl _ _ | refine bl_alloc ?_ _ | refine Below.drew ?_ | refine bl_drewN ?_ _ | refine bl_set ?_ (by first | omega | (simp; done) | (simp; omega)) _ | refine bl_step ?_ (by assumption)))
theorem rslide_any (h v c r s sy sx t l b q k : Int) (w : World) :
    Calls Tryz.prog 56 #[shp h v c, win r s sy sx t l b q, .int .i64 k] w fun e w' => e = .returned (slV h v c r s sy sx t l b q k) ∧ Below w.heap.size w w' := by
  have key : ∀ E, slE h v c r s sy sx t l b q k = E → E ≠ 0 → slV h v c r s sy sx t l b q k = sle 0 0 0 E := by
    intro E h1 h2
    unfold slV
    rw [h1, if_neg h2]
  by_cases hk : chk h v c = 0
  · have e1 : slE h v c r s sy sx t l b q k = if k < 1 ∨ k > 4096 then 30 else if ¬ WOk r s sy sx t l b q then 56 else
      if mn2 (stN h t b r sy) (stN v l q s sx) = 0 then 32 else chk (stN h t b r sy) (stN v l q s sx) k := by
      unfold slE; rw [if_neg (fun h => h hk)]
    by_cases k1 : 1 ≤ k ∧ k ≤ 4096
    · rw [if_neg (by omega)] at e1
      by_cases hw : WOk r s sy sx t l b q
      · rw [if_neg (fun x => x hw)] at e1
        have hs := (chk_zero hk).1
        have b1 := (stN_b h t b r sy hs.1 hw.1).1
        have b2 := (stN_b v l q s sx hs.2.1 hw.2).1
        have hm := mn2_is (stN h t b r sy) (stN v l q s sx)
        refine rslide_good h v c r s sy sx t l b q k _ _ hk k1 hw rfl rfl _ (fun h0 => ?_) (fun h0 h1 => ?_) (fun h0 h1 hc => ?_) (fun h0 h1 hc => ?_) w
        · rw [if_pos (by omega)] at e1; exact key 32 e1 (by decide)
        · rw [if_pos (by omega)] at e1; exact key 32 e1 (by decide)
        · rw [if_neg (by omega)] at e1; exact key _ e1 hc
        · rw [if_neg (by omega), hc] at e1; unfold slV; rw [if_pos e1]
      · rw [key 56 (by rw [e1, if_pos hw]) (by decide)]; exact rslide_bad4 h v c r s sy sx t l b q k hk k1 hw w
    · rw [key 30 (by rw [e1, if_pos (by omega)]) (by decide)]; exact rslide_bad2 h v c r s sy sx t l b q k hk k1 w
  · have e1 : slE h v c r s sy sx t l b q k = chk h v c := by unfold slE; rw [if_pos hk]
    rw [key _ e1 hk]; exact rslide_bad1 h v c r s sy sx t l b q k hk w
end Go.Proofs.YtlgjoepeibodkaaGreat.Nn
/- THE DOCUMENT'S NETWORKS: WHAT COMES OUT OF A LAYER. -/
namespace Go.Proofs.YtlgjoepeibodkaaGreat.Nn
open Go.RowKit

theorem rfan_any (L : Ly) (h v c : Int) (hs : Sides h v c) (hf : Fok L) (hk : L.kd = 1 ∨ L.kd = 2) (w : World) :
    Calls Tryz.prog 57 #[lyv L, shp h v c] w fun e w' => e = .returned (.int .i64 (fan L h v c)) ∧ Below w.heap.size w w' := by
  have hb := fan_b hs hf
  unfold fan at hb ⊢
  by_cases hk2 : L.kd = 2
  · rw [if_pos hk2] at hb ⊢
    have hk1 : (L.kd == 1) = false := by simp [hk2]
    have m1 := mul2 hs.1 hs.2.1
    have e1 := wr_id (x := h * v) (by omega) (by omega)
    have e2 := wr_id (x := h * v * c) (by omega) (by omega)
    clear hs hf hk hk2
    go_enter Tryz.func57, Tryz.ntmps57
    go_wp2
    go_ret
    exact ⟨by first | rfl | simp [*], by repeat (first | (with_reducible exact Below.refl _ _) | (with_reducible refine bl_alloc ?_ _) | (with_reducible refine Below.drew ?_) | (with_reducible refine bl_drewN ?_ _) | (with_reducible refine bl_set ?_ (by omega) _) | (with_reducible refine bl_step ?_ (by assumption)))⟩
  · rw [if_neg hk2] at hb ⊢
    have hk1 : (L.kd == 1) = true := by rcases hk with h | h; exact (by simp [h]); exact absurd h hk2
    have m1 : 1 ≤ L.r * L.s ∧ L.r * L.s ≤ 225 := by
      rcases hf with hf | ⟨hr, hq⟩
      · exact absurd hf hk2
      · exact mul215 hr hq
    have e1 := wr_id (x := L.r * L.s) (by omega) (by omega)
    have e2 := wr_id (x := L.r * L.s * c) (by omega) (by omega)
    clear hs hf hk hk2
    go_enter Tryz.func57, Tryz.ntmps57
    go_wp2
    go_ret
    exact ⟨by first | rfl | simp [*], by repeat (first | (with_reducible exact Below.refl _ _) | (with_reducible refine bl_alloc ?_ _) | (with_reducible refine Below.drew ?_) | (with_reducible refine bl_drewN ?_ _) | (with_reducible refine bl_set ?_ (by omega) _) | (with_reducible refine bl_step ?_ (by assumption)))⟩
def rbE (L : Ly) : Int := if ((L.kd = 3 ∧ ¬ Wz L) ∨ L.bd < -1 ∨ 1 < L.bd) ∨ (Wz L ∧ L.bd ≠ 0) then 56 else 0
def roE (L : Ly) (h v c : Int) : Int := if L.kd = 2 then 0 else if wiE L.r L.s L.sy L.sx L.t L.l L.b L.q ≠ 0 then wiE L.r L.s L.sy L.sx L.t L.l L.b L.q else if rbE L ≠ 0 then 56 else oE L h v c
def roV (L : Ly) (h v c : Int) : Value := if L.kd = 2 then sle 1 1 L.k 0 else if wiE L.r L.s L.sy L.sx L.t L.l L.b L.q ≠ 0 then sle 0 0 0 (wiE L.r L.s L.sy L.sx L.t L.l L.b L.q) else if rbE L ≠ 0 then sle 0 0 0 56 else sle (oH L h v c) (oV L h v c) (oC L h v c) (oE L h v c)
set_option maxRecDepth 100000 in
theorem rout_dense (L : Ly) (S : Sp) (at' : Int) (hk : L.kd = 2) (w : World) : Calls Tryz.prog 40 #[lyv L, inv at' S] w fun e w' => e = .returned (sle 1 1 L.k 0) ∧ Below w.heap.size w w' := by
  go_enter Tryz.func40, Tryz.ntmps40
  go_wp2
  all_goals simp [bodyPost, results, Tryz.results40, go_sem]
  all_goals repeat (first | (with_reducible exact Below.refl _ _) | (with_reducible refine bl_alloc ?_ _) | (with_reducible refine Below.drew ?_) | (with_reducible refine bl_drewN ?_ _) | (with_reducible refine bl_set ?_ (by omega) _) | (with_reducible refine bl_step ?_ (by assumption)))
set_option maxRecDepth 100000 in
theorem rout_win (L : Ly) (S : Sp) (at' : Int) (hk : ¬ L.kd = 2) (x : Int) (hx : wiE L.r L.s L.sy L.sx L.t L.l L.b L.q = x) (h0 : ¬ x = 0) (w : World) : Calls Tryz.prog 40 #[lyv L, inv at' S] w fun e w' => e = .returned (sle 0 0 0 x) ∧ Below w.heap.size w w' := by
  have hk2 : (L.kd == 2) = false := by simpa using hk
  have hx2 : (x != 0) = true := by simpa using h0
  have CW := rwindow_any L.r L.s L.sy L.sx L.t L.l L.b L.q
  rw [hx] at CW
  clear hk hx h0
  go_enter Tryz.func40, Tryz.ntmps40
  go_wp2_with fail
  refine gen_calls (fun X => Below w.heap.size w X ∧ Rz X (w.heap.size + 1 + 1)) ⟨by repeat (first | (with_reducible exact Below.refl _ _) | (with_reducible refine bl_alloc ?_ _) | (with_reducible refine Below.drew ?_) | (with_reducible refine bl_drewN ?_ _) | (with_reducible refine bl_set ?_ (by omega) _) | (with_reducible refine bl_step ?_ (by assumption))), rz_new (by simp)⟩ ?_
  rintro X ⟨BX, RX⟩
  refine (CW X).mono ?_
  rintro e w1 ⟨rfl, hb⟩
  replace RX := RX.keep hb
  replace BX := bl_step BX hb
  clear hb CW
  obtain ⟨⟨z0, z1, z2⟩, f0, f1, f2⟩ := RX
  go_wp2_with fail
  simp [bodyPost, results, Tryz.results40, go_sem, z0, z1, z2]
  repeat (first | (with_reducible exact Below.refl _ _) | (with_reducible refine bl_alloc ?_ _) | (with_reducible refine Below.drew ?_) | (with_reducible refine bl_drewN ?_ _) | (with_reducible refine bl_set ?_ (by omega) _) | (with_reducible refine bl_step ?_ (by assumption)))
end Go.Proofs.YtlgjoepeibodkaaGreat.Nn
/- THE DOCUMENT'S NETWORKS: BORDERS, WHAT COMES OUT. -/
namespace Go.Proofs.YtlgjoepeibodkaaGreat.Nn
open Go.RowKit

theorem wz_yes {L : Ly} (h0 : (L.t == 0) = true) (h1 : (L.l == 0) = true) (h2 : (L.b == 0) = true) (h3 : (L.q == 0) = true) : Wz L := ⟨by simpa using h0, by simpa using h1, by simpa using h2, by simpa using h3⟩
theorem rb_bad {L : Ly} (h : ((L.kd = 3 ∧ ¬ Wz L) ∨ L.bd < -1 ∨ 1 < L.bd) ∨ (Wz L ∧ L.bd ≠ 0)) : rbE L = 56 := if_pos h
theorem rb_good {L : Ly} (h : ¬ (((L.kd = 3 ∧ ¬ Wz L) ∨ L.bd < -1 ∨ 1 < L.bd) ∨ (Wz L ∧ L.bd ≠ 0))) : rbE L = 0 := if_neg h
def roR (L : Ly) (S : Sp) : Value := if rbE L ≠ 0 then sle 0 0 0 56 else sle (oH L S.h S.v S.c) (oV L S.h S.v S.c) (oC L S.h S.v S.c) (oE L S.h S.v S.c)
theorem ror_bad {L : Ly} {S : Sp} (h : rbE L = 56) : roR L S = sle 0 0 0 56 := if_pos (by rw [h]; decide)
theorem ror_good {L : Ly} {S : Sp} (h : rbE L = 0) : roR L S = sle (oH L S.h S.v S.c) (oV L S.h S.v S.c) (oC L S.h S.v S.c) (oE L S.h S.v S.c) := if_neg (by rw [h]; decide)

set_option maxHeartbeats 1600000 in
set_option maxRecDepth 100000 in
theorem rout_3_0 (L : Ly) (S : Sp) (at' : Int) (hk2 : (L.kd == 2) = false) (hkd : L.kd = 3) (hx : wiE L.r L.s L.sy L.sx L.t L.l L.b L.q = 0) (t0 : (L.t == 0) = true) (t1 : (L.l == 0) = true) (t2 : (L.b == 0) = true) (t3 : (L.q == 0) = true) (hsl : slV S.h S.v S.c L.r L.s L.sy L.sx L.t L.l L.b L.q S.c = sle (oH L S.h S.v S.c) (oV L S.h S.v S.c) (oC L S.h S.v S.c) (oE L S.h S.v S.c)) (w : World) : Calls Tryz.prog 40 #[lyv L, inv at' S] w fun e w' => e = .returned (roR L S) ∧ Below w.heap.size w w' := by
  have CW := rwindow_any L.r L.s L.sy L.sx L.t L.l L.b L.q
  rw [hx] at CW
  clear hx
  have HZ := hid1 (wz_yes t0 t1 t2 t3)
  have HK := hid1 hkd
  have hk3 : (L.kd == 3) = true := by simp [hkd]
  by_cases b1 : L.bd < -1
  · rw [ror_bad (rb_bad (.inl (.inr (.inl b1))))]
    clear hkd
    clear hsl
    go_enter Tryz.func40, Tryz.ntmps40
    go_wp2_with fail
    refine gen_calls (fun X => Below w.heap.size w X ∧ Rz X (w.heap.size + 1 + 1) ∧ Lp X w.heap.size L ∧ Iv X (w.heap.size + 1) at' S) ⟨by repeat (first | (with_reducible exact Below.refl _ _) | (with_reducible refine bl_alloc ?_ _) | (with_reducible refine Below.drew ?_) | (with_reducible refine bl_drewN ?_ _) | (with_reducible refine bl_set ?_ (by omega) _) | (with_reducible refine bl_step ?_ (by assumption))), rz_new (by simp), (lp_new _ _ _).keep (bl_alloc (bl_alloc (Below.refl _ _) _) _), (iv_new (by simp) at' S _).keep (bl_alloc (Below.refl _ _) _)⟩ ?_
    rintro X ⟨BX, RX, LX, IX⟩
    refine (CW X).mono ?_
    rintro e w1 ⟨rfl, hb⟩
    replace RX := RX.keep hb
    replace LX := LX.keep hb
    replace IX := IX.keep hb
    replace BX := bl_step BX hb
    clear hb CW X
    have KR := hid1 RX
    obtain ⟨⟨z0, z1, z2⟩, f0, f1, f2⟩ := RX
    obtain ⟨c0, c1', c2, c3, c4, c5, c6, c7, c8, c9, c10, c11, c12, c13, c14⟩ := LX
    obtain ⟨i0, i1, i2, i3, i4, i5⟩ := IX
    go_wp2_with fail
    simp [bodyPost, results, Tryz.results40, go_sem, *]
    repeat (first | (with_reducible exact Below.refl _ _) | (with_reducible refine bl_alloc ?_ _) | (with_reducible refine Below.drew ?_) | (with_reducible refine bl_drewN ?_ _) | (with_reducible refine bl_set ?_ (by omega) _) | (with_reducible refine bl_step ?_ (by assumption)))
  · by_cases b2 : 1 < L.bd
    · rw [ror_bad (rb_bad (.inl (.inr (.inr b2))))]
      clear hkd
      clear hsl
      go_enter Tryz.func40, Tryz.ntmps40
      go_wp2_with fail
      refine gen_calls (fun X => Below w.heap.size w X ∧ Rz X (w.heap.size + 1 + 1) ∧ Lp X w.heap.size L ∧ Iv X (w.heap.size + 1) at' S) ⟨by repeat (first | (with_reducible exact Below.refl _ _) | (with_reducible refine bl_alloc ?_ _) | (with_reducible refine Below.drew ?_) | (with_reducible refine bl_drewN ?_ _) | (with_reducible refine bl_set ?_ (by omega) _) | (with_reducible refine bl_step ?_ (by assumption))), rz_new (by simp), (lp_new _ _ _).keep (bl_alloc (bl_alloc (Below.refl _ _) _) _), (iv_new (by simp) at' S _).keep (bl_alloc (Below.refl _ _) _)⟩ ?_
      rintro X ⟨BX, RX, LX, IX⟩
      refine (CW X).mono ?_
      rintro e w1 ⟨rfl, hb⟩
      replace RX := RX.keep hb
      replace LX := LX.keep hb
      replace IX := IX.keep hb
      replace BX := bl_step BX hb
      clear hb CW X
      have KR := hid1 RX
      obtain ⟨⟨z0, z1, z2⟩, f0, f1, f2⟩ := RX
      obtain ⟨c0, c1', c2, c3, c4, c5, c6, c7, c8, c9, c10, c11, c12, c13, c14⟩ := LX
      obtain ⟨i0, i1, i2, i3, i4, i5⟩ := IX
      go_wp2_with fail
      simp [bodyPost, results, Tryz.results40, go_sem, *]
      repeat (first | (with_reducible exact Below.refl _ _) | (with_reducible refine bl_alloc ?_ _) | (with_reducible refine Below.drew ?_) | (with_reducible refine bl_drewN ?_ _) | (with_reducible refine bl_set ?_ (by omega) _) | (with_reducible refine bl_step ?_ (by assumption)))
    · by_cases b3 : L.bd = 0
      · rw [ror_good (rb_good (fun h => by rcases h with (⟨_, h⟩ | h | h) | ⟨_, h⟩; exact h HZ.out; exact b1 h; exact b2 h; exact h b3))]
        have b4 : (L.bd != 0) = false := by simp [b3]
        clear b3 hkd
        have CS := rslide_any S.h S.v S.c L.r L.s L.sy L.sx L.t L.l L.b L.q S.c
        rw [hsl] at CS
        clear hsl
        generalize oH L S.h S.v S.c = h1 at *
        generalize oV L S.h S.v S.c = v1 at *
        generalize oC L S.h S.v S.c = c1 at *
        generalize oE L S.h S.v S.c = e1 at *
        go_enter Tryz.func40, Tryz.ntmps40
        go_wp2_with fail
        refine gen_calls (fun X => Below w.heap.size w X ∧ Rz X (w.heap.size + 1 + 1) ∧ Lp X w.heap.size L ∧ Iv X (w.heap.size + 1) at' S) ⟨by repeat (first | (with_reducible exact Below.refl _ _) | (with_reducible refine bl_alloc ?_ _) | (with_reducible refine Below.drew ?_) | (with_reducible refine bl_drewN ?_ _) | (with_reducible refine bl_set ?_ (by omega) _) | (with_reducible refine bl_step ?_ (by assumption))), rz_new (by simp), (lp_new _ _ _).keep (bl_alloc (bl_alloc (Below.refl _ _) _) _), (iv_new (by simp) at' S _).keep (bl_alloc (Below.refl _ _) _)⟩ ?_
        rintro X ⟨BX, RX, LX, IX⟩
        refine (CW X).mono ?_
        rintro e w1 ⟨rfl, hb⟩
        replace RX := RX.keep hb
        replace LX := LX.keep hb
        replace IX := IX.keep hb
        replace BX := bl_step BX hb
        clear hb CW X
        have KR := hid1 RX
        obtain ⟨⟨z0, z1, z2⟩, f0, f1, f2⟩ := RX
        obtain ⟨c0, c1', c2, c3, c4, c5, c6, c7, c8, c9, c10, c11, c12, c13, c14⟩ := LX
        obtain ⟨i0, i1, i2, i3, i4, i5⟩ := IX
        go_wp2_with fail
        refine (CS _).mono ?_
        rintro e w2 ⟨rfl, hb⟩
        replace KR := hid1 (KR.out.keep hb)
        replace BX := bl_step BX hb
        clear hb CS z0 z1 z2 f0 f1 f2 c0 c1' c2 c3 c4 c5 c6 c7 c8 c9 c10 c11 c12 c13 c14 i0 i1 i2 i3 i4 i5
        obtain ⟨⟨z0, z1, z2⟩, f0, f1, f2⟩ := KR.out
        have hlt := lt_of_cell z0
        go_wp2_with fail
        have hne := Nat.ne_of_lt hlt
        simp [bodyPost, results, Tryz.results40, go_sem, *]
        repeat (first | (with_reducible exact Below.refl _ _) | (with_reducible refine bl_alloc ?_ _) | (with_reducible refine Below.drew ?_) | (with_reducible refine bl_drewN ?_ _) | (with_reducible refine bl_set ?_ (by omega) _) | (with_reducible refine bl_step ?_ (by assumption)))
      · rw [ror_bad (rb_bad (.inr ⟨HZ.out, b3⟩))]
        have b4 : (L.bd != 0) = true := by simpa using b3
        clear b3 hkd
        clear hsl
        go_enter Tryz.func40, Tryz.ntmps40
        go_wp2_with fail
        refine gen_calls (fun X => Below w.heap.size w X ∧ Rz X (w.heap.size + 1 + 1) ∧ Lp X w.heap.size L ∧ Iv X (w.heap.size + 1) at' S) ⟨by repeat (first | (with_reducible exact Below.refl _ _) | (with_reducible refine bl_alloc ?_ _) | (with_reducible refine Below.drew ?_) | (with_reducible refine bl_drewN ?_ _) | (with_reducible refine bl_set ?_ (by omega) _) | (with_reducible refine bl_step ?_ (by assumption))), rz_new (by simp), (lp_new _ _ _).keep (bl_alloc (bl_alloc (Below.refl _ _) _) _), (iv_new (by simp) at' S _).keep (bl_alloc (Below.refl _ _) _)⟩ ?_
        rintro X ⟨BX, RX, LX, IX⟩
        refine (CW X).mono ?_
        rintro e w1 ⟨rfl, hb⟩
        replace RX := RX.keep hb
        replace LX := LX.keep hb
        replace IX := IX.keep hb
        replace BX := bl_step BX hb
        clear hb CW X
        have KR := hid1 RX
        obtain ⟨⟨z0, z1, z2⟩, f0, f1, f2⟩ := RX
        obtain ⟨c0, c1', c2, c3, c4, c5, c6, c7, c8, c9, c10, c11, c12, c13, c14⟩ := LX
        obtain ⟨i0, i1, i2, i3, i4, i5⟩ := IX
        go_wp2_with fail
        simp [bodyPost, results, Tryz.results40, go_sem, *]
        repeat (first | (with_reducible exact Below.refl _ _) | (with_reducible refine bl_alloc ?_ _) | (with_reducible refine Below.drew ?_) | (with_reducible refine bl_drewN ?_ _) | (with_reducible refine bl_set ?_ (by omega) _) | (with_reducible refine bl_step ?_ (by assumption)))
set_option maxHeartbeats 1600000 in
set_option maxRecDepth 100000 in
theorem rout_3_1 (L : Ly) (S : Sp) (at' : Int) (hk2 : (L.kd == 2) = false) (hkd : L.kd = 3) (hx : wiE L.r L.s L.sy L.sx L.t L.l L.b L.q = 0) (t0 : (L.t == 0) = false) (_hsl : slV S.h S.v S.c L.r L.s L.sy L.sx L.t L.l L.b L.q S.c = sle (oH L S.h S.v S.c) (oV L S.h S.v S.c) (oC L S.h S.v S.c) (oE L S.h S.v S.c)) (w : World) : Calls Tryz.prog 40 #[lyv L, inv at' S] w fun e w' => e = .returned (roR L S) ∧ Below w.heap.size w w' := by
  have CW := rwindow_any L.r L.s L.sy L.sx L.t L.l L.b L.q
  rw [hx] at CW
  clear hx
  have HZ := hid1 (show ¬ Wz L from fun h => by have e : (L.t == 0) = true := (by simp [h.1]); rw [e] at t0; cases t0)
  have HK := hid1 hkd
  have hk3 : (L.kd == 3) = true := by simp [hkd]
  rw [ror_bad (rb_bad (.inl (.inl ⟨hkd, HZ.out⟩)))]
  clear hkd
  clear _hsl
  go_enter Tryz.func40, Tryz.ntmps40
  go_wp2_with fail
  refine gen_calls (fun X => Below w.heap.size w X ∧ Rz X (w.heap.size + 1 + 1) ∧ Lp X w.heap.size L ∧ Iv X (w.heap.size + 1) at' S) ⟨by repeat (first | (with_reducible exact Below.refl _ _) | (with_reducible refine bl_alloc ?_ _) | (with_reducible refine Below.drew ?_) | (with_reducible refine bl_drewN ?_ _) | (with_reducible refine bl_set ?_ (by omega) _) | (with_reducible refine bl_step ?_ (by assumption))), rz_new (by simp), (lp_new _ _ _).keep (bl_alloc (bl_alloc (Below.refl _ _) _) _), (iv_new (by simp) at' S _).keep (bl_alloc (Below.refl _ _) _)⟩ ?_
  rintro X ⟨BX, RX, LX, IX⟩
  refine (CW X).mono ?_
  rintro e w1 ⟨rfl, hb⟩
  replace RX := RX.keep hb
  replace LX := LX.keep hb
  replace IX := IX.keep hb
  replace BX := bl_step BX hb
  clear hb CW X
  have KR := hid1 RX
  obtain ⟨⟨z0, z1, z2⟩, f0, f1, f2⟩ := RX
  obtain ⟨c0, c1', c2, c3, c4, c5, c6, c7, c8, c9, c10, c11, c12, c13, c14⟩ := LX
  obtain ⟨i0, i1, i2, i3, i4, i5⟩ := IX
  go_wp2_with fail
  simp [bodyPost, results, Tryz.results40, go_sem, *]
  repeat (first | (with_reducible exact Below.refl _ _) | (with_reducible refine bl_alloc ?_ _) | (with_reducible refine Below.drew ?_) | (with_reducible refine bl_drewN ?_ _) | (with_reducible refine bl_set ?_ (by omega) _) | (with_reducible refine bl_step ?_ (by assumption)))
set_option maxHeartbeats 1600000 in
set_option maxRecDepth 100000 in
theorem rout_3_2 (L : Ly) (S : Sp) (at' : Int) (hk2 : (L.kd == 2) = false) (hkd : L.kd = 3) (hx : wiE L.r L.s L.sy L.sx L.t L.l L.b L.q = 0) (t0 : (L.t == 0) = true) (t1 : (L.l == 0) = false) (_hsl : slV S.h S.v S.c L.r L.s L.sy L.sx L.t L.l L.b L.q S.c = sle (oH L S.h S.v S.c) (oV L S.h S.v S.c) (oC L S.h S.v S.c) (oE L S.h S.v S.c)) (w : World) : Calls Tryz.prog 40 #[lyv L, inv at' S] w fun e w' => e = .returned (roR L S) ∧ Below w.heap.size w w' := by
  have CW := rwindow_any L.r L.s L.sy L.sx L.t L.l L.b L.q
  rw [hx] at CW
  clear hx
  have HZ := hid1 (show ¬ Wz L from fun h => by have e : (L.l == 0) = true := (by simp [h.2.1]); rw [e] at t1; cases t1)
  have HK := hid1 hkd
  have hk3 : (L.kd == 3) = true := by simp [hkd]
  rw [ror_bad (rb_bad (.inl (.inl ⟨hkd, HZ.out⟩)))]
  clear hkd
  clear _hsl
  go_enter Tryz.func40, Tryz.ntmps40
  go_wp2_with fail
  refine gen_calls (fun X => Below w.heap.size w X ∧ Rz X (w.heap.size + 1 + 1) ∧ Lp X w.heap.size L ∧ Iv X (w.heap.size + 1) at' S) ⟨by repeat (first | (with_reducible exact Below.refl _ _) | (with_reducible refine bl_alloc ?_ _) | (with_reducible refine Below.drew ?_) | (with_reducible refine bl_drewN ?_ _) | (with_reducible refine bl_set ?_ (by omega) _) | (with_reducible refine bl_step ?_ (by assumption))), rz_new (by simp), (lp_new _ _ _).keep (bl_alloc (bl_alloc (Below.refl _ _) _) _), (iv_new (by simp) at' S _).keep (bl_alloc (Below.refl _ _) _)⟩ ?_
  rintro X ⟨BX, RX, LX, IX⟩
  refine (CW X).mono ?_
  rintro e w1 ⟨rfl, hb⟩
  replace RX := RX.keep hb
  replace LX := LX.keep hb
  replace IX := IX.keep hb
  replace BX := bl_step BX hb
  clear hb CW X
  have KR := hid1 RX
  obtain ⟨⟨z0, z1, z2⟩, f0, f1, f2⟩ := RX
  obtain ⟨c0, c1', c2, c3, c4, c5, c6, c7, c8, c9, c10, c11, c12, c13, c14⟩ := LX
  obtain ⟨i0, i1, i2, i3, i4, i5⟩ := IX
  go_wp2_with fail
  simp [bodyPost, results, Tryz.results40, go_sem, *]
  repeat (first | (with_reducible exact Below.refl _ _) | (with_reducible refine bl_alloc ?_ _) | (with_reducible refine Below.drew ?_) | (with_reducible refine bl_drewN ?_ _) | (with_reducible refine bl_set ?_ (by omega) _) | (with_reducible refine bl_step ?_ (by assumption)))
set_option maxHeartbeats 1600000 in
set_option maxRecDepth 100000 in
theorem rout_3_3 (L : Ly) (S : Sp) (at' : Int) (hk2 : (L.kd == 2) = false) (hkd : L.kd = 3) (hx : wiE L.r L.s L.sy L.sx L.t L.l L.b L.q = 0) (t0 : (L.t == 0) = true) (t1 : (L.l == 0) = true) (t2 : (L.b == 0) = false) (_hsl : slV S.h S.v S.c L.r L.s L.sy L.sx L.t L.l L.b L.q S.c = sle (oH L S.h S.v S.c) (oV L S.h S.v S.c) (oC L S.h S.v S.c) (oE L S.h S.v S.c)) (w : World) : Calls Tryz.prog 40 #[lyv L, inv at' S] w fun e w' => e = .returned (roR L S) ∧ Below w.heap.size w w' := by
  have CW := rwindow_any L.r L.s L.sy L.sx L.t L.l L.b L.q
  rw [hx] at CW
  clear hx
  have HZ := hid1 (show ¬ Wz L from fun h => by have e : (L.b == 0) = true := (by simp [h.2.2.1]); rw [e] at t2; cases t2)
  have HK := hid1 hkd
  have hk3 : (L.kd == 3) = true := by simp [hkd]
  rw [ror_bad (rb_bad (.inl (.inl ⟨hkd, HZ.out⟩)))]
  clear hkd
  clear _hsl
  go_enter Tryz.func40, Tryz.ntmps40
  go_wp2_with fail
  refine gen_calls (fun X => Below w.heap.size w X ∧ Rz X (w.heap.size + 1 + 1) ∧ Lp X w.heap.size L ∧ Iv X (w.heap.size + 1) at' S) ⟨by repeat (first | (with_reducible exact Below.refl _ _) | (with_reducible refine bl_alloc ?_ _) | (with_reducible refine Below.drew ?_) | (with_reducible refine bl_drewN ?_ _) | (with_reducible refine bl_set ?_ (by omega) _) | (with_reducible refine bl_step ?_ (by assumption))), rz_new (by simp), (lp_new _ _ _).keep (bl_alloc (bl_alloc (Below.refl _ _) _) _), (iv_new (by simp) at' S _).keep (bl_alloc (Below.refl _ _) _)⟩ ?_
  rintro X ⟨BX, RX, LX, IX⟩
  refine (CW X).mono ?_
  rintro e w1 ⟨rfl, hb⟩
  replace RX := RX.keep hb
  replace LX := LX.keep hb
  replace IX := IX.keep hb
  replace BX := bl_step BX hb
  clear hb CW X
  have KR := hid1 RX
  obtain ⟨⟨z0, z1, z2⟩, f0, f1, f2⟩ := RX
  obtain ⟨c0, c1', c2, c3, c4, c5, c6, c7, c8, c9, c10, c11, c12, c13, c14⟩ := LX
  obtain ⟨i0, i1, i2, i3, i4, i5⟩ := IX
  go_wp2_with fail
  simp [bodyPost, results, Tryz.results40, go_sem, *]
  repeat (first | (with_reducible exact Below.refl _ _) | (with_reducible refine bl_alloc ?_ _) | (with_reducible refine Below.drew ?_) | (with_reducible refine bl_drewN ?_ _) | (with_reducible refine bl_set ?_ (by omega) _) | (with_reducible refine bl_step ?_ (by assumption)))
set_option maxHeartbeats 1600000 in
set_option maxRecDepth 100000 in
theorem rout_3_4 (L : Ly) (S : Sp) (at' : Int) (hk2 : (L.kd == 2) = false) (hkd : L.kd = 3) (hx : wiE L.r L.s L.sy L.sx L.t L.l L.b L.q = 0) (t0 : (L.t == 0) = true) (t1 : (L.l == 0) = true) (t2 : (L.b == 0) = true) (t3 : (L.q == 0) = false) (_hsl : slV S.h S.v S.c L.r L.s L.sy L.sx L.t L.l L.b L.q S.c = sle (oH L S.h S.v S.c) (oV L S.h S.v S.c) (oC L S.h S.v S.c) (oE L S.h S.v S.c)) (w : World) : Calls Tryz.prog 40 #[lyv L, inv at' S] w fun e w' => e = .returned (roR L S) ∧ Below w.heap.size w w' := by
  have CW := rwindow_any L.r L.s L.sy L.sx L.t L.l L.b L.q
  rw [hx] at CW
  clear hx
  have HZ := hid1 (show ¬ Wz L from fun h => by have e : (L.q == 0) = true := (by simp [h.2.2.2]); rw [e] at t3; cases t3)
  have HK := hid1 hkd
  have hk3 : (L.kd == 3) = true := by simp [hkd]
  rw [ror_bad (rb_bad (.inl (.inl ⟨hkd, HZ.out⟩)))]
  clear hkd
  clear _hsl
  go_enter Tryz.func40, Tryz.ntmps40
  go_wp2_with fail
  refine gen_calls (fun X => Below w.heap.size w X ∧ Rz X (w.heap.size + 1 + 1) ∧ Lp X w.heap.size L ∧ Iv X (w.heap.size + 1) at' S) ⟨by repeat (first | (with_reducible exact Below.refl _ _) | (with_reducible refine bl_alloc ?_ _) | (with_reducible refine Below.drew ?_) | (with_reducible refine bl_drewN ?_ _) | (with_reducible refine bl_set ?_ (by omega) _) | (with_reducible refine bl_step ?_ (by assumption))), rz_new (by simp), (lp_new _ _ _).keep (bl_alloc (bl_alloc (Below.refl _ _) _) _), (iv_new (by simp) at' S _).keep (bl_alloc (Below.refl _ _) _)⟩ ?_
  rintro X ⟨BX, RX, LX, IX⟩
  refine (CW X).mono ?_
  rintro e w1 ⟨rfl, hb⟩
  replace RX := RX.keep hb
  replace LX := LX.keep hb
  replace IX := IX.keep hb
  replace BX := bl_step BX hb
  clear hb CW X
  have KR := hid1 RX
  obtain ⟨⟨z0, z1, z2⟩, f0, f1, f2⟩ := RX
  obtain ⟨c0, c1', c2, c3, c4, c5, c6, c7, c8, c9, c10, c11, c12, c13, c14⟩ := LX
  obtain ⟨i0, i1, i2, i3, i4, i5⟩ := IX
  go_wp2_with fail
  simp [bodyPost, results, Tryz.results40, go_sem, *]
  repeat (first | (with_reducible exact Below.refl _ _) | (with_reducible refine bl_alloc ?_ _) | (with_reducible refine Below.drew ?_) | (with_reducible refine bl_drewN ?_ _) | (with_reducible refine bl_set ?_ (by omega) _) | (with_reducible refine bl_step ?_ (by assumption)))
set_option maxHeartbeats 1600000 in
set_option maxRecDepth 100000 in
theorem rout_1_0 (L : Ly) (S : Sp) (at' : Int) (hk2 : (L.kd == 2) = false) (hkd : ¬ L.kd = 3) (hx : wiE L.r L.s L.sy L.sx L.t L.l L.b L.q = 0) (t0 : (L.t == 0) = true) (t1 : (L.l == 0) = true) (t2 : (L.b == 0) = true) (t3 : (L.q == 0) = true) (hsl : slV S.h S.v S.c L.r L.s L.sy L.sx L.t L.l L.b L.q L.k = sle (oH L S.h S.v S.c) (oV L S.h S.v S.c) (oC L S.h S.v S.c) (oE L S.h S.v S.c)) (w : World) : Calls Tryz.prog 40 #[lyv L, inv at' S] w fun e w' => e = .returned (roR L S) ∧ Below w.heap.size w w' := by
  have CW := rwindow_any L.r L.s L.sy L.sx L.t L.l L.b L.q
  rw [hx] at CW
  clear hx
  have HZ := hid1 (wz_yes t0 t1 t2 t3)
  have HK := hid1 hkd
  have hk3 : (L.kd == 3) = false := by simpa using hkd
  by_cases b1 : L.bd < -1
  · rw [ror_bad (rb_bad (.inl (.inr (.inl b1))))]
    clear hkd
    clear hsl
    go_enter Tryz.func40, Tryz.ntmps40
    go_wp2_with fail
    refine gen_calls (fun X => Below w.heap.size w X ∧ Rz X (w.heap.size + 1 + 1) ∧ Lp X w.heap.size L ∧ Iv X (w.heap.size + 1) at' S) ⟨by repeat (first | (with_reducible exact Below.refl _ _) | (with_reducible refine bl_alloc ?_ _) | (with_reducible refine Below.drew ?_) | (with_reducible refine bl_drewN ?_ _) | (with_reducible refine bl_set ?_ (by omega) _) | (with_reducible refine bl_step ?_ (by assumption))), rz_new (by simp), (lp_new _ _ _).keep (bl_alloc (bl_alloc (Below.refl _ _) _) _), (iv_new (by simp) at' S _).keep (bl_alloc (Below.refl _ _) _)⟩ ?_
    rintro X ⟨BX, RX, LX, IX⟩
    refine (CW X).mono ?_
    rintro e w1 ⟨rfl, hb⟩
    replace RX := RX.keep hb
    replace LX := LX.keep hb
    replace IX := IX.keep hb
    replace BX := bl_step BX hb
    clear hb CW X
    have KR := hid1 RX
    obtain ⟨⟨z0, z1, z2⟩, f0, f1, f2⟩ := RX
    obtain ⟨c0, c1', c2, c3, c4, c5, c6, c7, c8, c9, c10, c11, c12, c13, c14⟩ := LX
    obtain ⟨i0, i1, i2, i3, i4, i5⟩ := IX
    go_wp2_with fail
    simp [bodyPost, results, Tryz.results40, go_sem, *]
    repeat (first | (with_reducible exact Below.refl _ _) | (with_reducible refine bl_alloc ?_ _) | (with_reducible refine Below.drew ?_) | (with_reducible refine bl_drewN ?_ _) | (with_reducible refine bl_set ?_ (by omega) _) | (with_reducible refine bl_step ?_ (by assumption)))
  · by_cases b2 : 1 < L.bd
    · rw [ror_bad (rb_bad (.inl (.inr (.inr b2))))]
      clear hkd
      clear hsl
      go_enter Tryz.func40, Tryz.ntmps40
      go_wp2_with fail
      refine gen_calls (fun X => Below w.heap.size w X ∧ Rz X (w.heap.size + 1 + 1) ∧ Lp X w.heap.size L ∧ Iv X (w.heap.size + 1) at' S) ⟨by repeat (first | (with_reducible exact Below.refl _ _) | (with_reducible refine bl_alloc ?_ _) | (with_reducible refine Below.drew ?_) | (with_reducible refine bl_drewN ?_ _) | (with_reducible refine bl_set ?_ (by omega) _) | (with_reducible refine bl_step ?_ (by assumption))), rz_new (by simp), (lp_new _ _ _).keep (bl_alloc (bl_alloc (Below.refl _ _) _) _), (iv_new (by simp) at' S _).keep (bl_alloc (Below.refl _ _) _)⟩ ?_
      rintro X ⟨BX, RX, LX, IX⟩
      refine (CW X).mono ?_
      rintro e w1 ⟨rfl, hb⟩
      replace RX := RX.keep hb
      replace LX := LX.keep hb
      replace IX := IX.keep hb
      replace BX := bl_step BX hb
      clear hb CW X
      have KR := hid1 RX
      obtain ⟨⟨z0, z1, z2⟩, f0, f1, f2⟩ := RX
      obtain ⟨c0, c1', c2, c3, c4, c5, c6, c7, c8, c9, c10, c11, c12, c13, c14⟩ := LX
      obtain ⟨i0, i1, i2, i3, i4, i5⟩ := IX
      go_wp2_with fail
      simp [bodyPost, results, Tryz.results40, go_sem, *]
      repeat (first | (with_reducible exact Below.refl _ _) | (with_reducible refine bl_alloc ?_ _) | (with_reducible refine Below.drew ?_) | (with_reducible refine bl_drewN ?_ _) | (with_reducible refine bl_set ?_ (by omega) _) | (with_reducible refine bl_step ?_ (by assumption)))
    · by_cases b3 : L.bd = 0
      · rw [ror_good (rb_good (fun h => by rcases h with (⟨_, h⟩ | h | h) | ⟨_, h⟩; exact h HZ.out; exact b1 h; exact b2 h; exact h b3))]
        have b4 : (L.bd != 0) = false := by simp [b3]
        clear b3 hkd
        have CS := rslide_any S.h S.v S.c L.r L.s L.sy L.sx L.t L.l L.b L.q L.k
        rw [hsl] at CS
        clear hsl
        generalize oH L S.h S.v S.c = h1 at *
        generalize oV L S.h S.v S.c = v1 at *
        generalize oC L S.h S.v S.c = c1 at *
        generalize oE L S.h S.v S.c = e1 at *
        go_enter Tryz.func40, Tryz.ntmps40
        go_wp2_with fail
        refine gen_calls (fun X => Below w.heap.size w X ∧ Rz X (w.heap.size + 1 + 1) ∧ Lp X w.heap.size L ∧ Iv X (w.heap.size + 1) at' S) ⟨by repeat (first | (with_reducible exact Below.refl _ _) | (with_reducible refine bl_alloc ?_ _) | (with_reducible refine Below.drew ?_) | (with_reducible refine bl_drewN ?_ _) | (with_reducible refine bl_set ?_ (by omega) _) | (with_reducible refine bl_step ?_ (by assumption))), rz_new (by simp), (lp_new _ _ _).keep (bl_alloc (bl_alloc (Below.refl _ _) _) _), (iv_new (by simp) at' S _).keep (bl_alloc (Below.refl _ _) _)⟩ ?_
        rintro X ⟨BX, RX, LX, IX⟩
        refine (CW X).mono ?_
        rintro e w1 ⟨rfl, hb⟩
        replace RX := RX.keep hb
        replace LX := LX.keep hb
        replace IX := IX.keep hb
        replace BX := bl_step BX hb
        clear hb CW X
        have KR := hid1 RX
        obtain ⟨⟨z0, z1, z2⟩, f0, f1, f2⟩ := RX
        obtain ⟨c0, c1', c2, c3, c4, c5, c6, c7, c8, c9, c10, c11, c12, c13, c14⟩ := LX
        obtain ⟨i0, i1, i2, i3, i4, i5⟩ := IX
        go_wp2_with fail
        refine (CS _).mono ?_
        rintro e w2 ⟨rfl, hb⟩
        replace KR := hid1 (KR.out.keep hb)
        replace BX := bl_step BX hb
        clear hb CS z0 z1 z2 f0 f1 f2 c0 c1' c2 c3 c4 c5 c6 c7 c8 c9 c10 c11 c12 c13 c14 i0 i1 i2 i3 i4 i5
        obtain ⟨⟨z0, z1, z2⟩, f0, f1, f2⟩ := KR.out
        have hlt := lt_of_cell z0
        go_wp2_with fail
        have hne := Nat.ne_of_lt hlt
        simp [bodyPost, results, Tryz.results40, go_sem, *]
        repeat (first | (with_reducible exact Below.refl _ _) | (with_reducible refine bl_alloc ?_ _) | (with_reducible refine Below.drew ?_) | (with_reducible refine bl_drewN ?_ _) | (with_reducible refine bl_set ?_ (by omega) _) | (with_reducible refine bl_step ?_ (by assumption)))
      · rw [ror_bad (rb_bad (.inr ⟨HZ.out, b3⟩))]
        have b4 : (L.bd != 0) = true := by simpa using b3
        clear b3 hkd
        clear hsl
        go_enter Tryz.func40, Tryz.ntmps40
        go_wp2_with fail
        refine gen_calls (fun X => Below w.heap.size w X ∧ Rz X (w.heap.size + 1 + 1) ∧ Lp X w.heap.size L ∧ Iv X (w.heap.size + 1) at' S) ⟨by repeat (first | (with_reducible exact Below.refl _ _) | (with_reducible refine bl_alloc ?_ _) | (with_reducible refine Below.drew ?_) | (with_reducible refine bl_drewN ?_ _) | (with_reducible refine bl_set ?_ (by omega) _) | (with_reducible refine bl_step ?_ (by assumption))), rz_new (by simp), (lp_new _ _ _).keep (bl_alloc (bl_alloc (Below.refl _ _) _) _), (iv_new (by simp) at' S _).keep (bl_alloc (Below.refl _ _) _)⟩ ?_
        rintro X ⟨BX, RX, LX, IX⟩
        refine (CW X).mono ?_
        rintro e w1 ⟨rfl, hb⟩
        replace RX := RX.keep hb
        replace LX := LX.keep hb
        replace IX := IX.keep hb
        replace BX := bl_step BX hb
        clear hb CW X
        have KR := hid1 RX
        obtain ⟨⟨z0, z1, z2⟩, f0, f1, f2⟩ := RX
        obtain ⟨c0, c1', c2, c3, c4, c5, c6, c7, c8, c9, c10, c11, c12, c13, c14⟩ := LX
        obtain ⟨i0, i1, i2, i3, i4, i5⟩ := IX
        go_wp2_with fail
        simp [bodyPost, results, Tryz.results40, go_sem, *]
        repeat (first | (with_reducible exact Below.refl _ _) | (with_reducible refine bl_alloc ?_ _) | (with_reducible refine Below.drew ?_) | (with_reducible refine bl_drewN ?_ _) | (with_reducible refine bl_set ?_ (by omega) _) | (with_reducible refine bl_step ?_ (by assumption)))
set_option maxHeartbeats 1600000 in
set_option maxRecDepth 100000 in
theorem rout_1_1 (L : Ly) (S : Sp) (at' : Int) (hk2 : (L.kd == 2) = false) (hkd : ¬ L.kd = 3) (hx : wiE L.r L.s L.sy L.sx L.t L.l L.b L.q = 0) (t0 : (L.t == 0) = false) (hsl : slV S.h S.v S.c L.r L.s L.sy L.sx L.t L.l L.b L.q L.k = sle (oH L S.h S.v S.c) (oV L S.h S.v S.c) (oC L S.h S.v S.c) (oE L S.h S.v S.c)) (w : World) : Calls Tryz.prog 40 #[lyv L, inv at' S] w fun e w' => e = .returned (roR L S) ∧ Below w.heap.size w w' := by
  have CW := rwindow_any L.r L.s L.sy L.sx L.t L.l L.b L.q
  rw [hx] at CW
  clear hx
  have HZ := hid1 (show ¬ Wz L from fun h => by have e : (L.t == 0) = true := (by simp [h.1]); rw [e] at t0; cases t0)
  have HK := hid1 hkd
  have hk3 : (L.kd == 3) = false := by simpa using hkd
  by_cases b1 : L.bd < -1
  · rw [ror_bad (rb_bad (.inl (.inr (.inl b1))))]
    clear hkd
    clear hsl
    go_enter Tryz.func40, Tryz.ntmps40
    go_wp2_with fail
    refine gen_calls (fun X => Below w.heap.size w X ∧ Rz X (w.heap.size + 1 + 1) ∧ Lp X w.heap.size L ∧ Iv X (w.heap.size + 1) at' S) ⟨by repeat (first | (with_reducible exact Below.refl _ _) | (with_reducible refine bl_alloc ?_ _) | (with_reducible refine Below.drew ?_) | (with_reducible refine bl_drewN ?_ _) | (with_reducible refine bl_set ?_ (by omega) _) | (with_reducible refine bl_step ?_ (by assumption))), rz_new (by simp), (lp_new _ _ _).keep (bl_alloc (bl_alloc (Below.refl _ _) _) _), (iv_new (by simp) at' S _).keep (bl_alloc (Below.refl _ _) _)⟩ ?_
    rintro X ⟨BX, RX, LX, IX⟩
    refine (CW X).mono ?_
    rintro e w1 ⟨rfl, hb⟩
    replace RX := RX.keep hb
    replace LX := LX.keep hb
    replace IX := IX.keep hb
    replace BX := bl_step BX hb
    clear hb CW X
    have KR := hid1 RX
    obtain ⟨⟨z0, z1, z2⟩, f0, f1, f2⟩ := RX
    obtain ⟨c0, c1', c2, c3, c4, c5, c6, c7, c8, c9, c10, c11, c12, c13, c14⟩ := LX
    obtain ⟨i0, i1, i2, i3, i4, i5⟩ := IX
    go_wp2_with fail
    simp [bodyPost, results, Tryz.results40, go_sem, *]
    repeat (first | (with_reducible exact Below.refl _ _) | (with_reducible refine bl_alloc ?_ _) | (with_reducible refine Below.drew ?_) | (with_reducible refine bl_drewN ?_ _) | (with_reducible refine bl_set ?_ (by omega) _) | (with_reducible refine bl_step ?_ (by assumption)))
  · by_cases b2 : 1 < L.bd
    · rw [ror_bad (rb_bad (.inl (.inr (.inr b2))))]
      clear hkd
      clear hsl
      go_enter Tryz.func40, Tryz.ntmps40
      go_wp2_with fail
      refine gen_calls (fun X => Below w.heap.size w X ∧ Rz X (w.heap.size + 1 + 1) ∧ Lp X w.heap.size L ∧ Iv X (w.heap.size + 1) at' S) ⟨by repeat (first | (with_reducible exact Below.refl _ _) | (with_reducible refine bl_alloc ?_ _) | (with_reducible refine Below.drew ?_) | (with_reducible refine bl_drewN ?_ _) | (with_reducible refine bl_set ?_ (by omega) _) | (with_reducible refine bl_step ?_ (by assumption))), rz_new (by simp), (lp_new _ _ _).keep (bl_alloc (bl_alloc (Below.refl _ _) _) _), (iv_new (by simp) at' S _).keep (bl_alloc (Below.refl _ _) _)⟩ ?_
      rintro X ⟨BX, RX, LX, IX⟩
      refine (CW X).mono ?_
      rintro e w1 ⟨rfl, hb⟩
      replace RX := RX.keep hb
      replace LX := LX.keep hb
      replace IX := IX.keep hb
      replace BX := bl_step BX hb
      clear hb CW X
      have KR := hid1 RX
      obtain ⟨⟨z0, z1, z2⟩, f0, f1, f2⟩ := RX
      obtain ⟨c0, c1', c2, c3, c4, c5, c6, c7, c8, c9, c10, c11, c12, c13, c14⟩ := LX
      obtain ⟨i0, i1, i2, i3, i4, i5⟩ := IX
      go_wp2_with fail
      simp [bodyPost, results, Tryz.results40, go_sem, *]
      repeat (first | (with_reducible exact Below.refl _ _) | (with_reducible refine bl_alloc ?_ _) | (with_reducible refine Below.drew ?_) | (with_reducible refine bl_drewN ?_ _) | (with_reducible refine bl_set ?_ (by omega) _) | (with_reducible refine bl_step ?_ (by assumption)))
    · rw [ror_good (rb_good (fun h => by rcases h with (⟨h, _⟩ | h | h) | ⟨h, _⟩; exact hkd h; exact b1 h; exact b2 h; exact HZ.out h))]
      clear hkd
      have CS := rslide_any S.h S.v S.c L.r L.s L.sy L.sx L.t L.l L.b L.q L.k
      rw [hsl] at CS
      clear hsl
      generalize oH L S.h S.v S.c = h1 at *
      generalize oV L S.h S.v S.c = v1 at *
      generalize oC L S.h S.v S.c = c1 at *
      generalize oE L S.h S.v S.c = e1 at *
      go_enter Tryz.func40, Tryz.ntmps40
      go_wp2_with fail
      refine gen_calls (fun X => Below w.heap.size w X ∧ Rz X (w.heap.size + 1 + 1) ∧ Lp X w.heap.size L ∧ Iv X (w.heap.size + 1) at' S) ⟨by repeat (first | (with_reducible exact Below.refl _ _) | (with_reducible refine bl_alloc ?_ _) | (with_reducible refine Below.drew ?_) | (with_reducible refine bl_drewN ?_ _) | (with_reducible refine bl_set ?_ (by omega) _) | (with_reducible refine bl_step ?_ (by assumption))), rz_new (by simp), (lp_new _ _ _).keep (bl_alloc (bl_alloc (Below.refl _ _) _) _), (iv_new (by simp) at' S _).keep (bl_alloc (Below.refl _ _) _)⟩ ?_
      rintro X ⟨BX, RX, LX, IX⟩
      refine (CW X).mono ?_
      rintro e w1 ⟨rfl, hb⟩
      replace RX := RX.keep hb
      replace LX := LX.keep hb
      replace IX := IX.keep hb
      replace BX := bl_step BX hb
      clear hb CW X
      have KR := hid1 RX
      obtain ⟨⟨z0, z1, z2⟩, f0, f1, f2⟩ := RX
      obtain ⟨c0, c1', c2, c3, c4, c5, c6, c7, c8, c9, c10, c11, c12, c13, c14⟩ := LX
      obtain ⟨i0, i1, i2, i3, i4, i5⟩ := IX
      go_wp2_with fail
      refine (CS _).mono ?_
      rintro e w2 ⟨rfl, hb⟩
      replace KR := hid1 (KR.out.keep hb)
      replace BX := bl_step BX hb
      clear hb CS z0 z1 z2 f0 f1 f2 c0 c1' c2 c3 c4 c5 c6 c7 c8 c9 c10 c11 c12 c13 c14 i0 i1 i2 i3 i4 i5
      obtain ⟨⟨z0, z1, z2⟩, f0, f1, f2⟩ := KR.out
      have hlt := lt_of_cell z0
      go_wp2_with fail
      have hne := Nat.ne_of_lt hlt
      simp [bodyPost, results, Tryz.results40, go_sem, *]
      repeat (first | (with_reducible exact Below.refl _ _) | (with_reducible refine bl_alloc ?_ _) | (with_reducible refine Below.drew ?_) | (with_reducible refine bl_drewN ?_ _) | (with_reducible refine bl_set ?_ (by omega) _) | (with_reducible refine bl_step ?_ (by assumption)))
set_option maxHeartbeats 1600000 in
set_option maxRecDepth 100000 in
theorem rout_1_2 (L : Ly) (S : Sp) (at' : Int) (hk2 : (L.kd == 2) = false) (hkd : ¬ L.kd = 3) (hx : wiE L.r L.s L.sy L.sx L.t L.l L.b L.q = 0) (t0 : (L.t == 0) = true) (t1 : (L.l == 0) = false) (hsl : slV S.h S.v S.c L.r L.s L.sy L.sx L.t L.l L.b L.q L.k = sle (oH L S.h S.v S.c) (oV L S.h S.v S.c) (oC L S.h S.v S.c) (oE L S.h S.v S.c)) (w : World) : Calls Tryz.prog 40 #[lyv L, inv at' S] w fun e w' => e = .returned (roR L S) ∧ Below w.heap.size w w' := by
  have CW := rwindow_any L.r L.s L.sy L.sx L.t L.l L.b L.q
  rw [hx] at CW
  clear hx
  have HZ := hid1 (show ¬ Wz L from fun h => by have e : (L.l == 0) = true := (by simp [h.2.1]); rw [e] at t1; cases t1)
  have HK := hid1 hkd
  have hk3 : (L.kd == 3) = false := by simpa using hkd
  by_cases b1 : L.bd < -1
  · rw [ror_bad (rb_bad (.inl (.inr (.inl b1))))]
    clear hkd
    clear hsl
    go_enter Tryz.func40, Tryz.ntmps40
    go_wp2_with fail
    refine gen_calls (fun X => Below w.heap.size w X ∧ Rz X (w.heap.size + 1 + 1) ∧ Lp X w.heap.size L ∧ Iv X (w.heap.size + 1) at' S) ⟨by repeat (first | (with_reducible exact Below.refl _ _) | (with_reducible refine bl_alloc ?_ _) | (with_reducible refine Below.drew ?_) | (with_reducible refine bl_drewN ?_ _) | (with_reducible refine bl_set ?_ (by omega) _) | (with_reducible refine bl_step ?_ (by assumption))), rz_new (by simp), (lp_new _ _ _).keep (bl_alloc (bl_alloc (Below.refl _ _) _) _), (iv_new (by simp) at' S _).keep (bl_alloc (Below.refl _ _) _)⟩ ?_
    rintro X ⟨BX, RX, LX, IX⟩
    refine (CW X).mono ?_
    rintro e w1 ⟨rfl, hb⟩
    replace RX := RX.keep hb
    replace LX := LX.keep hb
    replace IX := IX.keep hb
    replace BX := bl_step BX hb
    clear hb CW X
    have KR := hid1 RX
    obtain ⟨⟨z0, z1, z2⟩, f0, f1, f2⟩ := RX
    obtain ⟨c0, c1', c2, c3, c4, c5, c6, c7, c8, c9, c10, c11, c12, c13, c14⟩ := LX
    obtain ⟨i0, i1, i2, i3, i4, i5⟩ := IX
    go_wp2_with fail
    simp [bodyPost, results, Tryz.results40, go_sem, *]
    repeat (first | (with_reducible exact Below.refl _ _) | (with_reducible refine bl_alloc ?_ _) | (with_reducible refine Below.drew ?_) | (with_reducible refine bl_drewN ?_ _) | (with_reducible refine bl_set ?_ (by omega) _) | (with_reducible refine bl_step ?_ (by assumption)))
  · by_cases b2 : 1 < L.bd
    · rw [ror_bad (rb_bad (.inl (.inr (.inr b2))))]
      clear hkd
      clear hsl
      go_enter Tryz.func40, Tryz.ntmps40
      go_wp2_with fail
      refine gen_calls (fun X => Below w.heap.size w X ∧ Rz X (w.heap.size + 1 + 1) ∧ Lp X w.heap.size L ∧ Iv X (w.heap.size + 1) at' S) ⟨by repeat (first | (with_reducible exact Below.refl _ _) | (with_reducible refine bl_alloc ?_ _) | (with_reducible refine Below.drew ?_) | (with_reducible refine bl_drewN ?_ _) | (with_reducible refine bl_set ?_ (by omega) _) | (with_reducible refine bl_step ?_ (by assumption))), rz_new (by simp), (lp_new _ _ _).keep (bl_alloc (bl_alloc (Below.refl _ _) _) _), (iv_new (by simp) at' S _).keep (bl_alloc (Below.refl _ _) _)⟩ ?_
      rintro X ⟨BX, RX, LX, IX⟩
      refine (CW X).mono ?_
      rintro e w1 ⟨rfl, hb⟩
      replace RX := RX.keep hb
      replace LX := LX.keep hb
      replace IX := IX.keep hb
      replace BX := bl_step BX hb
      clear hb CW X
      have KR := hid1 RX
      obtain ⟨⟨z0, z1, z2⟩, f0, f1, f2⟩ := RX
      obtain ⟨c0, c1', c2, c3, c4, c5, c6, c7, c8, c9, c10, c11, c12, c13, c14⟩ := LX
      obtain ⟨i0, i1, i2, i3, i4, i5⟩ := IX
      go_wp2_with fail
      simp [bodyPost, results, Tryz.results40, go_sem, *]
      repeat (first | (with_reducible exact Below.refl _ _) | (with_reducible refine bl_alloc ?_ _) | (with_reducible refine Below.drew ?_) | (with_reducible refine bl_drewN ?_ _) | (with_reducible refine bl_set ?_ (by omega) _) | (with_reducible refine bl_step ?_ (by assumption)))
    · rw [ror_good (rb_good (fun h => by rcases h with (⟨h, _⟩ | h | h) | ⟨h, _⟩; exact hkd h; exact b1 h; exact b2 h; exact HZ.out h))]
      clear hkd
      have CS := rslide_any S.h S.v S.c L.r L.s L.sy L.sx L.t L.l L.b L.q L.k
      rw [hsl] at CS
      clear hsl
      generalize oH L S.h S.v S.c = h1 at *
      generalize oV L S.h S.v S.c = v1 at *
      generalize oC L S.h S.v S.c = c1 at *
      generalize oE L S.h S.v S.c = e1 at *
      go_enter Tryz.func40, Tryz.ntmps40
      go_wp2_with fail
      refine gen_calls (fun X => Below w.heap.size w X ∧ Rz X (w.heap.size + 1 + 1) ∧ Lp X w.heap.size L ∧ Iv X (w.heap.size + 1) at' S) ⟨by repeat (first | (with_reducible exact Below.refl _ _) | (with_reducible refine bl_alloc ?_ _) | (with_reducible refine Below.drew ?_) | (with_reducible refine bl_drewN ?_ _) | (with_reducible refine bl_set ?_ (by omega) _) | (with_reducible refine bl_step ?_ (by assumption))), rz_new (by simp), (lp_new _ _ _).keep (bl_alloc (bl_alloc (Below.refl _ _) _) _), (iv_new (by simp) at' S _).keep (bl_alloc (Below.refl _ _) _)⟩ ?_
      rintro X ⟨BX, RX, LX, IX⟩
      refine (CW X).mono ?_
      rintro e w1 ⟨rfl, hb⟩
      replace RX := RX.keep hb
      replace LX := LX.keep hb
      replace IX := IX.keep hb
      replace BX := bl_step BX hb
      clear hb CW X
      have KR := hid1 RX
      obtain ⟨⟨z0, z1, z2⟩, f0, f1, f2⟩ := RX
      obtain ⟨c0, c1', c2, c3, c4, c5, c6, c7, c8, c9, c10, c11, c12, c13, c14⟩ := LX
      obtain ⟨i0, i1, i2, i3, i4, i5⟩ := IX
      go_wp2_with fail
      refine (CS _).mono ?_
      rintro e w2 ⟨rfl, hb⟩
      replace KR := hid1 (KR.out.keep hb)
      replace BX := bl_step BX hb
      clear hb CS z0 z1 z2 f0 f1 f2 c0 c1' c2 c3 c4 c5 c6 c7 c8 c9 c10 c11 c12 c13 c14 i0 i1 i2 i3 i4 i5
      obtain ⟨⟨z0, z1, z2⟩, f0, f1, f2⟩ := KR.out
      have hlt := lt_of_cell z0
      go_wp2_with fail
      have hne := Nat.ne_of_lt hlt
      simp [bodyPost, results, Tryz.results40, go_sem, *]
      repeat (first | (with_reducible exact Below.refl _ _) | (with_reducible refine bl_alloc ?_ _) | (with_reducible refine Below.drew ?_) | (with_reducible refine bl_drewN ?_ _) | (with_reducible refine bl_set ?_ (by omega) _) | (with_reducible refine bl_step ?_ (by assumption)))
set_option maxHeartbeats 1600000 in
set_option maxRecDepth 100000 in
theorem rout_1_3 (L : Ly) (S : Sp) (at' : Int) (hk2 : (L.kd == 2) = false) (hkd : ¬ L.kd = 3) (hx : wiE L.r L.s L.sy L.sx L.t L.l L.b L.q = 0) (t0 : (L.t == 0) = true) (t1 : (L.l == 0) = true) (t2 : (L.b == 0) = false) (hsl : slV S.h S.v S.c L.r L.s L.sy L.sx L.t L.l L.b L.q L.k = sle (oH L S.h S.v S.c) (oV L S.h S.v S.c) (oC L S.h S.v S.c) (oE L S.h S.v S.c)) (w : World) : Calls Tryz.prog 40 #[lyv L, inv at' S] w fun e w' => e = .returned (roR L S) ∧ Below w.heap.size w w' := by
  have CW := rwindow_any L.r L.s L.sy L.sx L.t L.l L.b L.q
  rw [hx] at CW
  clear hx
  have HZ := hid1 (show ¬ Wz L from fun h => by have e : (L.b == 0) = true := (by simp [h.2.2.1]); rw [e] at t2; cases t2)
  have HK := hid1 hkd
  have hk3 : (L.kd == 3) = false := by simpa using hkd
  by_cases b1 : L.bd < -1
  · rw [ror_bad (rb_bad (.inl (.inr (.inl b1))))]
    clear hkd
    clear hsl
    go_enter Tryz.func40, Tryz.ntmps40
    go_wp2_with fail
    refine gen_calls (fun X => Below w.heap.size w X ∧ Rz X (w.heap.size + 1 + 1) ∧ Lp X w.heap.size L ∧ Iv X (w.heap.size + 1) at' S) ⟨by repeat (first | (with_reducible exact Below.refl _ _) | (with_reducible refine bl_alloc ?_ _) | (with_reducible refine Below.drew ?_) | (with_reducible refine bl_drewN ?_ _) | (with_reducible refine bl_set ?_ (by omega) _) | (with_reducible refine bl_step ?_ (by assumption))), rz_new (by simp), (lp_new _ _ _).keep (bl_alloc (bl_alloc (Below.refl _ _) _) _), (iv_new (by simp) at' S _).keep (bl_alloc (Below.refl _ _) _)⟩ ?_
    rintro X ⟨BX, RX, LX, IX⟩
    refine (CW X).mono ?_
    rintro e w1 ⟨rfl, hb⟩
    replace RX := RX.keep hb
    replace LX := LX.keep hb
    replace IX := IX.keep hb
    replace BX := bl_step BX hb
    clear hb CW X
    have KR := hid1 RX
    obtain ⟨⟨z0, z1, z2⟩, f0, f1, f2⟩ := RX
    obtain ⟨c0, c1', c2, c3, c4, c5, c6, c7, c8, c9, c10, c11, c12, c13, c14⟩ := LX
    obtain ⟨i0, i1, i2, i3, i4, i5⟩ := IX
    go_wp2_with fail
    simp [bodyPost, results, Tryz.results40, go_sem, *]
    repeat (first | (with_reducible exact Below.refl _ _) | (with_reducible refine bl_alloc ?_ _) | (with_reducible refine Below.drew ?_) | (with_reducible refine bl_drewN ?_ _) | (with_reducible refine bl_set ?_ (by omega) _) | (with_reducible refine bl_step ?_ (by assumption)))
  · by_cases b2 : 1 < L.bd
    · rw [ror_bad (rb_bad (.inl (.inr (.inr b2))))]
      clear hkd
      clear hsl
      go_enter Tryz.func40, Tryz.ntmps40
      go_wp2_with fail
      refine gen_calls (fun X => Below w.heap.size w X ∧ Rz X (w.heap.size + 1 + 1) ∧ Lp X w.heap.size L ∧ Iv X (w.heap.size + 1) at' S) ⟨by repeat (first | (with_reducible exact Below.refl _ _) | (with_reducible refine bl_alloc ?_ _) | (with_reducible refine Below.drew ?_) | (with_reducible refine bl_drewN ?_ _) | (with_reducible refine bl_set ?_ (by omega) _) | (with_reducible refine bl_step ?_ (by assumption))), rz_new (by simp), (lp_new _ _ _).keep (bl_alloc (bl_alloc (Below.refl _ _) _) _), (iv_new (by simp) at' S _).keep (bl_alloc (Below.refl _ _) _)⟩ ?_
      rintro X ⟨BX, RX, LX, IX⟩
      refine (CW X).mono ?_
      rintro e w1 ⟨rfl, hb⟩
      replace RX := RX.keep hb
      replace LX := LX.keep hb
      replace IX := IX.keep hb
      replace BX := bl_step BX hb
      clear hb CW X
      have KR := hid1 RX
      obtain ⟨⟨z0, z1, z2⟩, f0, f1, f2⟩ := RX
      obtain ⟨c0, c1', c2, c3, c4, c5, c6, c7, c8, c9, c10, c11, c12, c13, c14⟩ := LX
      obtain ⟨i0, i1, i2, i3, i4, i5⟩ := IX
      go_wp2_with fail
      simp [bodyPost, results, Tryz.results40, go_sem, *]
      repeat (first | (with_reducible exact Below.refl _ _) | (with_reducible refine bl_alloc ?_ _) | (with_reducible refine Below.drew ?_) | (with_reducible refine bl_drewN ?_ _) | (with_reducible refine bl_set ?_ (by omega) _) | (with_reducible refine bl_step ?_ (by assumption)))
    · rw [ror_good (rb_good (fun h => by rcases h with (⟨h, _⟩ | h | h) | ⟨h, _⟩; exact hkd h; exact b1 h; exact b2 h; exact HZ.out h))]
      clear hkd
      have CS := rslide_any S.h S.v S.c L.r L.s L.sy L.sx L.t L.l L.b L.q L.k
      rw [hsl] at CS
      clear hsl
      generalize oH L S.h S.v S.c = h1 at *
      generalize oV L S.h S.v S.c = v1 at *
      generalize oC L S.h S.v S.c = c1 at *
      generalize oE L S.h S.v S.c = e1 at *
      go_enter Tryz.func40, Tryz.ntmps40
      go_wp2_with fail
      refine gen_calls (fun X => Below w.heap.size w X ∧ Rz X (w.heap.size + 1 + 1) ∧ Lp X w.heap.size L ∧ Iv X (w.heap.size + 1) at' S) ⟨by repeat (first | (with_reducible exact Below.refl _ _) | (with_reducible refine bl_alloc ?_ _) | (with_reducible refine Below.drew ?_) | (with_reducible refine bl_drewN ?_ _) | (with_reducible refine bl_set ?_ (by omega) _) | (with_reducible refine bl_step ?_ (by assumption))), rz_new (by simp), (lp_new _ _ _).keep (bl_alloc (bl_alloc (Below.refl _ _) _) _), (iv_new (by simp) at' S _).keep (bl_alloc (Below.refl _ _) _)⟩ ?_
      rintro X ⟨BX, RX, LX, IX⟩
      refine (CW X).mono ?_
      rintro e w1 ⟨rfl, hb⟩
      replace RX := RX.keep hb
      replace LX := LX.keep hb
      replace IX := IX.keep hb
      replace BX := bl_step BX hb
      clear hb CW X
      have KR := hid1 RX
      obtain ⟨⟨z0, z1, z2⟩, f0, f1, f2⟩ := RX
      obtain ⟨c0, c1', c2, c3, c4, c5, c6, c7, c8, c9, c10, c11, c12, c13, c14⟩ := LX
      obtain ⟨i0, i1, i2, i3, i4, i5⟩ := IX
      go_wp2_with fail
      refine (CS _).mono ?_
      rintro e w2 ⟨rfl, hb⟩
      replace KR := hid1 (KR.out.keep hb)
      replace BX := bl_step BX hb
      clear hb CS z0 z1 z2 f0 f1 f2 c0 c1' c2 c3 c4 c5 c6 c7 c8 c9 c10 c11 c12 c13 c14 i0 i1 i2 i3 i4 i5
      obtain ⟨⟨z0, z1, z2⟩, f0, f1, f2⟩ := KR.out
      have hlt := lt_of_cell z0
      go_wp2_with fail
      have hne := Nat.ne_of_lt hlt
      simp [bodyPost, results, Tryz.results40, go_sem, *]
      repeat (first | (with_reducible exact Below.refl _ _) | (with_reducible refine bl_alloc ?_ _) | (with_reducible refine Below.drew ?_) | (with_reducible refine bl_drewN ?_ _) | (with_reducible refine bl_set ?_ (by omega) _) | (with_reducible refine bl_step ?_ (by assumption)))
set_option maxHeartbeats 1600000 in
set_option maxRecDepth 100000 in
theorem rout_1_4 (L : Ly) (S : Sp) (at' : Int) (hk2 : (L.kd == 2) = false) (hkd : ¬ L.kd = 3) (hx : wiE L.r L.s L.sy L.sx L.t L.l L.b L.q = 0) (t0 : (L.t == 0) = true) (t1 : (L.l == 0) = true) (t2 : (L.b == 0) = true) (t3 : (L.q == 0) = false) (hsl : slV S.h S.v S.c L.r L.s L.sy L.sx L.t L.l L.b L.q L.k = sle (oH L S.h S.v S.c) (oV L S.h S.v S.c) (oC L S.h S.v S.c) (oE L S.h S.v S.c)) (w : World) : Calls Tryz.prog 40 #[lyv L, inv at' S] w fun e w' => e = .returned (roR L S) ∧ Below w.heap.size w w' := by
  have CW := rwindow_any L.r L.s L.sy L.sx L.t L.l L.b L.q
  rw [hx] at CW
  clear hx
  have HZ := hid1 (show ¬ Wz L from fun h => by have e : (L.q == 0) = true := (by simp [h.2.2.2]); rw [e] at t3; cases t3)
  have HK := hid1 hkd
  have hk3 : (L.kd == 3) = false := by simpa using hkd
  by_cases b1 : L.bd < -1
  · rw [ror_bad (rb_bad (.inl (.inr (.inl b1))))]
    clear hkd
    clear hsl
    go_enter Tryz.func40, Tryz.ntmps40
    go_wp2_with fail
    refine gen_calls (fun X => Below w.heap.size w X ∧ Rz X (w.heap.size + 1 + 1) ∧ Lp X w.heap.size L ∧ Iv X (w.heap.size + 1) at' S) ⟨by repeat (first | (with_reducible exact Below.refl _ _) | (with_reducible refine bl_alloc ?_ _) | (with_reducible refine Below.drew ?_) | (with_reducible refine bl_drewN ?_ _) | (with_reducible refine bl_set ?_ (by omega) _) | (with_reducible refine bl_step ?_ (by assumption))), rz_new (by simp), (lp_new _ _ _).keep (bl_alloc (bl_alloc (Below.refl _ _) _) _), (iv_new (by simp) at' S _).keep (bl_alloc (Below.refl _ _) _)⟩ ?_
    rintro X ⟨BX, RX, LX, IX⟩
    refine (CW X).mono ?_
    rintro e w1 ⟨rfl, hb⟩
    replace RX := RX.keep hb
    replace LX := LX.keep hb
    replace IX := IX.keep hb
    replace BX := bl_step BX hb
    clear hb CW X
    have KR := hid1 RX
    obtain ⟨⟨z0, z1, z2⟩, f0, f1, f2⟩ := RX
    obtain ⟨c0, c1', c2, c3, c4, c5, c6, c7, c8, c9, c10, c11, c12, c13, c14⟩ := LX
    obtain ⟨i0, i1, i2, i3, i4, i5⟩ := IX
    go_wp2_with fail
    simp [bodyPost, results, Tryz.results40, go_sem, *]
    repeat (first | (with_reducible exact Below.refl _ _) | (with_reducible refine bl_alloc ?_ _) | (with_reducible refine Below.drew ?_) | (with_reducible refine bl_drewN ?_ _) | (with_reducible refine bl_set ?_ (by omega) _) | (with_reducible refine bl_step ?_ (by assumption)))
  · by_cases b2 : 1 < L.bd
    · rw [ror_bad (rb_bad (.inl (.inr (.inr b2))))]
      clear hkd
      clear hsl
      go_enter Tryz.func40, Tryz.ntmps40
      go_wp2_with fail
      refine gen_calls (fun X => Below w.heap.size w X ∧ Rz X (w.heap.size + 1 + 1) ∧ Lp X w.heap.size L ∧ Iv X (w.heap.size + 1) at' S) ⟨by repeat (first | (with_reducible exact Below.refl _ _) | (with_reducible refine bl_alloc ?_ _) | (with_reducible refine Below.drew ?_) | (with_reducible refine bl_drewN ?_ _) | (with_reducible refine bl_set ?_ (by omega) _) | (with_reducible refine bl_step ?_ (by assumption))), rz_new (by simp), (lp_new _ _ _).keep (bl_alloc (bl_alloc (Below.refl _ _) _) _), (iv_new (by simp) at' S _).keep (bl_alloc (Below.refl _ _) _)⟩ ?_
      rintro X ⟨BX, RX, LX, IX⟩
      refine (CW X).mono ?_
      rintro e w1 ⟨rfl, hb⟩
      replace RX := RX.keep hb
      replace LX := LX.keep hb
      replace IX := IX.keep hb
      replace BX := bl_step BX hb
      clear hb CW X
      have KR := hid1 RX
      obtain ⟨⟨z0, z1, z2⟩, f0, f1, f2⟩ := RX
      obtain ⟨c0, c1', c2, c3, c4, c5, c6, c7, c8, c9, c10, c11, c12, c13, c14⟩ := LX
      obtain ⟨i0, i1, i2, i3, i4, i5⟩ := IX
      go_wp2_with fail
      simp [bodyPost, results, Tryz.results40, go_sem, *]
      repeat (first | (with_reducible exact Below.refl _ _) | (with_reducible refine bl_alloc ?_ _) | (with_reducible refine Below.drew ?_) | (with_reducible refine bl_drewN ?_ _) | (with_reducible refine bl_set ?_ (by omega) _) | (with_reducible refine bl_step ?_ (by assumption)))
    · rw [ror_good (rb_good (fun h => by rcases h with (⟨h, _⟩ | h | h) | ⟨h, _⟩; exact hkd h; exact b1 h; exact b2 h; exact HZ.out h))]
      clear hkd
      have CS := rslide_any S.h S.v S.c L.r L.s L.sy L.sx L.t L.l L.b L.q L.k
      rw [hsl] at CS
      clear hsl
      generalize oH L S.h S.v S.c = h1 at *
      generalize oV L S.h S.v S.c = v1 at *
      generalize oC L S.h S.v S.c = c1 at *
      generalize oE L S.h S.v S.c = e1 at *
      go_enter Tryz.func40, Tryz.ntmps40
      go_wp2_with fail
      refine gen_calls (fun X => Below w.heap.size w X ∧ Rz X (w.heap.size + 1 + 1) ∧ Lp X w.heap.size L ∧ Iv X (w.heap.size + 1) at' S) ⟨by repeat (first | (with_reducible exact Below.refl _ _) | (with_reducible refine bl_alloc ?_ _) | (with_reducible refine Below.drew ?_) | (with_reducible refine bl_drewN ?_ _) | (with_reducible refine bl_set ?_ (by omega) _) | (with_reducible refine bl_step ?_ (by assumption))), rz_new (by simp), (lp_new _ _ _).keep (bl_alloc (bl_alloc (Below.refl _ _) _) _), (iv_new (by simp) at' S _).keep (bl_alloc (Below.refl _ _) _)⟩ ?_
      rintro X ⟨BX, RX, LX, IX⟩
      refine (CW X).mono ?_
      rintro e w1 ⟨rfl, hb⟩
      replace RX := RX.keep hb
      replace LX := LX.keep hb
      replace IX := IX.keep hb
      replace BX := bl_step BX hb
      clear hb CW X
      have KR := hid1 RX
      obtain ⟨⟨z0, z1, z2⟩, f0, f1, f2⟩ := RX
      obtain ⟨c0, c1', c2, c3, c4, c5, c6, c7, c8, c9, c10, c11, c12, c13, c14⟩ := LX
      obtain ⟨i0, i1, i2, i3, i4, i5⟩ := IX
      go_wp2_with fail
      refine (CS _).mono ?_
      rintro e w2 ⟨rfl, hb⟩
      replace KR := hid1 (KR.out.keep hb)
      replace BX := bl_step BX hb
      clear hb CS z0 z1 z2 f0 f1 f2 c0 c1' c2 c3 c4 c5 c6 c7 c8 c9 c10 c11 c12 c13 c14 i0 i1 i2 i3 i4 i5
      obtain ⟨⟨z0, z1, z2⟩, f0, f1, f2⟩ := KR.out
      have hlt := lt_of_cell z0
      go_wp2_with fail
      have hne := Nat.ne_of_lt hlt
      simp [bodyPost, results, Tryz.results40, go_sem, *]
      repeat (first | (with_reducible exact Below.refl _ _) | (with_reducible refine bl_alloc ?_ _) | (with_reducible refine Below.drew ?_) | (with_reducible refine bl_drewN ?_ _) | (with_reducible refine bl_set ?_ (by omega) _) | (with_reducible refine bl_step ?_ (by assumption)))
theorem rout_rest (L : Ly) (S : Sp) (at' : Int) (hk : ¬ L.kd = 2) (hx : wiE L.r L.s L.sy L.sx L.t L.l L.b L.q = 0) (w : World) : Calls Tryz.prog 40 #[lyv L, inv at' S] w fun e w' => e = .returned (roR L S) ∧ Below w.heap.size w w' := by
  have hk2 : (L.kd == 2) = false := by simpa using hk
  have hsl := slV_o (h := S.h) (v := S.v) (c := S.c) hk
  by_cases h3 : L.kd = 3
  · rw [if_pos h3] at hsl
    cases t0 : (L.t == 0)
    · exact rout_3_1 L S at' hk2 h3 hx t0 hsl w
    · cases t1 : (L.l == 0)
      · exact rout_3_2 L S at' hk2 h3 hx t0 t1 hsl w
      · cases t2 : (L.b == 0)
        · exact rout_3_3 L S at' hk2 h3 hx t0 t1 t2 hsl w
        · cases t3 : (L.q == 0)
          · exact rout_3_4 L S at' hk2 h3 hx t0 t1 t2 t3 hsl w
          · exact rout_3_0 L S at' hk2 h3 hx t0 t1 t2 t3 hsl w
  · rw [if_neg h3] at hsl
    cases t0 : (L.t == 0)
    · exact rout_1_1 L S at' hk2 h3 hx t0 hsl w
    · cases t1 : (L.l == 0)
      · exact rout_1_2 L S at' hk2 h3 hx t0 t1 hsl w
      · cases t2 : (L.b == 0)
        · exact rout_1_3 L S at' hk2 h3 hx t0 t1 t2 hsl w
        · cases t3 : (L.q == 0)
          · exact rout_1_4 L S at' hk2 h3 hx t0 t1 t2 t3 hsl w
          · exact rout_1_0 L S at' hk2 h3 hx t0 t1 t2 t3 hsl w
theorem rout_any (L : Ly) (S : Sp) (at' : Int) (w : World) : Calls Tryz.prog 40 #[lyv L, inv at' S] w fun e w' => e = .returned (roV L S.h S.v S.c) ∧ Below w.heap.size w w' := by
  unfold roV
  by_cases hk : L.kd = 2
  · rw [if_pos hk]; exact rout_dense L S at' hk w
  · rw [if_neg hk]
    by_cases hx : wiE L.r L.s L.sy L.sx L.t L.l L.b L.q = 0
    · rw [if_neg (by simpa using hx)]
      exact rout_rest L S at' hk hx w
    · rw [if_pos hx]
      exact rout_win L S at' hk _ rfl hx w
end Go.Proofs.YtlgjoepeibodkaaGreat.Nn
/- THE DOCUMENT'S NETWORKS: WEIGHTS. -/
namespace Go.Proofs.YtlgjoepeibodkaaGreat.Nn
open Go.RowKit

def rwE (L : Ly) (S : Sp) : Int := if wkE L = 0 then (if wrE L S = 0 then wsE L S else 31) else 52
theorem rwE_kind {L : Ly} {S : Sp} (h : ¬ (L.wt = 1 ∨ L.wt = 2)) : rwE L S = 52 := by unfold rwE wkE; rw [if_neg h, if_neg (by decide)]
theorem rwE_room {L : Ly} {S : Sp} (h : L.wt = 1 ∨ L.wt = 2) (h2 : ¬ S.ah + wc L S.h S.v S.c ≤ 16777216) : rwE L S = 31 := by unfold rwE wkE wrE; rw [if_pos h, if_pos rfl, if_neg h2, if_neg (by decide)]
theorem rwE_rest {L : Ly} {S : Sp} (h : L.wt = 1 ∨ L.wt = 2) (h2 : S.ah + wc L S.h S.v S.c ≤ 16777216) : rwE L S = wsE L S := by unfold rwE wkE wrE; rw [if_pos h, if_pos rfl, if_pos h2, if_pos rfl]
set_option maxHeartbeats 1600000 in
set_option maxRecDepth 100000 in
theorem rweights_walk (L : Ly) (S : Sp) (at' : Int) (hs : Sides S.h S.v S.c) (hf : Fok L) (hkd : L.kd = 1 ∨ L.kd = 2) (hk : 0 ≤ L.k ∧ L.k ≤ 4096) (ha : 0 ≤ S.ah ∧ S.ah ≤ 16777216) (w : World) (hL : Lst w L) (hw1 : (L.wt != 1) = false ∨ ((L.wt != 1) = true ∧ (L.wt != 2) = false)) (hwt : L.wt = 1 ∨ L.wt = 2) :
    Calls Tryz.prog 41 #[lyv L, inv at' S] w fun e w' => e = .returned (.int .i64 (rwE L S)) ∧ Below w.heap.size w w' := by
  have hb := wc_b hs hf hk
  have hfb := fan_b hs hf
  have cA := fun Y d os => Calls.regrown_of (w := Y) (d := d) (os := os) (rfan_any L S.h S.v S.c hs hf hkd _)
  have HR := hid1 (fun h => rwE_room (L := L) (S := S) hwt h)
  have HT := hid1 (fun h => rwE_rest (L := L) (S := S) hwt h)
  have HC := hid1 (fun h => wsE_cnt (L := L) (S := S) h)
  have HK := hid1 (fun h h2 => wsE_ok (L := L) (S := S) h h2)
  unfold wc at hb HR HT HC HK
  obtain ⟨f, hF⟩ : ∃ f, f = fan L S.h S.v S.c := ⟨_, rfl⟩
  rw [← hF] at hb cA HC HK HR HT hfb
  have HL := hid1 hL
  have hm := hL.2.2.2.1
  have e1 := wr_id (x := L.k * f) (by omega) (by omega)
  obtain ⟨p, hp⟩ : ∃ p, p = L.k * f := ⟨_, rfl⟩
  rw [← hp] at hb HC HK HR HT e1
  have e2 := wr_id (x := S.ah + p) (by omega) (by omega)
  rw [hp] at e1
  have e1' : wrap64 (L.k * f) = p := by rw [e1, hp]
  clear hs hf hkd hk hF hL hp e1 hwt
  rcases hw1 with hw1 | ⟨hw1, hw2⟩
  all_goals
    go_enter Tryz.func41, Tryz.ntmps41
    go_wp2_with fail
    refine gen_world (fun X => Below w.heap.size w X ∧ Lp X w.heap.size L ∧ Iv X (w.heap.size + 1) at' S) ⟨by repeat (first | (with_reducible exact Below.refl _ _) | (with_reducible refine bl_alloc ?_ _) | (with_reducible refine Below.drew ?_) | (with_reducible refine bl_drewN ?_ _) | (with_reducible refine bl_set ?_ (by omega) _) | (with_reducible refine bl_step ?_ (by assumption))), (lp_new _ _ _).keep (bl_alloc (Below.refl _ _) _), iv_new (by simp) at' S _⟩ ?_
    rintro Y ⟨BY, HLp, HSo⟩
    have KL := hid1 HLp
    have KI := hid1 HSo
    obtain ⟨c0, c1, c2, c3, c4, c5, c6, c7, c8, c9, c10, c11, c12, c13, c14⟩ := HLp
    obtain ⟨s0, s1, s2, s3, s4, s5⟩ := HSo
    have k0 := cell_regrown c0; have k1 := cell_regrown c1; have k2 := cell_regrown c2; have k3 := cell_regrown c3; have k4 := cell_regrown c4; have k5 := cell_regrown c5; have k6 := cell_regrown c6; have k7 := cell_regrown c7; have k8 := cell_regrown c8; have k9 := cell_regrown c9; have k10 := cell_regrown c10; have k11 := cell_regrown c11; have k12 := cell_regrown c12; have k13 := cell_regrown c13; have k14 := cell_regrown c14
    have j2 := cell_regrown s2; have j3 := cell_regrown s3; have j4 := cell_regrown s4
    replace cA := cA Y
    refine wp_region_quiet_below (by kernel_rfl) (by kernel_rfl) ?_
    repeat (any_goals (first | go_big_quiet_step ((go_at_call 57; exact cA _ _)) | quiet_step ((go_at_call 57; exact cA _ _))))
    refine wpQuiet_nil ?_
    intro _ hw'
    obtain ⟨⟨dq, osq⟩, hw''⟩ := hw'
    subst hw''
    clear c0 c1 c2 c3 c4 c5 c6 c7 c8 c9 c10 c11 c12 c13 c14 s0 s1 s2 s3 s4 s5 k0 k1 k2 k3 k4 k5 k6 k7 k8 k9 k10 k11 k12 k13 k14 j2 j3 j4 cA
    refine gen_then (fun X => Below w.heap.size w X ∧ Lp X w.heap.size L ∧ Iv X (w.heap.size + 1) at' S) ⟨bl_step BY (below_regrown Y dq osq), KL.out.keep (below_regrown Y dq osq), KI.out.keep (below_regrown Y dq osq)⟩ ?_
    rintro Z ⟨BZ, LZ, IZ⟩
    have HW := hid1 (HL.out.1.keep BZ)
    have HB := hid1 BZ
    obtain ⟨c0, c1, c2, c3, c4, c5, c6, c7, c8, c9, c10, c11, c12, c13, c14⟩ := LZ
    obtain ⟨s0, s1, s2, s3, s4, s5⟩ := IZ
    clear KL KI BY BZ HL dq osq Y c0 c2 c3 c4 c5 c6 c7 c8 c9 c10 c11 c13 c14 s0 s1 s2 s3 s4
    by_cases hr : S.ah + p ≤ 16777216
    · have HT2 := hid1 (HT.out hr)
      by_cases hq : (L.mw : Int) = p
      · have hne : ((L.mw : Int) != p) = false := by simp [hq]
        have HQ := hid1 hq
        have hpm : p ≤ (L.mw : Int) := by omega
        have hpm2 : (L.mw : Int) ≤ p := by omega
        clear hq
        go_wp2_with fail
        go_loop [6] (fun i => ∃ k : Nat, k ≤ L.mw ∧ i = .int .i64 k ∧ Hid (∀ j, j < k → okW L.wt (L.ws j))) (fun i => L.mw - (intOf i).toNat)
        case atStart => exact ⟨0, Nat.zero_le _, rfl, hid1 fun j hj => absurd hj (by omega)⟩
        case round =>
          obtain ⟨k, hk, rfl, HA⟩ := hrel
          have ik0 : (0 : Int) ≤ (k : Int) := by omega
          by_cases hlt : k < L.mw
          · have ik : (k : Int) < (L.mw : Int) := by omega
            have ik2 : (k : Int) < p := by omega
            obtain ⟨g, o, ea, hc⟩ := HW.out k hlt
            have HN := hid1 (fun h => wsE_no (L := L) (S := S) hlt h)
            have HY := hid1 (fun (h : okW L.wt (L.ws k)) => (show ∀ j, j < k + 1 → okW L.wt (L.ws j) from fun j hj => by
              by_cases e : j = k
              · rw [e]; exact h
              · exact HA.out j (by omega)))
            generalize L.ws k = x at hc HN HY
            have hcs : x < -1 ∨ (¬ x < -1 ∧ 1 < x) ∨ (¬ x < -1 ∧ ¬ 1 < x ∧ x ≠ 0) ∨ (x = 0 ∧ L.wt = 1) ∨ (x = 0 ∧ L.wt ≠ 1) := by omega
            rcases hcs with h1 | ⟨h1, h2⟩ | ⟨h1, h2, h3⟩ | ⟨h1, h2⟩ | ⟨h1, h2⟩
            · go_wp2_with fail
              go_ret
              exact ⟨by rw [HT2.out, HN.out (fun h => by have := h.1; omega)]; rfl, HB.out⟩
            · go_wp2_with fail
              go_ret
              exact ⟨by rw [HT2.out, HN.out (fun h => by have := h.1; omega)]; rfl, HB.out⟩
            · have h4 : (x == 0) = false := by simpa using h3
              go_wp2_with fail
              go_round
              case rel => exact ⟨k + 1, by omega, by go_num, hid1 (HY.out ⟨by omega, fun h => absurd h h3⟩)⟩
              case measure => simp [intOf]; omega
            · subst h1
              have h4 : (L.wt == 1) = true := by simpa using h2
              have H2 := hid1 h2
              clear h2
              go_wp2_with fail
              go_ret
              exact ⟨by rw [HT2.out, HN.out (fun h => h.2 rfl H2.out)]; rfl, HB.out⟩
            · subst h1
              have h4 : (L.wt == 1) = false := by simpa using h2
              go_wp2_with fail
              go_round
              case rel => exact ⟨k + 1, by omega, by go_num, hid1 (HY.out ⟨by omega, fun _ => h2⟩)⟩
              case measure => simp [intOf]; omega
          · have : k = L.mw := by omega
            subst this
            go_wp2_with fail
            go_ret
            exact ⟨by rw [HT2.out, HK.out HQ.out HA.out]; rfl, HB.out⟩
      · have hne : ((L.mw : Int) != p) = true := by simp [hq]
        have HF := hid1 (HC.out hq)
        clear hq
        go_wp2_with fail
        go_ret
        exact ⟨by rw [HT2.out, HF.out]; rfl, HB.out⟩
    · have HF := hid1 (HR.out (by omega))
      go_wp2_with fail
      go_ret
      exact ⟨by rw [HF.out]; rfl, HB.out⟩
set_option maxRecDepth 100000 in
theorem rweights_any (L : Ly) (S : Sp) (at' : Int) (hs : Sides S.h S.v S.c) (hf : Fok L) (hkd : L.kd = 1 ∨ L.kd = 2) (hk : 0 ≤ L.k ∧ L.k ≤ 4096) (ha : 0 ≤ S.ah ∧ S.ah ≤ 16777216) (w : World) (hL : Lst w L) :
    Calls Tryz.prog 41 #[lyv L, inv at' S] w fun e w' => e = .returned (.int .i64 (rwE L S)) ∧ Below w.heap.size w w' := by
  by_cases h1 : L.wt = 1
  · exact rweights_walk L S at' hs hf hkd hk ha w hL (.inl (by simp [h1])) (.inl h1)
  · by_cases h2 : L.wt = 2
    · exact rweights_walk L S at' hs hf hkd hk ha w hL (.inr ⟨by simp [h1], by simp [h2]⟩) (.inr h2)
    · rw [rwE_kind (by omega)]
      have e1 : (L.wt != 1) = true := by simpa using h1
      have e2 : (L.wt != 2) = true := by simpa using h2
      clear hs hf hkd hk ha hL h1 h2
      go_enter Tryz.func41, Tryz.ntmps41
      go_wp2_with fail
      go_ret
      exact ⟨rfl, by repeat (first | (with_reducible exact Below.refl _ _) | (with_reducible refine bl_alloc ?_ _) | (with_reducible refine Below.drew ?_) | (with_reducible refine bl_drewN ?_ _) | (with_reducible refine bl_set ?_ (by omega) _) | (with_reducible refine bl_step ?_ (by assumption)))⟩
end Go.Proofs.YtlgjoepeibodkaaGreat.Nn
/- THE DOCUMENT'S NORM. -/
namespace Go.Proofs.YtlgjoepeibodkaaGreat.Nn
open Go.RowKit
attribute [local go_sem ↓] Go.wp_at_zero Go.wp_at_succ

set_option maxRecDepth 100000 in
theorem r4check_any (n d : Int) (w : World) :
    Calls Tryz.prog 81 #[fr n d] w fun e w' => e = .returned (.int .i64 (chF n d)) ∧ Below w.heap.size w w' := by
  by_cases h1 : d < 1
  · rw [chF_no (fun h => by have := h.1; omega)]
    go_enter Tryz.func81, Tryz.ntmps81
    go_wp2
    go_ret
    exact ⟨rfl, bl_alloc (Below.refl _ _) _⟩
  · by_cases h2 : 1048576 < d
    · rw [chF_no (fun h => by have := h.2.1; omega)]
      go_enter Tryz.func81, Tryz.ntmps81
      go_wp2
      go_ret
      exact ⟨rfl, bl_alloc (Below.refl _ _) _⟩
    · by_cases h3 : n < -2147483647
      · rw [chF_no (fun h => by have := h.2.2.1; omega)]
        go_enter Tryz.func81, Tryz.ntmps81
        go_wp2
        go_ret
        exact ⟨rfl, bl_alloc (Below.refl _ _) _⟩
      · by_cases h4 : 2147483647 < n
        · rw [chF_no (fun h => by have := h.2.2.2; omega)]
          go_enter Tryz.func81, Tryz.ntmps81
          go_wp2
          go_ret
          exact ⟨rfl, bl_alloc (Below.refl _ _) _⟩
        · rw [chF_ok ⟨by omega, by omega, by omega, by omega⟩]
          go_enter Tryz.func81, Tryz.ntmps81
          go_wp2
          go_ret
          exact ⟨rfl, bl_alloc (Below.refl _ _) _⟩
set_option maxRecDepth 100000 in
theorem r4norm_no0 (gn gd bn bd mn md sn sd : Int) (h0 : chF gn gd = 40) (w : World) :
    Calls Tryz.prog 58 #[nm gn gd bn bd mn md sn sd] w fun e w' => e = .returned (.int .i64 40) ∧ Below w.heap.size w w' := by
  go_enter Tryz.func58, Tryz.ntmps58
  go_wp2_with fail
  refine gen_calls (fun W' => Below w.heap.size w W' ∧ Hid (Nm W' w.heap.size gn gd bn bd mn md sn sd)) ⟨by repeat (first | (with_reducible exact Below.refl _ _) | (with_reducible refine bl_alloc ?_ _) | (with_reducible refine Below.drew ?_) | (with_reducible refine bl_drewN ?_ _) | (with_reducible refine bl_set ?_ (by omega) _) | (with_reducible refine bl_step ?_ (by assumption))), hid1 ⟨by simp [go_sem], by simp [go_sem], by simp [go_sem], by simp [go_sem], by simp [go_sem], by simp [go_sem], by simp [go_sem], by simp [go_sem]⟩⟩ ?_
  rintro W0 ⟨B0, HM⟩
  obtain ⟨m0, m1, m2, m3, m4, m5, m6, m7⟩ := HM.out
  refine (r4check_any gn gd _).mono ?_
  rintro e w1 ⟨rfl, hb1⟩
  rw [h0]
  replace HM := hid1 (HM.out.keep hb1)
  have B1 : Below w.heap.size w w1 := by repeat (first | (with_reducible exact Below.refl _ _) | (with_reducible refine bl_alloc ?_ _) | (with_reducible refine Below.drew ?_) | (with_reducible refine bl_drewN ?_ _) | (with_reducible refine bl_set ?_ (by omega) _) | (with_reducible refine bl_step ?_ (by assumption)))
  clear hb1 m0 m1 m2 m3 m4 m5 m6 m7
  obtain ⟨m0, m1, m2, m3, m4, m5, m6, m7⟩ := HM.out
  go_wp2
  go_ret
  exact ⟨rfl, by repeat (first | (with_reducible exact Below.refl _ _) | (with_reducible refine bl_alloc ?_ _) | (with_reducible refine Below.drew ?_) | (with_reducible refine bl_drewN ?_ _) | (with_reducible refine bl_set ?_ (by omega) _) | (with_reducible refine bl_step ?_ (by assumption)))⟩
set_option maxRecDepth 100000 in
theorem r4norm_no1 (gn gd bn bd mn md sn sd : Int) (h0 : chF gn gd = 0) (h1 : chF bn bd = 40) (w : World) :
    Calls Tryz.prog 58 #[nm gn gd bn bd mn md sn sd] w fun e w' => e = .returned (.int .i64 40) ∧ Below w.heap.size w w' := by
  go_enter Tryz.func58, Tryz.ntmps58
  go_wp2_with fail
  refine gen_calls (fun W' => Below w.heap.size w W' ∧ Hid (Nm W' w.heap.size gn gd bn bd mn md sn sd)) ⟨by repeat (first | (with_reducible exact Below.refl _ _) | (with_reducible refine bl_alloc ?_ _) | (with_reducible refine Below.drew ?_) | (with_reducible refine bl_drewN ?_ _) | (with_reducible refine bl_set ?_ (by omega) _) | (with_reducible refine bl_step ?_ (by assumption))), hid1 ⟨by simp [go_sem], by simp [go_sem], by simp [go_sem], by simp [go_sem], by simp [go_sem], by simp [go_sem], by simp [go_sem], by simp [go_sem]⟩⟩ ?_
  rintro W0 ⟨B0, HM⟩
  obtain ⟨m0, m1, m2, m3, m4, m5, m6, m7⟩ := HM.out
  refine (r4check_any gn gd _).mono ?_
  rintro e w1 ⟨rfl, hb1⟩
  rw [h0]
  replace HM := hid1 (HM.out.keep hb1)
  have B1 : Below w.heap.size w w1 := by repeat (first | (with_reducible exact Below.refl _ _) | (with_reducible refine bl_alloc ?_ _) | (with_reducible refine Below.drew ?_) | (with_reducible refine bl_drewN ?_ _) | (with_reducible refine bl_set ?_ (by omega) _) | (with_reducible refine bl_step ?_ (by assumption)))
  clear hb1 m0 m1 m2 m3 m4 m5 m6 m7
  obtain ⟨m0, m1, m2, m3, m4, m5, m6, m7⟩ := HM.out
  go_wp2_with fail
  refine (r4check_any bn bd _).mono ?_
  rintro e w2 ⟨rfl, hb2⟩
  rw [h1]
  replace HM := hid1 (HM.out.keep hb2)
  have B2 : Below w.heap.size w w2 := by repeat (first | (with_reducible exact Below.refl _ _) | (with_reducible refine bl_alloc ?_ _) | (with_reducible refine Below.drew ?_) | (with_reducible refine bl_drewN ?_ _) | (with_reducible refine bl_set ?_ (by omega) _) | (with_reducible refine bl_step ?_ (by assumption)))
  clear hb2 B1 m0 m1 m2 m3 m4 m5 m6 m7
  obtain ⟨m0, m1, m2, m3, m4, m5, m6, m7⟩ := HM.out
  go_wp2
  go_ret
  exact ⟨rfl, by repeat (first | (with_reducible exact Below.refl _ _) | (with_reducible refine bl_alloc ?_ _) | (with_reducible refine Below.drew ?_) | (with_reducible refine bl_drewN ?_ _) | (with_reducible refine bl_set ?_ (by omega) _) | (with_reducible refine bl_step ?_ (by assumption)))⟩
set_option maxRecDepth 100000 in
theorem r4norm_no2 (gn gd bn bd mn md sn sd : Int) (h0 : chF gn gd = 0) (h1 : chF bn bd = 0) (h2 : chF mn md = 40) (w : World) :
    Calls Tryz.prog 58 #[nm gn gd bn bd mn md sn sd] w fun e w' => e = .returned (.int .i64 40) ∧ Below w.heap.size w w' := by
  go_enter Tryz.func58, Tryz.ntmps58
  go_wp2_with fail
  refine gen_calls (fun W' => Below w.heap.size w W' ∧ Hid (Nm W' w.heap.size gn gd bn bd mn md sn sd)) ⟨by repeat (first | (with_reducible exact Below.refl _ _) | (with_reducible refine bl_alloc ?_ _) | (with_reducible refine Below.drew ?_) | (with_reducible refine bl_drewN ?_ _) | (with_reducible refine bl_set ?_ (by omega) _) | (with_reducible refine bl_step ?_ (by assumption))), hid1 ⟨by simp [go_sem], by simp [go_sem], by simp [go_sem], by simp [go_sem], by simp [go_sem], by simp [go_sem], by simp [go_sem], by simp [go_sem]⟩⟩ ?_
  rintro W0 ⟨B0, HM⟩
  obtain ⟨m0, m1, m2, m3, m4, m5, m6, m7⟩ := HM.out
  refine (r4check_any gn gd _).mono ?_
  rintro e w1 ⟨rfl, hb1⟩
  rw [h0]
  replace HM := hid1 (HM.out.keep hb1)
  have B1 : Below w.heap.size w w1 := by repeat (first | (with_reducible exact Below.refl _ _) | (with_reducible refine bl_alloc ?_ _) | (with_reducible refine Below.drew ?_) | (with_reducible refine bl_drewN ?_ _) | (with_reducible refine bl_set ?_ (by omega) _) | (with_reducible refine bl_step ?_ (by assumption)))
  clear hb1 m0 m1 m2 m3 m4 m5 m6 m7
  obtain ⟨m0, m1, m2, m3, m4, m5, m6, m7⟩ := HM.out
  go_wp2_with fail
  refine (r4check_any bn bd _).mono ?_
  rintro e w2 ⟨rfl, hb2⟩
  rw [h1]
  replace HM := hid1 (HM.out.keep hb2)
  have B2 : Below w.heap.size w w2 := by repeat (first | (with_reducible exact Below.refl _ _) | (with_reducible refine bl_alloc ?_ _) | (with_reducible refine Below.drew ?_) | (with_reducible refine bl_drewN ?_ _) | (with_reducible refine bl_set ?_ (by omega) _) | (with_reducible refine bl_step ?_ (by assumption)))
  clear hb2 B1 m0 m1 m2 m3 m4 m5 m6 m7
  obtain ⟨m0, m1, m2, m3, m4, m5, m6, m7⟩ := HM.out
  go_wp2_with fail
  refine (r4check_any mn md _).mono ?_
  rintro e w3 ⟨rfl, hb3⟩
  rw [h2]
  replace HM := hid1 (HM.out.keep hb3)
  have B3 : Below w.heap.size w w3 := by repeat (first | (with_reducible exact Below.refl _ _) | (with_reducible refine bl_alloc ?_ _) | (with_reducible refine Below.drew ?_) | (with_reducible refine bl_drewN ?_ _) | (with_reducible refine bl_set ?_ (by omega) _) | (with_reducible refine bl_step ?_ (by assumption)))
  clear hb3 B2 m0 m1 m2 m3 m4 m5 m6 m7
  obtain ⟨m0, m1, m2, m3, m4, m5, m6, m7⟩ := HM.out
  go_wp2
  go_ret
  exact ⟨rfl, by repeat (first | (with_reducible exact Below.refl _ _) | (with_reducible refine bl_alloc ?_ _) | (with_reducible refine Below.drew ?_) | (with_reducible refine bl_drewN ?_ _) | (with_reducible refine bl_set ?_ (by omega) _) | (with_reducible refine bl_step ?_ (by assumption)))⟩
set_option maxRecDepth 100000 in
theorem r4norm_no3 (gn gd bn bd mn md sn sd : Int) (h0 : chF gn gd = 0) (h1 : chF bn bd = 0) (h2 : chF mn md = 0) (h3 : chF sn sd = 40) (w : World) :
    Calls Tryz.prog 58 #[nm gn gd bn bd mn md sn sd] w fun e w' => e = .returned (.int .i64 40) ∧ Below w.heap.size w w' := by
  go_enter Tryz.func58, Tryz.ntmps58
  go_wp2_with fail
  refine gen_calls (fun W' => Below w.heap.size w W' ∧ Hid (Nm W' w.heap.size gn gd bn bd mn md sn sd)) ⟨by repeat (first | (with_reducible exact Below.refl _ _) | (with_reducible refine bl_alloc ?_ _) | (with_reducible refine Below.drew ?_) | (with_reducible refine bl_drewN ?_ _) | (with_reducible refine bl_set ?_ (by omega) _) | (with_reducible refine bl_step ?_ (by assumption))), hid1 ⟨by simp [go_sem], by simp [go_sem], by simp [go_sem], by simp [go_sem], by simp [go_sem], by simp [go_sem], by simp [go_sem], by simp [go_sem]⟩⟩ ?_
  rintro W0 ⟨B0, HM⟩
  obtain ⟨m0, m1, m2, m3, m4, m5, m6, m7⟩ := HM.out
  refine (r4check_any gn gd _).mono ?_
  rintro e w1 ⟨rfl, hb1⟩
  rw [h0]
  replace HM := hid1 (HM.out.keep hb1)
  have B1 : Below w.heap.size w w1 := by repeat (first | (with_reducible exact Below.refl _ _) | (with_reducible refine bl_alloc ?_ _) | (with_reducible refine Below.drew ?_) | (with_reducible refine bl_drewN ?_ _) | (with_reducible refine bl_set ?_ (by omega) _) | (with_reducible refine bl_step ?_ (by assumption)))
  clear hb1 m0 m1 m2 m3 m4 m5 m6 m7
  obtain ⟨m0, m1, m2, m3, m4, m5, m6, m7⟩ := HM.out
  go_wp2_with fail
  refine (r4check_any bn bd _).mono ?_
  rintro e w2 ⟨rfl, hb2⟩
  rw [h1]
  replace HM := hid1 (HM.out.keep hb2)
  have B2 : Below w.heap.size w w2 := by repeat (first | (with_reducible exact Below.refl _ _) | (with_reducible refine bl_alloc ?_ _) | (with_reducible refine Below.drew ?_) | (with_reducible refine bl_drewN ?_ _) | (with_reducible refine bl_set ?_ (by omega) _) | (with_reducible refine bl_step ?_ (by assumption)))
  clear hb2 B1 m0 m1 m2 m3 m4 m5 m6 m7
  obtain ⟨m0, m1, m2, m3, m4, m5, m6, m7⟩ := HM.out
  go_wp2_with fail
  refine (r4check_any mn md _).mono ?_
  rintro e w3 ⟨rfl, hb3⟩
  rw [h2]
  replace HM := hid1 (HM.out.keep hb3)
  have B3 : Below w.heap.size w w3 := by repeat (first | (with_reducible exact Below.refl _ _) | (with_reducible refine bl_alloc ?_ _) | (with_reducible refine Below.drew ?_) | (with_reducible refine bl_drewN ?_ _) | (with_reducible refine bl_set ?_ (by omega) _) | (with_reducible refine bl_step ?_ (by assumption)))
  clear hb3 B2 m0 m1 m2 m3 m4 m5 m6 m7
  obtain ⟨m0, m1, m2, m3, m4, m5, m6, m7⟩ := HM.out
  go_wp2_with fail
  refine (r4check_any sn sd _).mono ?_
  rintro e w4 ⟨rfl, hb4⟩
  rw [h3]
  replace HM := hid1 (HM.out.keep hb4)
  have B4 : Below w.heap.size w w4 := by repeat (first | (with_reducible exact Below.refl _ _) | (with_reducible refine bl_alloc ?_ _) | (with_reducible refine Below.drew ?_) | (with_reducible refine bl_drewN ?_ _) | (with_reducible refine bl_set ?_ (by omega) _) | (with_reducible refine bl_step ?_ (by assumption)))
  clear hb4 B3 m0 m1 m2 m3 m4 m5 m6 m7
  obtain ⟨m0, m1, m2, m3, m4, m5, m6, m7⟩ := HM.out
  go_wp2
  go_ret
  exact ⟨rfl, by repeat (first | (with_reducible exact Below.refl _ _) | (with_reducible refine bl_alloc ?_ _) | (with_reducible refine Below.drew ?_) | (with_reducible refine bl_drewN ?_ _) | (with_reducible refine bl_set ?_ (by omega) _) | (with_reducible refine bl_step ?_ (by assumption)))⟩
set_option maxRecDepth 100000 in
theorem r4norm_small (gn gd bn bd mn md sn sd : Int) (h0 : chF gn gd = 0) (h1 : chF bn bd = 0) (h2 : chF mn md = 0) (h3 : chF sn sd = 0) (hs : sn < 1) (w : World) :
    Calls Tryz.prog 58 #[nm gn gd bn bd mn md sn sd] w fun e w' => e = .returned (.int .i64 53) ∧ Below w.heap.size w w' := by
  go_enter Tryz.func58, Tryz.ntmps58
  go_wp2_with fail
  refine gen_calls (fun W' => Below w.heap.size w W' ∧ Hid (Nm W' w.heap.size gn gd bn bd mn md sn sd)) ⟨by repeat (first | (with_reducible exact Below.refl _ _) | (with_reducible refine bl_alloc ?_ _) | (with_reducible refine Below.drew ?_) | (with_reducible refine bl_drewN ?_ _) | (with_reducible refine bl_set ?_ (by omega) _) | (with_reducible refine bl_step ?_ (by assumption))), hid1 ⟨by simp [go_sem], by simp [go_sem], by simp [go_sem], by simp [go_sem], by simp [go_sem], by simp [go_sem], by simp [go_sem], by simp [go_sem]⟩⟩ ?_
  rintro W0 ⟨B0, HM⟩
  obtain ⟨m0, m1, m2, m3, m4, m5, m6, m7⟩ := HM.out
  refine (r4check_any gn gd _).mono ?_
  rintro e w1 ⟨rfl, hb1⟩
  rw [h0]
  replace HM := hid1 (HM.out.keep hb1)
  have B1 : Below w.heap.size w w1 := by repeat (first | (with_reducible exact Below.refl _ _) | (with_reducible refine bl_alloc ?_ _) | (with_reducible refine Below.drew ?_) | (with_reducible refine bl_drewN ?_ _) | (with_reducible refine bl_set ?_ (by omega) _) | (with_reducible refine bl_step ?_ (by assumption)))
  clear hb1 m0 m1 m2 m3 m4 m5 m6 m7
  obtain ⟨m0, m1, m2, m3, m4, m5, m6, m7⟩ := HM.out
  go_wp2_with fail
  refine (r4check_any bn bd _).mono ?_
  rintro e w2 ⟨rfl, hb2⟩
  rw [h1]
  replace HM := hid1 (HM.out.keep hb2)
  have B2 : Below w.heap.size w w2 := by repeat (first | (with_reducible exact Below.refl _ _) | (with_reducible refine bl_alloc ?_ _) | (with_reducible refine Below.drew ?_) | (with_reducible refine bl_drewN ?_ _) | (with_reducible refine bl_set ?_ (by omega) _) | (with_reducible refine bl_step ?_ (by assumption)))
  clear hb2 B1 m0 m1 m2 m3 m4 m5 m6 m7
  obtain ⟨m0, m1, m2, m3, m4, m5, m6, m7⟩ := HM.out
  go_wp2_with fail
  refine (r4check_any mn md _).mono ?_
  rintro e w3 ⟨rfl, hb3⟩
  rw [h2]
  replace HM := hid1 (HM.out.keep hb3)
  have B3 : Below w.heap.size w w3 := by repeat (first | (with_reducible exact Below.refl _ _) | (with_reducible refine bl_alloc ?_ _) | (with_reducible refine Below.drew ?_) | (with_reducible refine bl_drewN ?_ _) | (with_reducible refine bl_set ?_ (by omega) _) | (with_reducible refine bl_step ?_ (by assumption)))
  clear hb3 B2 m0 m1 m2 m3 m4 m5 m6 m7
  obtain ⟨m0, m1, m2, m3, m4, m5, m6, m7⟩ := HM.out
  go_wp2_with fail
  refine (r4check_any sn sd _).mono ?_
  rintro e w4 ⟨rfl, hb4⟩
  rw [h3]
  replace HM := hid1 (HM.out.keep hb4)
  have B4 : Below w.heap.size w w4 := by repeat (first | (with_reducible exact Below.refl _ _) | (with_reducible refine bl_alloc ?_ _) | (with_reducible refine Below.drew ?_) | (with_reducible refine bl_drewN ?_ _) | (with_reducible refine bl_set ?_ (by omega) _) | (with_reducible refine bl_step ?_ (by assumption)))
  clear hb4 B3 m0 m1 m2 m3 m4 m5 m6 m7
  obtain ⟨m0, m1, m2, m3, m4, m5, m6, m7⟩ := HM.out
  go_wp2
  go_ret
  exact ⟨rfl, by repeat (first | (with_reducible exact Below.refl _ _) | (with_reducible refine bl_alloc ?_ _) | (with_reducible refine Below.drew ?_) | (with_reducible refine bl_drewN ?_ _) | (with_reducible refine bl_set ?_ (by omega) _) | (with_reducible refine bl_step ?_ (by assumption)))⟩
set_option maxRecDepth 100000 in
theorem r4norm_ok (gn gd bn bd mn md sn sd : Int) (h0 : chF gn gd = 0) (h1 : chF bn bd = 0) (h2 : chF mn md = 0) (h3 : chF sn sd = 0) (hs : ¬ sn < 1) (w : World) :
    Calls Tryz.prog 58 #[nm gn gd bn bd mn md sn sd] w fun e w' => e = .returned (.int .i64 0) ∧ Below w.heap.size w w' := by
  go_enter Tryz.func58, Tryz.ntmps58
  go_wp2_with fail
  refine gen_calls (fun W' => Below w.heap.size w W' ∧ Hid (Nm W' w.heap.size gn gd bn bd mn md sn sd)) ⟨by repeat (first | (with_reducible exact Below.refl _ _) | (with_reducible refine bl_alloc ?_ _) | (with_reducible refine Below.drew ?_) | (with_reducible refine bl_drewN ?_ _) | (with_reducible refine bl_set ?_ (by omega) _) | (with_reducible refine bl_step ?_ (by assumption))), hid1 ⟨by simp [go_sem], by simp [go_sem], by simp [go_sem], by simp [go_sem], by simp [go_sem], by simp [go_sem], by simp [go_sem], by simp [go_sem]⟩⟩ ?_
  rintro W0 ⟨B0, HM⟩
  obtain ⟨m0, m1, m2, m3, m4, m5, m6, m7⟩ := HM.out
  refine (r4check_any gn gd _).mono ?_
  rintro e w1 ⟨rfl, hb1⟩
  rw [h0]
  replace HM := hid1 (HM.out.keep hb1)
  have B1 : Below w.heap.size w w1 := by repeat (first | (with_reducible exact Below.refl _ _) | (with_reducible refine bl_alloc ?_ _) | (with_reducible refine Below.drew ?_) | (with_reducible refine bl_drewN ?_ _) | (with_reducible refine bl_set ?_ (by omega) _) | (with_reducible refine bl_step ?_ (by assumption)))
  clear hb1 m0 m1 m2 m3 m4 m5 m6 m7
  obtain ⟨m0, m1, m2, m3, m4, m5, m6, m7⟩ := HM.out
  go_wp2_with fail
  refine (r4check_any bn bd _).mono ?_
  rintro e w2 ⟨rfl, hb2⟩
  rw [h1]
  replace HM := hid1 (HM.out.keep hb2)
  have B2 : Below w.heap.size w w2 := by repeat (first | (with_reducible exact Below.refl _ _) | (with_reducible refine bl_alloc ?_ _) | (with_reducible refine Below.drew ?_) | (with_reducible refine bl_drewN ?_ _) | (with_reducible refine bl_set ?_ (by omega) _) | (with_reducible refine bl_step ?_ (by assumption)))
  clear hb2 B1 m0 m1 m2 m3 m4 m5 m6 m7
  obtain ⟨m0, m1, m2, m3, m4, m5, m6, m7⟩ := HM.out
  go_wp2_with fail
  refine (r4check_any mn md _).mono ?_
  rintro e w3 ⟨rfl, hb3⟩
  rw [h2]
  replace HM := hid1 (HM.out.keep hb3)
  have B3 : Below w.heap.size w w3 := by repeat (first | (with_reducible exact Below.refl _ _) | (with_reducible refine bl_alloc ?_ _) | (with_reducible refine Below.drew ?_) | (with_reducible refine bl_drewN ?_ _) | (with_reducible refine bl_set ?_ (by omega) _) | (with_reducible refine bl_step ?_ (by assumption)))
  clear hb3 B2 m0 m1 m2 m3 m4 m5 m6 m7
  obtain ⟨m0, m1, m2, m3, m4, m5, m6, m7⟩ := HM.out
  go_wp2_with fail
  refine (r4check_any sn sd _).mono ?_
  rintro e w4 ⟨rfl, hb4⟩
  rw [h3]
  replace HM := hid1 (HM.out.keep hb4)
  have B4 : Below w.heap.size w w4 := by repeat (first | (with_reducible exact Below.refl _ _) | (with_reducible refine bl_alloc ?_ _) | (with_reducible refine Below.drew ?_) | (with_reducible refine bl_drewN ?_ _) | (with_reducible refine bl_set ?_ (by omega) _) | (with_reducible refine bl_step ?_ (by assumption)))
  clear hb4 B3 m0 m1 m2 m3 m4 m5 m6 m7
  obtain ⟨m0, m1, m2, m3, m4, m5, m6, m7⟩ := HM.out
  go_wp2
  go_ret
  exact ⟨rfl, by repeat (first | (with_reducible exact Below.refl _ _) | (with_reducible refine bl_alloc ?_ _) | (with_reducible refine Below.drew ?_) | (with_reducible refine bl_drewN ?_ _) | (with_reducible refine bl_set ?_ (by omega) _) | (with_reducible refine bl_step ?_ (by assumption)))⟩
theorem r4norm_any (gn gd bn bd mn md sn sd : Int) (w : World) :
    Calls Tryz.prog 58 #[nm gn gd bn bd mn md sn sd] w fun e w' => e = .returned (.int .i64 (noE gn gd bn bd mn md sn sd)) ∧ Below w.heap.size w w' := by
  unfold noE
  by_cases h0 : Fr gn gd
  · by_cases h1 : Fr bn bd
    · by_cases h2 : Fr mn md
      · by_cases h3 : Fr sn sd
        · rw [if_pos ⟨h0, h1, h2, h3⟩]
          by_cases hs : sn < 1
          · rw [if_pos hs]; exact r4norm_small _ _ _ _ _ _ _ _ (chF_ok h0) (chF_ok h1) (chF_ok h2) (chF_ok h3) hs w
          · rw [if_neg hs]; exact r4norm_ok _ _ _ _ _ _ _ _ (chF_ok h0) (chF_ok h1) (chF_ok h2) (chF_ok h3) hs w
        · rw [if_neg (fun k => h3 k.2.2.2)]; exact r4norm_no3 _ _ _ _ _ _ _ _ (chF_ok h0) (chF_ok h1) (chF_ok h2) (chF_no h3) w
      · rw [if_neg (fun k => h2 k.2.2.1)]; exact r4norm_no2 _ _ _ _ _ _ _ _ (chF_ok h0) (chF_ok h1) (chF_no h2) w
    · rw [if_neg (fun k => h1 k.2.1)]; exact r4norm_no1 _ _ _ _ _ _ _ _ (chF_ok h0) (chF_no h1) w
  · rw [if_neg (fun k => h0 k.1)]; exact r4norm_no0 _ _ _ _ _ _ _ _ (chF_no h0) w
end Go.Proofs.YtlgjoepeibodkaaGreat.Nn
/- THE DOCUMENT'S NETWORKS: NORMS, BIASES, HOW FAR SUMS REACH. -/
namespace Go.Proofs.YtlgjoepeibodkaaGreat.Nn
open Go.RowKit

def rnE (L : Ly) (S : Sp) : Int := if S.la = true then (if (L.mb : Int) = L.k ∧ L.mn = 0 then reE L S else 54) else (if nmE L = 0 then reE L S else 53)

set_option maxHeartbeats 3200000 in
set_option maxRecDepth 100000 in
theorem rends_first (L : Ly) (S : Sp) (at' : Int) (hs : Sides S.h S.v S.c) (hf : Fok L) (hkd : L.kd = 1 ∨ L.kd = 2) (hat : (at' == 0) = true) (hfs : S.fs = true) (w : World) (hL : Lst w L) :
    Calls Tryz.prog 42 #[lyv L, inv at' S] w fun e w' => e = .returned (.int .i64 (rnE L S)) ∧ Below w.heap.size w w' := by
  have HL := hid1 hL
  have hm := hL.2.2.2.2.2
  have hmn := hL.2.2.2.2.1
  clear hL
  have hb := fan_b hs hf
  have cF := rfan_any L S.h S.v S.c hs hf hkd
  have hle : lef L S = 2147483647 - 128 * fan L S.h S.v S.c := by unfold lef; rw [hfs]; simp; omega
  have H0 := hid1 (fun h => reE_low (L := L) (S := S) h)
  have H1 := hid1 (fun k (hk : k < L.mb) h => reE_no (L := L) (S := S) hk h)
  have H2 := hid1 (fun h h2 => reE_ok (L := L) (S := S) h h2)
  rw [hle] at H0 H1 H2
  have HFS := hid1 hfs
  clear hs hle hf hkd hfs
  generalize fan L S.h S.v S.c = f at *
  by_cases hl : S.la = true
  · have hcs : (¬ (L.mb : Int) = L.k) ∨ ((L.mb : Int) = L.k ∧ 0 < L.mn) ∨ ((L.mb : Int) = L.k ∧ L.mn = 0) := by omega
    rcases hcs with k1 | ⟨k1, k2⟩ | ⟨k1, k2⟩
    · have HV := hid1 (show rnE L S = 54 from by unfold rnE; rw [if_pos hl, if_neg (fun h => k1 h.1)])
      have e1 : ((L.mb : Int) != L.k) = true := by simpa using k1
      go_enter Tryz.func42, Tryz.ntmps42
      go_wp2_with fail
      go_ret
      exact ⟨by rw [HV.out]; rfl, by repeat (first | (with_reducible exact Below.refl _ _) | (with_reducible refine bl_alloc ?_ _) | (with_reducible refine Below.drew ?_) | (with_reducible refine bl_drewN ?_ _) | (with_reducible refine bl_set ?_ (by omega) _) | (with_reducible refine bl_step ?_ (by assumption)))⟩
    · have HV := hid1 (show rnE L S = 54 from by unfold rnE; rw [if_pos hl, if_neg (fun h => by have := h.2; omega)])
      have e1 : ((L.mb : Int) != L.k) = false := by simp [k1]
      clear k1
      go_enter Tryz.func42, Tryz.ntmps42
      go_wp2_with fail
      go_ret
      exact ⟨by rw [HV.out]; rfl, by repeat (first | (with_reducible exact Below.refl _ _) | (with_reducible refine bl_alloc ?_ _) | (with_reducible refine Below.drew ?_) | (with_reducible refine bl_drewN ?_ _) | (with_reducible refine bl_set ?_ (by omega) _) | (with_reducible refine bl_step ?_ (by assumption)))⟩
    · have HV := hid1 (show rnE L S = reE L S from by unfold rnE; rw [if_pos hl, if_pos ⟨k1, k2⟩])
      have e1 : ((L.mb : Int) != L.k) = false := by simp [k1]
      have HK2 := hid1 k2
      have e2 : ¬ 0 < L.mn := by omega
      clear k1 k2
      go_enter Tryz.func42, Tryz.ntmps42
      go_upto_region 12 with fail
      refine gen_world (fun X => Below w.heap.size w X ∧ Lp X w.heap.size L ∧ Iv X (w.heap.size + 1) at' S) ⟨by repeat (first | (with_reducible exact Below.refl _ _) | (with_reducible refine bl_alloc ?_ _) | (with_reducible refine Below.drew ?_) | (with_reducible refine bl_drewN ?_ _) | (with_reducible refine bl_set ?_ (by omega) _) | (with_reducible refine bl_step ?_ (by assumption))), (lp_new _ _ _).keep (bl_alloc (Below.refl _ _) _), by first | exact iv_new (by simp) at' S _ | (have := iv_new (W := w.alloc (lyo L)) (g := w.heap.size + 1) (by simp) at' S 87; rw [hl] at this; exact this)⟩ ?_
      rintro X ⟨BX, LX, IX⟩
      have KL := hid1 LX
      have KI := hid1 IX
      clear LX IX
      obtain ⟨c0, c1, c2, c3, c4, c5, c6, c7, c8, c9, c10, c11, c12, c13, c14⟩ := KL.out
      obtain ⟨s0, s1, s2, s3, s4, s5⟩ := KI.out
      go_wp2_with fail
      refine (cF _).mono ?_
      rintro e y ⟨rfl, hb⟩
      replace KL := hid1 (KL.out.keep hb)
      replace KI := hid1 (KI.out.keep hb)
      replace BX := bl_step BX hb
      have HW := hid1 (HL.out.2.2.1.keep BX)
      have HB := hid1 BX
      clear hb cF BX c0 c1 c2 c3 c4 c5 c6 c7 c8 c9 c10 c11 c12 c13 c14 s0 s1 s2 s3 s4 s5
      obtain ⟨c0, c1, c2, c3, c4, c5, c6, c7, c8, c9, c10, c11, c12, c13, c14⟩ := KL.out
      obtain ⟨s0, s1, s2, s3, s4, s5⟩ := KI.out
      clear c0 c1 c2 c3 c4 c5 c6 c7 c8 c9 c10 c11 c12 c13 s1 s2 s3 s4 s5 KL KI
      by_cases hlo : 2147483647 - 128 * f < 0
      · go_wp2_with fail
        go_ret
        exact ⟨by rw [HV.out, H0.out (by omega)]; first | rfl | simp [*], HB.out⟩
      · have HZ := hid1 (H2.out (by omega))
        go_wp2_with fail
        go_loop [9] (fun i => ∃ k : Nat, k ≤ L.mb ∧ i = .int .i64 k ∧ Hid (∀ j, j < k → bok (2147483647 - 128 * f) (L.bs j))) (fun i => L.mb - (intOf i).toNat)
        case atStart => exact ⟨0, Nat.zero_le _, rfl, hid1 fun j hj => absurd hj (by omega)⟩
        case round =>
          obtain ⟨k, hk, rfl, HA⟩ := hrel
          have ik0 : (0 : Int) ≤ (k : Int) := by omega
          by_cases hlt : k < L.mb
          · have ik : (k : Int) < (L.mb : Int) := by omega
            obtain ⟨g, o, ea, hc⟩ := HW.out k hlt
            have HN := hid1 (fun h => H1.out k hlt h)
            have HY := hid1 (fun (h : bok (2147483647 - 128 * f) (L.bs k)) => (show ∀ j, j < k + 1 → bok (2147483647 - 128 * f) (L.bs j) from fun j hj => by
              by_cases e : j = k
              · rw [e]; exact h
              · exact HA.out j (by omega)))
            generalize L.bs k = x at hc HN HY
            have hcs : 2147483647 - 128 * f < x ∨ (¬ 2147483647 - 128 * f < x ∧ x < -(2147483647 - 128 * f)) ∨ (¬ 2147483647 - 128 * f < x ∧ ¬ x < -(2147483647 - 128 * f)) := by omega
            rcases hcs with h1 | ⟨h1, h2⟩ | ⟨h1, h2⟩
            · go_wp2_with fail
              go_ret
              exact ⟨by rw [HV.out, HN.out (fun h => by have := h.2; omega)]; rfl, HB.out⟩
            · go_wp2_with fail
              go_ret
              exact ⟨by rw [HV.out, HN.out (fun h => by have := h.1; omega)]; rfl, HB.out⟩
            · go_wp2_with fail
              go_round
              case rel => exact ⟨k + 1, by omega, by go_num, hid1 (HY.out ⟨by omega, by omega⟩)⟩
              case measure => simp [intOf]; omega
          · have : k = L.mb := by omega
            subst this
            go_wp2_with fail
            go_ret
            exact ⟨by rw [HV.out, HZ.out HA.out]; rfl, HB.out⟩
  · have hl2 : S.la = false := by simpa using hl
    clear hl
    have hcs : (¬ (L.mn : Int) = L.k) ∨ ((L.mn : Int) = L.k ∧ 0 < L.mb) ∨ ((L.mn : Int) = L.k ∧ L.mb = 0) := by omega
    rcases hcs with k1 | ⟨k1, k2⟩ | ⟨k1, k2⟩
    · have HV := hid1 (show rnE L S = 53 from by unfold rnE; rw [if_neg (by rw [hl2]; decide), nmE_cnt (fun h => k1 h.1), if_neg (by decide)])
      have e1 : ((L.mn : Int) != L.k) = true := by simpa using k1
      clear k1
      go_enter Tryz.func42, Tryz.ntmps42
      go_wp2_with fail
      go_ret
      exact ⟨by rw [HV.out]; rfl, by repeat (first | (with_reducible exact Below.refl _ _) | (with_reducible refine bl_alloc ?_ _) | (with_reducible refine Below.drew ?_) | (with_reducible refine bl_drewN ?_ _) | (with_reducible refine bl_set ?_ (by omega) _) | (with_reducible refine bl_step ?_ (by assumption)))⟩
    · have HV := hid1 (show rnE L S = 53 from by unfold rnE; rw [if_neg (by rw [hl2]; decide), nmE_cnt (fun h => by have := h.2; omega), if_neg (by decide)])
      have e1 : ((L.mn : Int) != L.k) = false := by simp [k1]
      clear k1
      go_enter Tryz.func42, Tryz.ntmps42
      go_wp2_with fail
      go_ret
      exact ⟨by rw [HV.out]; rfl, by repeat (first | (with_reducible exact Below.refl _ _) | (with_reducible refine bl_alloc ?_ _) | (with_reducible refine Below.drew ?_) | (with_reducible refine bl_drewN ?_ _) | (with_reducible refine bl_set ?_ (by omega) _) | (with_reducible refine bl_step ?_ (by assumption)))⟩
    · have HQ := hid1 (show ¬ nmE L = 0 → rnE L S = 53 from fun h => by unfold rnE; rw [if_neg (by rw [hl2]; decide), if_neg h])
      have HP := hid1 (show nmE L = 0 → rnE L S = reE L S from fun h => by unfold rnE; rw [if_neg (by rw [hl2]; decide), if_pos h])
      have HC := hid1 (show (L.mn : Int) = L.k ∧ L.mb = 0 from ⟨k1, k2⟩)
      have e1 : ((L.mn : Int) != L.k) = false := by simp [k1]
      have e2 : ¬ 0 < L.mb := by omega
      have hkn : L.k ≤ (L.mn : Int) := by omega
      have hkn2 : (L.mn : Int) ≤ L.k := by omega
      clear k1 k2
      go_enter Tryz.func42, Tryz.ntmps42
      go_upto_region 7 with fail
      refine gen_world (fun X => Below w.heap.size w X ∧ Lp X w.heap.size L ∧ Iv X (w.heap.size + 1) at' S) ⟨by repeat (first | (with_reducible exact Below.refl _ _) | (with_reducible refine bl_alloc ?_ _) | (with_reducible refine Below.drew ?_) | (with_reducible refine bl_drewN ?_ _) | (with_reducible refine bl_set ?_ (by omega) _) | (with_reducible refine bl_step ?_ (by assumption))), (lp_new _ _ _).keep (bl_alloc (Below.refl _ _) _), by first | exact iv_new (by simp) at' S _ | (have := iv_new (W := w.alloc (lyo L)) (g := w.heap.size + 1) (by simp) at' S 87; rw [hl2] at this; exact this)⟩ ?_
      rintro X0 ⟨BX, LX, IX⟩
      go_loopw [5] (fun i wr => ∃ k : Nat, k ≤ L.mn ∧ i = .int .i64 k ∧ Hid (∀ j, j < k → nno L j = 0) ∧ Below w.heap.size w wr ∧ Hid (Lp wr w.heap.size L) ∧ Hid (Iv wr (w.heap.size + 1) at' S)) (fun i _ => L.mn - (intOf i).toNat)
      case atStart => exact ⟨0, Nat.zero_le _, rfl, hid1 fun j hj => absurd hj (by omega), BX, hid1 LX, hid1 IX⟩
      case round =>
        clear BX LX IX
        obtain ⟨k, hk, rfl, HA, BX, KL, KI⟩ := hrel
        have ik0 : (0 : Int) ≤ (k : Int) := by omega
        by_cases hlt : k < L.mn
        · have ik : (k : Int) < (L.mn : Int) := by omega
          have ik2 : (k : Int) < L.k := by omega
          obtain ⟨g, o, ea, a0, a1, a2, a3, a4, a5, a6, a7⟩ := (HL.out.2.1.keep BX) k hlt
          have HN := hid1 (fun h => nmE_no (L := L) hlt h)
          have HY := hid1 (fun (h : nno L k = 0) => (show ∀ j, j < k + 1 → nno L j = 0 from fun j hj => by
            by_cases e : j = k
            · rw [e]; exact h
            · exact HA.out j (by omega)))
          have HM := r4norm_any (L.ns k 0) (L.ns k 1) (L.ns k 2) (L.ns k 3) (L.ns k 4) (L.ns k 5) (L.ns k 6) (L.ns k 7)
          change ∀ w, Calls Tryz.prog 58 _ w fun e w' => e = .returned (.int .i64 (nno L k)) ∧ _ at HM
          generalize nno L k = x at HN HY HM
          obtain ⟨c0, c1, c2, c3, c4, c5, c6, c7, c8, c9, c10, c11, c12, c13, c14⟩ := KL.out
          by_cases hx : x = 0
          · have hx2 : (x != 0) = false := by simpa using hx
            have HX := hid1 hx
            clear hx
            go_wp2_with fail
            refine (HM _).mono ?_
            rintro e w1 ⟨rfl, hb1⟩
            replace KL := hid1 (KL.out.keep hb1)
            replace KI := hid1 (KI.out.keep hb1)
            replace BX := bl_step BX hb1
            clear hb1 HM a0 a1 a2 a3 a4 a5 a6 a7 c0 c1 c2 c3 c4 c5 c6 c7 c8 c9 c10 c11 c12 c13 c14
            go_wp2_with fail
            go_roundw
            case rel =>
              rw [ea]
              (repeat apply Exists.intro)
              exact ⟨⟨k + 1, by omega, by go_num, hid1 (HY.out HX.out), BX, KL, KI⟩, rfl⟩
            case measure => simp [intOf]; omega
          · have hx2 : (x != 0) = true := by simpa using hx
            have HE := hid1 (HQ.out (by rw [HN.out hx]; decide))
            clear hx
            go_wp2_with fail
            refine (HM _).mono ?_
            rintro e w1 ⟨rfl, hb1⟩
            replace BX := bl_step BX hb1
            clear hb1 HM a0 a1 a2 a3 a4 a5 a6 a7 c0 c1 c2 c3 c4 c5 c6 c7 c8 c9 c10 c11 c12 c13 c14
            go_wp2_with fail
            go_ret
            exact ⟨by rw [HE.out]; rfl, BX⟩
        · have hkm : k = L.mn := by omega
          have HV := hid1 (HP.out (nmE_ok HC.out (fun j hj => HA.out j (by omega))))
          have ik2 : ¬ (k : Int) < L.k := by omega
          obtain ⟨c0, c1, c2, c3, c4, c5, c6, c7, c8, c9, c10, c11, c12, c13, c14⟩ := KL.out
          go_upto_region 12 with fail
          clear c0 c1 c2 c3 c4 c5 c6 c7 c8 c9 c10 c11 c12 c13 c14 HA HQ HP
          obtain ⟨c0, c1, c2, c3, c4, c5, c6, c7, c8, c9, c10, c11, c12, c13, c14⟩ := KL.out
          obtain ⟨s0, s1, s2, s3, s4, s5⟩ := KI.out
          go_wp2_with fail
          refine (cF _).mono ?_
          rintro e y ⟨rfl, hb⟩
          replace KL := hid1 (KL.out.keep hb)
          replace KI := hid1 (KI.out.keep hb)
          replace BX := bl_step BX hb
          have HW := hid1 (HL.out.2.2.1.keep BX)
          have HB := hid1 BX
          clear hb cF BX c0 c1 c2 c3 c4 c5 c6 c7 c8 c9 c10 c11 c12 c13 c14 s0 s1 s2 s3 s4 s5
          obtain ⟨c0, c1, c2, c3, c4, c5, c6, c7, c8, c9, c10, c11, c12, c13, c14⟩ := KL.out
          obtain ⟨s0, s1, s2, s3, s4, s5⟩ := KI.out
          clear c0 c1 c2 c3 c4 c5 c6 c7 c8 c9 c10 c11 c12 c13 s1 s2 s3 s4 s5 KL KI
          by_cases hlo : 2147483647 - 128 * f < 0
          · go_wp2_with fail
            go_ret
            exact ⟨by rw [HV.out, H0.out (by omega)]; first | rfl | simp [*], HB.out⟩
          · have HZ := hid1 (H2.out (by omega))
            go_wp2_with fail
            go_loop [9] (fun i => ∃ k : Nat, k ≤ L.mb ∧ i = .int .i64 k ∧ Hid (∀ j, j < k → bok (2147483647 - 128 * f) (L.bs j))) (fun i => L.mb - (intOf i).toNat)
            case atStart => exact ⟨0, Nat.zero_le _, rfl, hid1 fun j hj => absurd hj (by omega)⟩
            case round =>
              clear hkm ik2 ik0 hk hlt
              obtain ⟨k, hk, rfl, HA⟩ := hrel
              have ik0 : (0 : Int) ≤ (k : Int) := by omega
              by_cases hlt : k < L.mb
              · exact absurd (Nat.lt_of_le_of_lt (Nat.zero_le k) hlt) e2
              · have : k = L.mb := by omega
                subst this
                go_wp2_with fail
                go_ret
                exact ⟨by rw [HV.out, HZ.out HA.out]; rfl, HB.out⟩

set_option maxHeartbeats 3200000 in
set_option maxRecDepth 100000 in
theorem rends_later (L : Ly) (S : Sp) (at' : Int) (hs : Sides S.h S.v S.c) (hf : Fok L) (hkd : L.kd = 1 ∨ L.kd = 2) (hat : (at' == 0) = false) (hfs : S.fs = false) (w : World) (hL : Lst w L) :
    Calls Tryz.prog 42 #[lyv L, inv at' S] w fun e w' => e = .returned (.int .i64 (rnE L S)) ∧ Below w.heap.size w w' := by
  have HL := hid1 hL
  have hm := hL.2.2.2.2.2
  have hmn := hL.2.2.2.2.1
  clear hL
  have hb := fan_b hs hf
  have cF := rfan_any L S.h S.v S.c hs hf hkd
  have hle : lef L S = 2147483647 - fan L S.h S.v S.c := by unfold lef; rw [hfs]; simp
  have H0 := hid1 (fun h => reE_low (L := L) (S := S) h)
  have H1 := hid1 (fun k (hk : k < L.mb) h => reE_no (L := L) (S := S) hk h)
  have H2 := hid1 (fun h h2 => reE_ok (L := L) (S := S) h h2)
  rw [hle] at H0 H1 H2
  have HFS := hid1 hfs
  clear hs hle hf hkd hfs
  generalize fan L S.h S.v S.c = f at *
  by_cases hl : S.la = true
  · have hcs : (¬ (L.mb : Int) = L.k) ∨ ((L.mb : Int) = L.k ∧ 0 < L.mn) ∨ ((L.mb : Int) = L.k ∧ L.mn = 0) := by omega
    rcases hcs with k1 | ⟨k1, k2⟩ | ⟨k1, k2⟩
    · have HV := hid1 (show rnE L S = 54 from by unfold rnE; rw [if_pos hl, if_neg (fun h => k1 h.1)])
      have e1 : ((L.mb : Int) != L.k) = true := by simpa using k1
      go_enter Tryz.func42, Tryz.ntmps42
      go_wp2_with fail
      go_ret
      exact ⟨by rw [HV.out]; rfl, by repeat (first | (with_reducible exact Below.refl _ _) | (with_reducible refine bl_alloc ?_ _) | (with_reducible refine Below.drew ?_) | (with_reducible refine bl_drewN ?_ _) | (with_reducible refine bl_set ?_ (by omega) _) | (with_reducible refine bl_step ?_ (by assumption)))⟩
    · have HV := hid1 (show rnE L S = 54 from by unfold rnE; rw [if_pos hl, if_neg (fun h => by have := h.2; omega)])
      have e1 : ((L.mb : Int) != L.k) = false := by simp [k1]
      clear k1
      go_enter Tryz.func42, Tryz.ntmps42
      go_wp2_with fail
      go_ret
      exact ⟨by rw [HV.out]; rfl, by repeat (first | (with_reducible exact Below.refl _ _) | (with_reducible refine bl_alloc ?_ _) | (with_reducible refine Below.drew ?_) | (with_reducible refine bl_drewN ?_ _) | (with_reducible refine bl_set ?_ (by omega) _) | (with_reducible refine bl_step ?_ (by assumption)))⟩
    · have HV := hid1 (show rnE L S = reE L S from by unfold rnE; rw [if_pos hl, if_pos ⟨k1, k2⟩])
      have e1 : ((L.mb : Int) != L.k) = false := by simp [k1]
      have HK2 := hid1 k2
      have e2 : ¬ 0 < L.mn := by omega
      clear k1 k2
      go_enter Tryz.func42, Tryz.ntmps42
      go_upto_region 12 with fail
      refine gen_world (fun X => Below w.heap.size w X ∧ Lp X w.heap.size L ∧ Iv X (w.heap.size + 1) at' S) ⟨by repeat (first | (with_reducible exact Below.refl _ _) | (with_reducible refine bl_alloc ?_ _) | (with_reducible refine Below.drew ?_) | (with_reducible refine bl_drewN ?_ _) | (with_reducible refine bl_set ?_ (by omega) _) | (with_reducible refine bl_step ?_ (by assumption))), (lp_new _ _ _).keep (bl_alloc (Below.refl _ _) _), by first | exact iv_new (by simp) at' S _ | (have := iv_new (W := w.alloc (lyo L)) (g := w.heap.size + 1) (by simp) at' S 87; rw [hl] at this; exact this)⟩ ?_
      rintro X ⟨BX, LX, IX⟩
      have KL := hid1 LX
      have KI := hid1 IX
      clear LX IX
      obtain ⟨c0, c1, c2, c3, c4, c5, c6, c7, c8, c9, c10, c11, c12, c13, c14⟩ := KL.out
      obtain ⟨s0, s1, s2, s3, s4, s5⟩ := KI.out
      go_wp2_with fail
      refine (cF _).mono ?_
      rintro e y ⟨rfl, hb⟩
      replace KL := hid1 (KL.out.keep hb)
      replace KI := hid1 (KI.out.keep hb)
      replace BX := bl_step BX hb
      have HW := hid1 (HL.out.2.2.1.keep BX)
      have HB := hid1 BX
      clear hb cF BX c0 c1 c2 c3 c4 c5 c6 c7 c8 c9 c10 c11 c12 c13 c14 s0 s1 s2 s3 s4 s5
      obtain ⟨c0, c1, c2, c3, c4, c5, c6, c7, c8, c9, c10, c11, c12, c13, c14⟩ := KL.out
      obtain ⟨s0, s1, s2, s3, s4, s5⟩ := KI.out
      clear c0 c1 c2 c3 c4 c5 c6 c7 c8 c9 c10 c11 c12 c13 s1 s2 s3 s4 s5 KL KI
      by_cases hlo : 2147483647 - f < 0
      · go_wp2_with fail
        go_ret
        exact ⟨by rw [HV.out, H0.out (by omega)]; first | rfl | simp [*], HB.out⟩
      · have HZ := hid1 (H2.out (by omega))
        go_wp2_with fail
        go_loop [9] (fun i => ∃ k : Nat, k ≤ L.mb ∧ i = .int .i64 k ∧ Hid (∀ j, j < k → bok (2147483647 - f) (L.bs j))) (fun i => L.mb - (intOf i).toNat)
        case atStart => exact ⟨0, Nat.zero_le _, rfl, hid1 fun j hj => absurd hj (by omega)⟩
        case round =>
          obtain ⟨k, hk, rfl, HA⟩ := hrel
          have ik0 : (0 : Int) ≤ (k : Int) := by omega
          by_cases hlt : k < L.mb
          · have ik : (k : Int) < (L.mb : Int) := by omega
            obtain ⟨g, o, ea, hc⟩ := HW.out k hlt
            have HN := hid1 (fun h => H1.out k hlt h)
            have HY := hid1 (fun (h : bok (2147483647 - f) (L.bs k)) => (show ∀ j, j < k + 1 → bok (2147483647 - f) (L.bs j) from fun j hj => by
              by_cases e : j = k
              · rw [e]; exact h
              · exact HA.out j (by omega)))
            generalize L.bs k = x at hc HN HY
            have hcs : 2147483647 - f < x ∨ (¬ 2147483647 - f < x ∧ x < -(2147483647 - f)) ∨ (¬ 2147483647 - f < x ∧ ¬ x < -(2147483647 - f)) := by omega
            rcases hcs with h1 | ⟨h1, h2⟩ | ⟨h1, h2⟩
            · go_wp2_with fail
              go_ret
              exact ⟨by rw [HV.out, HN.out (fun h => by have := h.2; omega)]; rfl, HB.out⟩
            · go_wp2_with fail
              go_ret
              exact ⟨by rw [HV.out, HN.out (fun h => by have := h.1; omega)]; rfl, HB.out⟩
            · go_wp2_with fail
              go_round
              case rel => exact ⟨k + 1, by omega, by go_num, hid1 (HY.out ⟨by omega, by omega⟩)⟩
              case measure => simp [intOf]; omega
          · have : k = L.mb := by omega
            subst this
            go_wp2_with fail
            go_ret
            exact ⟨by rw [HV.out, HZ.out HA.out]; rfl, HB.out⟩
  · have hl2 : S.la = false := by simpa using hl
    clear hl
    have hcs : (¬ (L.mn : Int) = L.k) ∨ ((L.mn : Int) = L.k ∧ 0 < L.mb) ∨ ((L.mn : Int) = L.k ∧ L.mb = 0) := by omega
    rcases hcs with k1 | ⟨k1, k2⟩ | ⟨k1, k2⟩
    · have HV := hid1 (show rnE L S = 53 from by unfold rnE; rw [if_neg (by rw [hl2]; decide), nmE_cnt (fun h => k1 h.1), if_neg (by decide)])
      have e1 : ((L.mn : Int) != L.k) = true := by simpa using k1
      clear k1
      go_enter Tryz.func42, Tryz.ntmps42
      go_wp2_with fail
      go_ret
      exact ⟨by rw [HV.out]; rfl, by repeat (first | (with_reducible exact Below.refl _ _) | (with_reducible refine bl_alloc ?_ _) | (with_reducible refine Below.drew ?_) | (with_reducible refine bl_drewN ?_ _) | (with_reducible refine bl_set ?_ (by omega) _) | (with_reducible refine bl_step ?_ (by assumption)))⟩
    · have HV := hid1 (show rnE L S = 53 from by unfold rnE; rw [if_neg (by rw [hl2]; decide), nmE_cnt (fun h => by have := h.2; omega), if_neg (by decide)])
      have e1 : ((L.mn : Int) != L.k) = false := by simp [k1]
      clear k1
      go_enter Tryz.func42, Tryz.ntmps42
      go_wp2_with fail
      go_ret
      exact ⟨by rw [HV.out]; rfl, by repeat (first | (with_reducible exact Below.refl _ _) | (with_reducible refine bl_alloc ?_ _) | (with_reducible refine Below.drew ?_) | (with_reducible refine bl_drewN ?_ _) | (with_reducible refine bl_set ?_ (by omega) _) | (with_reducible refine bl_step ?_ (by assumption)))⟩
    · have HQ := hid1 (show ¬ nmE L = 0 → rnE L S = 53 from fun h => by unfold rnE; rw [if_neg (by rw [hl2]; decide), if_neg h])
      have HP := hid1 (show nmE L = 0 → rnE L S = reE L S from fun h => by unfold rnE; rw [if_neg (by rw [hl2]; decide), if_pos h])
      have HC := hid1 (show (L.mn : Int) = L.k ∧ L.mb = 0 from ⟨k1, k2⟩)
      have e1 : ((L.mn : Int) != L.k) = false := by simp [k1]
      have e2 : ¬ 0 < L.mb := by omega
      have hkn : L.k ≤ (L.mn : Int) := by omega
      have hkn2 : (L.mn : Int) ≤ L.k := by omega
      clear k1 k2
      go_enter Tryz.func42, Tryz.ntmps42
      go_upto_region 7 with fail
      refine gen_world (fun X => Below w.heap.size w X ∧ Lp X w.heap.size L ∧ Iv X (w.heap.size + 1) at' S) ⟨by repeat (first | (with_reducible exact Below.refl _ _) | (with_reducible refine bl_alloc ?_ _) | (with_reducible refine Below.drew ?_) | (with_reducible refine bl_drewN ?_ _) | (with_reducible refine bl_set ?_ (by omega) _) | (with_reducible refine bl_step ?_ (by assumption))), (lp_new _ _ _).keep (bl_alloc (Below.refl _ _) _), by first | exact iv_new (by simp) at' S _ | (have := iv_new (W := w.alloc (lyo L)) (g := w.heap.size + 1) (by simp) at' S 87; rw [hl2] at this; exact this)⟩ ?_
      rintro X0 ⟨BX, LX, IX⟩
      go_loopw [5] (fun i wr => ∃ k : Nat, k ≤ L.mn ∧ i = .int .i64 k ∧ Hid (∀ j, j < k → nno L j = 0) ∧ Below w.heap.size w wr ∧ Hid (Lp wr w.heap.size L) ∧ Hid (Iv wr (w.heap.size + 1) at' S)) (fun i _ => L.mn - (intOf i).toNat)
      case atStart => exact ⟨0, Nat.zero_le _, rfl, hid1 fun j hj => absurd hj (by omega), BX, hid1 LX, hid1 IX⟩
      case round =>
        clear BX LX IX
        obtain ⟨k, hk, rfl, HA, BX, KL, KI⟩ := hrel
        have ik0 : (0 : Int) ≤ (k : Int) := by omega
        by_cases hlt : k < L.mn
        · have ik : (k : Int) < (L.mn : Int) := by omega
          have ik2 : (k : Int) < L.k := by omega
          obtain ⟨g, o, ea, a0, a1, a2, a3, a4, a5, a6, a7⟩ := (HL.out.2.1.keep BX) k hlt
          have HN := hid1 (fun h => nmE_no (L := L) hlt h)
          have HY := hid1 (fun (h : nno L k = 0) => (show ∀ j, j < k + 1 → nno L j = 0 from fun j hj => by
            by_cases e : j = k
            · rw [e]; exact h
            · exact HA.out j (by omega)))
          have HM := r4norm_any (L.ns k 0) (L.ns k 1) (L.ns k 2) (L.ns k 3) (L.ns k 4) (L.ns k 5) (L.ns k 6) (L.ns k 7)
          change ∀ w, Calls Tryz.prog 58 _ w fun e w' => e = .returned (.int .i64 (nno L k)) ∧ _ at HM
          generalize nno L k = x at HN HY HM
          obtain ⟨c0, c1, c2, c3, c4, c5, c6, c7, c8, c9, c10, c11, c12, c13, c14⟩ := KL.out
          by_cases hx : x = 0
          · have hx2 : (x != 0) = false := by simpa using hx
            have HX := hid1 hx
            clear hx
            go_wp2_with fail
            refine (HM _).mono ?_
            rintro e w1 ⟨rfl, hb1⟩
            replace KL := hid1 (KL.out.keep hb1)
            replace KI := hid1 (KI.out.keep hb1)
            replace BX := bl_step BX hb1
            clear hb1 HM a0 a1 a2 a3 a4 a5 a6 a7 c0 c1 c2 c3 c4 c5 c6 c7 c8 c9 c10 c11 c12 c13 c14
            go_wp2_with fail
            go_roundw
            case rel =>
              rw [ea]
              (repeat apply Exists.intro)
              exact ⟨⟨k + 1, by omega, by go_num, hid1 (HY.out HX.out), BX, KL, KI⟩, rfl⟩
            case measure => simp [intOf]; omega
          · have hx2 : (x != 0) = true := by simpa using hx
            have HE := hid1 (HQ.out (by rw [HN.out hx]; decide))
            clear hx
            go_wp2_with fail
            refine (HM _).mono ?_
            rintro e w1 ⟨rfl, hb1⟩
            replace BX := bl_step BX hb1
            clear hb1 HM a0 a1 a2 a3 a4 a5 a6 a7 c0 c1 c2 c3 c4 c5 c6 c7 c8 c9 c10 c11 c12 c13 c14
            go_wp2_with fail
            go_ret
            exact ⟨by rw [HE.out]; rfl, BX⟩
        · have hkm : k = L.mn := by omega
          have HV := hid1 (HP.out (nmE_ok HC.out (fun j hj => HA.out j (by omega))))
          have ik2 : ¬ (k : Int) < L.k := by omega
          obtain ⟨c0, c1, c2, c3, c4, c5, c6, c7, c8, c9, c10, c11, c12, c13, c14⟩ := KL.out
          go_upto_region 12 with fail
          clear c0 c1 c2 c3 c4 c5 c6 c7 c8 c9 c10 c11 c12 c13 c14 HA HQ HP
          obtain ⟨c0, c1, c2, c3, c4, c5, c6, c7, c8, c9, c10, c11, c12, c13, c14⟩ := KL.out
          obtain ⟨s0, s1, s2, s3, s4, s5⟩ := KI.out
          go_wp2_with fail
          refine (cF _).mono ?_
          rintro e y ⟨rfl, hb⟩
          replace KL := hid1 (KL.out.keep hb)
          replace KI := hid1 (KI.out.keep hb)
          replace BX := bl_step BX hb
          have HW := hid1 (HL.out.2.2.1.keep BX)
          have HB := hid1 BX
          clear hb cF BX c0 c1 c2 c3 c4 c5 c6 c7 c8 c9 c10 c11 c12 c13 c14 s0 s1 s2 s3 s4 s5
          obtain ⟨c0, c1, c2, c3, c4, c5, c6, c7, c8, c9, c10, c11, c12, c13, c14⟩ := KL.out
          obtain ⟨s0, s1, s2, s3, s4, s5⟩ := KI.out
          clear c0 c1 c2 c3 c4 c5 c6 c7 c8 c9 c10 c11 c12 c13 s1 s2 s3 s4 s5 KL KI
          by_cases hlo : 2147483647 - f < 0
          · go_wp2_with fail
            go_ret
            exact ⟨by rw [HV.out, H0.out (by omega)]; first | rfl | simp [*], HB.out⟩
          · have HZ := hid1 (H2.out (by omega))
            go_wp2_with fail
            go_loop [9] (fun i => ∃ k : Nat, k ≤ L.mb ∧ i = .int .i64 k ∧ Hid (∀ j, j < k → bok (2147483647 - f) (L.bs j))) (fun i => L.mb - (intOf i).toNat)
            case atStart => exact ⟨0, Nat.zero_le _, rfl, hid1 fun j hj => absurd hj (by omega)⟩
            case round =>
              clear hkm ik2 ik0 hk hlt
              obtain ⟨k, hk, rfl, HA⟩ := hrel
              have ik0 : (0 : Int) ≤ (k : Int) := by omega
              by_cases hlt : k < L.mb
              · exact absurd (Nat.lt_of_le_of_lt (Nat.zero_le k) hlt) e2
              · have : k = L.mb := by omega
                subst this
                go_wp2_with fail
                go_ret
                exact ⟨by rw [HV.out, HZ.out HA.out]; rfl, HB.out⟩

theorem rends_any (L : Ly) (S : Sp) (at' : Int) (hs : Sides S.h S.v S.c) (hf : Fok L) (hkd : L.kd = 1 ∨ L.kd = 2) (hat : S.fs = decide (at' = 0)) (w : World) (hL : Lst w L) :
    Calls Tryz.prog 42 #[lyv L, inv at' S] w fun e w' => e = .returned (.int .i64 (rnE L S)) ∧ Below w.heap.size w w' := by
  by_cases h : at' = 0
  · exact rends_first L S at' hs hf hkd (by simpa using h) (by rw [hat]; simpa using h) w hL
  · exact rends_later L S at' hs hf hkd (by simpa using h) (by rw [hat]; simpa using h) w hL
end Go.Proofs.YtlgjoepeibodkaaGreat.Nn
/- THE DOCUMENT'S NETWORKS: ONE LAYER. -/
namespace Go.Proofs.YtlgjoepeibodkaaGreat.Nn
open Go.RowKit

/-- What the document tells of a layer. -/
def rlE (L : Ly) (S : Sp) : Int := if rkE L S = 0 then (if roE L S.h S.v S.c = 0 then (if L.kd = 3 then 0 else if rwE L S = 0 then rnE L S else rwE L S) else roE L S.h S.v S.c) else rkE L S
theorem rb_conv {L : Ly} (hk : L.kd = 1) : rbE L = boE L := by
  unfold rbE boE
  by_cases hz : Wz L
  · by_cases hb : L.bd = 0
    · rw [if_neg (fun h => by rcases h with (⟨h, _⟩ | h | h) | ⟨_, h⟩ <;> omega), if_pos (.inr hb)]
    · rw [if_pos (.inr ⟨hz, hb⟩), if_neg (fun h => by rcases h with ⟨h, _⟩ | h; exact h hz; exact hb h)]
  · by_cases hb : L.bd < -1 ∨ 1 < L.bd
    · rw [if_pos (.inl (.inr hb)), if_neg (fun h => by rcases h with ⟨_, h⟩ | h <;> omega)]
    · rw [if_neg (fun h => by rcases h with (⟨h, _⟩ | h | h) | ⟨h, _⟩; omega; omega; omega; exact hz h)]
      by_cases h0 : L.bd = 0
      · rw [if_pos (.inr h0)]
      · rw [if_pos (.inl ⟨hz, by omega⟩)]
theorem rb_pool {L : Ly} (hk : L.kd = 3) (h0 : L.bd = 0) : rbE L = (if Wz L then 0 else 56) := by
  unfold rbE
  by_cases hz : Wz L
  · rw [if_pos hz, if_neg (fun h => by rcases h with (⟨_, h⟩ | h | h) | ⟨_, h⟩; exact h hz; omega; omega; exact h h0)]
  · rw [if_neg hz, if_pos (.inl (.inl ⟨hk, hz⟩))]
/-- Of ten answers the first that is not 0, part by part. -/
theorem frF_cons (n : Nat) (q : Nat → Int) : frF (n + 1) q = if q 0 = 0 then frF n (fun i => q (i + 1)) else q 0 := rfl
theorem frF_nil (q : Nat → Int) : frF 0 q = 0 := rfl
theorem ite0 {x y : Int} (h : x = 0) : (if x = 0 then y else x) = y := if_pos h
theorem ite1 {x y : Int} (h : ¬ x = 0) : (if x = 0 then y else x) = x := if_neg h
theorem two_of {c : Prop} [Decidable c] (x : Int) : (if c then 0 else x) = 0 ∨ (if c then 0 else x) = x := by by_cases h : c; exact .inl (if_pos h); exact .inr (if_neg h)
theorem chain_c (a b c d e f g h i : Int) (hc : c = 0 ∨ c = 56) (he : e = 0 ∨ e = 52) (hf : f = 0 ∨ f = 31) (hh : h = 0 ∨ h = 53) :
    (if a = 0 then (if (if b ≠ 0 then b else if c ≠ 0 then 56 else d) = 0 then (if (if e = 0 then (if f = 0 then g else 31) else 52) = 0 then (if h = 0 then i else 53) else (if e = 0 then (if f = 0 then g else 31) else 52)) else (if b ≠ 0 then b else if c ≠ 0 then 56 else d)) else a) =
    (if a = 0 then (if b = 0 then (if c = 0 then (if d = 0 then (if e = 0 then (if f = 0 then (if g = 0 then (if h = 0 then (if i = 0 then 0 else i) else h) else g) else f) else e) else d) else c) else b) else a) := by
  by_cases ha : a = 0
  · by_cases hb : b = 0
    · rcases hc with rfl | rfl
      · by_cases hd : d = 0
        · rcases he with rfl | rfl
          · rcases hf with rfl | rfl
            · by_cases hg : g = 0
              · rcases hh with rfl | rfl
                · by_cases hi : i = 0 <;> simp [ha, hb, hd, hg, hi]
                · simp [ha, hb, hd, hg]
              · simp [ha, hb, hd, hg]
            · simp [ha, hb, hd]
          · simp [ha, hb, hd]
        · simp [ha, hb, hd]
      · simp [ha, hb]
    · simp [ha, hb]
  · simp [ha]
theorem chain_d (a b e f g h i : Int) (ha : a = 0 ∨ a = 30) (he : e = 0 ∨ e = 52) (hf : f = 0 ∨ f = 31) :
    (if (if a = 0 then b else 30) = 0 then (if (if e = 0 then (if f = 0 then g else 31) else 52) = 0 then h else (if e = 0 then (if f = 0 then g else 31) else 52)) else (if a = 0 then b else 30)) =
    (if a = 0 then (if b = 0 then (if e = 0 then (if f = 0 then (if g = 0 then (if i = 0 then (if h = 0 then 0 else h) else h) else g) else f) else e) else b) else a) := by
  rcases ha with rfl | rfl
  · by_cases hb : b = 0
    · rcases he with rfl | rfl
      · rcases hf with rfl | rfl
        · by_cases hg : g = 0
          · by_cases hi : i = 0 <;> by_cases hh : h = 0 <;> simp [hb, hg, hi, hh]
          · simp [hb, hg]
        · simp [hb]
      · simp [hb]
    · simp [hb]
  · simp
theorem rl_conv {L : Ly} {S : Sp} (hk : L.kd = 1) : rlE L S = faE L S := by
  have hf : faE L S = frF 10 (qC L S) := by unfold faE; rw [if_pos hk]
  have e : frF 10 (qC L S) = (if (if S.la = true then (51 : Int) else 0) = 0 then (if ouE L = 0 then (if wiE L.r L.s L.sy L.sx L.t L.l L.b L.q = 0 then (if boE L = 0 then (if oE L S.h S.v S.c = 0 then (if wkE L = 0 then (if wrE L S = 0 then (if wsE L S = 0 then (if nmE L = 0 then (if reE L S = 0 then 0 else reE L S) else nmE L) else wsE L S) else wrE L S) else wkE L) else oE L S.h S.v S.c) else boE L) else wiE L.r L.s L.sy L.sx L.t L.l L.b L.q) else ouE L) else (if S.la = true then 51 else 0)) := rfl
  have hc : boE L = 0 ∨ boE L = 56 := by unfold boE; exact two_of 56
  have he : wkE L = 0 ∨ wkE L = 52 := by unfold wkE; exact two_of 52
  have hr : wrE L S = 0 ∨ wrE L S = 31 := by unfold wrE; exact two_of 31
  have hh : nmE L = 0 ∨ nmE L = 53 := by unfold nmE; exact two_of 53
  have key := chain_c (ouE L) (wiE L.r L.s L.sy L.sx L.t L.l L.b L.q) (boE L) (oE L S.h S.v S.c) (wkE L) (wrE L S) (wsE L S) (nmE L) (reE L S) hc he hr hh
  rw [hf, e]
  unfold rlE rkE roE rwE rnE
  rw [if_pos hk, rb_conv hk, if_neg (show ¬ L.kd = 2 by omega), if_neg (show ¬ L.kd = 3 by omega)]
  by_cases hl : S.la = true
  · simp [hl]
  · rw [if_neg hl, if_neg hl, if_neg hl, if_pos (rfl : (0 : Int) = 0)]
    exact key
theorem rl_dense {L : Ly} {S : Sp} (hk : L.kd = 2) : rlE L S = faE L S := by
  have hf : faE L S = frF 7 (qD L S) := by unfold faE; rw [if_neg (by omega), if_pos hk]
  have e : frF 7 (qD L S) = (if ouE L = 0 then (if nwE L = 0 then (if wkE L = 0 then (if wrE L S = 0 then (if wsE L S = 0 then (if enE L S = 0 then (if reE L S = 0 then 0 else reE L S) else enE L S) else wsE L S) else wrE L S) else wkE L) else nwE L) else ouE L) := rfl
  have ha : ouE L = 0 ∨ ouE L = 30 := by unfold ouE; exact two_of 30
  have he : wkE L = 0 ∨ wkE L = 52 := by unfold wkE; exact two_of 52
  have hr : wrE L S = 0 ∨ wrE L S = 31 := by unfold wrE; exact two_of 31
  have hn : nmE L = 0 ∨ nmE L = 53 := by unfold nmE; exact two_of 53
  rw [hf, e]
  unfold rlE rkE roE
  rw [if_neg (show ¬ L.kd = 1 by omega), if_pos hk, if_pos hk, if_pos rfl, if_neg (show ¬ L.kd = 3 by omega)]
  have hen : (if enE L S = 0 then (if reE L S = 0 then 0 else reE L S) else enE L S) = rnE L S := by
    unfold enE rnE
    by_cases hl : S.la = true
    · rw [if_pos hl, if_pos hl]
      by_cases h2 : (L.mb : Int) = L.k ∧ L.mn = 0
      · rw [if_pos h2, if_pos rfl]
        rw [if_pos h2]
        by_cases h3 : reE L S = 0
        · rw [if_pos h3, h3]
        · rw [if_neg h3]
      · rw [if_neg h2, if_neg (by decide), if_neg h2]
    · rw [if_neg hl, if_neg hl]
      rcases hn with h2 | h2
      · rw [if_pos h2, if_pos h2]
        by_cases h3 : reE L S = 0
        · rw [if_pos h3, h3]
        · rw [if_neg h3]
      · rw [h2, if_neg (by decide), if_neg (by decide)]
  rw [hen]
  unfold rwE
  generalize ouE L = a at *
  generalize nwE L = b at *
  generalize wkE L = c at *
  generalize wrE L S = d at *
  generalize wsE L S = g at *
  generalize rnE L S = h at *
  rcases ha with rfl | rfl
  · by_cases hb : b = 0
    · rcases he with rfl | rfl
      · rcases hr with rfl | rfl
        · by_cases hg : g = 0 <;> simp [hb, hg]
        · simp [hb]
      · simp [hb]
    · simp [hb]
  · simp
theorem rl_pool {L : Ly} {S : Sp} (hk : L.kd = 3) : rlE L S = faE L S := by
  have hf : faE L S = frF 6 (qP L S) := by unfold faE; rw [if_neg (by omega), if_neg (by omega), if_pos hk]
  have e : frF 6 (qP L S) = (if (if S.fs = true then (51 : Int) else 0) = 0 then (if (if S.la = true then (51 : Int) else 0) = 0 then (if owE L = 0 then (if wiE L.r L.s L.sy L.sx L.t L.l L.b L.q = 0 then (if (if Wz L then (0 : Int) else 56) = 0 then (if oE L S.h S.v S.c = 0 then 0 else oE L S.h S.v S.c) else (if Wz L then 0 else 56)) else wiE L.r L.s L.sy L.sx L.t L.l L.b L.q) else owE L) else (if S.la = true then 51 else 0)) else (if S.fs = true then 51 else 0)) := rfl
  rw [hf, e]
  unfold rlE rkE roE
  rw [if_neg (show ¬ L.kd = 1 by omega), if_neg (show ¬ L.kd = 2 by omega), if_pos hk, if_neg (show ¬ L.kd = 2 by omega), if_pos hk]
  by_cases h1 : S.fs = true
  · simp [h1]
  · by_cases h2 : S.la = true
    · simp [h1, h2]
    · rw [if_neg h1, if_neg h2, if_neg h1, if_neg h2, if_pos (rfl : (0 : Int) = 0), if_pos (rfl : (0 : Int) = 0)]
      by_cases h3 : owE L = 0
      · have hb : L.bd = 0 := by
          unfold owE at h3
          exact (zero_else (by decide) h3).1.2.2
        rw [rb_pool hk hb, h3]
        generalize wiE L.r L.s L.sy L.sx L.t L.l L.b L.q = x
        generalize oE L S.h S.v S.c = y
        by_cases hx : x = 0
        · by_cases hz : Wz L
          · by_cases hy : y = 0 <;> simp [hx, hz, hy]
          · simp [hx, hz]
        · simp [hx]
      · generalize owE L = x at *
        simp [h3]
theorem rl_any (L : Ly) (S : Sp) : rlE L S = faE L S := by
  by_cases h1 : L.kd = 1
  · exact rl_conv h1
  · by_cases h2 : L.kd = 2
    · exact rl_dense h2
    · by_cases h3 : L.kd = 3
      · exact rl_pool h3
      · unfold rlE rkE faE
        simp [h1, h2, h3]
end Go.Proofs.YtlgjoepeibodkaaGreat.Nn
