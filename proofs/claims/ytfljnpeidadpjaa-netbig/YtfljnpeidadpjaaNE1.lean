/- NETWORKS: THE CHAPTER'S EXAMPLE. -/
import Derived.Test.YtfljnpeidadpjaaNP5
namespace Go.Proofs.Ytfljnpeidadpjaa
open Go.RowKit

def exA (B : Nat) : Ly := ⟨1, 1, 1, 2, 2, 1, 1, 1, 1, 1, 1, 1, some ⟨B + 4, 0, none⟩, 4, 4, some ⟨B + 5, 0, none⟩, 1, 1, none, 0, 0, fun j => [1, -1, -1, 1].getD j 0, fun _ i => [1, 1, 0, 1, 0, 1, 1, 1].getD i 0, fun _ => 0⟩
def exP : Ly := ⟨3, 0, 0, 2, 2, 1, 1, 0, 0, 0, 0, 0, none, 0, 0, none, 0, 0, none, 0, 0, fun _ => 0, fun _ _ => 0, fun _ => 0⟩
def exD (B : Nat) (x : Int) : Ly := ⟨2, 2, 2, 0, 0, 0, 0, 0, 0, 0, 0, 0, some ⟨B + 8, 0, none⟩, 8, 8, none, 0, 0, some ⟨B + 9, 0, none⟩, 2, 2, fun j => [1, 0, -1, 1, 0, 0, 0, 1].getD j 0, fun _ _ => 0, fun j => [x, -4].getD j 0⟩
def exN (B : Nat) (x : Int) : Nt := ⟨⟨#[110]⟩, 2, 2, 1, some ⟨B + 11, 0, none⟩, 3, 3, fun i => match i with | 0 => exA B | 1 => exP | _ => exD B x⟩
abbrev lcs (L : Ly) : List Value := [.int .i64 L.kd, .int .i64 L.wt, .int .i64 L.k, .int .i64 L.r, .int .i64 L.s, .int .i64 L.sy, .int .i64 L.sx, .int .i64 L.t, .int .i64 L.l, .int .i64 L.b, .int .i64 L.q, .int .i64 L.bd, .slice L.aw L.mw L.cw, .slice L.an L.mn L.cn, .slice L.ab L.mb L.cb]
abbrev i8c (l : List Int) : Array Value := (l.map (Value.int .i8)).toArray
abbrev i64c (l : List Int) : Array Value := (l.map (Value.int .i64)).toArray
abbrev exRow (B : Nat) : Array Value := #[.int .i64 (exA B).kd, .int .i64 (exA B).wt, .int .i64 (exA B).k, .int .i64 (exA B).r, .int .i64 (exA B).s, .int .i64 (exA B).sy, .int .i64 (exA B).sx, .int .i64 (exA B).t, .int .i64 (exA B).l, .int .i64 (exA B).b, .int .i64 (exA B).q, .int .i64 (exA B).bd, .slice (exA B).aw (exA B).mw (exA B).cw, .slice (exA B).an (exA B).mn (exA B).cn, .slice (exA B).ab (exA B).mb (exA B).cb, .int .i64 exP.kd, .int .i64 exP.wt, .int .i64 exP.k, .int .i64 exP.r, .int .i64 exP.s, .int .i64 exP.sy, .int .i64 exP.sx, .int .i64 exP.t, .int .i64 exP.l, .int .i64 exP.b, .int .i64 exP.q, .int .i64 exP.bd, .slice exP.aw exP.mw exP.cw, .slice exP.an exP.mn exP.cn, .slice exP.ab exP.mb exP.cb, .int .i64 (exD B 3).kd, .int .i64 (exD B 3).wt, .int .i64 (exD B 3).k, .int .i64 (exD B 3).r, .int .i64 (exD B 3).s, .int .i64 (exD B 3).sy, .int .i64 (exD B 3).sx, .int .i64 (exD B 3).t, .int .i64 (exD B 3).l, .int .i64 (exD B 3).b, .int .i64 (exD B 3).q, .int .i64 (exD B 3).bd, .slice (exD B 3).aw (exD B 3).mw (exD B 3).cw, .slice (exD B 3).an (exD B 3).mn (exD B 3).cn, .slice (exD B 3).ab (exD B 3).mb (exD B 3).cb]
/-- The example's lists lie in memory. -/
def ExB (W : World) (B : Nat) (x : Int) : Prop := W.heap[B + 4]? = some (.cells (i8c [1, -1, -1, 1]) 54) ∧ W.heap[B + 5]? = some (.cells (i64c [1, 1, 0, 1, 0, 1, 1, 1]) 33) ∧ W.heap[B + 8]? = some (.cells (i8c [1, 0, -1, 1, 0, 0, 0, 1]) 54) ∧ W.heap[B + 9]? = some (.cells (i64c [x, -4]) 2) ∧ W.heap[B + 11]? = some (.cells (exRow B) 31)
theorem lt_block {W : World} {b : Nat} {o : Obj} (h : W.heap[b]? = some o) : b < W.heap.size := (Array.getElem?_eq_some_iff.1 h).1
theorem keepb {W w' : World} (hb : Below W.heap.size W w') {b : Nat} {o : Obj} (h : W.heap[b]? = some o) : w'.heap[b]? = some o := (hb.block b (lt_block h)).trans h
theorem ExB.keep {W w' : World} {B : Nat} {x : Int} (h : ExB W B x) (hb : Below W.heap.size W w') : ExB w' B x := ⟨keepb hb h.1, keepb hb h.2.1, keepb hb h.2.2.1, keepb hb h.2.2.2.1, keepb hb h.2.2.2.2⟩
theorem bcl {W : World} {b : Nat} {cs : Array Value} {t : TypeId} (h : W.heap[b]? = some (.cells cs t)) {j : Nat} {v : Value} (e : cs[j]? = some v) : W.cell? ⟨b, j, none⟩ = some v := (block_cell h j).trans e
theorem four' {p : Nat → Prop} {i n : Nat} (h : i < n) (hp : ∀ j : Fin n, p j.1) : p i := hp ⟨i, h⟩
theorem lst_nil {W : World} {L : Ly} (h1 : L.mw = 0) (h2 : L.mn = 0) (h3 : L.mb = 0) : Lst W L := ⟨fun j hj => by omega, fun j hj => by omega, fun j hj => by omega, by omega, by omega, by omega⟩
set_option maxRecDepth 10000 in
theorem exB_A {W : World} {B : Nat} {x : Int} (h : ExB W B x) : Lst W (exA B) := by
  refine ⟨fun j hj => ⟨B + 4, 0, rfl, ?_⟩, fun j hj => ⟨B + 5, 0, rfl, ?_⟩, fun j hj => absurd hj (Nat.not_lt_zero j), (show (4 : Nat) ≤ 9223372036854775807 by decide), (show (1 : Nat) ≤ 9223372036854775807 by decide), (show (0 : Nat) ≤ 9223372036854775807 by decide)⟩
  · change j < 4 at hj
    rcases (show j = 0 ∨ j = 1 ∨ j = 2 ∨ j = 3 by omega) with rfl | rfl | rfl | rfl <;> exact bcl h.1 rfl
  · change j < 1 at hj
    obtain rfl : j = 0 := by omega
    exact ⟨bcl h.2.1 rfl, bcl h.2.1 rfl, bcl h.2.1 rfl, bcl h.2.1 rfl, bcl h.2.1 rfl, bcl h.2.1 rfl, bcl h.2.1 rfl, bcl h.2.1 rfl⟩
set_option maxRecDepth 10000 in
theorem exB_D {W : World} {B : Nat} {x : Int} (h : ExB W B x) : Lst W (exD B x) := by
  refine ⟨fun j hj => ⟨B + 8, 0, rfl, ?_⟩, fun j hj => absurd hj (Nat.not_lt_zero j), fun j hj => ⟨B + 9, 0, rfl, ?_⟩, (show (8 : Nat) ≤ 9223372036854775807 by decide), (show (0 : Nat) ≤ 9223372036854775807 by decide), (show (2 : Nat) ≤ 9223372036854775807 by decide)⟩
  · change j < 8 at hj
    rcases (show j = 0 ∨ j = 1 ∨ j = 2 ∨ j = 3 ∨ j = 4 ∨ j = 5 ∨ j = 6 ∨ j = 7 by omega) with rfl | rfl | rfl | rfl | rfl | rfl | rfl | rfl <;> exact bcl h.2.2.1 rfl
  · change j < 2 at hj
    rcases (show j = 0 ∨ j = 1 by omega) with rfl | rfl <;> exact bcl h.2.2.2.1 rfl
set_option maxRecDepth 10000 in
theorem exW {W : World} {B : Nat} {x : Int} (h : ExB W B x) : NtW W (exN B x) := by
  refine ⟨fun i hi => ⟨B + 11, 0, rfl, ?_⟩, (show (3 : Nat) ≤ 9223372036854775807 by decide), (show (1 : Nat) ≤ 9223372036854775807 by decide)⟩
  change i < 3 at hi
  have hb := h.2.2.2.2
  rcases (show i = 0 ∨ i = 1 ∨ i = 2 by omega) with rfl | rfl | rfl
  · exact ⟨⟨bcl hb rfl, bcl hb rfl, bcl hb rfl, bcl hb rfl, bcl hb rfl, bcl hb rfl, bcl hb rfl, bcl hb rfl, bcl hb rfl, bcl hb rfl, bcl hb rfl, bcl hb rfl, bcl hb rfl, bcl hb rfl, bcl hb rfl⟩, exB_A h⟩
  · exact ⟨⟨bcl hb rfl, bcl hb rfl, bcl hb rfl, bcl hb rfl, bcl hb rfl, bcl hb rfl, bcl hb rfl, bcl hb rfl, bcl hb rfl, bcl hb rfl, bcl hb rfl, bcl hb rfl, bcl hb rfl, bcl hb rfl, bcl hb rfl⟩, lst_nil rfl rfl rfl⟩
  · exact ⟨⟨bcl hb rfl, bcl hb rfl, bcl hb rfl, bcl hb rfl, bcl hb rfl, bcl hb rfl, bcl hb rfl, bcl hb rfl, bcl hb rfl, bcl hb rfl, bcl hb rfl, bcl hb rfl, bcl hb rfl, bcl hb rfl, bcl hb rfl⟩, exB_D h⟩
set_option maxRecDepth 10000 in
theorem ex_ok (B : Nat) : chE (exN B 3) = 0 ∧ chA (exN B 3) = 0 := by
  have h0 : whE (exN B 3) = 0 := by kernel_rfl
  refine ch_ok h0 fun j hj => ?_
  change j < 3 at hj
  rcases (show j = 0 ∨ j = 1 ∨ j = 2 by omega) with rfl | rfl | rfl <;> kernel_rfl
set_option maxRecDepth 10000 in
theorem ex_no (B : Nat) : chE (exN B 2147483644) = 55 ∧ chA (exN B 2147483644) = 2 := by
  have h0 : whE (exN B 2147483644) = 0 := by kernel_rfl
  have h2 : fl (exN B 2147483644) 2 = 55 := by kernel_rfl
  have := ch_at h0 (k := 2) (show 2 < 3 by decide) (fun j hj => by rcases (show j = 0 ∨ j = 1 by omega) with rfl | rfl <;> kernel_rfl) (by rw [h2]; decide)
  rw [h2] at this
  exact this
end Go.Proofs.Ytfljnpeidadpjaa
