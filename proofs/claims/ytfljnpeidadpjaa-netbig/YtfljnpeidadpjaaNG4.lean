/- NETBIG: ITS NETWORKS IN MEMORY. -/
import Derived.Test.YtfljnpeidadpjaaNG2
namespace Go.Proofs.Ytfljnpeidadpjaa
open Go.RowKit

abbrev row2 (A B : Ly) : Array Value := #[.int .i64 A.kd, .int .i64 A.wt, .int .i64 A.k, .int .i64 A.r, .int .i64 A.s, .int .i64 A.sy, .int .i64 A.sx, .int .i64 A.t, .int .i64 A.l, .int .i64 A.b, .int .i64 A.q, .int .i64 A.bd, .slice A.aw A.mw A.cw, .slice A.an A.mn A.cn, .slice A.ab A.mb A.cb, .int .i64 B.kd, .int .i64 B.wt, .int .i64 B.k, .int .i64 B.r, .int .i64 B.s, .int .i64 B.sy, .int .i64 B.sx, .int .i64 B.t, .int .i64 B.l, .int .i64 B.b, .int .i64 B.q, .int .i64 B.bd, .slice B.aw B.mw B.cw, .slice B.an B.mn B.cn, .slice B.ab B.mb B.cb]
theorem bgW {W : World} {gl : Nat} {A B : Ly} (h : W.heap[gl]? = some (.cells (row2 A B) 31)) (hA : Lst W A) (hB : Lst W B) : NtW W (bgN gl A B) := by
  refine ⟨fun i hi => ⟨gl, 0, rfl, ?_⟩, (show (2 : Nat) ≤ 9223372036854775807 by decide), (show (3 : Nat) ≤ 9223372036854775807 by decide)⟩
  change i < 2 at hi
  rcases (show i = 0 ∨ i = 1 by omega) with rfl | rfl
  · exact ⟨⟨bcl h rfl, bcl h rfl, bcl h rfl, bcl h rfl, bcl h rfl, bcl h rfl, bcl h rfl, bcl h rfl, bcl h rfl, bcl h rfl, bcl h rfl, bcl h rfl, bcl h rfl, bcl h rfl, bcl h rfl⟩, hA⟩
  · exact ⟨⟨bcl h rfl, bcl h rfl, bcl h rfl, bcl h rfl, bcl h rfl, bcl h rfl, bcl h rfl, bcl h rfl, bcl h rfl, bcl h rfl, bcl h rfl, bcl h rfl, bcl h rfl, bcl h rfl, bcl h rfl⟩, hB⟩
theorem oneL_at {k j : Nat} (h : j < k * 8) : (oneL k)[j]? = some (.int .i64 1) := by
  unfold oneL
  rw [List.getElem?_replicate, if_pos h]
theorem bgA_lst {W : World} {ga gn cn base : Nat} (hw : W.rowIs ga 54 16773120 (fun _ => .int .i8 0)) (hn : W.ownsRow base 33 8 (.slice (some ⟨gn, 0, none⟩) 4095 cn) 4095 (oneL 4095)) : Lst W (bgA ga gn cn) := by
  refine ⟨fun j hj => ⟨ga, 0, rfl, ?_⟩, fun j hj => ⟨gn, 0, rfl, ?_⟩, fun j hj => absurd hj (Nat.not_lt_zero j), (show (16773120 : Nat) ≤ 9223372036854775807 by decide), (show (4095 : Nat) ≤ 9223372036854775807 by decide), (show (0 : Nat) ≤ 9223372036854775807 by decide)⟩
  · have hj' : j < 16773120 := hj
    have := hw.cell hj'
    rwa [Nat.zero_add]
  · have hj' : j < 4095 := hj
    have c : ∀ i, i < 8 → W.cell? ⟨gn, 0 + j * 8 + i, none⟩ = some (.int .i64 1) := fun i hi => by
      rw [Nat.zero_add, hn.cellAt _ (by omega), oneL_at (by omega)]
    exact ⟨c 0 (by decide), c 1 (by decide), c 2 (by decide), c 3 (by decide), c 4 (by decide), c 5 (by decide), c 6 (by decide), c 7 (by decide)⟩
theorem bgB_lst {W : World} {k : Int} {gw m gb n : Nat} (hm : m ≤ 100000) (hn : n ≤ 100000) (hw : W.rowIs gw 54 m (fun _ => .int .i8 0)) (hb : W.rowIs gb 2 n (fun _ => .int .i64 0)) : Lst W (bgB k gw m gb n) := by
  refine ⟨fun j hj => ⟨gw, 0, rfl, ?_⟩, fun j hj => absurd hj (Nat.not_lt_zero j), fun j hj => ⟨gb, 0, rfl, ?_⟩, (show m ≤ 9223372036854775807 by omega), (show (0 : Nat) ≤ 9223372036854775807 by decide), (show n ≤ 9223372036854775807 by omega)⟩
  · have hj' : j < m := hj
    rw [Nat.zero_add]
    exact hw.cell hj'
  · have hj' : j < n := hj
    rw [Nat.zero_add]
    exact hb.cell hj'
theorem own_some {w : World} {base n size cap : Nat} {e : TypeId} {ao : Option Addr} {xs : List Value} (h : w.ownsRow base e size (.slice ao n cap) n xs) (hn : 0 < n) : ∃ g, ao = some ⟨g, 0, none⟩ := by
  rcases h.2 with ⟨_, h0⟩ | ⟨g, cap', _, e, _⟩
  · omega
  · cases e; exact ⟨g, rfl⟩
theorem zero_row {W : World} {g : Nat} (hg : W.heap.size = g) (n : Nat) (c : Array Value) (t : TypeId) (hc : c.size = n) (h : ∀ i, i < n → c[i]? = some (.int .i64 0)) : (W.alloc (.cells c t)).rowIs g t n (fun _ => .int .i64 0) := by
  subst hg; subst hc
  exact World.rowIs_alloc W c t _ h
theorem laf_k {W : World} {g gw m gb n : Nat} {t : TypeId} {k k' : Int} (h : W.rowIs g t 15 (laf (bgB k gw m gb n))) : (W.setCell ⟨g, 2, none⟩ (.int .i64 k')).rowIs g t 15 (laf (bgB k' gw m gb n)) := by
  refine (h.set 2 _).congr fun i hi => ?_
  rcases (show i = 0 ∨ i = 1 ∨ i = 2 ∨ i = 3 ∨ i = 4 ∨ i = 5 ∨ i = 6 ∨ i = 7 ∨ i = 8 ∨ i = 9 ∨ i = 10 ∨ i = 11 ∨ i = 12 ∨ i = 13 ∨ i = 14 by omega) with rfl | rfl | rfl | rfl | rfl | rfl | rfl | rfl | rfl | rfl | rfl | rfl | rfl | rfl | rfl <;> rfl
theorem laf_w {W : World} {g gw gw' m m' gb n : Nat} {t : TypeId} {k : Int} (h : W.rowIs g t 15 (laf (bgB k gw m gb n))) : (W.setCell ⟨g, 12, none⟩ (.slice (some ⟨gw', 0, none⟩) m' m')).rowIs g t 15 (laf (bgB k gw' m' gb n)) := by
  refine (h.set 12 _).congr fun i hi => ?_
  rcases (show i = 0 ∨ i = 1 ∨ i = 2 ∨ i = 3 ∨ i = 4 ∨ i = 5 ∨ i = 6 ∨ i = 7 ∨ i = 8 ∨ i = 9 ∨ i = 10 ∨ i = 11 ∨ i = 12 ∨ i = 13 ∨ i = 14 by omega) with rfl | rfl | rfl | rfl | rfl | rfl | rfl | rfl | rfl | rfl | rfl | rfl | rfl | rfl | rfl <;> rfl
theorem laf_b {W : World} {g gw m gb gb' n n' : Nat} {t : TypeId} {k : Int} (h : W.rowIs g t 15 (laf (bgB k gw m gb n))) : (W.setCell ⟨g, 14, none⟩ (.slice (some ⟨gb', 0, none⟩) n' n')).rowIs g t 15 (laf (bgB k gw m gb' n')) := by
  refine (h.set 14 _).congr fun i hi => ?_
  rcases (show i = 0 ∨ i = 1 ∨ i = 2 ∨ i = 3 ∨ i = 4 ∨ i = 5 ∨ i = 6 ∨ i = 7 ∨ i = 8 ∨ i = 9 ∨ i = 10 ∨ i = 11 ∨ i = 12 ∨ i = 13 ∨ i = 14 by omega) with rfl | rfl | rfl | rfl | rfl | rfl | rfl | rfl | rfl | rfl | rfl | rfl | rfl | rfl | rfl <;> rfl
def nbf (N : Nt) : Nat → Value
  | 0 => .string N.nm | 1 => .int .i64 N.h | 2 => .int .i64 N.v | 3 => .int .i64 N.c | _ => .slice N.al N.ml N.cl
theorem nbf_new {W : World} {g : Nat} (hg : W.heap.size = g) (N : Nt) (t : TypeId) : (W.alloc (.cells #[.string N.nm, .int .i64 N.h, .int .i64 N.v, .int .i64 N.c, .slice N.al N.ml N.cl] t)).rowIs g t 5 (nbf N) := by
  subst hg
  refine World.rowIs_alloc W _ t (nbf N) fun i hi => ?_
  have h5 : i < 5 := hi
  rcases (show i = 0 ∨ i = 1 ∨ i = 2 ∨ i = 3 ∨ i = 4 by omega) with rfl | rfl | rfl | rfl | rfl <;> rfl
theorem nbf_nb {W : World} {g : Nat} {t : TypeId} {N : Nt} (h : W.rowIs g t 5 (nbf N)) : Nb W g N := ⟨h.cell (i := 0) (by decide), h.cell (i := 1) (by decide), h.cell (i := 2) (by decide), h.cell (i := 3) (by decide), h.cell (i := 4) (by decide)⟩
theorem nbf_set {W : World} {g gl gl' : Nat} {t : TypeId} {A B A' B' : Ly} (h : W.rowIs g t 5 (nbf (bgN gl A B))) : (W.setCell ⟨g, 4, none⟩ (.slice (some ⟨gl', 0, none⟩) 2 2)).rowIs g t 5 (nbf (bgN gl' A' B')) := by
  refine (h.set 4 _).congr fun i hi => ?_
  rcases (show i = 0 ∨ i = 1 ∨ i = 2 ∨ i = 3 ∨ i = 4 by omega) with rfl | rfl | rfl | rfl | rfl <;> rfl
end Go.Proofs.Ytfljnpeidadpjaa
