/- CACHE: Keys. -/
import Derived.Test.YtpjcpikafpnmpaaAK16
namespace Go.Proofs.Ytpjcpikafpnmpaa
open Go.RowKit Go.MuLone Go.Shelf
attribute [local go_sem] Oper.semAt_some

/-- The i-th block of the row. -/
def bl (L : List Ce) (i : Nat) : Nat := (L.map (·.b)).getD i 0
theorem bl_lt {L : List Ce} {i : Nat} (h : i < L.length) : bl L i = L[i].b := by
  unfold bl
  rw [List.getD_eq_getElem?_getD, List.getElem?_eq_getElem (by simpa using h)]
  simp
theorem bl_inj {L : List Ce} (hn : (L.map (·.b)).Nodup) : ∀ i j, i < L.length → j < L.length → bl L i = bl L j → i = j := by
  intro i j hi hj e
  rw [bl_lt hi, bl_lt hj] at e
  have h1 : (L.map (·.b))[i]'(by simpa using hi) = (L.map (·.b))[j]'(by simpa using hj) := by simpa using e
  have hp := List.pairwise_iff_getElem.1 hn
  rcases Nat.lt_trichotomy i j with h | h | h
  · exact absurd h1 (hp i j (by simpa using hi) (by simpa using hj) h)
  · exact h
  · exact absurd h1.symm (hp j i (by simpa using hj) (by simpa using hi) h)
theorem hd_nx (L : List Ce) : hd L none = nx (bl L) L.length 0 := by
  cases L with
  | nil => rfl
  | cons x L => simp [hd, nx, bl]
theorem seg_nx {w : World} : ∀ {L : List Ce} {p : Option Nat}, Seg w p L none → ∀ i, (hi : i < L.length) → ∃ p', w.rowIs L[i].b 81 5 (ef L[i] p' (nx (bl L) L.length (i + 1)))
  | [], _, _, i, hi => by simp at hi
  | x :: L, p, h, 0, hi => by
    refine ⟨p, ?_⟩
    have e : hd L none = nx (bl (x :: L)) (x :: L).length 1 := by
      rw [hd_nx]
      unfold nx bl
      simp
    rw [← e]
    exact h.1
  | x :: L, p, h, i + 1, hi => by
    obtain ⟨p', r⟩ := seg_nx h.2 i (by simpa using hi)
    refine ⟨p', ?_⟩
    have e : nx (bl L) L.length (i + 1) = nx (bl (x :: L)) (x :: L).length (i + 1 + 1) := by
      unfold nx bl
      simp
    rw [← e]
    exact r
/-- Keys under way: i keys are there. -/
structure KJ (S : Nat → Prop) (w : World) (p : Nat) (rm : Int) (bm : Nat) (h m : Int) (L : List Ce) (bK rb i : Nat) (W : World) : Prop where
  ch : Ch W S p rm 1 bm h m L
  ks : ∃ ao cap ss, W.rowIs bK 38 1 (fun _ => .slice ao i cap) ∧ Kl W w.heap.size (.slice ao i cap) ((L.map (·.k)).take i) ss
  bp : BP S w W
  it : W.rowIs rb 96 1 (fun _ => .pointer (some ⟨p, 4, none⟩))
theorem KJ.it1 {S : Nat → Prop} {w : World} {p : Nat} {rm : Int} {bm : Nat} {h m : Int} {L : List Ce} {bK rb i : Nat} {W : World} (k : KJ S w p rm bm h m L bK rb i W) : It W rb p (bl L) L.length i := by
  refine ⟨k.it.cell (i := 0) (by omega), fun _ => ?_, fun hi => ?_⟩
  · have := k.ch.rw.box.cell (i := 4) (by omega)
    dsimp only [cf] at this
    rwa [hd_nx] at this
  · obtain ⟨p', r⟩ := seg_nx k.ch.rw.seg i hi
    rw [bl_lt hi]
    exact r.cell (i := 4) (by omega)
theorem row_cells {W : World} {b t n : Nat} {f : Nat → Value} (r : W.rowIs b t n f) : ∃ C t c, W.heap[b]? = some (.cells C t c) := by
  obtain ⟨c, e, _⟩ := r; exact ⟨_, _, _, e⟩
theorem Ch.cells {w w' : World} {S : Nat → Prop} {p : Nat} {rm mu : Int} {bm : Nat} {h m : Int} {L : List Ce} (c : Ch w S p rm mu bm h m L) (hk : ∀ b : Nat, (∃ C t c, w.heap[b]? = some (Obj.cells C t c)) → w'.heap[b]? = w.heap[b]?) (hm : w'.heap[bm]? = w.heap[bm]?) : Ch w' S p rm mu bm h m L := by
  refine ⟨c.rw.keep (hk _ (row_cells c.rw.box)) (fun x hx => hk _ ?_), c.mp.keep hm, fun x hx => (c.lg x hx).block fun g hg => hk g ?_, c.ks, c.kz, c.sp, c.sm, c.se, c.rom, c.cnt⟩
  · obtain ⟨_, _, e⟩ := c.rw.seg.at x hx
    exact row_cells e
  · rcases (c.lg x hx).form with ⟨e, _⟩ | ⟨g', cap, f, e, _, row, _⟩
    · rw [e] at hg; cases hg
    · rw [e] at hg; injection hg with hg; subst hg
      exact row_cells row
theorem KJ.put {S : Nat → Prop} {w : World} {p : Nat} {rm : Int} {bm : Nat} {h m : Int} {L : List Ce} {bK rb i : Nat} {W W' : World} (k : KJ S w p rm bm h m L bK rb i W) (hk : ∀ b : Nat, (∃ C t c, W.heap[b]? = some (Obj.cells C t c)) → W'.heap[b]? = W.heap[b]?) (hm : W'.heap[bm]? = W.heap[bm]?) (hb : BP S w W') : KJ S w p rm bm h m L bK rb i W' := by
  obtain ⟨ao, cap, ss, r, l⟩ := k.ks
  exact ⟨k.ch.cells hk hm, ⟨ao, cap, ss, r.of_block (hk _ (row_cells r)), l.block fun b _ _ ⟨C, c, t, e, _⟩ => hk b ⟨C, t, c, e⟩⟩, hb, k.it.of_block (hk _ (row_cells k.it))⟩
theorem put_cells {W : World} {l : Nat} {o o' : Obj} (ho : W.heap[l]? = some o) (hc : o.isCells = false) : ∀ b : Nat, (∃ C t c, W.heap[b]? = some (Obj.cells C t c)) → (W.putObj l o').heap[b]? = W.heap[b]? := fun b ⟨C, t, c, e⟩ => World.putObj_heap_other (fun e' => by subst e'; rw [e] at ho; cases ho; cases hc)
theorem new_cell (w : World) (x : Value) (t : TypeId) : (w.alloc (.cells #[x] t)).cell? ⟨w.heap.size, 0, none⟩ = some x := (World.rowIs_alloc w #[x] t (fun _ => x) (fun i hi => by simp at hi; subst hi; rfl)).cell (i := 0) (by simp)
theorem old_cell {w : World} {b o : Nat} {v : Value} (h : w.cell? ⟨b, o, none⟩ = some v) (ob : Obj) : (w.alloc ob).cell? ⟨b, o, none⟩ = some v := keepc (bl_alloc (Below.refl _ _) _) h
theorem set_other {w : World} {a : Addr} {v : Value} {b : Nat} (h : b ≠ a.block) : (w.setCell a v).heap[b]? = w.heap[b]? := Below.heap_setCell _ _ _ _ h
/-- A round of Keys: a key more. -/
theorem KJ.step {S : Nat → Prop} {w : World} {p : Nat} {rm : Int} {bm : Nat} {h m : Int} {L : List Ce} {bK rb i : Nat} {W A w3 : World} (k : KJ S w p rm bm h m L bK rb i W) (hS : ∀ k, S k → k < w.heap.size) (hi : i < L.length) {ao : Option Addr} {cap : Nat} {ss : List Value}
    (r : W.rowIs bK 38 1 (fun _ => .slice ao i cap)) (kl : Kl W w.heap.size (.slice ao i cap) ((L.map (·.k)).take i) ss) (hA : Below W.heap.size W A) {ob : Obj} {y v' : Value} (hk3 : Kl w3 w.heap.size v' ((L.map (·.k)).take i ++ [L[i].k]) (ss ++ [y])) (hg : (A.alloc ob).grownBy w3 (Value.slice ao i cap).ownBlock) (hz : w.heap.size ≤ bK) (B : Nat) :
    (∃ ao' cap', v' = .slice ao' (i + 1) cap') ∧ (∀ {b t n : Nat} {f : Nat → Value}, W.rowIs b t n f → t ≠ 28 → w3.rowIs b t n f) ∧ KeepsFrom B W (w3.setCell ⟨bK, 0, none⟩ v') ∧ KJ S w p rm bm h m L bK rb (i + 1) (w3.setCell ⟨bK, 0, none⟩ v') := by
  have hlen : ((L.map (·.k)).take i ++ [L[i].k]).length = i + 1 := by simp; omega
  have hform : ∃ ao' cap', v' = .slice ao' (i + 1) cap' := by
    rcases hk3.out.2 with ⟨_, h0⟩ | ⟨g, cap, cur, rfl, _⟩
    · rw [hlen] at h0; omega
    · rw [hlen]; exact ⟨_, _, rfl⟩
  have hAB : Below W.heap.size W (A.alloc ob) := bl_alloc hA _
  have hown := own_u8 kl.out
  have hblk : ∀ b, b < W.heap.size → (∀ C, W.heap[b]? ≠ some (.cells C 28 (0, 0))) → w3.heap[b]? = W.heap[b]? := fun b hb hn => by
    rw [hg.block b (Nat.lt_of_lt_of_le hb hAB.size) ?_]
    · exact hAB.block b hb
    · intro e
      obtain ⟨_, _, C, e2⟩ := hown b e.symm
      exact hn C e2
  have hrow : ∀ {b t n : Nat} {f : Nat → Value}, W.rowIs b t n f → t ≠ 28 → w3.rowIs b t n f := fun {b t n f} rr ht => rr.of_block (hblk b rr.lt fun C e => by
    obtain ⟨c, e', _⟩ := rr
    rw [e'] at e
    injection e with e
    injection e with _ e _
    exact ht e)
  have r3 := hrow r (by decide)
  have i3 := hrow k.it (by decide)
  have hgv : ∀ b, (Value.slice ao i cap).ownBlock = some b → w.heap.size ≤ b := fun b e => (hown b e).1
  have hsz : W.heap.size ≤ w3.heap.size := Nat.le_trans hAB.size hg.size
  have c3 : Ch w3 S p rm 1 bm h m L := k.ch.keep fun b hb hlt => by
    rw [hg.block b (Nat.lt_of_lt_of_le hlt hAB.size) (fun e => by have := hgv b e.symm; have := hS b hb; omega)]
    exact hAB.block b hlt
  have b3 : BP S w w3 := (k.bp.step hAB).trans (BP.grown hg) (fun x hx e => by have := hgv x e.symm; omega)
  refine ⟨hform, hrow, ⟨by simpa using hsz, fun b o _ hb ho => ?_⟩, ⟨c3.other r3 (by decide) 0 v', ?_, b3.set (.inr hz) _, i3.setOther (a := ⟨bK, 0, none⟩) (row_ne i3 r3 (by decide)) _⟩⟩
  · have hne : b ≠ bK := by
      rintro rfl
      obtain ⟨c, e, _⟩ := r
      rw [e] at hb
      cases hb
      cases ho
    rw [set_other (show b ≠ bK from hne), hblk b (Array.getElem?_eq_some_iff.1 hb).1 (fun C e => by rw [hb] at e; cases e; cases ho)]
    exact hb
  · obtain ⟨ao', cap', rfl⟩ := hform
    refine ⟨ao', cap', ss ++ [y], (r3.set 0 _).congr fun j hj => by simp [show j = 0 by omega], ?_⟩
    have e1 : (L.map (·.k)).take (i + 1) = (L.map (·.k)).take i ++ [L[i].k] := by
      rw [List.take_add_one, List.getElem?_eq_getElem (show i < (L.map (·.k)).length by simpa using hi)]
      simp
    rw [e1]
    refine hk3.block fun b _ _ ⟨C, c, t, e, ht⟩ => set_other (show b ≠ bK from ?_)
    rintro rfl
    obtain ⟨c', e2, _⟩ := r3
    rw [e2] at e
    injection e with e
    injection e with _ e _
    subst e
    rcases ht with h | h <;> exact absurd h (by decide)
end Go.Proofs.Ytpjcpikafpnmpaa
