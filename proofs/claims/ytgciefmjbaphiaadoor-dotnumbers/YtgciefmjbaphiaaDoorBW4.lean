/- maskEnd. -/
import Derived.Test.YtgciefmjbaphiaaDoorBW3
import Derived.StillTailTactics
namespace Go.Proofs.YtgciefmjbaphiaaDoor
open Go.RowKit

/-- Nothing old has turned but the block g. -/
structure But (g : Nat) (w w' : World) : Prop where
  os : w'.os = w.os
  tape : w'.tape = w.tape
  output : w'.output = w.output
  size : w.heap.size ≤ w'.heap.size
  block : ∀ k, k < w.heap.size → k ≠ g → w'.heap[k]? = w.heap[k]?
theorem But.below {g B : Nat} {a w w' : World} (h : But g w w') (hg : B ≤ g) (hB : B ≤ w.heap.size) (h0 : Below B a w) : Below B a w' :=
  ⟨h.os.trans h0.os, h.tape.trans h0.tape, h.output.trans h0.output, Nat.le_trans h0.size h.size, fun k hk => (h.block k (by omega) (by omega)).trans (h0.block k hk)⟩
theorem But.row {g b t n : Nat} {f : Nat → Value} {w w' : World} (h : But g w w') (hb : b ≠ g) (hr : w.rowIs b t n f) : w'.rowIs b t n f := hr.of_block (h.block _ hr.lt hb)
theorem But.of_below {g : Nat} {w w' : World} (h : Below w.heap.size w w') : But g w w' := ⟨h.os, h.tape, h.output, h.size, fun k hk _ => h.block k hk⟩
theorem But.set {g o : Nat} {w w' : World} (h : But g w w') (v : Value) : But g w (w'.setCell ⟨g, o, none⟩ v) :=
  ⟨h.os, h.tape, h.output, by simpa using h.size, fun k hk hne => (Below.heap_setCell w' ⟨g, o, none⟩ v k hne).trans (h.block k hk hne)⟩
theorem But.drewN {g : Nat} {w w' : World} (h : But g w w') (n : Nat) : But g w (w'.drewN n) := by
  induction n with
  | zero => exact h
  | succ n ih => exact ⟨ih.os, ih.tape, ih.output, ih.size, ih.block⟩
theorem row_ne {w : World} {b b' t t' n n' : Nat} {f f' : Nat → Value} (h : w.rowIs b t n f) (h' : w.rowIs b' t' n' f') (ht : t ≠ t') : b ≠ b' := by
  rintro rfl
  obtain ⟨c, e, _⟩ := h
  obtain ⟨c', e', _⟩ := h'
  rw [e] at e'
  exact ht (by injection e' with e'; injection e')
theorem row_drewN {w : World} {b t n : Nat} {f : Nat → Value} (h : w.rowIs b t n f) (k : Nat) : (w.drewN k).rowIs b t n f := by
  induction k with
  | zero => exact h
  | succ k ih => exact ih
/-- The cells of a struct of a row. -/
def sf (n : Int) (ao : Option Addr) (m cap : Nat) : Nat → Value := fun k => if k = 0 then .int .i64 n else .slice ao m cap
theorem row_new (w : World) (n : Int) (ao : Option Addr) (m cap : Nat) (t : TypeId) : (w.alloc (.cells #[.int .i64 n, .slice ao m cap] t)).rowIs w.heap.size t 2 (sf n ao m cap) :=
  World.rowIs_alloc w _ t _ (fun i hi => by
    rcases i with _ | _ | i
    · rfl
    · rfl
    · simp at hi; omega)

theorem sf_len {w : World} {b : Nat} {n : Int} {ao : Option Addr} {m cap t : Nat} (h : w.rowIs b t 2 (sf n ao m cap)) : w.cell? ⟨b, 0, none⟩ = some (.int .i64 n) := h.cell (by omega)
theorem sf_ws {w : World} {b : Nat} {n : Int} {ao : Option Addr} {m cap t : Nat} (h : w.rowIs b t 2 (sf n ao m cap)) : w.cell? ⟨b, 1, none⟩ = some (.slice ao m cap) := h.cell (by omega)
theorem follows : Tryd.prog.follows .mixedOrders = true := by kernel_rfl
theorem still_tail {id : Nat} {Q : Exit → Act → World → Prop} {a : Act} {w : World} {l : List Oper} (n : Nat) (hB : Region.lexTailB .any l.toArray n = true)
    (h : wpStill Tryd.prog l.toArray w.drew (fun a' => wpList Tryd.prog l.toArray Q (l.drop n) a' w.drew) (l.take n) a) : (Code.region id l.toArray true).wp Tryd.prog Q a w := wp_region_still_tail n follows hB h
set_option maxHeartbeats 800000 in
set_option maxRecDepth 100000 in
theorem maskEnd_any (n M g cap : Nat) (w : World) (h1 : n ≤ 16777216) (hM : M < 2 ^ (64 * nw n)) (h : w.rowIs g 69 (nw n) (wf M)) :
    Calls Tryd.prog 44 #[rv n (some ⟨g, 0, none⟩) (nw n) cap] w fun e w' => e = .returned (.tuple #[]) ∧ w'.rowIs g 69 (nw n) (wf (M % 2 ^ n)) ∧ But g w w' := by
  by_cases h0 : n = 0
  · subst h0
    have e : M % 2 ^ 0 = M := by
      have : M < 1 := by simpa [nw] using hM
      omega
    rw [e]
    clear e
    have H := hid1 h
    clear h
    go_enter Tryd.func44, Tryd.ntmps44
    go_wp2
    refine bodyPost_end (v := .tuple #[]) (by simp [results, go_sem]) rfl ?_
    exact ⟨rfl, H.out.alloc _, But.of_below (bl_alloc (Below.refl _ _) _)⟩
  · obtain ⟨L, hL⟩ : ∃ L, nw n = L + 1 := ⟨nw n - 1, by unfold nw; omega⟩
    have hb := nw_bd h1
    have hlt : L < L + 1 := by omega
    have hn0 : 0 < n := by omega
    have HT := hid1 (tail_pos n hn0 (by omega))
    have hm := wd_mask hn0 M
    rw [show nw n - 1 = L by omega] at hm
    rw [hL] at h hM hb ⊢
    have c := h.cell hlt
    have f := h.frozen L
    have hg := h.lt
    unfold wf at c
    have HE := hid1 (and_u64 _ _ (wd_lt M L) (tl_lt n))
    rw [hm] at HE
    have HR := hid1 h
    have HL := hid1 hL
    clear hm h hM hL hlt
    have i0 : (0 : Int) ≤ (L : Int) := by omega
    have i1 : (L : Int) ≤ 262144 := by omega
    have i2 : (L : Int) < (L : Int) + 1 := by omega
    go_enter Tryd.func44, Tryd.ntmps44
    go_wp2
    refine gen_world (fun W' => Below w.heap.size w W' ∧ W'.cell? ⟨w.heap.size, 0, none⟩ = some (.int .i64 n) ∧ W'.cell? ⟨w.heap.size, 1, none⟩ = some (.slice (some ⟨g, 0, none⟩) (L + 1) cap)) ⟨bl_alloc (Below.refl _ _) _, new0 _ _ _ _, new1 _ _ _ _⟩ ?_
    rintro W ⟨B, c0, c1⟩
    replace f := keepf B hg f
    replace c := keepc B c
    have hw1 : IntKind.i64.wrap (L : Int) = L := by rw [IntKind.wrap_i64]; omega
    refine still_tail 13 (by kernel_rfl) ?_
    simp only [List.take_succ_cons, List.take_zero, List.drop_succ_cons, List.drop_zero]
    repeat still_step
    still_call (HT.out _)
    repeat still_step
    refine wpStill_nil ?_
    go_wp2
    refine bodyPost_end (v := .tuple #[]) (by simp [results, go_sem]) rfl ?_
    refine ⟨rfl, ((keepr B HR.out).set L _).congr fun k hk => ?_, ((But.of_below B).set _).drewN 1⟩
    by_cases e : k = L
    · subst e
      simp only [if_true, HE.out, wf]
    · rw [if_neg e]
      simp only [wf]
      rw [wd_mod M (by rw [HL.out]; omega)]
end Go.Proofs.YtgciefmjbaphiaaDoor
