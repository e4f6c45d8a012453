/- bound.Net of every network. -/
import Derived.Test.YtkodihmjjiadnaaNO4
namespace Go.Proofs.Ytkodihmjjiadnaa.Nn
open Go.RowKit

/-- Where the layer i of the network stands, and its fan. -/
def fanN (N : Nt) (i : Nat) : Nat := (fan (N.lf i) (sp N i).h (sp N i).v (sp N i).c).toNat
def cN (N : Nt) (i : Nat) : Nat := (sp N i).c.toNat
/-- The list of lists, k of them there. -/
def lsf (N : Nt) (gs : Nat → Nat) (k i : Nat) : Value := if i < k then .slice (some ⟨gs i, 0, none⟩) (cN N (i + 1)) (cN N (i + 1)) else .slice none 0 0
/-- The lists of reaches, k of them there, above the block G; each in a block of its own. -/
def Yl (W : World) (N : Nt) (G : Nat) (gs : Nat → Nat) (k : Nat) : Prop := (∀ i, i < k → G < gs i ∧ (∀ j, j < i → gs j < gs i) ∧ Rc W (gs i) (cN N (i + 1)) (yLo (N.lf i) (fanN N i) i) (yHi (N.lf i) (fanN N i) i) (cN N (i + 1))) ∧ W.rowIs G 59 N.ml (lsf N gs k)
theorem und_rch2 : Try.prog.underlying 51 = some (.slice 59) := by kernel_rfl
theorem info_rch2 : (Try.prog.info? 59).map (fun i => (i.zero, i.size, i.bytes)) = some (some (.slice none 0 0), 1, 24) := by kernel_rfl
theorem make_rch2 (n : Nat) (hn : n ≤ 1000000) (w : World) : (Instr.makeSlice 51 (.int .i64 (n : Int)) (.int .i64 (n : Int))).run Try.prog w = .ok (.slice (some ⟨w.heap.size, 0, none⟩) n n) (w.alloc (.cells (madeCells #[.slice none 0 0] (n * 1)) 59)) := by
  obtain ⟨i, hi, hz0, hz1, hz2⟩ := info_parts info_rch2
  have := run_make w 51 59 i _ und_rch2 hi hz0 .i64 .i64 (n : Int) (n : Int) (by omega) (by omega) (by rw [hz2]; omega) (by omega)
  rw [Int.toNat_natCast, hz1] at this
  exact this
theorem Yl.new {w : World} (N : Nt) : Yl (w.alloc (.cells (madeCells #[.slice none 0 0] (N.ml * 1)) 59)) N w.heap.size (fun _ => 0) 0 := by
  refine ⟨fun i hi => absurd hi (by omega), ?_⟩
  have := World.rowIs_made w (.slice none 0 0) (N.ml * 1) 59
  rw [Nat.mul_one] at this ⊢
  exact this.congr fun i _ => by unfold lsf; rw [if_neg (by omega)]
theorem Yl.keep {W w' : World} {N : Nt} {G k : Nat} {gs : Nat → Nat} (h : Yl W N G gs k) (hb : Below W.heap.size W w') : Yl w' N G gs k :=
  ⟨fun i hi => ⟨(h.1 i hi).1, (h.1 i hi).2.1, Rc.keep (h.1 i hi).2.2 hb⟩, World.rowIs.of_block h.2 (hb.block _ h.2.lt)⟩
theorem Yl.lt {W : World} {N : Nt} {G k : Nat} {gs : Nat → Nat} (h : Yl W N G gs k) : ∀ i, i < k → gs i < W.heap.size := fun i hi => World.rowIs.lt (h.1 i hi).2.2
/-- One more list. -/
theorem Yl.put {W : World} {N : Nt} {G k g : Nat} {gs : Nat → Nat} (h : Yl W N G gs k) (hg : G < g) (hl : ∀ i, i < k → gs i < g) (r : Rc W g (cN N (k + 1)) (yLo (N.lf k) (fanN N k) k) (yHi (N.lf k) (fanN N k) k) (cN N (k + 1))) :
    Yl (W.setCell ⟨G, k, none⟩ (.slice (some ⟨g, 0, none⟩) (cN N (k + 1)) (cN N (k + 1)))) N G (fun i => if i = k then g else gs i) (k + 1) := by
  constructor
  · intro i hi
    by_cases e : i = k
    · subst e
      dsimp only
      rw [if_pos rfl]
      exact ⟨hg, fun j hj => by rw [if_neg (by omega)]; exact hl j hj, World.rowIs.setOther r (by show g ≠ G; omega) _⟩
    · dsimp only
      rw [if_neg e]
      obtain ⟨a, b, c⟩ := h.1 i (by omega)
      exact ⟨a, fun j hj => by rw [if_neg (by omega)]; exact b j hj, World.rowIs.setOther c (by show gs i ≠ G; omega) _⟩
  · have h1 : World.rowIs _ G _ N.ml _ := World.rowIs.set h.2 k (.slice (some ⟨g, 0, none⟩) (cN N (k + 1)) (cN N (k + 1)))
    refine h1.congr fun i hi => ?_
    unfold lsf
    by_cases e : i = k
    · subst e; rw [if_pos rfl, if_pos (Nat.lt_succ_self i)]; dsimp only; rw [if_pos rfl]
    · rw [if_neg e]
      by_cases e2 : i < k
      · rw [if_pos e2, if_pos (by omega)]; dsimp only; rw [if_neg e]
      · rw [if_neg e2, if_neg (by omega)]
theorem Yl.of {W X : World} {N : Nt} {G k b : Nat} {gs : Nat → Nat} (h : Yl W N G gs k) (he : ∀ i, i ≠ b → X.heap[i]? = W.heap[i]?) (hG : G ≠ b) (hn : ∀ i, i < k → gs i ≠ b) : Yl X N G gs k :=
  ⟨fun i hi => ⟨(h.1 i hi).1, (h.1 i hi).2.1, World.rowIs.of_block (h.1 i hi).2.2 (he _ (hn i hi))⟩, World.rowIs.of_block h.2 (he _ hG)⟩
/-- The work of a layer of a network that may be. -/
theorem wk_any (N : Nt) {i : Nat} (hs : SpOk (sp N i)) (h0 : fl N i = 0) (hc : (N.lf i).mw ≤ (N.lf i).cw) : (((N.lf i).kd = 1 ∨ (N.lf i).kd = 2 ∨ (N.lf i).kd = 3) ∧ (sp N (i + 1)).c = cN N (i + 1) ∧ cN N (i + 1) ≤ 4096) ∧ ∀ W, Lst W (N.lf i) → Calls Try.prog (wkF (N.lf i).kd) #[lyv (N.lf i), trio (inL i) (inH i) (cN N i)] W fun e w' => ∃ g, e = .returned (.slice (some ⟨g, 0, none⟩) (cN N (i + 1)) (cN N (i + 1))) ∧ W.heap.size ≤ g ∧ Rc w' g (cN N (i + 1)) (yLo (N.lf i) (fanN N i) i) (yHi (N.lf i) (fanN N i) i) (cN N (i + 1)) ∧ Below W.heap.size W w' := by
  have hL : -128 ≤ inL i ∧ inL i ≤ 127 := by unfold inL; split <;> decide
  have hH : -128 ≤ inH i ∧ inH i ≤ 127 := by unfold inH; split <;> decide
  have hst := sp_step hs h0
  have hc' : (sp N (i + 1)).c = oC (N.lf i) (sp N i).h (sp N i).v (sp N i).c := rfl
  have h4 : (sp N (i + 1)).c = cN N (i + 1) := by unfold cN; rw [hc']; have := hst.1.2.2; omega
  by_cases h3 : (N.lf i).kd = 3
  · have e1 := lay_p h0 h3
    have e2 : cN N (i + 1) = cN N i := by unfold cN; rw [hc', e1]
    refine ⟨⟨.inr (.inr h3), h4, by have := hst.1.2.2; rw [← hc', h4] at this; omega⟩, fun W hW => ?_⟩
    have := hs.1.2.2
    rw [e2]
    unfold wkF
    rw [if_pos h3]
    refine (bpool_any (N.lf i) (inL i) (inH i) (cN N i) (by unfold cN; omega) W).mono ?_
    rintro e w' ⟨g, rfl, hg, hr, hb⟩
    exact ⟨g, rfl, hg, Rc.congr hr (fun j _ => by unfold yLo; rw [if_pos h3]) (fun j _ => by unfold yHi; rw [if_pos h3]), hb⟩
  · obtain ⟨hk, e1, K, F, eK, eF, k1, k2, hw, f1, hm, hmb, hbs⟩ := lay_w hs h0 h3
    have e2 : cN N (i + 1) = K := by unfold cN; rw [hc', e1, eK]; rfl
    have e3 : fanN N i = F := by unfold fanN; rw [eF]; rfl
    refine ⟨⟨by rcases hk with h | h; exact .inl h; exact .inr (.inl h), h4, by omega⟩, fun W hW => ?_⟩
    rw [e2, e3]
    unfold wkF
    rw [if_neg h3]
    refine (bweigh_any (N.lf i) (inL i) (inH i) (cN N i) K F eK k1 k2 hw f1 hm hc hL hH hmb hbs W hW).mono ?_
    rintro e w' ⟨g, rfl, hg, hr, hb⟩
    exact ⟨g, rfl, hg, Rc.congr hr (fun j _ => by unfold yLo; rw [if_neg h3]) (fun j _ => by unfold yHi; rw [if_neg h3]), hb⟩
set_option maxRecDepth 100000 in
theorem wkF_call (kd : Int) (args : Array Value) (w : World) : (callFunc (wkF kd) args).run Try.prog w = .ok (.enter (wkF kd) args) w := by
  unfold wkF
  by_cases h : kd = 3
  · rw [if_pos h]; rfl
  · rw [if_neg h]; rfl
end Go.Proofs.Ytkodihmjjiadnaa.Nn
