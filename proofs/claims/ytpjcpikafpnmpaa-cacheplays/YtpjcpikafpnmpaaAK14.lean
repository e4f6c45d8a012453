/- CACHE: a range over a function whose body turns what the iterator reads. -/
import Derived.Test.YtpjcpikafpnmpaaAK13
import Derived.RangeFuncCalls
import Derived.RangeFuncLeaves
import Derived.RangeFuncWrites
import Derived.OrdersIn
import Derived.Shelf.RegionOpen
import Derived.OwnWalkIn
import Derived.TacticsInMore
import Derived.LoopNIn
import Derived.LoopIn
namespace Go.Proofs.Ytpjcpikafpnmpaa
open Go.RowKit

/-- How a round's body is left: off its end. -/
def roundEnd (B : Nat) (J : World → Prop) (W : World) : Exit → Act → World → Prop
  | .normal, _, W' => KeepsFrom B W W' ∧ J W'
  | _, _, _ => False
/-- 'for x := range g { body }', N rounds, the body never leaving: what the iterator reads between two rounds is what J says. -/
theorem range_rounds {g : Operand} {ps : Array Tmp} {assign body : Code} {Q : Exit → Act → World → Prop} {a : Act} {w : World} {gf n : Nat} {lb : Array Value} (hg : a.eval g = .func (.func gf) #[] lb)
    (eg : ∀ args w, (callFunc gf args).run Try.prog w = .ok (.enter gf args) w) (N : Nat) (xs : Nat → Array Value) (hps : ∀ i, (xs i).size = ps.size) (J : Nat → World → Prop)
    (hJ : ∀ i (W : World) (l : Nat) (o o' : Obj), w.heap.size ≤ l → W.heap[l]? = some o → o.isCells = false → J i W → J i (W.putObj l o')) (hJa : ∀ o o', J 0 ((w.alloc o).alloc o'))
    (hcall : ∀ (l : Nat) (K : Nat → World → Prop) (W : World), (∀ i W, K i W → J i W) → K 0 W → (∀ i W, i < N → K i W → YieldAt Fence.wide (n - 1 - 1) Try.prog l (xs i) W fun e W' => e = .returned (.bool true) ∧ K (i + 1) W') →
      CallsIn Fence.wide (n - 1) Try.prog gf (#[.func (.yield l) #[] #[]] ++ lb) W fun e W' => (∃ v, e = .returned v) ∧ K N W')
    (a₁ : Nat → Act)
    (hassign : ∀ (l i : Nat) (W : World) (K : Act → World → Prop), K (a₁ i) W → assign.wpIn (Fence.wide.inRound l) (n - 1 - 1) Try.prog (Exit.then K (fun _ _ _ => False)) { tmps := (ps.zip (xs i)).foldl (fun t (p, v) => t.setIfInBounds p v) a.tmps, defers := [] } W)
    (hbody : ∀ (l i : Nat) (W : World), i < N → J i W → body.wpIn (Fence.wide.inRound l) (n - 1 - 1) Try.prog (roundEnd w.heap.size (J (i + 1)) W) (a₁ i) W)
    (hdone : ∀ (D : Nat) (W : World), w.heap.size ≤ D → J N W → W.heap[D]? = some (.deferred (some [])) → Q .normal { a with defers := { target := .collected D, args := #[] } :: a.defers } W) :
    (Code.rangeFunc g ps assign body).wpIn Fence.wide n Try.prog Q a w := by
  refine wpIn_rangeFunc fun fn _ => ?_
  obtain ⟨rec, hrec⟩ : ∃ rec : LoopState → Option Code → Loop, rec = fun st pe => { state := st, pending := pe, fn, tmps := a.tmps, params := ps, assign, body, defers := w.heap.size } := ⟨_, rfl⟩
  have hstart : ((w.alloc (.deferred (some []))).alloc (.loop (rec .ready none))).heap[w.heap.size + 1]? = some (.loop (rec .ready none)) ∧ ((w.alloc (.deferred (some []))).alloc (.loop (rec .ready none))).heap[w.heap.size]? = some (.deferred (some [])) :=
    ⟨by have := World.alloc_heap_new (w.alloc (.deferred (some []))) (.loop (rec .ready none)); rwa [World.size_alloc] at this, (Below.heap_alloc _ _ _ (by simp)).trans (World.alloc_heap_new w _)⟩
  refine ⟨w.heap.size + 1, [{ target := .collected w.heap.size, args := #[] }], (w.alloc (.deferred (some []))).alloc (.loop (rec .ready none)), { target := .fn (.func gf) lb, args := #[.func (.yield (w.heap.size + 1)) #[] #[]] }, (w.alloc (.deferred (some []))).alloc (.loop (rec .ready none)), gf,
    #[.func (.yield (w.heap.size + 1)) #[] #[]] ++ lb, (w.alloc (.deferred (some []))).alloc (.loop (rec .ready none)), by rw [hrec]; exact run_enterLoop_outer _ _ _ _ _, by simp only [resolve, hg]; simp [go_sem], fun _ _ => trivial, by simp [invoke, go_sem, eg], fun h => (by cases h), ?_⟩
  have h0 := hJa (.deferred (some [])) (.loop (rec .ready none))
  generalize (w.alloc (.deferred (some []))).alloc (.loop (rec .ready none)) = W1 at hstart h0
  have hlp : ∀ {W : World}, W.heap[w.heap.size + 1]? = some (.loop (rec .ready none)) → w.heap.size + 1 < W.heap.size := fun e => (Array.getElem?_eq_some_iff.1 e).1
  refine (hcall (w.heap.size + 1) (fun i W => J i W ∧ W.heap[w.heap.size + 1]? = some (.loop (rec .ready none)) ∧ W.heap[w.heap.size]? = some (.deferred (some []))) W1 (fun _ _ h => h.1) ⟨h0, hstart⟩ ?_).mono ?_
  · rintro i W hi ⟨hj, hl, hk⟩
    have hlt := hlp hl
    have hy := run_yield (P := Try.prog) (args := xs i) hl (by rw [hrec]; exact hps i)
    rw [hrec] at hy
    refine ⟨fn, _, assign, body, hy, roundIn_of_wpIn trivial (hassign _ i W _ ⟨_, run_beginRound hl (by rw [hrec]), ?_⟩)⟩
    have l2 : (W.putObj (w.heap.size + 1) (.loop { rec .ready none with state := .busy })).heap[w.heap.size + 1]? = some (.loop { rec .ready none with state := .busy }) := World.putObj_heap_same hlt
    have k2 : (W.putObj (w.heap.size + 1) (.loop { rec .ready none with state := .busy })).heap[w.heap.size]? = some (.deferred (some [])) := (World.putObj_heap_other (by omega)).trans hk
    refine wpIn_mono (hbody _ i _ hi (hJ i W _ _ _ (Nat.le_succ _) hl rfl hj)) ?_
    rintro e a3 W3 hp
    cases e with
    | normal =>
      obtain ⟨hk3, hj3⟩ := hp
      have l3 := hk3.same _ _ (Nat.le_succ _) l2 rfl
      have hr := run_endRound (P := Try.prog) none l3
      have lt3 := (Array.getElem?_eq_some_iff.1 l3).1
      refine ⟨_, _, hr, rfl, hJ _ _ _ _ _ (Nat.le_succ _) l3 rfl hj3, ?_, (World.putObj_heap_other (by omega)).trans (hk3.same _ _ (Nat.le_refl _) k2 rfl)⟩
      rw [World.putObj_heap_same lt3, hrec]
      rfl
    | ret => exact hp.elim
    | exit id => exact hp.elim
    | goto t => exact hp.elim
    | panic ch => exact hp.elim
    | outgrown => exact hp.elim
  · rintro e W ⟨⟨v, rfl⟩, hj, hl, hk⟩
    have hlt := hlp hl
    exact ⟨none, _, by have := run_endLoop (P := Try.prog) hl (by rw [hrec]; simp); rw [hrec] at this; exact this, hdone _ _ (Nat.le_refl _) (hJ _ _ _ _ _ (Nat.le_succ _) hl rfl hj) ((World.putObj_heap_other (by omega)).trans hk)⟩
/-! A region that draws its order, in a round. -/
theorem rowsA {l n : Nat} {row : String} {args : Array Value} {w : World} {R : Value → World → Prop} (h : Rows Try.prog row args w R) : RowsIn (Fence.wide.inRound l) n Try.prog row args w R :=
  fun c cs _ => let ⟨v, w', r, s⟩ := h c cs; ⟨v, w', r, stepsIn_wide.2 s⟩
theorem opA {l n : Nat} {o : Oper} {a : Act} {w : World} {K K' : Act → World → Prop} {Q : Exit → Act → World → Prop} (hd : ∀ c, o.op ≠ .defer c) (hK : ∀ a w, K a w → K' a w)
    (h : o.wp Try.prog a w K Q) : o.wpIn (Fence.wide.inRound l) n Try.prog a w K' Q := by
  refine ⟨fun _ _ => trivial, ?_⟩
  unfold Oper.wp at h
  rw [show (Fence.wide.inRound l).round = some l from rfl, Oper.semAt_some l _ _ hd]
  generalize (execOp a.eval o).run Try.prog w = r at h
  cases r with
  | halt x w' => cases x <;> first | exact h | exact h.elim
  | ok x w' =>
    cases x with
    | value v => exact hK _ _ h
    | skip => exact hK _ _ h
    | defer d => exact hK _ _ h
    | enter f args =>
      refine ⟨fun e => (by cases e), CallsIn.inRound l (callsIn_wide.2 (Calls.mono h fun e w' hh => ?_))⟩
      cases e with
      | returned v => exact hK _ _ hh
      | panicked c => exact hh
      | outgrown => exact hh
    | row row args => exact ⟨fun e => (by cases e), rowsA (Rows.mono h fun v w' hh => hK _ _ hh)⟩
    | _ => exact h.elim
theorem anyA {l n : Nat} {ops : Array Oper} {Q : Exit → Act → World → Prop} (hd : ∀ (i : Nat) (o : Oper), ops[i]? = some o → ∀ c, o.op ≠ .defer c) (hL : ¬ LetsOut Q) :
    ∀ (fuel : Nat) (t : Array Bool) (a : Act) (w : World), wpAny Try.prog .any ops Q fuel t a w → wpAnyIn (Fence.wide.inRound l) n Try.prog .any ops Q fuel t a w
  | 0, _, _, _, h => h
  | fuel + 1, t, a, w, h => by
    refine ⟨h.1, fun i hi => ?_⟩
    have := h.2 i hi
    unfold wpOp at this
    unfold wpOpIn
    cases e : ops[i]? with
    | none => rw [e] at this; exact anyA hd hL fuel _ _ _ this
    | some o =>
      rw [e] at this
      dsimp only at this ⊢
      split
      · rename_i hw
        rw [if_pos hw] at this
        rcases this with h1 | h1
        · exact opA (hd i o e) (fun a w => anyA hd hL fuel _ a w) h1
        · exact absurd h1.2 hL
      · rename_i hw
        rw [if_neg hw] at this
        exact ⟨fun _ _ => trivial, anyA hd hL fuel _ _ _ this⟩
/-- No operation is a defer statement. -/
def noDefA (ops : Array Oper) : Bool := ops.all fun o => match o.op with | .defer _ => false | _ => true
theorem noDefA_is {ops : Array Oper} (h : noDefA ops = true) : ∀ (i : Nat) (o : Oper), ops[i]? = some o → ∀ c, o.op ≠ .defer c := by
  intro i o e c hc
  unfold noDefA at h
  rw [Array.all_eq_true] at h
  obtain ⟨hi, rfl⟩ := Array.getElem?_eq_some_iff.1 e
  have := h i hi
  rw [hc] at this
  cases this
theorem regionA {l n id : Nat} {ops : Array Oper} {Q : Exit → Act → World → Prop} {a : Act} {w : World} (hd : noDefA ops = true) (hL : ¬ LetsOut Q)
    (h : wpAny Try.prog .any ops Q ops.size (Array.replicate ops.size false) a w.drew) : (Code.region id ops true).wpIn (Fence.wide.inRound l) n Try.prog Q a w :=
  wpIn_region_any follows (anyA (noDefA_is hd) hL _ _ _ _ h)
/-- The first n operations are still, the others follow in the text's order: what every order then is. -/
theorem anyStillA {Q : Exit → Act → World → Prop} {a : Act} {w : World} {L : List Oper} (n : Nat) (hB : Region.lexTailB .any L.toArray n = true)
    (h : wpStill Try.prog L.toArray w (fun a' => wpList Try.prog L.toArray Q (L.drop n) a' w) (L.take n) a) : wpAny Try.prog .any L.toArray Q L.toArray.size (Array.replicate L.toArray.size false) a w := by
  unfold Region.lexTailB at hB
  simp only [Bool.and_eq_true, decide_eq_true_eq] at hB
  obtain ⟨⟨⟨⟨b1, b2⟩, b3⟩, b4⟩, b5⟩ := hB
  have z : L.toArray.size = L.length := by simp
  have lt : n < L.length := by rw [← z]; exact b2
  have t1 : (L.take n).length = n := by rw [List.length_take]; omega
  have t2 : (L.drop n).length = L.toArray.size - n := by rw [List.length_drop, z]
  have start : HeadInv .any L.toArray n (Array.replicate L.toArray.size false) := by
    constructor
    · simp
    · intro j oj _ hl
      rw [getD_replicate_false] at hl
      cases hl
    · intro t _ ht
      exact getD_in (by simpa using ht) (getD_replicate_false _ _)
  have front := wpAnyL_lex (P := Try.prog) (w := w) (md := .any) (ops := L.toArray) (n := n) (g := L.toArray.size - n) b1 b3 b4 b2 (L.take n) 0 (Array.replicate L.toArray.size false) a
    (by intro j hj; rw [t1] at hj; simp [hj]) (by rw [t1]; omega) start (by rw [t1]; exact b5) h
  have rest : ∀ (listed : Array Bool) (a' : Act), (Region.seqB .any L.toArray (L.toArray.size - n) n listed = true ∧ wpList Try.prog L.toArray Q (L.drop n) a' w) → wpAny Try.prog .any L.toArray Q (L.toArray.size - n) listed a' w := by
    intro listed a' k
    rw [← t2] at k ⊢
    exact wpAny_of_seq (L.drop n) n listed a' w (by intro j; simp [List.getElem?_drop]) k.1 k.2
  have all := wpAny_of_head (Q' := Q) rest _ _ _ front
  rwa [t1, show n + (L.toArray.size - n) = L.toArray.size by omega] at all
theorem stillA {l m id : Nat} {Q : Exit → Act → World → Prop} {a : Act} {w : World} {L : List Oper} (n : Nat) (hB : Region.lexTailB .any L.toArray n = true) (hd : noDefA L.toArray = true) (hL : ¬ LetsOut Q)
    (h : wpStill Try.prog L.toArray w.drew (fun a' => wpList Try.prog L.toArray Q (L.drop n) a' w.drew) (L.take n) a) : (Code.region id L.toArray true).wpIn (Fence.wide.inRound l) m Try.prog Q a w :=
  regionA hd hL (anyStillA n hB h)
theorem noOutA {B : Nat} {J : World → Prop} {W : World} : ¬ LetsOut (roundEnd B J W) := fun ⟨_, _, h⟩ => h
theorem noOutA_then {K : Act → World → Prop} {Q : Exit → Act → World → Prop} (h : ¬ LetsOut Q) : ¬ LetsOut (Exit.then K Q) := fun ⟨a, w, k⟩ => h ⟨a, w, k⟩
theorem noOutA_block {id : Nat} {Q : Exit → Act → World → Prop} (h : ¬ LetsOut Q) : ¬ LetsOut (Exit.inBlock id Q) := fun ⟨a, w, k⟩ => h ⟨a, w, k⟩
open Go.MuLone in
set_option maxRecDepth 100000 in
theorem unlockA (n : Nat) (a : Addr) (u : FrameMode) (w : World) (hc : w.cell? a = some (.int .i32 1)) (hz : w.frozen? a = false) :
    CallsDIn Fence.wide n Try.prog 28 #[.pointer (some a)] u w fun e u' w' => u' = u ∧ (e = .returned (.tuple #[]) ∧ w' = w.setCell a (.int .i32 0)) := by
  refine callsDIn_of_wp Try.func28 rfl trivial ?_ rfl
  simp only [Try.ntmps28, List.size_toArray, List.length_cons, List.length_nil, Nat.reduceAdd, Nat.reduceSub, Array.replicate_succ, Array.replicate_zero, List.push_toArray, List.append_toArray, List.nil_append, List.cons_append]
  refine wpIn_wide.2 ?_
  go_wp2_with fail
  refine (iunlock_held muLib a w hc hz).mono ?_
  rintro e w' ⟨rfl, rfl⟩
  go_wp2_with fail
  exact bodyPost_end (results_none rfl _ _ _) rfl ⟨rfl, rfl⟩
/-- The way out of a function that holds such a loop: its deferred Unlock. -/
theorem doorM {fn : Func} {R : Ending → World → Prop} {tmps : Array Value} {W : World} {p D n : Nat} (v : Value) (hd : W.heap[D]? = some (.deferred (some []))) (c : (W.putObj D (.deferred none)).cell? ⟨p, 1, none⟩ = some (.int .i32 1)) (f : (W.putObj D (.deferred none)).frozen? ⟨p, 1, none⟩ = false)
    (hr : (results fn tmps).run Try.prog ((W.putObj D (.deferred none)).setCell ⟨p, 1, none⟩ (.int .i32 0)) = .ok v ((W.putObj D (.deferred none)).setCell ⟨p, 1, none⟩ (.int .i32 0))) (hR : R (.returned v) ((W.putObj D (.deferred none)).setCell ⟨p, 1, none⟩ (.int .i32 0))) :
    bodyPostM Fence.wide n Try.prog fn R .ret { tmps := tmps, defers := [{ target := .collected D, args := #[] }, { target := .fn (.func 28) #[], args := #[.pointer (some ⟨p, 1, none⟩)] }] } W := by
  refine ⟨by simp, .inl ⟨_, _, rfl, run_takeDeferred hd, ?_⟩⟩
  refine ⟨by simp, .inr ⟨fun h => (by cases h), _, _, 28, #[.pointer (some ⟨p, 1, none⟩)], rfl, by simp [go_sem], fun _ _ => trivial, ?_⟩⟩
  refine (unlockA _ ⟨p, 1, none⟩ .returning _ c f).mono ?_
  rintro e u' w'' ⟨rfl, rfl, rfl⟩
  exact ⟨v, hr, hR⟩
end Go.Proofs.Ytpjcpikafpnmpaa
