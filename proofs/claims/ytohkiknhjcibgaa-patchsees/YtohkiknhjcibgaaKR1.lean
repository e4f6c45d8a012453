/- A REGION THAT DRAWS ITS ORDER, IN A ROUND OF A RANGE OVER A FUNCTION. -/
import Derived.Test.YtohkiknhjcibgaaBW4
import Derived.RangeFuncCalls
import Derived.OrdersIn
import Derived.StillTail
import Derived.RangeFuncWrites
namespace Go.Proofs.Ytohkiknhjcibgaa
open Go.RowKit

theorem rows_round {l n : Nat} {P : Program} {row : String} {args : Array Value} {w : World} {R : Value → World → Prop} (h : Rows P row args w R) : RowsIn (Fence.wide.inRound l) n P row args w R :=
  fun c cs _ => let ⟨v, w', r, s⟩ := h c cs; ⟨v, w', r, stepsIn_wide.2 s⟩
theorem op_round {l n : Nat} {P : Program} {o : Oper} {a : Act} {w : World} {K K' : Act → World → Prop} {Q : Exit → Act → World → Prop} (hd : ∀ c, o.op ≠ .defer c) (hK : ∀ a w, K a w → K' a w)
    (h : o.wp P a w K Q) : o.wpIn (Fence.wide.inRound l) n P a w K' Q := by
  refine ⟨fun _ _ => trivial, ?_⟩
  unfold Oper.wp at h
  rw [show (Fence.wide.inRound l).round = some l from rfl, Oper.semAt_some l _ _ hd]
  generalize (execOp a.eval o).run P w = r at h
  cases r with
  | halt x w' =>
    cases x <;> first | exact h | exact h.elim
  | ok x w' =>
    cases x with
    | value v => exact hK _ _ h
    | skip => exact hK _ _ h
    | defer d => exact hK _ _ h
    | enter f args =>
      refine ⟨fun e => (by cases e), CallsIn.inRound l (callsIn_wide.2 (Calls.mono h fun e w' hh => ?_))⟩
      cases e with
      | returned v => exact hK _ _ hh
      | panicked c => exact hh
      | outgrown => exact hh
    | row row args => exact ⟨fun e => (by cases e), rows_round (Rows.mono h fun v w' hh => hK _ _ hh)⟩
    | _ => exact h.elim
theorem any_round {l n : Nat} {P : Program} {ops : Array Oper} {Q : Exit → Act → World → Prop} (hd : ∀ (i : Nat) (o : Oper), ops[i]? = some o → ∀ c, o.op ≠ .defer c) (hL : ¬ LetsOut Q) :
    ∀ (fuel : Nat) (t : Array Bool) (a : Act) (w : World), wpAny P .any ops Q fuel t a w → wpAnyIn (Fence.wide.inRound l) n P .any ops Q fuel t a w
  | 0, _, _, _, h => h
  | fuel + 1, t, a, w, h => by
    refine ⟨h.1, fun i hi => ?_⟩
    have := h.2 i hi
    unfold wpOp at this
    unfold wpOpIn
    cases e : ops[i]? with
    | none => rw [e] at this; exact any_round hd hL fuel _ _ _ this
    | some o =>
      rw [e] at this
      dsimp only at this ⊢
      split
      · rename_i hw
        rw [if_pos hw] at this
        rcases this with h1 | h1
        · exact op_round (hd i o e) (fun a w => any_round hd hL fuel _ a w) h1
        · exact absurd h1.2 hL
      · rename_i hw
        rw [if_neg hw] at this
        exact ⟨fun _ _ => trivial, any_round hd hL fuel _ _ _ this⟩
/-- No operation is a defer statement. -/
def noDefer (ops : Array Oper) : Bool := ops.all fun o => match o.op with | .defer _ => false | _ => true
theorem noDefer_is {ops : Array Oper} (h : noDefer ops = true) : ∀ (i : Nat) (o : Oper), ops[i]? = some o → ∀ c, o.op ≠ .defer c := by
  intro i o e c hc
  unfold noDefer at h
  rw [Array.all_eq_true] at h
  obtain ⟨hi, rfl⟩ := Array.getElem?_eq_some_iff.1 e
  have := h i hi
  rw [hc] at this
  cases this
theorem region_round {l n id : Nat} {P : Program} {ops : Array Oper} {Q : Exit → Act → World → Prop} {a : Act} {w : World} (hm : P.follows .mixedOrders = true) (hd : noDefer ops = true) (hL : ¬ LetsOut Q)
    (h : wpAny P .any ops Q ops.size (Array.replicate ops.size false) a { w with drawn := w.drawn + 1 }) : (Code.region id ops true).wpIn (Fence.wide.inRound l) n P Q a w :=
  wpIn_region_any hm (any_round (noDefer_is hd) hL _ _ _ _ h)
/-- The first n operations are still, the others follow in the text's order: what every order then is. -/
theorem any_still {P : Program} {Q : Exit → Act → World → Prop} {a : Act} {w : World} {L : List Oper} (n : Nat) (hB : Region.lexTailB .any L.toArray n = true)
    (h : wpStill P L.toArray w (fun a' => wpList P L.toArray Q (L.drop n) a' w) (L.take n) a) : wpAny P .any L.toArray Q L.toArray.size (Array.replicate L.toArray.size false) a w := by
  unfold Region.lexTailB at hB
  simp only [Bool.and_eq_true, decide_eq_true_eq] at hB
  obtain ⟨⟨⟨⟨b1, b2⟩, b3⟩, b4⟩, b5⟩ := hB
  have z : L.toArray.size = L.length := by simp
  have lt : n < L.length := by rw [← z]; exact b2
  have t1 : (L.take n).length = n := by rw [List.length_take]; omega
  have t2 : (L.drop n).length = L.toArray.size - n := by rw [List.length_drop, z]
  have start : HeadInv .any L.toArray n (Array.replicate L.toArray.size false) := by
    constructor
    · simp
    · intro j oj _ hl
      rw [getD_replicate_false] at hl
      cases hl
    · intro t _ ht
      exact getD_in (by simpa using ht) (getD_replicate_false _ _)
  have front := wpAnyL_lex (P := P) (w := w) (md := .any) (ops := L.toArray) (n := n) (g := L.toArray.size - n) b1 b3 b4 b2 (L.take n) 0 (Array.replicate L.toArray.size false) a
    (by intro j hj; rw [t1] at hj; simp [hj]) (by rw [t1]; omega) start (by rw [t1]; exact b5) h
  have rest : ∀ (listed : Array Bool) (a' : Act), (Region.seqB .any L.toArray (L.toArray.size - n) n listed = true ∧ wpList P L.toArray Q (L.drop n) a' w) → wpAny P .any L.toArray Q (L.toArray.size - n) listed a' w := by
    intro listed a' k
    rw [← t2] at k ⊢
    exact wpAny_of_seq (L.drop n) n listed a' w (by intro j; simp [List.getElem?_drop]) k.1 k.2
  have all := wpAny_of_head (Q' := Q) rest _ _ _ front
  rwa [t1, show n + (L.toArray.size - n) = L.toArray.size by omega] at all
theorem still_round {l m id : Nat} {Q : Exit → Act → World → Prop} {a : Act} {w : World} {L : List Oper} (n : Nat) (hB : Region.lexTailB .any L.toArray n = true) (hd : noDefer L.toArray = true) (hL : ¬ LetsOut Q)
    (h : wpStill Try.prog L.toArray w.drew (fun a' => wpList Try.prog L.toArray Q (L.drop n) a' w.drew) (L.take n) a) : (Code.region id L.toArray true).wpIn (Fence.wide.inRound l) m Try.prog Q a w :=
  region_round follows hd hL (any_still n hB h)
/-- None of the ways out of a round's body is the memory's end. -/
theorem noOut {α : Type} {B : Nat} {Kp : World → World → Prop} {I : List α → World → Prop} {Ix : Code → List α → World → Prop} {xs : List α} {W : World} : ¬ LetsOut (ownPostG B Kp I Ix xs W) := fun ⟨_, _, h⟩ => h
theorem noOut_then {K : Act → World → Prop} {Q : Exit → Act → World → Prop} (h : ¬ LetsOut Q) : ¬ LetsOut (Exit.then K Q) := fun ⟨a, w, k⟩ => h ⟨a, w, k⟩
theorem noOut_block {id : Nat} {Q : Exit → Act → World → Prop} (h : ¬ LetsOut Q) : ¬ LetsOut (Exit.inBlock id Q) := fun ⟨a, w, k⟩ => h ⟨a, w, k⟩
end Go.Proofs.Ytohkiknhjcibgaa
