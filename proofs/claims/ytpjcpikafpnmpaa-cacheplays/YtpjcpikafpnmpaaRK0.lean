/- RANK: what every walk wants: frames. -/
import Derived.Test.YtpjcpikafpnmpaaRows
import Derived.WalkKit
import Derived.WalkSpells
import Derived.StillTactics
import Derived.Laws.Pointers
import Derived.RowKit3
import Derived.Below
import Derived.BigQuiet
import Derived.WalkLawsBesides
import Derived.StillTailTactics
import Derived.Laws.OwnMore
import Derived.Laws.MakeOwn
import Derived.Deep.OwnRows
import Derived.Deep.RegionHeld3
import Derived.Deep.DrawnRows
import Derived.Deep.QuietTactic
import Derived.Deep.RegionWith
import Derived.Deep.DeepCutAuto
import Derived.Maps.AppendAt
import Derived.Laws.CopyOwn
import Derived.Deep.DeepAppendWide
import Derived.Laws.AppendOwnNone
import Derived.Lib.AppendIntMem
import Derived.Lib.SmallJoins
namespace Go.Proofs.Ytpjcpikafpnmpaa
open Go.RowKit

theorem hid1 {p : Prop} (h : p) : Hid p := h
theorem bl_alloc {a w : World} (h : Below a.heap.size a w) (o : Obj) : Below a.heap.size a (w.alloc o) := h.alloc h.size o
theorem bl_step {a W w' : World} (h : Below a.heap.size a W) (hb : Below W.heap.size W w') : Below a.heap.size a w' := h.trans (hb.mono h.size)
theorem bl_set {a w : World} (h : Below a.heap.size a w) {b o : Nat} (hp : a.heap.size ≤ b) (u : Value) : Below a.heap.size a (w.setCell ⟨b, o, none⟩ u) := h.setCell hp u
theorem bl_drewN {a w : World} (h : Below a.heap.size a w) (n : Nat) : Below a.heap.size a (w.drewN n) := by
  induction n with
  | zero => exact h
  | succ n ih => exact ih.drew
theorem lt_of_cell {W : World} {b o : Nat} {v : Value} (h : W.cell? ⟨b, o, none⟩ = some v) : b < W.heap.size := World.block_lt_of_cell? W ⟨b, o, none⟩ h
theorem keepc {W w' : World} (hb : Below W.heap.size W w') {b o : Nat} {v : Value} (h : W.cell? ⟨b, o, none⟩ = some v) : w'.cell? ⟨b, o, none⟩ = some v := (hb.cell (p := ⟨b, o, none⟩) (lt_of_cell h)).trans h
theorem keepr {W w' : World} (hb : Below W.heap.size W w') {b t n : Nat} {f : Nat → Value} (h : W.rowIs b t n f) : w'.rowIs b t n f := h.of_block (hb.block _ h.lt)
theorem gen_calls {P : Program} {f : FuncId} {args : Array Value} {Q : Ending → World → Prop} {W : World} (p : World → Prop) (hp : p W) (h : ∀ W', p W' → Calls P f args W' Q) : Calls P f args W Q := h W hp
theorem gen_world {P : Program} {c : Code} {Q : Exit → Act → World → Prop} {a : Act} {W : World} (p : World → Prop) (hp : p W) (h : ∀ W', p W' → c.wp P Q a W') : c.wp P Q a W := h W hp
theorem gen_list {P : Program} {ops : Array Oper} {Q : Exit → Act → World → Prop} {rest : List Oper} {a : Act} {W : World} (p : World → Prop) (hp : p W) (h : ∀ W', p W' → wpList P ops Q rest a W') : wpList P ops Q rest a W := h W hp
theorem gen_then {K : Act → World → Prop} {Q : Exit → Act → World → Prop} {a : Act} {W : World} (p : World → Prop) (hp : p W) (h : ∀ W', p W' → Exit.then K Q .normal a W') : Exit.then K Q .normal a W := h W hp
theorem gen_any {F : Act → World → Prop} {a : Act} {W : World} (p : World → Prop) (hp : p W) (h : ∀ W', p W' → F a W') : F a W := h W hp
theorem gen_body {P : Program} {fn : Func} {R : Ending → World → Prop} {x : Exit} {a : Act} {W : World} (p : World → Prop) (hp : p W) (h : ∀ W', p W' → bodyPost P fn R x a W') : bodyPost P fn R x a W := h W hp
theorem follows : Try.prog.follows .mixedOrders = true := by kernel_rfl
theorem still_tail {id : Nat} {Q : Exit → Act → World → Prop} {a : Act} {w : World} {l : List Oper} (n : Nat) (hB : Region.lexTailB .any l.toArray n = true)
    (h : wpStill Try.prog l.toArray w.drew (fun a' => wpList Try.prog l.toArray Q (l.drop n) a' w.drew) (l.take n) a) : (Code.region id l.toArray true).wp Try.prog Q a w := wp_region_still_tail n follows hB h

/-- Nothing old has turned but blocks of S. -/
structure BP (S : Nat → Prop) (w w' : World) : Prop where
  os : w'.os = w.os
  tape : w'.tape = w.tape
  output : w'.output = w.output
  size : w.heap.size ≤ w'.heap.size
  block : ∀ k, k < w.heap.size → ¬ S k → w'.heap[k]? = w.heap[k]?
theorem BP.refl (S : Nat → Prop) (w : World) : BP S w w := ⟨rfl, rfl, rfl, Nat.le_refl _, fun _ _ _ => rfl⟩
theorem BP.trans {S T : Nat → Prop} {a b c : World} (h : BP S a b) (k : BP T b c) (hst : ∀ x, x < a.heap.size → T x → S x) : BP S a c :=
  ⟨k.os.trans h.os, k.tape.trans h.tape, k.output.trans h.output, Nat.le_trans h.size k.size, fun i hi hn => (k.block i (Nat.lt_of_lt_of_le hi h.size) fun ht => hn (hst i hi ht)).trans (h.block i hi hn)⟩
theorem BP.mono {S T : Nat → Prop} {a b : World} (h : BP S a b) (hst : ∀ x, x < a.heap.size → S x → T x) : BP T a b := ⟨h.os, h.tape, h.output, h.size, fun i hi hn => h.block i hi fun hs => hn (hst i hi hs)⟩
theorem BP.bel {S : Nat → Prop} {a b : World} (h : Below a.heap.size a b) : BP S a b := ⟨h.os, h.tape, h.output, h.size, fun k hk _ => h.block k hk⟩
theorem BP.step {S : Nat → Prop} {a b c : World} (h : BP S a b) (k : Below b.heap.size b c) : BP S a c := h.trans (T := fun _ => False) (BP.bel k) (fun _ _ h => h.elim)
theorem BP.grown {a b : World} {o : Option Nat} (h : a.grownBy b o) : BP (fun x => some x = o) a b := ⟨h.os, h.tape, h.output, h.size, fun k hk hn => h.block k hk hn⟩
theorem BP.below {S : Nat → Prop} {a b : World} (h : BP S a b) (hs : ∀ x, x < a.heap.size → ¬ S x) : Below a.heap.size a b := ⟨h.os, h.tape, h.output, h.size, fun k hk => h.block k hk (hs k hk)⟩
theorem BP.row {S : Nat → Prop} {b t n : Nat} {f : Nat → Value} {w w' : World} (h : BP S w w') (hb : ¬ S b) (hr : w.rowIs b t n f) : w'.rowIs b t n f := hr.of_block (h.block _ hr.lt hb)
theorem BP.cell {S : Nat → Prop} {b o : Nat} {v : Value} {w w' : World} (h : BP S w w') (hb : ¬ S b) (c : w.cell? ⟨b, o, none⟩ = some v) : w'.cell? ⟨b, o, none⟩ = some v :=
  (World.cell?_of_block (w := w) (w' := w') (a := ⟨b, o, none⟩) (h.block b (lt_of_cell c) hb)).trans c
theorem BP.set {S : Nat → Prop} {g o : Nat} {w w' : World} (h : BP S w w') (hg : S g ∨ w.heap.size ≤ g) (v : Value) : BP S w (w'.setCell ⟨g, o, none⟩ v) :=
  ⟨h.os, h.tape, h.output, by simpa using h.size, fun k hk hn => (Below.heap_setCell w' ⟨g, o, none⟩ v k (by
    show k ≠ g
    rintro rfl
    rcases hg with hg | hg
    · exact hn hg
    · omega)).trans (h.block k hk hn)⟩
theorem BP.alloc {S : Nat → Prop} {w w' : World} (h : BP S w w') (o : Obj) : BP S w (w'.alloc o) :=
  ⟨h.os, h.tape, h.output, by have := h.size; simp; omega, fun k hk hn => (Below.heap_alloc w' o k (Nat.lt_of_lt_of_le hk h.size)).trans (h.block k hk hn)⟩
theorem BP.drew {S : Nat → Prop} {w w' : World} (h : BP S w w') : BP S w w'.drew := ⟨h.os, h.tape, h.output, h.size, h.block⟩
theorem BP.drewN {S : Nat → Prop} {w w' : World} (h : BP S w w') (n : Nat) : BP S w (w'.drewN n) := by
  induction n with
  | zero => exact h
  | succ n ih => exact ih.drew
theorem BP.own {S : Nat → Prop} {w w' : World} {base T n : Nat} {v : Value} {xs : List Value} (h : BP S w w') (ho : w.ownsRow base T 1 v n xs) (hs : ∀ b, v.ownBlock = some b → ¬ S b) : w'.ownsRow base T 1 v n xs := by
  refine ⟨ho.1, ?_⟩
  rcases ho.2 with h0 | ⟨g, cap, cur, rfl, h1, h2, h3⟩
  · exact .inl h0
  · have hl : g < w.heap.size := (ho.lt g rfl).2
    exact .inr ⟨g, cap, cur, rfl, h1, (h.block g hl (hs g rfl)).trans h2, h3⟩

theorem ret_int {k : IntKind} {a b : Int} (h : a = b) : Ending.returned (.int k a) = .returned (.int k b) := by rw [h]
theorem row_drewN {w : World} {b t n : Nat} {f : Nat → Value} (h : w.rowIs b t n f) (k : Nat) : (w.drewN k).rowIs b t n f := by
  induction k with
  | zero => exact h
  | succ k ih => exact ih
/-- Nothing but draws. -/
def Qt (w w' : World) : Prop := ∃ q, w' = w.drewN q
theorem Qt.refl (w : World) : Qt w w := ⟨0, rfl⟩
theorem Qt.drewN {w w' : World} (h : Qt w w') (n : Nat) : Qt w (w'.drewN n) := by
  obtain ⟨q, rfl⟩ := h
  induction n with
  | zero => exact ⟨q, rfl⟩
  | succ n ih => obtain ⟨q', e⟩ := ih; exact ⟨q' + 1, congrArg World.drew e⟩
theorem Qt.below {a w w' : World} (h : Qt w w') (hb : Below a.heap.size a w) : Below a.heap.size a w' := by
  obtain ⟨q, rfl⟩ := h
  exact bl_drewN hb q
theorem Qt.cell {w w' : World} (h : Qt w w') {p : Addr} {v : Value} (hc : w.cell? p = some v) : w'.cell? p = some v := by
  obtain ⟨q, rfl⟩ := h
  induction q with
  | zero => exact hc
  | succ n ih => exact ih
/-- Numbers lie in memory. -/
def Nm (w : World) (ao : Option Addr) (l : List Int) : Prop := ∀ (j : Nat) (x : Int), l[j]? = some x → ∃ g o, ao = some ⟨g, o, none⟩ ∧ w.cell? ⟨g, o + j, none⟩ = some (.int .i64 x)
theorem Nm.below {w w' : World} {ao : Option Addr} {l : List Int} (h : Nm w ao l) (hb : Below w.heap.size w w') : Nm w' ao l := fun j x hj => by
  obtain ⟨g, o, e, c⟩ := h j x hj; exact ⟨g, o, e, keepc hb c⟩
theorem Nm.nil (w : World) (ao : Option Addr) : Nm w ao [] := fun j x hj => by simp at hj
theorem Nm.at {w : World} {ao : Option Addr} {l : List Int} (h : Nm w ao l) {k : Nat} (hk : k < l.length) : ∃ g o, ao = some ⟨g, o, none⟩ ∧ w.cell? ⟨g, o + k, none⟩ = some (.int .i64 l[k]) := h k _ (List.getElem?_eq_getElem hk)
/-- A table of numbers lies in memory. -/
def Tn (w : World) (ao : Option Addr) (T : List (List Int)) : Prop := ∀ (i : Nat) (r : List Int), T[i]? = some r → ∃ g o ai ci, ao = some ⟨g, o, none⟩ ∧ w.cell? ⟨g, o + i, none⟩ = some (.slice ai r.length ci) ∧ Nm w ai r
theorem Tn.below {w w' : World} {ao : Option Addr} {T : List (List Int)} (h : Tn w ao T) (hb : Below w.heap.size w w') : Tn w' ao T := fun i r hi => by
  obtain ⟨g, o, ai, ci, e, c, l⟩ := h i r hi; exact ⟨g, o, ai, ci, e, keepc hb c, l.below hb⟩
theorem Tn.nil (w : World) (ao : Option Addr) : Tn w ao [] := fun j x hj => by simp at hj
theorem Tn.at {w : World} {ao : Option Addr} {T : List (List Int)} (h : Tn w ao T) {k : Nat} (hk : k < T.length) : ∃ g o ai ci, ao = some ⟨g, o, none⟩ ∧ w.cell? ⟨g, o + k, none⟩ = some (.slice ai T[k].length ci) ∧ Nm w ai T[k] := h k _ (List.getElem?_eq_getElem hk)
theorem info_i64 : (Try.prog.info? 2).map (fun i => (i.zero, i.size, i.bytes)) = some (some (.int .i64 0), 1, 8) := by kernel_rfl
theorem und_i64s : Try.prog.underlying 29 = some (.slice 2) := by kernel_rfl
theorem info_i64s : (Try.prog.info? 29).map (fun i => (i.zero, i.size, i.bytes)) = some (some (.slice none 0 0), 1, 24) := by kernel_rfl
theorem und_i64ss : Try.prog.underlying 47 = some (.slice 29) := by kernel_rfl
end Go.Proofs.Ytpjcpikafpnmpaa
