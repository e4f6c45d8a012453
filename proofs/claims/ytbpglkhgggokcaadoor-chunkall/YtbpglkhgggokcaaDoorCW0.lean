/- CHUNKS: what every walk wants: frames, bytes in memory. -/
import Derived.Test.YtbpglkhgggokcaaDoorRows
import Derived.Test.YtbpglkhgggokcaaDoorCM1
import Derived.WalkKit
import Derived.WalkSpells
import Derived.StillTactics
import Derived.Laws.Pointers
import Derived.RowKit3
import Derived.Below
import Derived.BigQuiet
import Derived.WalkLawsBesides
import Derived.StillTailTactics
import Derived.Laws.OwnMore
import Derived.Laws.MakeOwn
import Derived.Deep.OwnRows
import Derived.Deep.RegionHeld3
import Derived.Deep.DrawnRows
import Derived.Deep.QuietTactic
import Derived.Deep.RegionWith
import Derived.Deep.DeepCutAuto
import Derived.Maps.AppendAt
import Derived.Laws.CopyOwn
namespace Go.Proofs.YtbpglkhgggokcaaDoor
open Go.RowKit

theorem hid1 {p : Prop} (h : p) : Hid p := h
theorem bl_alloc {a w : World} (h : Below a.heap.size a w) (o : Obj) : Below a.heap.size a (w.alloc o) := h.alloc h.size o
theorem bl_step {a W w' : World} (h : Below a.heap.size a W) (hb : Below W.heap.size W w') : Below a.heap.size a w' := h.trans (hb.mono h.size)
theorem bl_set {a w : World} (h : Below a.heap.size a w) {b o : Nat} (hp : a.heap.size ≤ b) (u : Value) : Below a.heap.size a (w.setCell ⟨b, o, none⟩ u) := h.setCell hp u
theorem bl_drewN {a w : World} (h : Below a.heap.size a w) (n : Nat) : Below a.heap.size a (w.drewN n) := by
  induction n with
  | zero => exact h
  | succ n ih => exact ih.drew
theorem lt_of_cell {W : World} {b o : Nat} {v : Value} (h : W.cell? ⟨b, o, none⟩ = some v) : b < W.heap.size := World.block_lt_of_cell? W ⟨b, o, none⟩ h
theorem keepc {W w' : World} (hb : Below W.heap.size W w') {b o : Nat} {v : Value} (h : W.cell? ⟨b, o, none⟩ = some v) : w'.cell? ⟨b, o, none⟩ = some v := (hb.cell (p := ⟨b, o, none⟩) (lt_of_cell h)).trans h
theorem keepr {W w' : World} (hb : Below W.heap.size W w') {b t n : Nat} {f : Nat → Value} (h : W.rowIs b t n f) : w'.rowIs b t n f := h.of_block (hb.block _ h.lt)
theorem gen_calls {P : Program} {f : FuncId} {args : Array Value} {Q : Ending → World → Prop} {W : World} (p : World → Prop) (hp : p W) (h : ∀ W', p W' → Calls P f args W' Q) : Calls P f args W Q := h W hp
theorem gen_world {P : Program} {c : Code} {Q : Exit → Act → World → Prop} {a : Act} {W : World} (p : World → Prop) (hp : p W) (h : ∀ W', p W' → c.wp P Q a W') : c.wp P Q a W := h W hp
theorem gen_list {P : Program} {ops : Array Oper} {Q : Exit → Act → World → Prop} {rest : List Oper} {a : Act} {W : World} (p : World → Prop) (hp : p W) (h : ∀ W', p W' → wpList P ops Q rest a W') : wpList P ops Q rest a W := h W hp
theorem gen_then {K : Act → World → Prop} {Q : Exit → Act → World → Prop} {a : Act} {W : World} (p : World → Prop) (hp : p W) (h : ∀ W', p W' → Exit.then K Q .normal a W') : Exit.then K Q .normal a W := h W hp
theorem gen_any {F : Act → World → Prop} {a : Act} {W : World} (p : World → Prop) (hp : p W) (h : ∀ W', p W' → F a W') : F a W := h W hp
theorem gen_body {P : Program} {fn : Func} {R : Ending → World → Prop} {x : Exit} {a : Act} {W : World} (p : World → Prop) (hp : p W) (h : ∀ W', p W' → bodyPost P fn R x a W') : bodyPost P fn R x a W := h W hp
theorem follows : Tryd.prog.follows .mixedOrders = true := by kernel_rfl
theorem still_tail {id : Nat} {Q : Exit → Act → World → Prop} {a : Act} {w : World} {l : List Oper} (n : Nat) (hB : Region.lexTailB .any l.toArray n = true)
    (h : wpStill Tryd.prog l.toArray w.drew (fun a' => wpList Tryd.prog l.toArray Q (l.drop n) a' w.drew) (l.take n) a) : (Code.region id l.toArray true).wp Tryd.prog Q a w := wp_region_still_tail n follows hB h

/-- Nothing old has turned but blocks of S. -/
structure BP (S : Nat → Prop) (w w' : World) : Prop where
  os : w'.os = w.os
  tape : w'.tape = w.tape
  output : w'.output = w.output
  size : w.heap.size ≤ w'.heap.size
  block : ∀ k, k < w.heap.size → ¬ S k → w'.heap[k]? = w.heap[k]?
theorem BP.refl (S : Nat → Prop) (w : World) : BP S w w := ⟨rfl, rfl, rfl, Nat.le_refl _, fun _ _ _ => rfl⟩
theorem BP.trans {S T : Nat → Prop} {a b c : World} (h : BP S a b) (k : BP T b c) (hst : ∀ x, x < a.heap.size → T x → S x) : BP S a c :=
  ⟨k.os.trans h.os, k.tape.trans h.tape, k.output.trans h.output, Nat.le_trans h.size k.size, fun i hi hn => (k.block i (Nat.lt_of_lt_of_le hi h.size) fun ht => hn (hst i hi ht)).trans (h.block i hi hn)⟩
theorem BP.mono {S T : Nat → Prop} {a b : World} (h : BP S a b) (hst : ∀ x, x < a.heap.size → S x → T x) : BP T a b := ⟨h.os, h.tape, h.output, h.size, fun i hi hn => h.block i hi fun hs => hn (hst i hi hs)⟩
theorem BP.bel {S : Nat → Prop} {a b : World} (h : Below a.heap.size a b) : BP S a b := ⟨h.os, h.tape, h.output, h.size, fun k hk _ => h.block k hk⟩
theorem BP.step {S : Nat → Prop} {a b c : World} (h : BP S a b) (k : Below b.heap.size b c) : BP S a c := h.trans (T := fun _ => False) (BP.bel k) (fun _ _ h => h.elim)
theorem BP.grown {a b : World} {o : Option Nat} (h : a.grownBy b o) : BP (fun x => some x = o) a b := ⟨h.os, h.tape, h.output, h.size, fun k hk hn => h.block k hk hn⟩
theorem BP.below {S : Nat → Prop} {a b : World} (h : BP S a b) (hs : ∀ x, x < a.heap.size → ¬ S x) : Below a.heap.size a b := ⟨h.os, h.tape, h.output, h.size, fun k hk => h.block k hk (hs k hk)⟩
theorem BP.row {S : Nat → Prop} {b t n : Nat} {f : Nat → Value} {w w' : World} (h : BP S w w') (hb : ¬ S b) (hr : w.rowIs b t n f) : w'.rowIs b t n f := hr.of_block (h.block _ hr.lt hb)
theorem BP.cell {S : Nat → Prop} {b o : Nat} {v : Value} {w w' : World} (h : BP S w w') (hb : ¬ S b) (c : w.cell? ⟨b, o, none⟩ = some v) : w'.cell? ⟨b, o, none⟩ = some v :=
  (World.cell?_of_block (w := w) (w' := w') (a := ⟨b, o, none⟩) (h.block b (lt_of_cell c) hb)).trans c
theorem BP.set {S : Nat → Prop} {g o : Nat} {w w' : World} (h : BP S w w') (hg : S g ∨ w.heap.size ≤ g) (v : Value) : BP S w (w'.setCell ⟨g, o, none⟩ v) :=
  ⟨h.os, h.tape, h.output, by simpa using h.size, fun k hk hn => (Below.heap_setCell w' ⟨g, o, none⟩ v k (by
    show k ≠ g
    rintro rfl
    rcases hg with hg | hg
    · exact hn hg
    · omega)).trans (h.block k hk hn)⟩
theorem BP.alloc {S : Nat → Prop} {w w' : World} (h : BP S w w') (o : Obj) : BP S w (w'.alloc o) :=
  ⟨h.os, h.tape, h.output, by have := h.size; simp; omega, fun k hk hn => (Below.heap_alloc w' o k (Nat.lt_of_lt_of_le hk h.size)).trans (h.block k hk hn)⟩
theorem BP.drew {S : Nat → Prop} {w w' : World} (h : BP S w w') : BP S w w'.drew := ⟨h.os, h.tape, h.output, h.size, h.block⟩
theorem BP.drewN {S : Nat → Prop} {w w' : World} (h : BP S w w') (n : Nat) : BP S w (w'.drewN n) := by
  induction n with
  | zero => exact h
  | succ n ih => exact ih.drew
theorem BP.own {S : Nat → Prop} {w w' : World} {base T n : Nat} {v : Value} {xs : List Value} (h : BP S w w') (ho : w.ownsRow base T 1 v n xs) (hs : ∀ b, v.ownBlock = some b → ¬ S b) : w'.ownsRow base T 1 v n xs := by
  refine ⟨ho.1, ?_⟩
  rcases ho.2 with h0 | ⟨g, cap, cur, rfl, h1, h2, h3⟩
  · exact .inl h0
  · have hl : g < w.heap.size := (ho.lt g rfl).2
    exact .inr ⟨g, cap, cur, rfl, h1, (h.block g hl (hs g rfl)).trans h2, h3⟩

/-- What the table holds. -/
def Laid (w : World) : Prop := ∀ i, i < 16 → w.cell? ⟨0, i, none⟩ = some (.int .u32 ((csn 4 i : Nat) : Int))
theorem Laid.bp {S : Nat → Prop} {w w' : World} (h : Laid w) (hb : BP S w w') (hs : ¬ S 0) : Laid w' := fun i hi => hb.cell hs (h i hi)
theorem Laid.on {w w' : World} (h : Laid w) (hb : Below w.heap.size w w') : Laid w' := fun i hi => keepc hb (h i hi)

/-- Bytes lie in memory. -/
def By (W : World) (ao : Option Addr) (l : List Nat) : Prop := ∀ (k x : Nat), l[k]? = some x → ∃ (g o : Nat), ao = some ⟨g, o, none⟩ ∧ W.cell? ⟨g, o + k, none⟩ = some (.int .u8 (x : Int)) ∧ x < 256
theorem By.keep {W X : World} {ao : Option Addr} {l : List Nat} (h : By W ao l) (hb : Below W.heap.size W X) : By X ao l := fun k x hk => by
  obtain ⟨g, o, e, c, r⟩ := h k x hk
  exact ⟨g, o, e, keepc hb c, r⟩
theorem By.bp {S : Nat → Prop} {W X : World} {ao : Option Addr} {l : List Nat} (h : By W ao l) (hb : BP S W X) (hs : ∀ p, ao = some p → l ≠ [] → ¬ S p.block) : By X ao l := fun k x hk => by
  obtain ⟨g, o, e, c, r⟩ := h k x hk
  exact ⟨g, o, e, hb.cell (hs _ e (by rintro rfl; simp at hk)) c, r⟩
theorem By.nil (W : World) (ao : Option Addr) : By W ao [] := fun k x hk => by simp at hk
theorem By.byte {W : World} {ao : Option Addr} {l : List Nat} (h : By W ao l) : ∀ x ∈ l, x < 256 := fun x hx => by
  obtain ⟨k, hk⟩ := List.getElem?_of_mem hx
  obtain ⟨_, _, _, _, r⟩ := h k x hk
  exact r
theorem By.take {W : World} {ao : Option Addr} {l : List Nat} (h : By W ao l) (n : Nat) : By W ao (l.take n) := fun k x hk => by
  rw [List.getElem?_take] at hk
  split at hk
  · exact h k x hk
  · simp at hk
theorem By.drop {W : World} {g o : Nat} {l : List Nat} (h : By W (some ⟨g, o, none⟩) l) (n : Nat) : By W (some ⟨g, o + n, none⟩) (l.drop n) := fun k x hk => by
  rw [List.getElem?_drop] at hk
  obtain ⟨g1, o1, e, c, r⟩ := h _ x hk
  injection e with e
  injection e with e1 e2
  subst e1 e2
  exact ⟨g, o + n, rfl, by rw [show o + n + k = o + (n + k) by omega]; exact c, r⟩
theorem By.at {W : World} {ao : Option Addr} {l : List Nat} (h : By W ao l) {k : Nat} (hk : k < l.length) : ∃ (g o x : Nat), ao = some ⟨g, o, none⟩ ∧ l[k]? = some x ∧ W.cell? ⟨g, o + k, none⟩ = some (.int .u8 (x : Int)) ∧ x < 256 := by
  obtain ⟨g, o, e, c, r⟩ := h k l[k] (List.getElem?_eq_getElem hk)
  exact ⟨g, o, l[k], e, List.getElem?_eq_getElem hk, c, r⟩
/-- Values of bytes. -/
abbrev u8s (l : List Nat) : List Value := l.map fun (x : Nat) => Value.int .u8 (x : Int)
theorem u8s_one (l : List Nat) : ∀ u ∈ u8s l, u.oneCell' = true := fun u hu => by
  obtain ⟨x, _, rfl⟩ := List.mem_map.1 hu
  rfl
theorem own_by {W : World} {base T g n cap : Nat} {l : List Nat} (h : W.ownsRow base T 1 (.slice (some ⟨g, 0, none⟩) n cap) n (u8s l)) (hl : ∀ x ∈ l, x < 256) : By W (some ⟨g, 0, none⟩) l := fun k x hk => by
  have e : l.length = n := by have := h.1; simpa using this
  have hkl : k < l.length := by
    refine Classical.byContradiction fun hn => ?_
    rw [List.getElem?_eq_none (by omega)] at hk
    exact absurd hk (by simp)
  refine ⟨g, 0, rfl, ?_, hl x (List.mem_of_getElem? hk)⟩
  rw [Nat.zero_add, h.cellAt k (by omega)]
  simp [u8s, hk]
theorem By.news {W : World} {g o : Nat} {l : List Nat} (h : By W (some ⟨g, o, none⟩) l) : ∀ j u, (u8s l)[j]? = some u → W.cell? ((⟨g, o, none⟩ : Addr).add j) = some u := fun j u hj => by
  simp only [u8s, List.getElem?_map, Option.map_eq_some_iff] at hj
  obtain ⟨x, hx, rfl⟩ := hj
  obtain ⟨g1, o1, e, c, r⟩ := h j x hx
  injection e with e
  injection e with e1 e2
  subst e1 e2
  unfold Addr.add
  by_cases hj : j = 0
  · subst hj; simpa using c
  · simpa [hj] using c
end Go.Proofs.YtbpglkhgggokcaaDoor
