/- ROWS IN MEMORY; Tail, wordsFor, blank. -/
import Derived.Test.YtohkiknhjcibgaaBW1
import Derived.Deep.OwnRows
namespace Go.Proofs.Ytohkiknhjcibgaa
open Go.RowKit

theorem bl_alloc {a w : World} (h : Below a.heap.size a w) (o : Obj) : Below a.heap.size a (w.alloc o) := h.alloc h.size o
theorem bl_step {a W w' : World} (h : Below a.heap.size a W) (hb : Below W.heap.size W w') : Below a.heap.size a w' := h.trans (hb.mono h.size)
theorem bl_set {a w : World} (h : Below a.heap.size a w) {b o : Nat} (hp : a.heap.size ≤ b) (u : Value) : Below a.heap.size a (w.setCell ⟨b, o, none⟩ u) := h.setCell hp u
theorem bl_drewN {a w : World} (h : Below a.heap.size a w) (n : Nat) : Below a.heap.size a (w.drewN n) := by
  induction n with
  | zero => exact h
  | succ n ih => exact ih.drew
theorem keepc {W w' : World} (hb : Below W.heap.size W w') {b o : Nat} {v : Value} (h : W.cell? ⟨b, o, none⟩ = some v) : w'.cell? ⟨b, o, none⟩ = some v := by
  by_cases hlt : b < W.heap.size
  · exact (hb.cell (p := ⟨b, o, none⟩) hlt).trans h
  · exfalso
    have e : W.heap[b]? = none := Array.getElem?_eq_none (by omega)
    simp [World.cell?, e] at h
theorem keepf {W w' : World} (hb : Below W.heap.size W w') {b o : Nat} (hlt : b < W.heap.size) (h : W.frozen? ⟨b, o, none⟩ = false) : w'.frozen? ⟨b, o, none⟩ = false :=
  (hb.frozen (p := ⟨b, o, none⟩) hlt).trans h
theorem lt_of_cell {W : World} {b o : Nat} {v : Value} (h : W.cell? ⟨b, o, none⟩ = some v) : b < W.heap.size := World.block_lt_of_cell? W ⟨b, o, none⟩ h
theorem gen_calls {P : Program} {f : FuncId} {args : Array Value} {Q : Ending → World → Prop} {W : World} (p : World → Prop) (hp : p W) (h : ∀ W', p W' → Calls P f args W' Q) : Calls P f args W Q := h W hp
theorem gen_world {P : Program} {c : Code} {Q : Exit → Act → World → Prop} {a : Act} {W : World} (p : World → Prop) (hp : p W) (h : ∀ W', p W' → c.wp P Q a W') : c.wp P Q a W := h W hp
theorem keepr {W w' : World} (hb : Below W.heap.size W w') {b t n : Nat} {f : Nat → Value} (h : W.rowIs b t n f) : w'.rowIs b t n f := h.of_block (hb.block _ h.lt)
theorem new0 (W : World) (a b : Value) (t : TypeId) : (W.alloc (.cells #[a, b] t)).cell? ⟨W.heap.size, 0, none⟩ = some a := by simp [go_sem]
theorem new1 (W : World) (a b : Value) (t : TypeId) : (W.alloc (.cells #[a, b] t)).cell? ⟨W.heap.size, 1, none⟩ = some b := by simp [go_sem]
theorem newf (W : World) (a b : Value) (t : TypeId) (o : Nat) : (W.alloc (.cells #[a, b] t)).frozen? ⟨W.heap.size, o, none⟩ = false := by simp [go_sem]
theorem newlt (W : World) (o : Obj) : W.heap.size < (W.alloc o).heap.size := by simp

/-- A row as a value. -/
abbrev rv (n : Int) (ao : Option Addr) (m cap : Nat) : Value := .agg #[.int .i64 n, .slice ao m cap]
/-- A word of a number as a cell. -/
def wf (N : Nat) : Nat → Value := fun k => .int .u64 (wd N k : Nat)
/-- These m words read, in this world, as the number N. -/
def Rd (w : World) (ao : Option Addr) (m N : Nat) : Prop := N < 2 ^ (64 * m) ∧ (0 < m → ∃ g, ao = some ⟨g, 0, none⟩ ∧ ∀ k, k < m → w.cell? ⟨g, k, none⟩ = some (wf N k))
theorem Rd.below {w w' : World} {ao : Option Addr} {m N : Nat} (h : Rd w ao m N) (hb : Below w.heap.size w w') : Rd w' ao m N :=
  ⟨h.1, fun h0 => by obtain ⟨g, e, hc⟩ := h.2 h0; exact ⟨g, e, fun k hk => keepc hb (hc k hk)⟩⟩
theorem Rd.row {w : World} {g m N : Nat} (h : w.rowIs g 41 m (wf N)) (hN : N < 2 ^ (64 * m)) : Rd w (some ⟨g, 0, none⟩) m N :=
  ⟨hN, fun _ => ⟨g, rfl, fun _ hk => h.cell hk⟩⟩
theorem Rd.nil (w : World) (ao : Option Addr) : Rd w ao 0 0 := ⟨by simp, fun h => absurd h (by simp)⟩

set_option maxRecDepth 100000 in
theorem tail_pos (n : Nat) (h0 : 0 < n) (h1 : n ≤ 9223372036854775807) (w : World) :
    Calls Try.prog 34 #[.int .i64 n] w fun e w' => e = .returned (.int .u64 (tl n : Nat)) ∧ w' = w := by
  have H := hid1 (tail_is n h0)
  have hs : (64 - n % 64) % 64 ≤ 63 := by omega
  go_enter Try.func34, Try.ntmps34
  go_wp2
  go_ret
  refine ⟨ret_int ?_, rfl⟩
  have e : (-((n : Int) % 64) % 64).toNat = (64 - n % 64) % 64 := by omega
  rw [e, ← H.out]
  simp
set_option maxRecDepth 100000 in
theorem tail_none (n : Int) (h0 : n ≤ 0) (w : World) :
    Calls Try.prog 34 #[.int .i64 n] w fun e w' => e = .returned (.int .u64 0) ∧ w' = w := by
  go_enter Try.func34, Try.ntmps34
  go_wp2
  go_ret
  exact ⟨rfl, rfl⟩
theorem wordsFor_any (n : Nat) (h1 : n ≤ 16777216) (w : World) :
    Calls Try.prog 55 #[.int .i64 n] w fun e w' => e = .returned (.int .i64 (nw n : Nat)) ∧ w' = w := by
  go_enter Try.func55, Try.ntmps55
  go_wp2
  go_ret
  refine ⟨ret_int ?_, rfl⟩
  unfold nw; omega
theorem info_u64 : (Try.prog.info? 41).map (fun i => (i.zero, i.size, i.bytes)) = some (some (.int .u64 0), 1, 8) := by kernel_rfl
theorem und_u64s : Try.prog.underlying 26 = some (.slice 41) := by kernel_rfl
theorem nw_bd {n : Nat} (h : n ≤ 16777216) : nw n ≤ 262144 := by unfold nw; omega
end Go.Proofs.Ytohkiknhjcibgaa
