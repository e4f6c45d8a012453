/- PACKAGE fold: what a Mode means. -/
import Derived.Test.YtffhbfdbahdhoabHM1
import Derived.Test.YtffhbfdbahdhoabFW6
import Derived.Laws.EntriesVeiled
import Derived.Deep.WholeRow
import Derived.Great.BuildSlice
import Derived.Great.Walk
namespace Go.Proofs.Ytffhbfdbahdhoab
open Go.RowKit Go.Shelf Go.Great Wd
attribute [local go_sem ↓] Go.wp_at_zero Go.wp_at_succ

abbrev fnv (k : FuncId) : Value := .func (.func k) #[] #[]
abbrev mdv (f : Value) (l h g b : Int) : Value := .agg #[f, .int .i64 l, .int .i64 h, .int .i64 g, .int .i64 b]
def mdF (m : Int) : FuncId := if m = 1 then 32 else if m = 2 then 33 else if m = 3 then 34 else 31
def mdL (m : Int) : Int := if m = 1 then -2147483646 else if m = 2 then -2147483647 else if m = 3 then 0 else if m = 4 then 0 else 1
def mdH (m : Int) : Int := if m = 1 then 2147483647 else if m = 2 then 2147483646 else 0
theorem md_else {m : Int} (h1 : m ≠ 1) (h2 : m ≠ 2) (h3 : m ≠ 3) (h4 : m ≠ 4) : mdF m = 31 ∧ mdL m = 1 ∧ mdH m = 0 ∧ gT m = 0 ∧ bT m = 0 := by
  simp [mdF, mdL, mdH, gT, bT, h1, h2, h3, h4]
theorem gen_worldH {P : Program} {c : Code} {Q : Exit → Act → World → Prop} {a : Act} {W : World} (p : World → Prop) (hp : p W) (h : ∀ W', p W' → c.wp P Q a W') : c.wp P Q a W := h W hp
theorem gen_listH {P : Program} {ops : Array Oper} {Q : Exit → Act → World → Prop} {rest : List Oper} {a : Act} {W : World} (p : World → Prop) (hp : p W) (h : ∀ W', p W' → wpList P ops Q rest a W') : wpList P ops Q rest a W := h W hp
/-- The table. -/
def tabF : Array Value := #[fnv 31, .int .i64 1, .int .i64 0, .int .i64 0, .int .i64 0, fnv 32, .int .i64 (-2147483646), .int .i64 2147483647, .int .i64 1, .int .i64 0, fnv 33, .int .i64 (-2147483647), .int .i64 2147483646, .int .i64 (-1), .int .i64 0, fnv 34, .int .i64 0, .int .i64 0, .int .i64 0, .int .i64 0, fnv 31, .int .i64 0, .int .i64 0, .int .i64 0, .int .i64 (-1)]
def tabZ : Array Value := #[.nilFunc, .int .i64 0, .int .i64 0, .int .i64 0, .int .i64 0, .nilFunc, .int .i64 0, .int .i64 0, .int .i64 0, .int .i64 0, .nilFunc, .int .i64 0, .int .i64 0, .int .i64 0, .int .i64 0, .nilFunc, .int .i64 0, .int .i64 0, .int .i64 0, .int .i64 0, .nilFunc, .int .i64 0, .int .i64 0, .int .i64 0, .int .i64 0]
/-- The answer's own block, ahead of the table. -/
structure Rb (w X : World) : Prop where
  ret : ∀ j, j < 5 → ∃ v, X.cell? ⟨w.heap.size, j, none⟩ = some v
  free : ∀ j, X.frozen? ⟨w.heap.size, j, none⟩ = false
  bel : Below w.heap.size w X
theorem Rb.lt {w X : World} (h : Rb w X) : w.heap.size < X.heap.size := by
  obtain ⟨v, e⟩ := h.ret 0 (by decide)
  exact lt_of_cell e
theorem rb_new (w : World) (t : TypeId) : Rb w (w.alloc (.cells #[.nilFunc, .int .i64 0, .int .i64 0, .int .i64 0, .int .i64 0] t)) where
  ret := fun j hj => by
    match j, hj with
    | 0, _ => exact ⟨.nilFunc, by simp [go_sem]⟩
    | 1, _ => exact ⟨.int .i64 0, by simp [go_sem]⟩
    | 2, _ => exact ⟨.int .i64 0, by simp [go_sem]⟩
    | 3, _ => exact ⟨.int .i64 0, by simp [go_sem]⟩
    | 4, _ => exact ⟨.int .i64 0, by simp [go_sem]⟩
  free := fun j => by simp [go_sem]
  bel := by repeat (first | (with_reducible exact Below.refl _ _) | (with_reducible refine bl_alloc ?_ _) | (with_reducible refine Below.drew ?_) | (with_reducible refine bl_drewN ?_ _) | (with_reducible refine bl_set ?_ (by omega) _) | (with_reducible refine bl_step ?_ (by assumption)))
/-- Row k of the table lies there; the answer's cells too. -/
structure Tb (w : World) (T : Nat) (X : World) : Prop where
  cell : ∀ j, j < 25 → X.cell? ⟨T, j, none⟩ = tabF[j]?
  rb : Rb w X
  ne : w.heap.size < T
theorem tb_new {w V : World} (u : TypeId) (h : Rb w V) : Tb w V.heap.size (V.alloc (.cells tabF u)) where
  cell := fun j hj => cell_of_row _ _ j tabF u (0, 0) (heap_alloc_last _ _)
  rb := {
    ret := fun j hj => by
      obtain ⟨v, e⟩ := h.ret j hj
      exact ⟨v, by rw [World.cell?_alloc_lt _ _ _ h.lt]; exact e⟩
    free := fun j => by rw [World.frozen?_alloc_past _ _ _ h.lt]; exact h.free j
    bel := bl_alloc h.bel _ }
  ne := h.lt
theorem info_tab : (Try.prog.info? 62).map (·.size) = some tabF.size := by kernel_rfl
set_option maxRecDepth 100000 in
theorem mode_any (m : Int) (w : World) :
    Calls Try.prog 23 #[.int .i64 m] w fun e w' => e = .returned (mdv (fnv (mdF m)) (mdL m) (mdH m) (gT m) (bT m)) ∧ Below w.heap.size w w' := by
  obtain ⟨F, eF⟩ : ∃ x, mdF m = x := ⟨_, rfl⟩
  obtain ⟨L, eL⟩ : ∃ x, mdL m = x := ⟨_, rfl⟩
  obtain ⟨H, eH⟩ : ∃ x, mdH m = x := ⟨_, rfl⟩
  obtain ⟨G, eG⟩ : ∃ x, gT m = x := ⟨_, rfl⟩
  obtain ⟨B, eB⟩ : ∃ x, bT m = x := ⟨_, rfl⟩
  rw [eF, eL, eH, eG, eB]
  have E := hid1 (And.intro eF (And.intro eL (And.intro eH (And.intro eG eB))))
  clear eF eL eH eG eB
  go_enter Try.func23, Try.ntmps23
  go_upto_region 1 with fail
  refine gen_worldH (fun V => Rb w V) (rb_new w _) ?_
  intro V HV0
  have HV := hid1 HV0
  clear HV0
  refine wp_region_list ?_
  refine wpList_buildTo rfl 54 _ rfl (some 4) rfl #[fnv 31, .int .i64 1, .int .i64 0, .int .i64 0, .int .i64 0] (by kernel_rfl) ?_
  refine wpList_buildTo rfl 54 _ rfl (some 5) rfl #[fnv 32, .int .i64 (-2147483646), .int .i64 2147483647, .int .i64 1, .int .i64 0] (by kernel_rfl) ?_
  refine wpList_buildTo rfl 54 _ rfl (some 6) rfl #[fnv 33, .int .i64 (-2147483647), .int .i64 2147483646, .int .i64 (-1), .int .i64 0] (by kernel_rfl) ?_
  refine wpList_buildTo rfl 54 _ rfl (some 7) rfl #[fnv 34, .int .i64 0, .int .i64 0, .int .i64 0, .int .i64 0] (by kernel_rfl) ?_
  refine wpList_buildTo rfl 54 _ rfl (some 8) rfl #[fnv 31, .int .i64 0, .int .i64 0, .int .i64 0, .int .i64 (-1)] (by kernel_rfl) ?_
  refine wpList_buildTo rfl 62 _ rfl (some 9) rfl tabF (by kernel_rfl) ?_
  refine wpList_allocTo rfl (some 3) rfl (.pointer (some ⟨V.heap.size, 0, none⟩)) (.cells tabZ 62) (by kernel_rfl) ?_
  refine wpList_store_row rfl 62 _ _ rfl V.heap.size tabF (by kernel_rfl) (by kernel_rfl) 62 tabZ (heap_alloc_last V _) info_tab (by kernel_rfl) (by kernel_rfl) ?_
  rw [World.setRow_alloc_new]
  refine gen_listH (fun X => Tb w V.heap.size X) (tb_new _ HV.out) ?_
  intro X HX0
  have HX := hid1 HX0
  clear HX0
  generalize V.heap.size = T at *
  have B0 := HX.out.rb.bel
  have z := HX.out.ne
  have z1 : ¬ T = w.heap.size := by omega
  have z2 : ¬ w.heap.size = T := by omega
  have zx := HX.out.rb.lt
  obtain ⟨v0, r0⟩ := HX.out.rb.ret 0 (by decide)
  have f0 := HX.out.rb.free 0
  obtain ⟨v1, r1⟩ := HX.out.rb.ret 1 (by decide)
  have f1 := HX.out.rb.free 1
  obtain ⟨v2, r2⟩ := HX.out.rb.ret 2 (by decide)
  have f2 := HX.out.rb.free 2
  obtain ⟨v3, r3⟩ := HX.out.rb.ret 3 (by decide)
  have f3 := HX.out.rb.free 3
  obtain ⟨v4, r4⟩ := HX.out.rb.ret 4 (by decide)
  have f4 := HX.out.rb.free 4
  by_cases h1 : m = 1
  · subst h1
    obtain ⟨rfl, rfl, rfl, rfl, rfl⟩ := E.out
    clear E HV
    have c0 : X.cell? ⟨T, 5, none⟩ = some (fnv 32) := HX.out.cell 5 (by decide)
    have c1 : X.cell? ⟨T, 6, none⟩ = some (.int .i64 (-2147483646)) := HX.out.cell 6 (by decide)
    have c2 : X.cell? ⟨T, 7, none⟩ = some (.int .i64 2147483647) := HX.out.cell 7 (by decide)
    have c3 : X.cell? ⟨T, 8, none⟩ = some (.int .i64 1) := HX.out.cell 8 (by decide)
    have c4 : X.cell? ⟨T, 9, none⟩ = some (.int .i64 0) := HX.out.cell 9 (by decide)
    go_wp2
    simp [bodyPost, results, Try.results23, go_sem, *]
    exact ⟨by decide, bl_set (bl_set (bl_set (bl_set (bl_set B0 (Nat.le_refl _) _) (Nat.le_refl _) _) (Nat.le_refl _) _) (Nat.le_refl _) _) (Nat.le_refl _) _⟩
  by_cases h2 : m = 2
  · subst h2
    obtain ⟨rfl, rfl, rfl, rfl, rfl⟩ := E.out
    clear E HV
    have c0 : X.cell? ⟨T, 10, none⟩ = some (fnv 33) := HX.out.cell 10 (by decide)
    have c1 : X.cell? ⟨T, 11, none⟩ = some (.int .i64 (-2147483647)) := HX.out.cell 11 (by decide)
    have c2 : X.cell? ⟨T, 12, none⟩ = some (.int .i64 2147483646) := HX.out.cell 12 (by decide)
    have c3 : X.cell? ⟨T, 13, none⟩ = some (.int .i64 (-1)) := HX.out.cell 13 (by decide)
    have c4 : X.cell? ⟨T, 14, none⟩ = some (.int .i64 0) := HX.out.cell 14 (by decide)
    go_wp2
    simp [bodyPost, results, Try.results23, go_sem, *]
    exact ⟨by decide, bl_set (bl_set (bl_set (bl_set (bl_set B0 (Nat.le_refl _) _) (Nat.le_refl _) _) (Nat.le_refl _) _) (Nat.le_refl _) _) (Nat.le_refl _) _⟩
  by_cases h3 : m = 3
  · subst h3
    obtain ⟨rfl, rfl, rfl, rfl, rfl⟩ := E.out
    clear E HV
    have c0 : X.cell? ⟨T, 15, none⟩ = some (fnv 34) := HX.out.cell 15 (by decide)
    have c1 : X.cell? ⟨T, 16, none⟩ = some (.int .i64 0) := HX.out.cell 16 (by decide)
    have c2 : X.cell? ⟨T, 17, none⟩ = some (.int .i64 0) := HX.out.cell 17 (by decide)
    have c3 : X.cell? ⟨T, 18, none⟩ = some (.int .i64 0) := HX.out.cell 18 (by decide)
    have c4 : X.cell? ⟨T, 19, none⟩ = some (.int .i64 0) := HX.out.cell 19 (by decide)
    go_wp2
    simp [bodyPost, results, Try.results23, go_sem, *]
    exact ⟨by decide, bl_set (bl_set (bl_set (bl_set (bl_set B0 (Nat.le_refl _) _) (Nat.le_refl _) _) (Nat.le_refl _) _) (Nat.le_refl _) _) (Nat.le_refl _) _⟩
  by_cases h4 : m = 4
  · subst h4
    obtain ⟨rfl, rfl, rfl, rfl, rfl⟩ := E.out
    clear E HV
    have c0 : X.cell? ⟨T, 20, none⟩ = some (fnv 31) := HX.out.cell 20 (by decide)
    have c1 : X.cell? ⟨T, 21, none⟩ = some (.int .i64 0) := HX.out.cell 21 (by decide)
    have c2 : X.cell? ⟨T, 22, none⟩ = some (.int .i64 0) := HX.out.cell 22 (by decide)
    have c3 : X.cell? ⟨T, 23, none⟩ = some (.int .i64 0) := HX.out.cell 23 (by decide)
    have c4 : X.cell? ⟨T, 24, none⟩ = some (.int .i64 (-1)) := HX.out.cell 24 (by decide)
    go_wp2
    simp [bodyPost, results, Try.results23, go_sem, *]
    exact ⟨by decide, bl_set (bl_set (bl_set (bl_set (bl_set B0 (Nat.le_refl _) _) (Nat.le_refl _) _) (Nat.le_refl _) _) (Nat.le_refl _) _) (Nat.le_refl _) _⟩
  obtain ⟨e1, e2, e3, e4, e5⟩ := md_else h1 h2 h3 h4
  rw [e1, e2, e3, e4, e5] at E
  obtain ⟨rfl, rfl, rfl, rfl, rfl⟩ := E.out
  clear E HV e1 e2 e3 e4 e5
  by_cases hn : m < 0
  · clear h1 h2 h3 h4
    have c0 : X.cell? ⟨T, 0, none⟩ = some (fnv 31) := HX.out.cell 0 (by decide)
    have c1 : X.cell? ⟨T, 1, none⟩ = some (.int .i64 1) := HX.out.cell 1 (by decide)
    have c2 : X.cell? ⟨T, 2, none⟩ = some (.int .i64 0) := HX.out.cell 2 (by decide)
    have c3 : X.cell? ⟨T, 3, none⟩ = some (.int .i64 0) := HX.out.cell 3 (by decide)
    have c4 : X.cell? ⟨T, 4, none⟩ = some (.int .i64 0) := HX.out.cell 4 (by decide)
    go_wp2
    simp [bodyPost, results, Try.results23, go_sem, *]
    exact bl_set (bl_set (bl_set (bl_set (bl_set B0 (Nat.le_refl _) _) (Nat.le_refl _) _) (Nat.le_refl _) _) (Nat.le_refl _) _) (Nat.le_refl _) _
  · by_cases h5 : 5 ≤ m
    · clear h1 h2 h3 h4
      have c0 : X.cell? ⟨T, 0, none⟩ = some (fnv 31) := HX.out.cell 0 (by decide)
      have c1 : X.cell? ⟨T, 1, none⟩ = some (.int .i64 1) := HX.out.cell 1 (by decide)
      have c2 : X.cell? ⟨T, 2, none⟩ = some (.int .i64 0) := HX.out.cell 2 (by decide)
      have c3 : X.cell? ⟨T, 3, none⟩ = some (.int .i64 0) := HX.out.cell 3 (by decide)
      have c4 : X.cell? ⟨T, 4, none⟩ = some (.int .i64 0) := HX.out.cell 4 (by decide)
      have hn' : decide (m < 0) = false := decide_eq_false hn
      go_wp2
      simp [bodyPost, results, Try.results23, go_sem, *]
      exact bl_set (bl_set (bl_set (bl_set (bl_set B0 (Nat.le_refl _) _) (Nat.le_refl _) _) (Nat.le_refl _) _) (Nat.le_refl _) _) (Nat.le_refl _) _
    · obtain rfl : m = 0 := by omega
      clear h1 h2 h3 h4
      have c0 : X.cell? ⟨T, 0, none⟩ = some (fnv 31) := HX.out.cell 0 (by decide)
      have c1 : X.cell? ⟨T, 1, none⟩ = some (.int .i64 1) := HX.out.cell 1 (by decide)
      have c2 : X.cell? ⟨T, 2, none⟩ = some (.int .i64 0) := HX.out.cell 2 (by decide)
      have c3 : X.cell? ⟨T, 3, none⟩ = some (.int .i64 0) := HX.out.cell 3 (by decide)
      have c4 : X.cell? ⟨T, 4, none⟩ = some (.int .i64 0) := HX.out.cell 4 (by decide)
      go_wp2
      simp [bodyPost, results, Try.results23, go_sem, *]
      exact bl_set (bl_set (bl_set (bl_set (bl_set B0 (Nat.le_refl _) _) (Nat.le_refl _) _) (Nat.le_refl _) _) (Nat.le_refl _) _) (Nat.le_refl _) _
end Go.Proofs.Ytffhbfdbahdhoab
