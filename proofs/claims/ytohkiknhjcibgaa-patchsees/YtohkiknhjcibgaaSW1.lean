/- SHAPES: CHECK, ELEMS, WORDS OF THE PROGRAM, WALKED. -/
import Derived.Test.YtohkiknhjcibgaaRows
import Derived.WalkKit
import Derived.WalkSpells
import Derived.StillTactics
import Derived.Laws.Pointers
import Derived.RowKit3
import Derived.Below
import Derived.BigQuiet
import Derived.WalkLawsBesides
namespace Go.Proofs.Ytohkiknhjcibgaa.Sg
open Go.RowKit

def I64 (x : Int) : Prop := -9223372036854775808 ≤ x ∧ x ≤ 9223372036854775807
abbrev shp (h w c : Int) : Value := .agg #[.int .i64 h, .int .i64 w, .int .i64 c]
def Sides (h w c : Int) : Prop := (1 ≤ h ∧ h ≤ 4096) ∧ (1 ≤ w ∧ w ≤ 4096) ∧ (1 ≤ c ∧ c ≤ 4096)
instance (h w c : Int) : Decidable (Sides h w c) := by unfold Sides; infer_instance
def chk (h w c : Int) : Int := if Sides h w c then (if h * w * c > 16777216 then 31 else 0) else 30
theorem hid1 {p : Prop} (h : p) : Hid p := h
theorem bl_alloc {a w : World} (h : Below a.heap.size a w) (o : Obj) : Below a.heap.size a (w.alloc o) := h.alloc h.size o
theorem bl_step {a W w' : World} (h : Below a.heap.size a W) (hb : Below W.heap.size W w') : Below a.heap.size a w' := h.trans (hb.mono h.size)
theorem bl_set {a w : World} (h : Below a.heap.size a w) {b o : Nat} (hp : a.heap.size ≤ b) (u : Value) : Below a.heap.size a (w.setCell ⟨b, o, none⟩ u) := h.setCell hp u

theorem mul2 {a b : Int} (h1 : 1 ≤ a ∧ a ≤ 4096) (h2 : 1 ≤ b ∧ b ≤ 4096) : 1 ≤ a * b ∧ a * b ≤ 16777216 := by
  constructor
  · have := Int.mul_le_mul h1.1 h2.1 (by decide) (by omega); simpa using this
  · have := Int.mul_le_mul h1.2 h2.2 (by omega) (by decide); simpa using this
theorem mul3 {a b c : Int} (h : Sides a b c) : 1 ≤ a * b * c ∧ a * b * c ≤ 68719476736 := by
  have h0 := mul2 h.1 h.2.1
  constructor
  · have := Int.mul_le_mul h0.1 h.2.2.1 (by decide) (by omega); simpa using this
  · have := Int.mul_le_mul h0.2 h.2.2.2 (by have := h.2.2.1; omega) (by decide); simpa using this
theorem wr_id {x : Int} (h1 : -9223372036854775808 ≤ x) (h2 : x ≤ 9223372036854775807) : wrap64 x = x := by unfold wrap64; omega

def mn3 (x y z : Int) : Int := if z < (if y < x then y else x) then z else (if y < x then y else x)
def mx3 (x y z : Int) : Int := if (if x < y then y else x) < z then z else (if x < y then y else x)
theorem mn3_is (x y z : Int) : mn3 x y z ≤ x ∧ mn3 x y z ≤ y ∧ mn3 x y z ≤ z ∧ (mn3 x y z = x ∨ mn3 x y z = y ∨ mn3 x y z = z) := by
  unfold mn3; split <;> split at * <;> omega
theorem mx3_is (x y z : Int) : x ≤ mx3 x y z ∧ y ≤ mx3 x y z ∧ z ≤ mx3 x y z ∧ (mx3 x y z = x ∨ mx3 x y z = y ∨ mx3 x y z = z) := by
  unfold mx3; split <;> split at * <;> omega
set_option maxRecDepth 100000 in
theorem check_any (h v c : Int) (w : World) :
    Calls Try.prog 50 #[shp h v c] w fun e w' => e = .returned (.int .i64 (chk h v c)) ∧ Below w.heap.size w w' := by
  unfold chk
  obtain ⟨lo, n0⟩ : ∃ lo, lo = mn3 h v c := ⟨_, rfl⟩
  obtain ⟨hi, x0⟩ : ∃ hi, hi = mx3 h v c := ⟨_, rfl⟩
  have n1 := mn3_is h v c
  have x1 := mx3_is h v c
  have n2 : mn3 h v c = lo := n0.symm
  have x2 : mx3 h v c = hi := x0.symm
  rw [n2] at n1
  rw [x2] at x1
  unfold mn3 at n2
  unfold mx3 at x2
  clear n0 x0
  by_cases hs : Sides h v c
  · rw [if_pos hs]
    have m1 := mul2 hs.1 hs.2.1
    have m2 := mul3 hs
    have e1 := wr_id (x := h * v) (by omega) (by omega)
    have e2 := wr_id (x := h * v * c) (by omega) (by omega)
    obtain ⟨⟨a1, a2⟩, ⟨a3, a4⟩, a5, a6⟩ := hs
    have b1 : ¬ lo < 1 := by omega
    have b2 : ¬ hi > 4096 := by omega
    go_enter Try.func50, Try.ntmps50
    go_wp2
    all_goals (go_ret; exact ⟨rfl, bl_alloc (Below.refl _ _) _⟩)
  · rw [if_neg hs]
    unfold Sides at hs
    by_cases b1 : lo < 1
    · go_enter Try.func50, Try.ntmps50
      go_wp2
      all_goals (go_ret; exact ⟨rfl, bl_alloc (Below.refl _ _) _⟩)
    · have b2 : hi > 4096 := by omega
      go_enter Try.func50, Try.ntmps50
      go_wp2
      all_goals (go_ret; exact ⟨rfl, bl_alloc (Below.refl _ _) _⟩)
theorem bl_drewN {a w : World} (h : Below a.heap.size a w) (n : Nat) : Below a.heap.size a (w.drewN n) := by
  induction n with
  | zero => exact h
  | succ n ih => exact ih.drew
theorem keepc {W w' : World} (hb : Below W.heap.size W w') {b o : Nat} {v : Value} (h : W.cell? ⟨b, o, none⟩ = some v) : w'.cell? ⟨b, o, none⟩ = some v := by
  by_cases hlt : b < W.heap.size
  · exact (hb.cell (p := ⟨b, o, none⟩) hlt).trans h
  · exfalso
    have e : W.heap[b]? = none := Array.getElem?_eq_none (by omega)
    simp [World.cell?, e] at h
theorem gen_calls {P : Program} {f : FuncId} {args : Array Value} {Q : Ending → World → Prop} {W : World} (p : World → Prop) (hp : p W) (h : ∀ W', p W' → Calls P f args W' Q) : Calls P f args W Q := h W hp
/-- A shape's three cells. -/
def Sh (W : World) (g o : Nat) (h v c : Int) : Prop := W.cell? ⟨g, o, none⟩ = some (.int .i64 h) ∧ W.cell? ⟨g, o + 1, none⟩ = some (.int .i64 v) ∧ W.cell? ⟨g, o + 2, none⟩ = some (.int .i64 c)
theorem Sh.keep {W w' : World} {g o : Nat} {h v c : Int} (k : Sh W g o h v c) (hb : Below W.heap.size W w') : Sh w' g o h v c := ⟨keepc hb k.1, keepc hb k.2.1, keepc hb k.2.2⟩
theorem sh_new (W : World) (h v c : Int) (t : TypeId) : Sh (W.alloc (.cells #[.int .i64 h, .int .i64 v, .int .i64 c] t)) W.heap.size 0 h v c := by
  refine ⟨?_, ?_, ?_⟩ <;> simp [go_sem]
theorem chk_zero {h v c : Int} (k : chk h v c = 0) : Sides h v c ∧ h * v * c ≤ 16777216 := by
  unfold chk at k
  by_cases hs : Sides h v c
  · rw [if_pos hs] at k
    by_cases hb : h * v * c > 16777216
    · rw [if_pos hb] at k; omega
    · exact ⟨hs, by omega⟩
  · rw [if_neg hs] at k; omega
def elN (h v c : Int) : Int := if chk h v c = 0 then h * v * c else 0
def woN (h v c : Int) : Int := if chk h v c = 0 then h * v * ((c + 63) / 64) else 0
set_option maxRecDepth 100000 in
theorem words_any (h v c : Int) (w : World) :
    Calls Try.prog 45 #[shp h v c] w fun e w' => e = .returned (.tuple #[.int .i64 (woN h v c), .int .i64 (chk h v c)]) ∧ Below w.heap.size w w' := by
  have HC := check_any h v c
  unfold woN
  by_cases k : chk h v c = 0
  · rw [k] at HC ⊢
    rw [if_pos rfl]
    obtain ⟨hs, _⟩ := chk_zero k
    have m1 := mul2 hs.1 hs.2.1
    have s3 := hs.2.2
    have e1 := wr_id (x := h * v) (by omega) (by omega)
    have e3 := wr_id (x := c + 63) (by omega) (by omega)
    have e4 : Int.tdiv (c + 63) 64 = (c + 63) / 64 := Int.tdiv_eq_ediv_of_nonneg (by omega)
    have e5 := wr_id (x := (c + 63) / 64) (by omega) (by omega)
    have m3 := Int.mul_nonneg (show 0 ≤ h * v by omega) (show 0 ≤ (c + 63) / 64 by omega)
    have m4 := Int.mul_le_mul m1.2 (show (c + 63) / 64 ≤ 4096 by omega) (by omega) (by omega)
    have e6 := wr_id (x := h * v * ((c + 63) / 64)) (by omega) (by omega)
    go_enter Try.func45, Try.ntmps45
    go_wp2_with fail
    refine gen_calls (fun W => Below w.heap.size w W ∧ Sh W w.heap.size 0 h v c) ⟨bl_alloc (Below.refl _ _) _, sh_new _ _ _ _ _⟩ ?_
    rintro W ⟨B0, S0⟩
    refine (HC W).mono ?_
    rintro e w1 ⟨rfl, hb⟩
    obtain ⟨c0, c1, c2⟩ := S0.keep hb
    go_wp2_with fail
    go_ret2
    exact ⟨rfl, bl_step B0 hb⟩
  · rw [if_neg k]
    generalize chk h v c = q at *
    go_enter Try.func45, Try.ntmps45
    go_wp2_with fail
    refine gen_calls (fun W => Below w.heap.size w W) (bl_alloc (Below.refl _ _) _) ?_
    rintro W B0
    refine (HC W).mono ?_
    rintro e w1 ⟨rfl, hb⟩
    go_wp2_with fail
    go_ret2
    exact ⟨rfl, bl_step B0 hb⟩
end Go.Proofs.Ytohkiknhjcibgaa.Sg
