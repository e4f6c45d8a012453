/- LISTS OF WIDES AND NUMBERS; WHAT BOTH ANSWER. -/
import Derived.Test.YtcjglbejmlebhaaDoorW39
namespace Go.Proofs.YtcjglbejmlebhaaDoor
open Go.RowKit Go.Shelf
attribute [local go_sem ↓] Go.wp_at_zero Go.wp_at_succ

def Lwi (W : World) (ao : Option Addr) (m : Nat) : Prop := ∀ k, k < m → ∃ (g o : Nat) (n : Int), ao = some ⟨g, o, none⟩ ∧ Rng n ∧ W.cell? ⟨g, o + k * 2, none⟩ = some (.int .i64 (hiOf n)) ∧ W.cell? ⟨g, o + k * 2 + 1, none⟩ = some (.int .u64 (loOf n))
def Li6 (W : World) (ao : Option Addr) (m : Nat) : Prop := ∀ k, k < m → ∃ (g o : Nat) (x : Int), ao = some ⟨g, o, none⟩ ∧ I64 x ∧ W.cell? ⟨g, o + k, none⟩ = some (.int .i64 x)
def Lst (W : World) (ao : Option Addr) (m : Nat) : Prop := ∀ k, k < m → ∃ (g o : Nat) (s : ByteArray), ao = some ⟨g, o, none⟩ ∧ s.size ≤ 281474976710656 ∧ W.cell? ⟨g, o + k, none⟩ = some (.string s)
theorem Lwi.keep {W w' : World} {ao : Option Addr} {m : Nat} (h : Lwi W ao m) (hb : Below W.heap.size W w') : Lwi w' ao m := fun k hk => by
  obtain ⟨g, o, x, e, r, a, b⟩ := h k hk
  exact ⟨g, o, x, e, r, keepc hb a, keepc hb b⟩
theorem Li6.keep {W w' : World} {ao : Option Addr} {m : Nat} (h : Li6 W ao m) (hb : Below W.heap.size W w') : Li6 w' ao m := fun k hk => by
  obtain ⟨g, o, x, e, r, a⟩ := h k hk
  exact ⟨g, o, x, e, r, keepc hb a⟩
theorem Lst.keep {W w' : World} {ao : Option Addr} {m : Nat} (h : Lst W ao m) (hb : Below W.heap.size W w') : Lst w' ao m := fun k hk => by
  obtain ⟨g, o, s, e, z, a⟩ := h k hk
  exact ⟨g, o, s, e, z, keepc hb a⟩
theorem kp3 {W X : World} {g o h q : Nat} {a b c : Value} (a0 : W.cell? ⟨g, o, none⟩ = some a) (a1 : W.cell? ⟨g, o + 1, none⟩ = some b) (b0 : W.cell? ⟨h, q, none⟩ = some c) (hb : Below W.heap.size W X) :
    X.cell? ⟨g, o, none⟩ = some a ∧ X.cell? ⟨g, o + 1, none⟩ = some b ∧ X.cell? ⟨h, q, none⟩ = some c := ⟨keepc hb a0, keepc hb a1, keepc hb b0⟩
theorem kq4 {W X : World} {g o h q : Nat} {a b c d : Value} (a0 : W.cell? ⟨g, o, none⟩ = some a) (a1 : W.cell? ⟨g, o + 1, none⟩ = some b) (b0 : W.cell? ⟨h, q, none⟩ = some c) (b1 : W.cell? ⟨h, q + 1, none⟩ = some d) (hb : Below W.heap.size W X) :
    X.cell? ⟨g, o, none⟩ = some a ∧ X.cell? ⟨g, o + 1, none⟩ = some b ∧ X.cell? ⟨h, q, none⟩ = some c ∧ X.cell? ⟨h, q + 1, none⟩ = some d := ⟨keepc hb a0, keepc hb a1, keepc hb b0, keepc hb b1⟩
theorem kq2 {W X : World} {g o h q : Nat} {a c : Value} (a0 : W.cell? ⟨g, o, none⟩ = some a) (b0 : W.cell? ⟨h, q, none⟩ = some c) (hb : Below W.heap.size W X) :
    X.cell? ⟨g, o, none⟩ = some a ∧ X.cell? ⟨h, q, none⟩ = some c := ⟨keepc hb a0, keepc hb b0⟩
/-- A new block for a wide. -/
abbrev Zw (W : World) (g : Nat) : Prop := Sv W g (.int .i64 0) (.int .u64 0)
theorem zw_new {W : World} {T : TypeId} {g : Nat} (hg : W.heap.size = g) : Zw (W.alloc (.cells #[.int .i64 0, .int .u64 0] T)) g := sv_new hg
theorem Sv.ownw {W : World} {g : Nat} {p q : Value} (h : Zw W g) : Sv ((W.setCell ⟨g, 0, none⟩ p).setCell ⟨g, 1, none⟩ q) g p q := Sv.own' h
set_option maxRecDepth 100000 in
theorem quotient_zer (a : Int) (away : Bool) (w : World) :
    Calls Tryd.prog 32 #[wv a, .int .i64 0, .bool away] w fun e w' => e = .returned (.tuple #[wv 0, .int .i64 11]) ∧ Below w.heap.size w w' := by
  go_enter Tryd.func32, Tryd.ntmps32
  go_wp2_with fail
  simp [bodyPost, results, Tryd.results32, go_sem]
  refine ⟨by decide, ?_⟩
  repeat (first | exact Below.refl _ _ | refine bl_alloc ?_ _ | refine Below.drew ?_ | refine bl_drewN ?_ _ | refine bl_set ?_ (by omega) _ | refine bl_step ?_ (by assumption))
set_option maxHeartbeats 1600000 in
set_option maxRecDepth 100000 in
theorem floor_zer (a : Int) (w : World) :
    Calls Tryd.prog 8 #[wv a, .int .i64 0] w fun e w' => e = .returned (.tuple #[wv 0, .int .i64 11]) ∧ Below w.heap.size w w' := by
  go_enter Tryd.func8, Tryd.ntmps8
  go_wp2_with fail
  refine gen_calls (fun W' => Below w.heap.size w W' ∧ Zw W' (w.heap.size + 1)) ⟨by repeat (first | exact Below.refl _ _ | refine bl_alloc ?_ _ | refine Below.drew ?_ | refine bl_drewN ?_ _ | refine bl_set ?_ (by omega) _ | refine bl_step ?_ (by assumption)), zw_new (by simp)⟩ ?_
  rintro W ⟨B0, z⟩
  refine (quotient_zer a _ _).mono ?_
  rintro e w1 ⟨rfl, hb1⟩
  obtain ⟨r0, r1, p0, p1⟩ := z.keep hb1
  have BB : Below w.heap.size w w1 := by repeat (first | exact Below.refl _ _ | refine bl_alloc ?_ _ | refine Below.drew ?_ | refine bl_drewN ?_ _ | refine bl_set ?_ (by omega) _ | refine bl_step ?_ (by assumption))
  clear hb1 B0
  go_wp2_with fail
  simp [bodyPost, results, Tryd.results8, go_sem, r0, r1]
  repeat (first | exact Below.refl _ _ | refine bl_alloc ?_ _ | refine Below.drew ?_ | refine bl_drewN ?_ _ | refine bl_set ?_ (by omega) _ | refine bl_step ?_ (by assumption))
theorem both_floor (a b : Int) (ha : Rng a) (hb : I64 b) : ∃ v e : Int, (∀ w : World, Calls Tryd.prog 8 #[wv a, .int .i64 b] w fun e' w' => e' = .returned (.tuple #[wv v, .int .i64 e]) ∧ Below w.heap.size w w') ∧
    (∀ w : World, Calls Tryd.prog 9 #[wv a, .int .i64 b] w fun e' w' => e' = .returned (.tuple #[wv v, .int .i64 e]) ∧ Below w.heap.size w w') := by
  by_cases h0 : b = 0
  · subst h0
    exact ⟨0, 11, floor_zer a, rfloor_zero a⟩
  · refine ⟨_, _, fun w => floor_any a b ha hb h0 (parts_well a b ha hb h0) w, fun w => ?_⟩
    rw [floor_is a b h0]
    exact rfloor_any a b ha hb h0 w
set_option maxHeartbeats 1600000 in
set_option maxRecDepth 100000 in
theorem ceil_zer (a : Int) (w : World) :
    Calls Tryd.prog 10 #[wv a, .int .i64 0] w fun e w' => e = .returned (.tuple #[wv 0, .int .i64 11]) ∧ Below w.heap.size w w' := by
  go_enter Tryd.func10, Tryd.ntmps10
  go_wp2_with fail
  refine gen_calls (fun W' => Below w.heap.size w W' ∧ Zw W' (w.heap.size + 1)) ⟨by repeat (first | exact Below.refl _ _ | refine bl_alloc ?_ _ | refine Below.drew ?_ | refine bl_drewN ?_ _ | refine bl_set ?_ (by omega) _ | refine bl_step ?_ (by assumption)), zw_new (by simp)⟩ ?_
  rintro W ⟨B0, z⟩
  refine (quotient_zer a _ _).mono ?_
  rintro e w1 ⟨rfl, hb1⟩
  obtain ⟨r0, r1, p0, p1⟩ := z.keep hb1
  have BB : Below w.heap.size w w1 := by repeat (first | exact Below.refl _ _ | refine bl_alloc ?_ _ | refine Below.drew ?_ | refine bl_drewN ?_ _ | refine bl_set ?_ (by omega) _ | refine bl_step ?_ (by assumption))
  clear hb1 B0
  go_wp2_with fail
  simp [bodyPost, results, Tryd.results10, go_sem, r0, r1]
  repeat (first | exact Below.refl _ _ | refine bl_alloc ?_ _ | refine Below.drew ?_ | refine bl_drewN ?_ _ | refine bl_set ?_ (by omega) _ | refine bl_step ?_ (by assumption))
theorem both_ceil (a b : Int) (ha : Rng a) (hb : I64 b) : ∃ v e : Int, (∀ w : World, Calls Tryd.prog 10 #[wv a, .int .i64 b] w fun e' w' => e' = .returned (.tuple #[wv v, .int .i64 e]) ∧ Below w.heap.size w w') ∧
    (∀ w : World, Calls Tryd.prog 11 #[wv a, .int .i64 b] w fun e' w' => e' = .returned (.tuple #[wv v, .int .i64 e]) ∧ Below w.heap.size w w') := by
  by_cases h0 : b = 0
  · subst h0
    exact ⟨0, 11, ceil_zer a, rceil_zero a⟩
  · refine ⟨_, _, fun w => ceil_any a b ha hb h0 (parts_well a b ha hb h0) w, fun w => ?_⟩
    rw [ceil_is a b h0]
    exact rceil_any a b ha hb h0 w
end Go.Proofs.YtcjglbejmlebhaaDoor
