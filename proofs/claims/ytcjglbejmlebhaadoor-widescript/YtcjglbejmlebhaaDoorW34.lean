import Derived.Test.YtcjglbejmlebhaaDoorW33
import Derived.Test.YtcjglbejmlebhaaDoorM14
namespace Go.Proofs.YtcjglbejmlebhaaDoor
open Go.RowKit Go.Shelf
attribute [local go_sem ↓] Go.wp_at_zero Go.wp_at_succ

theorem cell_o {W : World} {g r o o' : Nat} {p v : Value} (h : W.cell? ⟨g, o, none⟩ = some v) (hne : g ≠ r) : (W.setCell ⟨r, o', none⟩ p).cell? ⟨g, o, none⟩ = some v := by
  simp [go_sem, *]
theorem cell_s0 {W : World} {r : Nat} {p q u v : Value} (h : W.cell? ⟨r, 0, none⟩ = some u) (h' : W.cell? ⟨r, 1, none⟩ = some v) : ((W.setCell ⟨r, 0, none⟩ p).setCell ⟨r, 1, none⟩ q).cell? ⟨r, 0, none⟩ = some p ∧ ((W.setCell ⟨r, 0, none⟩ p).setCell ⟨r, 1, none⟩ q).cell? ⟨r, 1, none⟩ = some q := by
  refine ⟨?_, ?_⟩ <;> simp [go_sem, h, h']
theorem froz_o {W : World} {g o r o' : Nat} {p : Value} (h : W.frozen? ⟨g, o, none⟩ = false) : (W.setCell ⟨r, o', none⟩ p).frozen? ⟨g, o, none⟩ = false := by
  simpa [go_sem] using h
/-- The memory of a division bit by bit. -/
structure St (w W : World) (oa : Option Addr) (a : List Int) (ca : Nat) (ob : Option Addr) (b : List Int) (cb : Nat) (sq : Bool) (oq : Option Addr) (lq cq : Nat) (sr : Bool) (oR : Option Addr) (lr cr : Nat) (Q R : Int) : Prop where
  bl : Below w.heap.size w W
  a1 : W.cell? ⟨w.heap.size, 1, none⟩ = some (.slice oa a.length ca)
  b1 : W.cell? ⟨w.heap.size + 1, 1, none⟩ = some (.slice ob b.length cb)
  u0 : W.cell? ⟨w.heap.size + 2, 0, none⟩ = some (.bool false)
  u1 : W.cell? ⟨w.heap.size + 2, 1, none⟩ = some (.slice none 0 0)
  v0 : W.cell? ⟨w.heap.size + 3, 0, none⟩ = some (.bool false)
  v1 : W.cell? ⟨w.heap.size + 3, 1, none⟩ = some (.slice none 0 0)
  q0 : W.cell? ⟨w.heap.size + 4, 0, none⟩ = some (.bool sq)
  q1 : W.cell? ⟨w.heap.size + 4, 1, none⟩ = some (.slice oq lq cq)
  r0 : W.cell? ⟨w.heap.size + 5, 0, none⟩ = some (.bool sr)
  r1 : W.cell? ⟨w.heap.size + 5, 1, none⟩ = some (.slice oR lr cr)
  fu0 : W.frozen? ⟨w.heap.size + 2, 0, none⟩ = false
  fu1 : W.frozen? ⟨w.heap.size + 2, 1, none⟩ = false
  fv0 : W.frozen? ⟨w.heap.size + 3, 0, none⟩ = false
  fv1 : W.frozen? ⟨w.heap.size + 3, 1, none⟩ = false
  fq0 : W.frozen? ⟨w.heap.size + 4, 0, none⟩ = false
  fq1 : W.frozen? ⟨w.heap.size + 4, 1, none⟩ = false
  fr0 : W.frozen? ⟨w.heap.size + 5, 0, none⟩ = false
  fr1 : W.frozen? ⟨w.heap.size + 5, 1, none⟩ = false
  ra : Rd W (.slice oa a.length ca) a
  rb : Rd W (.slice ob b.length cb) b
  hq : Bg W (.agg #[.bool sq, .slice oq lq cq]) Q
  hr : Bg W (.agg #[.bool sr, .slice oR lr cr]) R
theorem St.keep {w W W' : World} {oa ob oq oR : Option Addr} {a b : List Int} {ca cb lq cq lr cr : Nat} {sq sr : Bool} {Q R : Int} (h : St w W oa a ca ob b cb sq oq lq cq sr oR lr cr Q R) (hb : Below W.heap.size W W') : St w W' oa a ca ob b cb sq oq lq cq sr oR lr cr Q R where
  bl := bl_step h.bl hb
  a1 := keepc hb h.a1
  b1 := keepc hb h.b1
  u0 := keepc hb h.u0
  u1 := keepc hb h.u1
  v0 := keepc hb h.v0
  v1 := keepc hb h.v1
  q0 := keepc hb h.q0
  q1 := keepc hb h.q1
  r0 := keepc hb h.r0
  r1 := keepc hb h.r1
  fu0 := keepf hb (lt_of_cell h.u0) h.fu0
  fu1 := keepf hb (lt_of_cell h.u0) h.fu1
  fv0 := keepf hb (lt_of_cell h.v0) h.fv0
  fv1 := keepf hb (lt_of_cell h.v0) h.fv1
  fq0 := keepf hb (lt_of_cell h.q0) h.fq0
  fq1 := keepf hb (lt_of_cell h.q0) h.fq1
  fr0 := keepf hb (lt_of_cell h.r0) h.fr0
  fr1 := keepf hb (lt_of_cell h.r0) h.fr1
  ra := h.ra.below hb
  rb := h.rb.below hb
  hq := h.hq.below hb
  hr := h.hr.below hb
theorem St.setQ {w W : World} {oa ob oq oR o : Option Addr} {a b : List Int} {ca cb lq cq lr cr l c : Nat} {sq sr s : Bool} {Q R Z : Int} (h : St w W oa a ca ob b cb sq oq lq cq sr oR lr cr Q R) (hz : Bg W (.agg #[.bool s, .slice o l c]) Z) :
    St w ((W.setCell ⟨w.heap.size + 4, 0, none⟩ (.bool s)).setCell ⟨w.heap.size + 4, 1, none⟩ (.slice o l c)) oa a ca ob b cb s o l c sr oR lr cr Z R := by
  have k1 : ∃ s, W.cell? ⟨w.heap.size + 4, 0, none⟩ = some (.bool s) := ⟨_, h.q0⟩
  have k3 : ∃ s', (W.setCell ⟨w.heap.size + 4, 0, none⟩ (.bool s)).cell? ⟨w.heap.size + 4, 0, none⟩ = some (.bool s') := ⟨s, by simp [go_sem, h.q0]⟩
  obtain ⟨x0, x1⟩ := cell_s0 (p := .bool s) (q := .slice o l c) h.q0 h.q1
  exact {
    bl := bl_set (bl_set h.bl (by omega) _) (by omega) _
    a1 := cell_o (cell_o h.a1 (by omega)) (by omega)
    b1 := cell_o (cell_o h.b1 (by omega)) (by omega)
    u0 := cell_o (cell_o h.u0 (by omega)) (by omega)
    u1 := cell_o (cell_o h.u1 (by omega)) (by omega)
    v0 := cell_o (cell_o h.v0 (by omega)) (by omega)
    v1 := cell_o (cell_o h.v1 (by omega)) (by omega)
    q0 := x0
    q1 := x1
    r0 := cell_o (cell_o h.r0 (by omega)) (by omega)
    r1 := cell_o (cell_o h.r1 (by omega)) (by omega)
    fu0 := froz_o (froz_o h.fu0)
    fu1 := froz_o (froz_o h.fu1)
    fv0 := froz_o (froz_o h.fv0)
    fv1 := froz_o (froz_o h.fv1)
    fq0 := froz_o (froz_o h.fq0)
    fq1 := froz_o (froz_o h.fq1)
    fr0 := froz_o (froz_o h.fr0)
    fr1 := froz_o (froz_o h.fr1)
    ra := (h.ra.set k1).set k3
    rb := (h.rb.set k1).set k3
    hq := (hz.set k1).set k3
    hr := (h.hr.set k1).set k3 }
theorem St.setR {w W : World} {oa ob oq oR o : Option Addr} {a b : List Int} {ca cb lq cq lr cr l c : Nat} {sq sr s : Bool} {Q R Z : Int} (h : St w W oa a ca ob b cb sq oq lq cq sr oR lr cr Q R) (hz : Bg W (.agg #[.bool s, .slice o l c]) Z) :
    St w ((W.setCell ⟨w.heap.size + 5, 0, none⟩ (.bool s)).setCell ⟨w.heap.size + 5, 1, none⟩ (.slice o l c)) oa a ca ob b cb sq oq lq cq s o l c Q Z := by
  have k1 : ∃ s, W.cell? ⟨w.heap.size + 5, 0, none⟩ = some (.bool s) := ⟨_, h.r0⟩
  have k3 : ∃ s', (W.setCell ⟨w.heap.size + 5, 0, none⟩ (.bool s)).cell? ⟨w.heap.size + 5, 0, none⟩ = some (.bool s') := ⟨s, by simp [go_sem, h.r0]⟩
  obtain ⟨x0, x1⟩ := cell_s0 (p := .bool s) (q := .slice o l c) h.r0 h.r1
  exact {
    bl := bl_set (bl_set h.bl (by omega) _) (by omega) _
    a1 := cell_o (cell_o h.a1 (by omega)) (by omega)
    b1 := cell_o (cell_o h.b1 (by omega)) (by omega)
    u0 := cell_o (cell_o h.u0 (by omega)) (by omega)
    u1 := cell_o (cell_o h.u1 (by omega)) (by omega)
    v0 := cell_o (cell_o h.v0 (by omega)) (by omega)
    v1 := cell_o (cell_o h.v1 (by omega)) (by omega)
    q0 := cell_o (cell_o h.q0 (by omega)) (by omega)
    q1 := cell_o (cell_o h.q1 (by omega)) (by omega)
    r0 := x0
    r1 := x1
    fu0 := froz_o (froz_o h.fu0)
    fu1 := froz_o (froz_o h.fu1)
    fv0 := froz_o (froz_o h.fv0)
    fv1 := froz_o (froz_o h.fv1)
    fq0 := froz_o (froz_o h.fq0)
    fq1 := froz_o (froz_o h.fq1)
    fr0 := froz_o (froz_o h.fr0)
    fr1 := froz_o (froz_o h.fr1)
    ra := (h.ra.set k1).set k3
    rb := (h.rb.set k1).set k3
    hq := (h.hq.set k1).set k3
    hr := (hz.set k1).set k3 }
theorem st_new (w : World) (sa sb : Bool) (oa ob : Option Addr) (a b : List Int) (ca cb : Nat) (T1 T2 T3 T4 T5 T6 : TypeId) (ra : Rd w (.slice oa a.length ca) a) (rb : Rd w (.slice ob b.length cb) b) :
    St w ((((((w.alloc (.cells #[.bool sa, .slice oa a.length ca] T1)).alloc (.cells #[.bool sb, .slice ob b.length cb] T2)).alloc (.cells #[.bool false, .slice none 0 0] T3)).alloc (.cells #[.bool false, .slice none 0 0] T4)).alloc (.cells #[.bool false, .slice none 0 0] T5)).alloc (.cells #[.bool false, .slice none 0 0] T6)) oa a ca ob b cb false none 0 0 false none 0 0 0 0 := by
  have B : Below w.heap.size w ((((((w.alloc (.cells #[.bool sa, .slice oa a.length ca] T1)).alloc (.cells #[.bool sb, .slice ob b.length cb] T2)).alloc (.cells #[.bool false, .slice none 0 0] T3)).alloc (.cells #[.bool false, .slice none 0 0] T4)).alloc (.cells #[.bool false, .slice none 0 0] T5)).alloc (.cells #[.bool false, .slice none 0 0] T6)) := by repeat (first | exact Below.refl _ _ | refine bl_alloc ?_ _ | refine Below.drew ?_ | refine bl_drewN ?_ _ | refine bl_set ?_ (by omega) _ | refine bl_step ?_ (by assumption))
  have Z : ∀ W : World, Bg W (.agg #[.bool false, .slice none 0 0]) 0 := fun W => ⟨_, [], by simp, .inl ⟨rfl, rfl⟩, fun _ h => by simp at h, .inl rfl, rfl⟩
  exact { bl := B, a1 := by simp [go_sem], b1 := by simp [go_sem], u0 := by simp [go_sem], u1 := by simp [go_sem], v0 := by simp [go_sem], v1 := by simp [go_sem], q0 := by simp [go_sem], q1 := by simp [go_sem], r0 := by simp [go_sem], r1 := by simp [go_sem], fu0 := by simp [go_sem], fu1 := by simp [go_sem], fv0 := by simp [go_sem], fv1 := by simp [go_sem], fq0 := by simp [go_sem], fq1 := by simp [go_sem], fr0 := by simp [go_sem], fr1 := by simp [go_sem], ra := ra.below B, rb := rb.below B, hq := Z _, hr := Z _ }
def bitv (s : Nat) : Int := 32768 / 2 ^ s
theorem bit_facts : ∀ s : Fin 16, 0 < bitv s.1 ∧ bitv s.1 ≤ 32768 ∧ bitv s.1 / 2 = bitv (s.1 + 1) ∧ bitv s.1 = 2 ^ (15 - s.1) ∧ bitv (s.1 + 1) < bitv s.1 ∧ 0 ≤ bitv (s.1 + 1) := by decide
end Go.Proofs.YtcjglbejmlebhaaDoor
