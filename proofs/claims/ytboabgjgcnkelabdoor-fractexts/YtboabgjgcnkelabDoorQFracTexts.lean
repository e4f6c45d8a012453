import Derived.Test.YtboabgjgcnkelabDoorM13
import Derived.Test.YtboabgjgcnkelabDoorW33
import Derived.Test.YtboabgjgcnkelabDoorFM3
import Derived.Lib.ParseIntB
import Derived.Lib.Bytealg
import Derived.Lib.ItoaMem
import Derived.Test.YtboabgjgcnkelabDoorFW7
import Derived.Lib.AtoiErrMem
import Derived.Deep.DeepCutAuto
import Derived.Lib.SlBytesRow
import Derived.StillTailTactics
import Derived.ProofKit
import Derived.LaidMore
import Derived.LaidSub
import Derived.MakeChecks
import Derived.OpenShut
import Derived.ShutString
import Derived.ChangeOld
import Derived.Stop.Joined
import Derived.Lib.SmallJoins
import Derived.SizedLaws
import Derived.Deep.Slices
import Derived.ChangeSame
import Derived.SliceStrings
import Derived.Stop.LaidErr
import Derived.Test.YtboabgjgcnkelabDoorCards
import Derived.Test.YtboabgjgcnkelabDoorTie
import Derived.SevenTiedAt
namespace Go.Proofs.YtboabgjgcnkelabDoor
open Go.RowKit Go.Shelf

/-- What of a number has been gone through: all above, and s bits of the digit at hand. -/
def pre (H D : Int) (s : Nat) : Int := H * 2 ^ s + D / 2 ^ (16 - s)
theorem pre_zero {H D : Int} (h : 0 ≤ D ∧ D < 65536) : pre H D 0 = H := by
  unfold pre
  have e : D / 2 ^ (16 - 0) = 0 := Int.ediv_eq_zero_of_lt h.1 (by simpa using h.2)
  rw [e]; simp
theorem pre_end (H D : Int) : pre H D 16 = H * 65536 + D := by
  unfold pre
  simp
theorem pre_step (H D : Int) {s : Nat} (hs : s < 16) : pre H D (s + 1) = 2 * pre H D s + D / 2 ^ (15 - s) % 2 := by
  unfold pre
  rw [show 16 - (s + 1) = 15 - s by omega, show 16 - s = (15 - s) + 1 by omega, Int.pow_succ, Int.pow_succ]
  have hp : (0 : Int) ≤ 2 ^ (15 - s) := Int.le_of_lt (Int.pow_pos (by decide))
  generalize (2 : Int) ^ (15 - s) = p at *
  have e : D / (p * 2) = D / p / 2 := (Int.ediv_ediv_of_nonneg hp).symm
  rw [e, ← Int.mul_assoc]
  generalize H * 2 ^ s = h
  generalize D / p = E
  omega
theorem drop_val {a : List Int} {i : Nat} (h : i < a.length) : val (a.drop i) = val (a.drop (i + 1)) * 65536 + dat a i := by
  rw [List.drop_eq_getElem_cons h]
  simp only [val, dat, List.getElem?_eq_getElem h, Option.getD_some]
  omega
theorem pre_nonneg {H D : Int} (hH : 0 ≤ H) (hD : 0 ≤ D) (s : Nat) : 0 ≤ pre H D s := by
  unfold pre
  have a1 : (0 : Int) < 2 ^ s := Int.pow_pos (by decide)
  have a2 : (0 : Int) < 2 ^ (16 - s) := Int.pow_pos (by decide)
  have := Int.mul_nonneg hH (Int.le_of_lt a1)
  have := Int.ediv_nonneg hD (Int.le_of_lt a2)
  omega
/-- One step of a division bit by bit: where r is at least b, b is taken off. -/
theorem part_step {P q r b t : Int} (h : P = q * b + r) (h1 : 0 ≤ r) (h2 : r < b) (ht : t = 0 ∨ t = 1) :
    (b ≤ 2 * r + t → 2 * P + t = (2 * q + 1) * b + (2 * r + t - b) ∧ 0 ≤ 2 * r + t - b ∧ 2 * r + t - b < b) ∧
    (2 * r + t < b → 2 * P + t = (2 * q) * b + (2 * r + t) ∧ 0 ≤ 2 * r + t) := by
  have e1 : (2 * q + 1) * b = 2 * (q * b) + b := by rw [Int.add_mul, Int.mul_assoc]; omega
  have e2 : (2 * q) * b = 2 * (q * b) := by rw [Int.mul_assoc]
  refine ⟨fun k => ?_, fun k => ?_⟩
  · rw [e1]; omega
  · rw [e2]; omega
end Go.Proofs.YtboabgjgcnkelabDoor
namespace Go.Proofs.YtboabgjgcnkelabDoor
open Go.RowKit Go.Shelf
attribute [local go_sem ↓] Go.wp_at_zero Go.wp_at_succ

theorem cell_o {W : World} {g r o o' : Nat} {p v : Value} (h : W.cell? ⟨g, o, none⟩ = some v) (hne : g ≠ r) : (W.setCell ⟨r, o', none⟩ p).cell? ⟨g, o, none⟩ = some v := by
  simp [go_sem, *]
theorem cell_s0 {W : World} {r : Nat} {p q u v : Value} (h : W.cell? ⟨r, 0, none⟩ = some u) (h' : W.cell? ⟨r, 1, none⟩ = some v) : ((W.setCell ⟨r, 0, none⟩ p).setCell ⟨r, 1, none⟩ q).cell? ⟨r, 0, none⟩ = some p ∧ ((W.setCell ⟨r, 0, none⟩ p).setCell ⟨r, 1, none⟩ q).cell? ⟨r, 1, none⟩ = some q := by
  refine ⟨?_, ?_⟩ <;> simp [go_sem, h, h']
theorem froz_o {W : World} {g o r o' : Nat} {p : Value} (h : W.frozen? ⟨g, o, none⟩ = false) : (W.setCell ⟨r, o', none⟩ p).frozen? ⟨g, o, none⟩ = false := by
  simpa [go_sem] using h
/-- The memory of a division bit by bit. -/
structure St (w W : World) (oa : Option Addr) (a : List Int) (ca : Nat) (ob : Option Addr) (b : List Int) (cb : Nat) (sq : Bool) (oq : Option Addr) (lq cq : Nat) (sr : Bool) (oR : Option Addr) (lr cr : Nat) (Q R : Int) : Prop where
  bl : Below w.heap.size w W
  a1 : W.cell? ⟨w.heap.size, 1, none⟩ = some (.slice oa a.length ca)
  b1 : W.cell? ⟨w.heap.size + 1, 1, none⟩ = some (.slice ob b.length cb)
  u0 : W.cell? ⟨w.heap.size + 2, 0, none⟩ = some (.bool false)
  u1 : W.cell? ⟨w.heap.size + 2, 1, none⟩ = some (.slice none 0 0)
  v0 : W.cell? ⟨w.heap.size + 3, 0, none⟩ = some (.bool false)
  v1 : W.cell? ⟨w.heap.size + 3, 1, none⟩ = some (.slice none 0 0)
  q0 : W.cell? ⟨w.heap.size + 4, 0, none⟩ = some (.bool sq)
  q1 : W.cell? ⟨w.heap.size + 4, 1, none⟩ = some (.slice oq lq cq)
  r0 : W.cell? ⟨w.heap.size + 5, 0, none⟩ = some (.bool sr)
  r1 : W.cell? ⟨w.heap.size + 5, 1, none⟩ = some (.slice oR lr cr)
  fu0 : W.frozen? ⟨w.heap.size + 2, 0, none⟩ = false
  fu1 : W.frozen? ⟨w.heap.size + 2, 1, none⟩ = false
  fv0 : W.frozen? ⟨w.heap.size + 3, 0, none⟩ = false
  fv1 : W.frozen? ⟨w.heap.size + 3, 1, none⟩ = false
  fq0 : W.frozen? ⟨w.heap.size + 4, 0, none⟩ = false
  fq1 : W.frozen? ⟨w.heap.size + 4, 1, none⟩ = false
  fr0 : W.frozen? ⟨w.heap.size + 5, 0, none⟩ = false
  fr1 : W.frozen? ⟨w.heap.size + 5, 1, none⟩ = false
  ra : Rd W (.slice oa a.length ca) a
  rb : Rd W (.slice ob b.length cb) b
  hq : Bg W (.agg #[.bool sq, .slice oq lq cq]) Q
  hr : Bg W (.agg #[.bool sr, .slice oR lr cr]) R
theorem St.keep {w W W' : World} {oa ob oq oR : Option Addr} {a b : List Int} {ca cb lq cq lr cr : Nat} {sq sr : Bool} {Q R : Int} (h : St w W oa a ca ob b cb sq oq lq cq sr oR lr cr Q R) (hb : Below W.heap.size W W') : St w W' oa a ca ob b cb sq oq lq cq sr oR lr cr Q R where
  bl := bl_step h.bl hb
  a1 := keepc hb h.a1
  b1 := keepc hb h.b1
  u0 := keepc hb h.u0
  u1 := keepc hb h.u1
  v0 := keepc hb h.v0
  v1 := keepc hb h.v1
  q0 := keepc hb h.q0
  q1 := keepc hb h.q1
  r0 := keepc hb h.r0
  r1 := keepc hb h.r1
  fu0 := keepf hb (lt_of_cell h.u0) h.fu0
  fu1 := keepf hb (lt_of_cell h.u0) h.fu1
  fv0 := keepf hb (lt_of_cell h.v0) h.fv0
  fv1 := keepf hb (lt_of_cell h.v0) h.fv1
  fq0 := keepf hb (lt_of_cell h.q0) h.fq0
  fq1 := keepf hb (lt_of_cell h.q0) h.fq1
  fr0 := keepf hb (lt_of_cell h.r0) h.fr0
  fr1 := keepf hb (lt_of_cell h.r0) h.fr1
  ra := h.ra.below hb
  rb := h.rb.below hb
  hq := h.hq.below hb
  hr := h.hr.below hb
theorem St.setQ {w W : World} {oa ob oq oR o : Option Addr} {a b : List Int} {ca cb lq cq lr cr l c : Nat} {sq sr s : Bool} {Q R Z : Int} (h : St w W oa a ca ob b cb sq oq lq cq sr oR lr cr Q R) (hz : Bg W (.agg #[.bool s, .slice o l c]) Z) :
    St w ((W.setCell ⟨w.heap.size + 4, 0, none⟩ (.bool s)).setCell ⟨w.heap.size + 4, 1, none⟩ (.slice o l c)) oa a ca ob b cb s o l c sr oR lr cr Z R := by
  have k1 : ∃ s, W.cell? ⟨w.heap.size + 4, 0, none⟩ = some (.bool s) := ⟨_, h.q0⟩
  have k3 : ∃ s', (W.setCell ⟨w.heap.size + 4, 0, none⟩ (.bool s)).cell? ⟨w.heap.size + 4, 0, none⟩ = some (.bool s') := ⟨s, by simp [go_sem, h.q0]⟩
  obtain ⟨x0, x1⟩ := cell_s0 (p := .bool s) (q := .slice o l c) h.q0 h.q1
  exact {
    bl := bl_set (bl_set h.bl (by omega) _) (by omega) _
    a1 := cell_o (cell_o h.a1 (by omega)) (by omega)
    b1 := cell_o (cell_o h.b1 (by omega)) (by omega)
    u0 := cell_o (cell_o h.u0 (by omega)) (by omega)
    u1 := cell_o (cell_o h.u1 (by omega)) (by omega)
    v0 := cell_o (cell_o h.v0 (by omega)) (by omega)
    v1 := cell_o (cell_o h.v1 (by omega)) (by omega)
    q0 := x0
    q1 := x1
    r0 := cell_o (cell_o h.r0 (by omega)) (by omega)
    r1 := cell_o (cell_o h.r1 (by omega)) (by omega)
    fu0 := froz_o (froz_o h.fu0)
    fu1 := froz_o (froz_o h.fu1)
    fv0 := froz_o (froz_o h.fv0)
    fv1 := froz_o (froz_o h.fv1)
    fq0 := froz_o (froz_o h.fq0)
    fq1 := froz_o (froz_o h.fq1)
    fr0 := froz_o (froz_o h.fr0)
    fr1 := froz_o (froz_o h.fr1)
    ra := (h.ra.set k1).set k3
    rb := (h.rb.set k1).set k3
    hq := (hz.set k1).set k3
    hr := (h.hr.set k1).set k3 }
theorem St.setR {w W : World} {oa ob oq oR o : Option Addr} {a b : List Int} {ca cb lq cq lr cr l c : Nat} {sq sr s : Bool} {Q R Z : Int} (h : St w W oa a ca ob b cb sq oq lq cq sr oR lr cr Q R) (hz : Bg W (.agg #[.bool s, .slice o l c]) Z) :
    St w ((W.setCell ⟨w.heap.size + 5, 0, none⟩ (.bool s)).setCell ⟨w.heap.size + 5, 1, none⟩ (.slice o l c)) oa a ca ob b cb sq oq lq cq s o l c Q Z := by
  have k1 : ∃ s, W.cell? ⟨w.heap.size + 5, 0, none⟩ = some (.bool s) := ⟨_, h.r0⟩
  have k3 : ∃ s', (W.setCell ⟨w.heap.size + 5, 0, none⟩ (.bool s)).cell? ⟨w.heap.size + 5, 0, none⟩ = some (.bool s') := ⟨s, by simp [go_sem, h.r0]⟩
  obtain ⟨x0, x1⟩ := cell_s0 (p := .bool s) (q := .slice o l c) h.r0 h.r1
  exact {
    bl := bl_set (bl_set h.bl (by omega) _) (by omega) _
    a1 := cell_o (cell_o h.a1 (by omega)) (by omega)
    b1 := cell_o (cell_o h.b1 (by omega)) (by omega)
    u0 := cell_o (cell_o h.u0 (by omega)) (by omega)
    u1 := cell_o (cell_o h.u1 (by omega)) (by omega)
    v0 := cell_o (cell_o h.v0 (by omega)) (by omega)
    v1 := cell_o (cell_o h.v1 (by omega)) (by omega)
    q0 := cell_o (cell_o h.q0 (by omega)) (by omega)
    q1 := cell_o (cell_o h.q1 (by omega)) (by omega)
    r0 := x0
    r1 := x1
    fu0 := froz_o (froz_o h.fu0)
    fu1 := froz_o (froz_o h.fu1)
    fv0 := froz_o (froz_o h.fv0)
    fv1 := froz_o (froz_o h.fv1)
    fq0 := froz_o (froz_o h.fq0)
    fq1 := froz_o (froz_o h.fq1)
    fr0 := froz_o (froz_o h.fr0)
    fr1 := froz_o (froz_o h.fr1)
    ra := (h.ra.set k1).set k3
    rb := (h.rb.set k1).set k3
    hq := (h.hq.set k1).set k3
    hr := (hz.set k1).set k3 }
theorem st_new (w : World) (sa sb : Bool) (oa ob : Option Addr) (a b : List Int) (ca cb : Nat) (T1 T2 T3 T4 T5 T6 : TypeId) (ra : Rd w (.slice oa a.length ca) a) (rb : Rd w (.slice ob b.length cb) b) :
    St w ((((((w.alloc (.cells #[.bool sa, .slice oa a.length ca] T1)).alloc (.cells #[.bool sb, .slice ob b.length cb] T2)).alloc (.cells #[.bool false, .slice none 0 0] T3)).alloc (.cells #[.bool false, .slice none 0 0] T4)).alloc (.cells #[.bool false, .slice none 0 0] T5)).alloc (.cells #[.bool false, .slice none 0 0] T6)) oa a ca ob b cb false none 0 0 false none 0 0 0 0 := by
  have B : Below w.heap.size w ((((((w.alloc (.cells #[.bool sa, .slice oa a.length ca] T1)).alloc (.cells #[.bool sb, .slice ob b.length cb] T2)).alloc (.cells #[.bool false, .slice none 0 0] T3)).alloc (.cells #[.bool false, .slice none 0 0] T4)).alloc (.cells #[.bool false, .slice none 0 0] T5)).alloc (.cells #[.bool false, .slice none 0 0] T6)) := by repeat (first | exact Below.refl _ _ | refine bl_alloc ?_ _ | refine Below.drew ?_ | refine bl_drewN ?_ _ | refine bl_set ?_ (by omega) _ | refine bl_step ?_ (by assumption))
  have Z : ∀ W : World, Bg W (.agg #[.bool false, .slice none 0 0]) 0 := fun W => ⟨_, [], by simp, .inl ⟨rfl, rfl⟩, fun _ h => by simp at h, .inl rfl, rfl⟩
  exact { bl := B, a1 := by simp [go_sem], b1 := by simp [go_sem], u0 := by simp [go_sem], u1 := by simp [go_sem], v0 := by simp [go_sem], v1 := by simp [go_sem], q0 := by simp [go_sem], q1 := by simp [go_sem], r0 := by simp [go_sem], r1 := by simp [go_sem], fu0 := by simp [go_sem], fu1 := by simp [go_sem], fv0 := by simp [go_sem], fv1 := by simp [go_sem], fq0 := by simp [go_sem], fq1 := by simp [go_sem], fr0 := by simp [go_sem], fr1 := by simp [go_sem], ra := ra.below B, rb := rb.below B, hq := Z _, hr := Z _ }
def bitv (s : Nat) : Int := 32768 / 2 ^ s
theorem bit_facts : ∀ s : Fin 16, 0 < bitv s.1 ∧ bitv s.1 ≤ 32768 ∧ bitv s.1 / 2 = bitv (s.1 + 1) ∧ bitv s.1 = 2 ^ (15 - s.1) ∧ bitv (s.1 + 1) < bitv s.1 ∧ 0 ≤ bitv (s.1 + 1) := by decide
end Go.Proofs.YtboabgjgcnkelabDoor
namespace Go.Proofs.YtboabgjgcnkelabDoor
open Go.RowKit Go.Shelf
attribute [local go_sem ↓] Go.wp_at_zero Go.wp_at_succ

theorem gen_then {K : Act → World → Prop} {Q : Exit → Act → World → Prop} {a : Act} {W : World} (p : World → Prop) (hp : p W) (h : ∀ W', p W' → Exit.then K Q .normal a W') : Exit.then K Q .normal a W := h W hp
theorem gen_any {F : Act → World → Prop} {a : Act} {W : World} (p : World → Prop) (hp : p W) (h : ∀ W', p W' → F a W') : F a W := h W hp
theorem bd40 {x p : Int} (hp : p = 65536 ^ 16) (h0 : 0 ≤ x) (h : x < 4 * p) : (x.natAbs : Int) < 65536 ^ 40 := by
  have h1 : (x.natAbs : Int) < 4 * p := by omega
  rw [hp] at h1
  exact Int.lt_of_lt_of_le h1 (by decide)
theorem pre_le {H D : Int} (hH : 0 ≤ H) (hD : 0 ≤ D) {s : Nat} (hs : s ≤ 16) : pre H D s ≤ H * 65536 + D := by
  unfold pre
  have h1 : (2 : Int) ^ s ≤ 65536 := by
    have : ∀ s : Fin 17, (2 : Int) ^ s.1 ≤ 65536 := by decide
    exact this ⟨s, by omega⟩
  have h2 : (1 : Int) ≤ 2 ^ (16 - s) := by
    have : (0 : Int) < 2 ^ (16 - s) := Int.pow_pos (by decide)
    omega
  have h3 := Int.mul_le_mul_of_nonneg_left h1 hH
  have h4 := Int.ediv_le_self (2 ^ (16 - s)) hD
  omega
theorem part2 {Q R B t X R' : Int} (hX : X = 2 * (Q * B + R) + t) (h1 : 0 ≤ R) (h2 : R < B) (ht : t = 0 ∨ t = 1) (hQ : 0 ≤ Q) (hR' : R' = R + R + t) :
    (B ≤ R' → X = (Q + Q + 1) * B + (R' - B) ∧ 0 ≤ R' - B ∧ R' - B < B ∧ 0 ≤ Q + Q + 1) ∧ (¬ B ≤ R' → X = (Q + Q) * B + R' ∧ 0 ≤ R' ∧ R' < B ∧ 0 ≤ Q + Q) := by
  have e1 : (Q + Q + 1) * B = Q * B + Q * B + B := by rw [Int.add_mul, Int.add_mul, Int.one_mul]
  have e2 : (Q + Q) * B = Q * B + Q * B := by rw [Int.add_mul]
  rw [e1, e2]
  generalize Q * B = q at *
  omega
theorem div_un {x q r b : Int} (h : x = q * b + r) (h1 : 0 ≤ r) (h2 : r < b) : x / b = q ∧ x % b = r :=
  (Int.ediv_emod_unique (by omega)).2 ⟨by rw [h, Int.mul_comm q b]; omega, h1, h2⟩
theorem St.done {w W : World} {oa ob oq oR : Option Addr} {a b : List Int} {ca cb lq cq lr cr : Nat} {sq sr : Bool} {Q R : Int} (h : St w W oa a ca ob b cb sq oq lq cq sr oR lr cr Q R) {X : World}
    (hX : X = ((((W.setCell ⟨w.heap.size + 2, 0, none⟩ (.bool sq)).setCell ⟨w.heap.size + 2, 1, none⟩ (.slice oq lq cq)).setCell ⟨w.heap.size + 3, 0, none⟩ (.bool sr)).setCell ⟨w.heap.size + 3, 1, none⟩ (.slice oR lr cr)).drew) :
    X.cell? ⟨w.heap.size + 2, 0, none⟩ = some (.bool sq) ∧ X.cell? ⟨w.heap.size + 2, 1, none⟩ = some (.slice oq lq cq) ∧ X.cell? ⟨w.heap.size + 3, 0, none⟩ = some (.bool sr) ∧ X.cell? ⟨w.heap.size + 3, 1, none⟩ = some (.slice oR lr cr) ∧
      Bg X (.agg #[.bool sq, .slice oq lq cq]) Q ∧ Bg X (.agg #[.bool sr, .slice oR lr cr]) R ∧ Below w.heap.size w X := by
  subst hX
  obtain ⟨x0, x1⟩ := cell_s0 (p := .bool sq) (q := .slice oq lq cq) h.u0 h.u1
  have y0 : ((W.setCell ⟨w.heap.size + 2, 0, none⟩ (.bool sq)).setCell ⟨w.heap.size + 2, 1, none⟩ (.slice oq lq cq)).cell? ⟨w.heap.size + 3, 0, none⟩ = some (.bool false) := cell_o (cell_o h.v0 (by omega)) (by omega)
  have y1 : ((W.setCell ⟨w.heap.size + 2, 0, none⟩ (.bool sq)).setCell ⟨w.heap.size + 2, 1, none⟩ (.slice oq lq cq)).cell? ⟨w.heap.size + 3, 1, none⟩ = some (.slice none 0 0) := cell_o (cell_o h.v1 (by omega)) (by omega)
  obtain ⟨z0, z1⟩ := cell_s0 (p := .bool sr) (q := .slice oR lr cr) y0 y1
  have k1 : ∃ s', W.cell? ⟨w.heap.size + 2, 0, none⟩ = some (.bool s') := ⟨_, h.u0⟩
  have k2 : ∃ s', (W.setCell ⟨w.heap.size + 2, 0, none⟩ (.bool sq)).cell? ⟨w.heap.size + 2, 0, none⟩ = some (.bool s') := ⟨sq, by simp [go_sem, h.u0]⟩
  have k3 : ∃ s', ((W.setCell ⟨w.heap.size + 2, 0, none⟩ (.bool sq)).setCell ⟨w.heap.size + 2, 1, none⟩ (.slice oq lq cq)).cell? ⟨w.heap.size + 3, 0, none⟩ = some (.bool s') := ⟨_, y0⟩
  have k4 : ∃ s', (((W.setCell ⟨w.heap.size + 2, 0, none⟩ (.bool sq)).setCell ⟨w.heap.size + 2, 1, none⟩ (.slice oq lq cq)).setCell ⟨w.heap.size + 3, 0, none⟩ (.bool sr)).cell? ⟨w.heap.size + 3, 0, none⟩ = some (.bool s') := ⟨sr, by simp [go_sem, y0]⟩
  have D := (Below.refl ((((W.setCell ⟨w.heap.size + 2, 0, none⟩ (.bool sq)).setCell ⟨w.heap.size + 2, 1, none⟩ (.slice oq lq cq)).setCell ⟨w.heap.size + 3, 0, none⟩ (.bool sr)).setCell ⟨w.heap.size + 3, 1, none⟩ (.slice oR lr cr)).heap.size ((((W.setCell ⟨w.heap.size + 2, 0, none⟩ (.bool sq)).setCell ⟨w.heap.size + 2, 1, none⟩ (.slice oq lq cq)).setCell ⟨w.heap.size + 3, 0, none⟩ (.bool sr)).setCell ⟨w.heap.size + 3, 1, none⟩ (.slice oR lr cr))).drew
  exact ⟨keepc D (cell_o (cell_o x0 (by omega)) (by omega)), keepc D (cell_o (cell_o x1 (by omega)) (by omega)), keepc D z0, keepc D z1,
    ((((h.hq.set k1).set k2).set k3).set k4).below D, ((((h.hr.set k1).set k2).set k3).set k4).below D, bl_step (bl_set (bl_set (bl_set (bl_set h.bl (by omega) _) (by omega) _) (by omega) _) (by omega) _) D⟩
theorem len_ge {a b : List Int} (ha : Dg a) (hb : Dg b) (tb : Tr b) (h : val b ≤ val a) : b.length ≤ a.length := by
  rcases Nat.lt_or_ge a.length b.length with h1 | h1
  · have := cmp_len ha hb tb h1; omega
  · exact h1
set_option maxHeartbeats 6400000 in
set_option maxRecDepth 100000 in
theorem parts_any (a b : List Int) (sa sb : Bool) (oa ob : Option Addr) (ca cb : Nat) (B p : Int) (w : World) (ra : Rd w (.slice oa a.length ca) a) (rb : Rd w (.slice ob b.length cb) b) (da : Dg a) (db : Dg b) (tb : Tr b) (vb : val b = B) (hB : 0 < B) (la : a.length ≤ 16) (lb : b.length ≤ 16)
    (hp : p = 65536 ^ 16) (bB : B < p) (bA : ∀ k, val (a.drop k) < p) :
    Calls Tryd.prog 41 #[.agg #[.bool sa, .slice oa a.length ca], .agg #[.bool sb, .slice ob b.length cb]] w fun e w' => ∃ q r, e = .returned (.tuple #[q, r]) ∧ Bg w' q (val a / B) ∧ Bg w' r (val a % B) ∧ Below w.heap.size w w' := by
  have BD : Hid (∀ x : Int, 0 ≤ x → x < 4 * p → (x.natAbs : Int) < 65536 ^ 40) := hid1 (fun x h0 h1 => bd40 hp h0 h1)
  have DA := hid1 da
  have DB := hid1 db
  have TB := hid1 tb
  have BA := hid1 bA
  have p1 : 1 < p := by omega
  have S0 := hid1 (And.intro ra rb)
  clear da db tb bA ra rb hp
  have em := (show wrap64 ((a.length : Int) - 1) = (a.length : Int) - 1 by unfold wrap64; omega)
  go_enter Tryd.func41, Tryd.ntmps41
  go_wp2_with fail
  go_loopw [8] (fun iv wr => ∃ (k : Nat) (sq : Bool) (oq : Option Addr) (lq cq : Nat) (sr : Bool) (oR : Option Addr) (lr cr : Nat) (Q R : Int), k ≤ a.length ∧ iv = .int .i64 ((k : Int) - 1) ∧ St w wr oa a ca ob b cb sq oq lq cq sr oR lr cr Q R ∧ val (a.drop k) = Q * B + R ∧ 0 ≤ R ∧ R < B ∧ 0 ≤ Q) (fun iv _ => (intOf iv + 1).toNat)
  case atStart => exact ⟨a.length, _, _, _, _, _, _, _, _, 0, 0, Nat.le_refl _, rfl, st_new w _ _ _ _ _ _ _ _ _ _ _ _ _ _ S0.out.1 S0.out.2, by simp [val], by omega, hB, by omega⟩
  case round =>
    obtain ⟨k0, sq0, oq0, lq0, cq0, sr0, or0, lr0, cr0, Q0, R0, hk0, rfl, s0, hv0, hR0, hRB0, hQ0⟩ := hrel
    have SS0 := hid1 s0
    clear s0
    by_cases hlt : 1 ≤ k0
    · obtain ⟨k, rfl⟩ : ∃ k, k0 = k + 1 := ⟨k0 - 1, by omega⟩
      have ek : ((k + 1 : Nat) : Int) - 1 = (k : Int) := by omega
      rw [ek]
      have kk0 : (0 : Int) ≤ (k : Int) := by omega
      have kk : (k : Int) < (a.length : Int) := by omega
      clear ek
      obtain ⟨D1, D2⟩ := dat_bd DA.out k
      have DV := hid1 (drop_val (a := a) (i := k) (by omega))
      have H0 : Hid (0 ≤ val (a.drop (k + 1))) := hid1 (val_nonneg (fun d h => DA.out d (List.mem_of_mem_drop h)))
      go_wp2_with fail
      go_loopw [9] (fun bv wr => ∃ (s : Nat) (sq : Bool) (oq : Option Addr) (lq cq : Nat) (sr : Bool) (oR : Option Addr) (lr cr : Nat) (Q R : Int), s ≤ 16 ∧ bv = .int .i64 (bitv s) ∧ St w wr oa a ca ob b cb sq oq lq cq sr oR lr cr Q R ∧ pre (val (a.drop (k + 1))) (dat a k) s = Q * B + R ∧ 0 ≤ R ∧ R < B ∧ 0 ≤ Q) (fun bv _ => (intOf bv).toNat)
      case atStart => exact ⟨0, _, _, _, _, _, _, _, _, Q0, R0, by omega, rfl, SS0.out, by rw [pre_zero ⟨D1, D2⟩]; exact hv0, hR0, hRB0, hQ0⟩
      case round =>
        clear hv0 hR0 hRB0 hQ0 SS0
        rename World => V
        obtain ⟨s, sq, oq, lq, cq, sr, oR, lr, cr, Q, R, hs, rfl, s0, hv, hR, hRB, hQ⟩ := hrel
        have S1 := hid1 s0
        clear s0
        by_cases hs16 : s < 16
        · obtain ⟨bf1, bf2, bf3, bf4, bf5, bf6⟩ := bit_facts ⟨s, hs16⟩
          dsimp only at bf1 bf2 bf3 bf4 bf5 bf6
          have qb : Q ≤ Q * B := by have := Int.mul_le_mul_of_nonneg_left (show (1 : Int) ≤ B by omega) hQ; omega
          have pb : pre (val (a.drop (k + 1))) (dat a k) s < p := by
            have h1 := pre_le H0.out D1 hs
            have h2 := BA.out k
            rw [DV.out] at h2; omega
          have Qp : Q < p := by omega
          have HV := hid1 hv
          clear hv qb pb
          have PS := hid1 (pre_step (val (a.drop (k + 1))) (dat a k) hs16)
          have bf0 : ¬ bitv s = 0 := by omega
          have tE : Int.tdiv (dat a k) (bitv s) = dat a k / bitv s := Int.tdiv_eq_ediv_of_nonneg D1
          have E0 : 0 ≤ dat a k / bitv s := Int.ediv_nonneg D1 (by omega)
          have E1 : dat a k / bitv s ≤ dat a k := Int.ediv_le_self _ D1
          have bE := hid1 bf4
          clear bf4
          obtain ⟨E, hE⟩ : ∃ E, dat a k / bitv s = E := ⟨_, rfl⟩
          rw [hE] at tE E0 E1
          have PT : Hid (pre (val (a.drop (k + 1))) (dat a k) (s + 1) = 2 * (Q * B + R) + E % 2) := hid1 (by rw [PS.out, HV.out, ← hE, bE.out])
          clear hE
          have wE : wrap64 E = E := by unfold wrap64; omega
          have mE : Int.tmod E 2 = E % 2 := Int.tmod_eq_emod_of_nonneg E0
          have wM : wrap64 (E % 2) = E % 2 := by unfold wrap64; omega
          obtain ⟨nb, hnb⟩ : ∃ nb, bitv (s + 1) = nb := ⟨_, rfl⟩
          rw [hnb] at bf3 bf5 bf6
          have HNB := hid1 hnb
          clear hnb bE PS HV
          generalize bitv s = cbv at *
          have tb2 : Int.tdiv cbv 2 = nb := by rw [Int.tdiv_eq_ediv_of_nonneg (by omega)]; exact bf3
          have wb2 : wrap64 nb = nb := by unfold wrap64; omega
          obtain ⟨ga, rfl, xa⟩ : ∃ g, oa = some ⟨g, 0, none⟩ ∧ V.cell? ⟨g, k, none⟩ = some (.int .i64 (dat a k)) := by
            obtain ⟨ao, cap, e, f⟩ := S1.out.ra.parts
            obtain ⟨g, e2, c⟩ := f k (by omega)
            simp at e
            exact ⟨g, e.1.trans e2, c⟩
          have r0 := S1.out.r0; have r1 := S1.out.r1
          go_wp2_with fail
          refine (radd_any R R _ _ _ S1.out.hr S1.out.hr (BD.out _ (by omega) (by omega)) (BD.out _ (by omega) (by omega))).mono ?_
          rintro e V1 ⟨z1, rfl, hz1, hb1⟩
          obtain ⟨s1, o1, l1, c1, rfl⟩ := hz1.form
          have S2 := hid1 (S1.out.keep hb1)
          have HZ1 := hid1 hz1
          clear hz1 r0 r1 hb1 xa
          have r0 := S2.out.r0; have r1 := S2.out.r1; have fr0 := S2.out.fr0; have fr1 := S2.out.fr1; have q0 := S2.out.q0; have q1 := S2.out.q1
          go_wp2_with fail
          refine gen_calls (fun W' => St w W' (some ⟨ga, 0, none⟩) a ca ob b cb sq oq lq cq s1 o1 l1 c1 Q (R + R)) (S2.out.setR HZ1.out) ?_
          clear r0 r1 fr0 fr1 q0 q1 HZ1 S2
          rintro V2 s3
          have S3 := hid1 s3
          clear s3
          refine (radd_any Q Q _ _ _ S3.out.hq S3.out.hq (BD.out _ (by omega) (by omega)) (BD.out _ (by omega) (by omega))).mono ?_
          rintro e V3 ⟨z2, rfl, hz2, hb2⟩
          obtain ⟨s2, o2, l2, c2, rfl⟩ := hz2.form
          have S4 := hid1 (S3.out.keep hb2)
          have S5 := hid1 (S4.out.setQ hz2)
          clear hz2 hb2 S3
          have q0 := S4.out.q0; have q1 := S4.out.q1; have fq0 := S4.out.fq0; have fq1 := S4.out.fq1
          have a1 := S5.out.a1
          obtain ⟨g', eg, xa⟩ : ∃ g, some (⟨ga, 0, none⟩ : Addr) = some ⟨g, 0, none⟩ ∧ ((V3.setCell ⟨w.heap.size + 4, 0, none⟩ (.bool s2)).setCell ⟨w.heap.size + 4, 1, none⟩ (.slice o2 l2 c2)).cell? ⟨g, k, none⟩ = some (.int .i64 (dat a k)) := by
            obtain ⟨ao, cap, e, f⟩ := S5.out.ra.parts
            obtain ⟨g, e2, c⟩ := f k (by omega)
            simp at e
            exact ⟨g, e.1.trans e2, c⟩
          obtain rfl : ga = g' := by simpa using eg
          have hcase : E % 2 = 0 ∨ E % 2 = 1 := by omega
          rcases hcase with hb0 | hb0
          · have be : (E % 2 == 1) = false := by rw [hb0]; rfl
            have PP := part2 (R' := R + R) PT.out hR hRB (.inl hb0) hQ (by omega)
            have PGa := hid1 PP.1
            have PLa := hid1 PP.2
            clear PP
            have b1 := S5.out.b1; have r0 := S5.out.r0; have r1 := S5.out.r1
            go_wp2_with fail
            refine gen_calls (fun W' => St w W' (some ⟨ga, 0, none⟩) a ca ob b cb s2 o2 l2 c2 s1 o1 l1 c1 (Q + Q) (R + R)) S5.out ?_
            clear a1 q0 q1 fq0 fq1 xa S4 S5 b1 r0 r1
            rintro V4 s6
            have S6 := hid1 s6
            clear s6
            obtain ⟨vra, dra, exa, rdra, ddra, tdra, vdra⟩ := S6.out.hr
            obtain ⟨-, eva⟩ : Value.bool s1 = .bool (decide ((R + R) < 0)) ∧ Value.slice o1 l1 c1 = vra := by simpa using exa
            have vda : val dra = (R + R) := by rw [vdra]; omega
            have lda : dra.length ≤ 40 := len_le ddra tdra (by rw [vdra]; exact BD.out _ (by omega) (by omega))
            rw [← eva] at rdra
            have RRa := hid1 rdra
            have DDa := hid1 ddra
            have TTa := hid1 tdra
            clear rdra ddra tdra vdra exa eva

            refine (compare_any dra b _ _ _ RRa.out S6.out.rb DDa.out DB.out TTa.out TB.out (by omega) (by omega)).mono ?_
            rintro e Y1_a ⟨cca, rfl, hca, hbca⟩
            rw [vda, vb] at hca
            have SCa := hid1 (S6.out.keep hbca)

            have b1 := SCa.out.b1; have r0 := SCa.out.r0; have r1 := SCa.out.r1; have fr0 := SCa.out.fr0; have fr1 := SCa.out.fr1
            by_cases gea : B ≤ (R + R)
            · have cga : cca ≥ 0 := hca.2 gea
              go_wp2_with fail
              refine (minus_any dra b _ _ _ (RRa.out.below hbca) SCa.out.rb DDa.out DB.out (by omega)).mono ?_
              rintro e Y2_a ⟨vma, rfl, oma, hbma⟩
              obtain ⟨ooa, coa, rfl⟩ := own_form oma
              have RMa := hid1 (Rd.own oma)
              have SMa := hid1 (SCa.out.keep hbma)
              clear b1 r0 r1 fr0 fr1 oma
              have b1 := SMa.out.b1; have r0 := SMa.out.r0; have r1 := SMa.out.r1; have fr0 := SMa.out.fr0; have fr1 := SMa.out.fr1; have q0 := SMa.out.q0; have q1 := SMa.out.q1
              have vma : val (mrow dra b dra.length) = (((R + R) - B).natAbs : Int) := by
                rw [(owe_end DDa.out DB.out (by rw [vda, vb]; exact gea) (len_ge DDa.out DB.out TB.out (by rw [vda, vb]; exact gea))).2, vda, vb]; omega
              have VMa := hid1 vma
              clear vma
              go_wp2_with fail
              refine (trim_num ((R + R) - B) false _ (mrow dra b dra.length) _ RMa.out (mrow_dg DDa.out DB.out _) VMa.out (fun _ => rfl) (fun h => by omega)).mono ?_
              rintro e Y3_a ⟨yta, sta, ota, lta, cta, rfl, rfl, hya, hbta⟩
              have STa := hid1 ((SMa.out.keep hbta).setR hya)
              have r0' := (SMa.out.keep hbta).r0; have r1' := (SMa.out.keep hbta).r1; have fr0' := (SMa.out.keep hbta).fr0; have fr1' := (SMa.out.keep hbta).fr1
              clear b1 r0 r1 fr0 fr1 q0 q1 hbta hbma hbca hya RMa VMa RRa
              go_wp2_with fail
              refine gen_world (fun W' => St w W' (some ⟨ga, 0, none⟩) a ca ob b cb s2 o2 l2 c2 sta ota lta cta (Q + Q) ((R + R) - B)) STa.out ?_
              clear r0' r1' fr0' fr1'
              rintro Y4_a sxa
              have SXa := hid1 sxa
              clear sxa
              have q0 := SXa.out.q0; have q1 := SXa.out.q1
              go_region_with (first
                | (go_at_call 24; refine (rint_any 1 ⟨by omega, by omega⟩ _).mono ?_; rintro e X1_za ⟨i1_za, rfl, hi1_za, hbiza⟩; obtain ⟨siza, oiza, liza, ciza, rfl⟩ := hi1_za.form; have HIza := hid1 hi1_za; clear hi1_za; have q0 := keepc hbiza q0; have q1 := keepc hbiza q1; have BIza : Hid (Below Y4_a.heap.size Y4_a X1_za) := hid1 (by repeat (first | exact Below.refl _ _ | refine bl_alloc ?_ _ | refine Below.drew ?_ | refine bl_drewN ?_ _ | refine bl_set ?_ (by omega) _ | refine bl_step ?_ (by assumption))))
                | (go_at_call 60; refine (radd_any (Q + Q) 1 _ _ _ (SXa.out.hq.below BIza.out) HIza.out (BD.out _ (by omega) (by omega)) (BD.out 1 (by omega) (by omega))).mono ?_; rintro e X2_za ⟨i2_za, rfl, hi2_za, hbjza⟩; obtain ⟨sjza, ojza, ljza, cjza, rfl⟩ := hi2_za.form; have HJza := hid1 hi2_za; clear hi2_za; have BJza : Hid (Below Y4_a.heap.size Y4_a X2_za) := hid1 (bl_step BIza.out hbjza); have q0 := (SXa.out.keep BJza.out).q0; have q1 := (SXa.out.keep BJza.out).q1; have fq0 := (SXa.out.keep BJza.out).fq0; have fq1 := (SXa.out.keep BJza.out).fq1))
              all_goals (
                refine gen_any (fun W' => St w W' (some ⟨ga, 0, none⟩) a ca ob b cb sjza ojza ljza cjza sta ota lta cta ((Q + Q) + 1) ((R + R) - B)) ((SXa.out.keep BJza.out).setQ HJza.out) ?_
                rintro Y5_a sya
                have SYa := hid1 sya
                clear sya q0 q1 fq0 fq1
                simp only [Exit.inBlock, Exit.then]
                go_wp2_with fail
                exact ⟨⟨s + 1, _, _, _, _, _, _, _, _, _, _, by omega, by rw [HNB.out], SYa.out, PGa.out gea⟩, by simp [intOf]; omega⟩)
            · have cla : ¬ cca ≥ 0 := fun h => gea (hca.1 h)
              go_wp2_with fail
              exact ⟨⟨s + 1, _, _, _, _, _, _, _, _, _, _, by omega, by rw [HNB.out], SCa.out, PLa.out gea⟩, by simp [intOf]; omega⟩
          · have be : (E % 2 == 1) = true := by rw [hb0]; rfl
            have PP := part2 (R' := R + R + 1) PT.out hR hRB (.inr hb0) hQ (by omega)
            have PGb := hid1 PP.1
            have PLb := hid1 PP.2
            clear PP
            go_wp2_with fail
            refine gen_world (fun W' => St w W' (some ⟨ga, 0, none⟩) a ca ob b cb s2 o2 l2 c2 s1 o1 l1 c1 (Q + Q) (R + R)) S5.out ?_
            clear a1 q0 q1 fq0 fq1 xa S4 S5
            rintro V4 s6
            have S6 := hid1 s6
            clear s6
            have r0 := S6.out.r0; have r1 := S6.out.r1
            go_region_with (first
              | (go_at_call 24; refine (rint_any 1 ⟨by omega, by omega⟩ _).mono ?_; rintro e X1_y ⟨i1_y, rfl, hi1_y, hbiy⟩; obtain ⟨siy, oiy, liy, ciy, rfl⟩ := hi1_y.form; have HIy := hid1 hi1_y; clear hi1_y; have r0 := keepc hbiy r0; have r1 := keepc hbiy r1; have BIy : Hid (Below V4.heap.size V4 X1_y) := hid1 (by repeat (first | exact Below.refl _ _ | refine bl_alloc ?_ _ | refine Below.drew ?_ | refine bl_drewN ?_ _ | refine bl_set ?_ (by omega) _ | refine bl_step ?_ (by assumption))))
              | (go_at_call 60; refine (radd_any (R + R) 1 _ _ _ (S6.out.hr.below BIy.out) HIy.out (BD.out _ (by omega) (by omega)) (BD.out 1 (by omega) (by omega))).mono ?_; rintro e X2_y ⟨i2_y, rfl, hi2_y, hbjy⟩; obtain ⟨sjy, ojy, ljy, cjy, rfl⟩ := hi2_y.form; have HJy := hid1 hi2_y; clear hi2_y; have BJy : Hid (Below V4.heap.size V4 X2_y) := hid1 (bl_step BIy.out hbjy); have r0 := (S6.out.keep BJy.out).r0; have r1 := (S6.out.keep BJy.out).r1; have fr0 := (S6.out.keep BJy.out).fr0; have fr1 := (S6.out.keep BJy.out).fr1))
            all_goals (
              refine gen_then (fun W' => St w W' (some ⟨ga, 0, none⟩) a ca ob b cb s2 o2 l2 c2 sjy ojy ljy cjy (Q + Q) (R + R + 1)) ((S6.out.keep BJy.out).setR HJy.out) ?_
              rintro V6 s7
              have S7 := hid1 s7
              clear s7 r0 r1 fr0 fr1
              have b1 := S7.out.b1; have r0 := S7.out.r0; have r1 := S7.out.r1
              obtain ⟨vrb, drb, exb, rdrb, ddrb, tdrb, vdrb⟩ := S7.out.hr
              obtain ⟨-, evb⟩ : Value.bool sjy = .bool (decide ((R + R + 1) < 0)) ∧ Value.slice ojy ljy cjy = vrb := by simpa using exb
              have vdb : val drb = (R + R + 1) := by rw [vdrb]; omega
              have ldb : drb.length ≤ 40 := len_le ddrb tdrb (by rw [vdrb]; exact BD.out _ (by omega) (by omega))
              rw [← evb] at rdrb
              have RRb := hid1 rdrb
              have DDb := hid1 ddrb
              have TTb := hid1 tdrb
              clear rdrb ddrb tdrb vdrb exb evb
              go_wp2_with fail
              refine (compare_any drb b _ _ _ RRb.out S7.out.rb DDb.out DB.out TTb.out TB.out (by omega) (by omega)).mono ?_
              rintro e Y1_b ⟨ccb, rfl, hcb, hbcb⟩
              rw [vdb, vb] at hcb
              have SCb := hid1 (S7.out.keep hbcb)
              clear b1 r0 r1
              have b1 := SCb.out.b1; have r0 := SCb.out.r0; have r1 := SCb.out.r1; have fr0 := SCb.out.fr0; have fr1 := SCb.out.fr1
              by_cases geb : B ≤ (R + R + 1)
              · have cgb : ccb ≥ 0 := hcb.2 geb
                go_wp2_with fail
                refine (minus_any drb b _ _ _ (RRb.out.below hbcb) SCb.out.rb DDb.out DB.out (by omega)).mono ?_
                rintro e Y2_b ⟨vmb, rfl, omb, hbmb⟩
                obtain ⟨oob, cob, rfl⟩ := own_form omb
                have RMb := hid1 (Rd.own omb)
                have SMb := hid1 (SCb.out.keep hbmb)
                clear b1 r0 r1 fr0 fr1 omb
                have b1 := SMb.out.b1; have r0 := SMb.out.r0; have r1 := SMb.out.r1; have fr0 := SMb.out.fr0; have fr1 := SMb.out.fr1; have q0 := SMb.out.q0; have q1 := SMb.out.q1
                have vmb : val (mrow drb b drb.length) = (((R + R + 1) - B).natAbs : Int) := by
                  rw [(owe_end DDb.out DB.out (by rw [vdb, vb]; exact geb) (len_ge DDb.out DB.out TB.out (by rw [vdb, vb]; exact geb))).2, vdb, vb]; omega
                have VMb := hid1 vmb
                clear vmb
                go_wp2_with fail
                refine (trim_num ((R + R + 1) - B) false _ (mrow drb b drb.length) _ RMb.out (mrow_dg DDb.out DB.out _) VMb.out (fun _ => rfl) (fun h => by omega)).mono ?_
                rintro e Y3_b ⟨ytb, stb, otb, ltb, ctb, rfl, rfl, hyb, hbtb⟩
                have STb := hid1 ((SMb.out.keep hbtb).setR hyb)
                have r0' := (SMb.out.keep hbtb).r0; have r1' := (SMb.out.keep hbtb).r1; have fr0' := (SMb.out.keep hbtb).fr0; have fr1' := (SMb.out.keep hbtb).fr1
                clear b1 r0 r1 fr0 fr1 q0 q1 hbtb hbmb hbcb hyb RMb VMb RRb
                go_wp2_with fail
                refine gen_world (fun W' => St w W' (some ⟨ga, 0, none⟩) a ca ob b cb s2 o2 l2 c2 stb otb ltb ctb (Q + Q) ((R + R + 1) - B)) STb.out ?_
                clear r0' r1' fr0' fr1'
                rintro Y4_b sxb
                have SXb := hid1 sxb
                clear sxb
                have q0 := SXb.out.q0; have q1 := SXb.out.q1
                go_region_with (first
                  | (go_at_call 24; refine (rint_any 1 ⟨by omega, by omega⟩ _).mono ?_; rintro e X1_zb ⟨i1_zb, rfl, hi1_zb, hbizb⟩; obtain ⟨sizb, oizb, lizb, cizb, rfl⟩ := hi1_zb.form; have HIzb := hid1 hi1_zb; clear hi1_zb; have q0 := keepc hbizb q0; have q1 := keepc hbizb q1; have BIzb : Hid (Below Y4_b.heap.size Y4_b X1_zb) := hid1 (by repeat (first | exact Below.refl _ _ | refine bl_alloc ?_ _ | refine Below.drew ?_ | refine bl_drewN ?_ _ | refine bl_set ?_ (by omega) _ | refine bl_step ?_ (by assumption))))
                  | (go_at_call 60; refine (radd_any (Q + Q) 1 _ _ _ (SXb.out.hq.below BIzb.out) HIzb.out (BD.out _ (by omega) (by omega)) (BD.out 1 (by omega) (by omega))).mono ?_; rintro e X2_zb ⟨i2_zb, rfl, hi2_zb, hbjzb⟩; obtain ⟨sjzb, ojzb, ljzb, cjzb, rfl⟩ := hi2_zb.form; have HJzb := hid1 hi2_zb; clear hi2_zb; have BJzb : Hid (Below Y4_b.heap.size Y4_b X2_zb) := hid1 (bl_step BIzb.out hbjzb); have q0 := (SXb.out.keep BJzb.out).q0; have q1 := (SXb.out.keep BJzb.out).q1; have fq0 := (SXb.out.keep BJzb.out).fq0; have fq1 := (SXb.out.keep BJzb.out).fq1))
                all_goals (
                  refine gen_any (fun W' => St w W' (some ⟨ga, 0, none⟩) a ca ob b cb sjzb ojzb ljzb cjzb stb otb ltb ctb ((Q + Q) + 1) ((R + R + 1) - B)) ((SXb.out.keep BJzb.out).setQ HJzb.out) ?_
                  rintro Y5_b syb
                  have SYb := hid1 syb
                  clear syb q0 q1 fq0 fq1
                  simp only [Exit.inBlock, Exit.then]
                  go_wp2_with fail
                  exact ⟨⟨s + 1, _, _, _, _, _, _, _, _, _, _, by omega, by rw [HNB.out], SYb.out, PGb.out geb⟩, by simp [intOf]; omega⟩)
              · have clb : ¬ ccb ≥ 0 := fun h => geb (hcb.1 h)
                go_wp2_with fail
                exact ⟨⟨s + 1, _, _, _, _, _, _, _, _, _, _, by omega, by rw [HNB.out], SCb.out, PLb.out geb⟩, by simp [intOf]; omega⟩)
        · have es : s = 16 := by omega
          subst es
          have b16 : bitv 16 = 0 := by decide
          have ek1 : wrap64 ((k : Int) - 1) = (k : Int) - 1 := by unfold wrap64; omega
          have HV := hid1 hv
          clear hv
          go_wp2_with fail
          exact ⟨⟨k, _, _, _, _, _, _, _, _, _, _, by omega, rfl, S1.out, by rw [DV.out, ← pre_end]; exact HV.out, hR, hRB, hQ⟩, by simp [intOf]⟩
    · have k00 : k0 = 0 := by omega
      subst k00
      have HV := hid1 hv0
      clear hv0
      have q0 := SS0.out.q0; have q1 := SS0.out.q1; have r0 := SS0.out.r0; have r1 := SS0.out.r1; have u0 := SS0.out.u0; have u1 := SS0.out.u1; have v0 := SS0.out.v0; have v1 := SS0.out.v1; have fu0 := SS0.out.fu0; have fu1 := SS0.out.fu1; have fv0 := SS0.out.fv0; have fv1 := SS0.out.fv1
      go_wp2_with fail
      go_region_with fail
      all_goals (
        refine gen_then (fun X => X.cell? ⟨w.heap.size + 2, 0, none⟩ = some (.bool sq0) ∧ X.cell? ⟨w.heap.size + 2, 1, none⟩ = some (.slice oq0 lq0 cq0) ∧ X.cell? ⟨w.heap.size + 3, 0, none⟩ = some (.bool sr0) ∧ X.cell? ⟨w.heap.size + 3, 1, none⟩ = some (.slice or0 lr0 cr0) ∧
          Bg X (.agg #[.bool sq0, .slice oq0 lq0 cq0]) Q0 ∧ Bg X (.agg #[.bool sr0, .slice or0 lr0 cr0]) R0 ∧ Below w.heap.size w X) (SS0.out.done rfl) ?_
        rintro X ⟨e0, e1, e2, e3, hq, hr, hX⟩
        have HQ := hid1 (And.intro hq (And.intro hr hX))
        clear hq hr hX q0 q1 r0 r1 u0 u1 v0 v1 fu0 fu1 fv0 fv1
        go_wp2_with fail
        simp [bodyPost, results, Tryd.results41, go_sem, e0, e1, e2, e3]
        obtain ⟨hq, hr, hX⟩ := HQ.out
        obtain ⟨d1, d2⟩ := div_un (x := val a) HV.out hR0 hRB0
        rw [d1, d2]
        first | exact ⟨hq, hr, hX⟩ | exact ⟨_, _, ⟨rfl, rfl⟩, hq, hr, hX⟩ | exact ⟨_, _, rfl, hq, hr, hX⟩ | exact ⟨_, rfl, _, rfl, hq, hr, hX⟩ | exact ⟨_, _, ⟨rfl, rfl⟩, ⟨hq, hr, hX⟩⟩)
end Go.Proofs.YtboabgjgcnkelabDoor
namespace Go.Proofs.YtboabgjgcnkelabDoor
open Go.RowKit Go.Shelf

theorem drop_dg {ds : List Int} (h : Dg ds) (k : Nat) : Dg (ds.drop k) := fun d hd => h d (List.mem_of_mem_drop hd)
theorem drop_lt {ds : List Int} (h : Dg ds) (hl : ds.length ≤ 16) (k : Nat) : val (ds.drop k) < 65536 ^ 16 := by
  have h1 := val_lt (drop_dg h k)
  have h2 : (65536 : Int) ^ (ds.drop k).length ≤ 65536 ^ 16 := pow_le_pow' (by simp; omega)
  exact Int.lt_of_lt_of_le h1 h2
/-- Quotient and rest of two numbers that are not below 0. -/
theorem rparts_any (m n : Int) (x y : Value) (w : World) (hx : Bg w x m) (hy : Bg w y n) (m0 : 0 ≤ m) (n0 : 0 < n) (hm : (m.natAbs : Int) < 65536 ^ 16) (hn : (n.natAbs : Int) < 65536 ^ 16) :
    Calls Tryd.prog 41 #[x, y] w fun e w' => ∃ q r, e = .returned (.tuple #[q, r]) ∧ Bg w' q (m / n) ∧ Bg w' r (m % n) ∧ Below w.heap.size w w' := by
  obtain ⟨va, a, rfl, ra, da, ta, ea⟩ := hx
  obtain ⟨vb, b, rfl, rb, db, tb, eb⟩ := hy
  obtain ⟨ao, ca, rfl, _⟩ := ra.parts
  obtain ⟨bo, cb, rfl, _⟩ := rb.parts
  have la : a.length ≤ 16 := len_le da ta (by rw [ea]; exact hm)
  have lb : b.length ≤ 16 := len_le db tb (by rw [eb]; exact hn)
  have e1 : val a = m := by rw [ea]; omega
  have e2 : val b = n := by rw [eb]; omega
  have h := parts_any a b (decide (m < 0)) (decide (n < 0)) ao bo ca cb n _ w ra rb da db tb e2 n0 la lb rfl (by rw [eb] at e2; exact Int.lt_of_le_of_lt (Int.le_of_eq e2.symm) hn) (drop_lt da la)
  rw [e1] at h
  exact h
end Go.Proofs.YtboabgjgcnkelabDoor
/-
  FRACTIONS WRITTEN AND READ: plain mathematics. No Go in sight.
-/
namespace Go.Proofs.YtboabgjgcnkelabDoor
open Go.Lib

theorem pu_app (M : Nat) (r : List UInt8) : ∀ (l : List UInt8) (acc a : Nat), parseUintM M acc l = .ok a → parseUintM M acc (l ++ r) = parseUintM M a r
  | [], acc, a, h => by simp [parseUintM] at h; subst h; rfl
  | c :: l, acc, a, h => by
    rw [List.cons_append]
    unfold parseUintM at h
    conv => lhs; unfold parseUintM
    split at h
    · rename_i h1
      rw [if_pos h1]
      split at h
      · cases h
      · rename_i h2
        rw [if_neg h2]
        split at h
        · cases h
        · rename_i h3
          rw [if_neg h3]
          exact pu_app M r l _ a h
    · cases h
theorem dig_nat {k : Nat} (h : k < 10) : (UInt8.ofNat (48 + k)).toNat = 48 + k := by
  rw [UInt8.toNat_ofNat']; omega
theorem pu_one {M a k : Nat} (hk : k < 10) (h1 : a < 1844674407370955162) (h2 : a * 10 + k ≤ M) : parseUintM M a [UInt8.ofNat (48 + k)] = .ok (a * 10 + k) := by
  unfold parseUintM
  rw [dig_nat hk, if_pos (by omega), if_neg (by omega), if_neg (by omega)]
  have : 48 + k - 48 = k := by omega
  rw [this]
  rfl
theorem pu_dec (M : Nat) : ∀ u : Nat, u ≤ M → u < 1844674407370955162 → parseUintM M 0 (decDigits u) = .ok u := by
  intro u
  induction u using Nat.strongRecOn with
  | _ u ih =>
    intro h1 h2
    rw [decDigits]
    split
    · rename_i h
      have := pu_one (M := M) (a := 0) (k := u) h (by omega) (by omega)
      simpa using this
    · rename_i h
      rw [pu_app M _ _ _ _ (ih (u / 10) (by omega) (by omega) (by omega))]
      rw [pu_one (by omega) (by omega) (by omega)]
      congr 1; omega
theorem dec_dig : ∀ (u : Nat), ∀ c ∈ decDigits u, 48 ≤ c.toNat ∧ c.toNat ≤ 57 := by
  intro u
  induction u using Nat.strongRecOn with
  | _ u ih =>
    intro c hc
    rw [decDigits] at hc
    split at hc
    · rename_i h
      rw [List.mem_singleton] at hc
      subst hc
      rw [dig_nat h]; omega
    · rename_i h
      rw [List.mem_append] at hc
      rcases hc with hc | hc
      · exact ih (u / 10) (by omega) c hc
      · rw [List.mem_singleton] at hc
        subst hc
        rw [dig_nat (by omega)]; omega
theorem dec_cons (u : Nat) : ∃ c r, decDigits u = c :: r ∧ 48 ≤ c.toNat ∧ c.toNat ≤ 57 := by
  have hd := dec_dig u
  cases e : decDigits u with
  | nil =>
    exfalso
    rw [decDigits] at e
    split at e
    · cases e
    · simp at e
  | cons c r => exact ⟨c, r, rfl, hd c (by rw [e]; simp)⟩
theorem pb_dec (u : Nat) (h : u < 2147483648) : parseUintB 64 (decDigits u) = .ok u := by
  unfold parseUintB
  obtain ⟨c, r, e, _⟩ := dec_cons u
  rw [if_neg (by rw [e]; simp)]
  exact pu_dec _ u (by omega) (by omega)
theorem parse_itoa {n : Int} (h1 : -2147483647 ≤ n) (h2 : n ≤ 2147483647) : parseIntB 64 (itoa n) = .ok n := by
  unfold itoa
  split
  · rename_i h
    have hp := pb_dec n.natAbs (by omega)
    simp only [parseIntB]
    rw [if_pos (by decide), hp]
    have e : (45 : UInt8).toNat = 45 := rfl
    simp only [e]
    rw [if_neg (by simp), if_neg (by omega)]
    simp
    omega
  · rename_i h
    have hp := pb_dec n.toNat (by omega)
    obtain ⟨c, r, e, c1, c2⟩ := dec_cons n.toNat
    rw [e] at hp ⊢
    simp only [parseIntB]
    rw [if_neg (by omega), hp]
    have hc : ¬ c.toNat = 45 := by omega
    simp only [hc]
    rw [if_neg (by omega), if_neg (by simp)]
    simp
    omega
theorem itoa_stroke (n : Int) : (47 : UInt8) ∉ itoa n := by
  unfold itoa
  split
  · intro h
    rw [List.mem_cons] at h
    rcases h with h | h
    · cases h
    · have := dec_dig _ _ h
      have e : (47 : UInt8).toNat = 47 := rfl
      omega
  · intro h
    have := dec_dig _ _ h
    have e : (47 : UInt8).toNat = 47 := rfl
    omega
theorem index_cases (c : UInt8) : ∀ l : List UInt8, (indexByte l c = -1 ∧ c ∉ l) ∨ ∃ a b, l = a ++ c :: b ∧ c ∉ a ∧ indexByte l c = (a.length : Int)
  | [] => Or.inl ⟨rfl, by simp⟩
  | x :: l => by
    unfold indexByte
    by_cases h : x = c
    · subst h
      right
      exact ⟨[], l, rfl, by simp, by simp⟩
    · have hx : (x == c) = false := by simpa using h
      rw [hx]
      rcases index_cases c l with ⟨h1, h2⟩ | ⟨a, b, h1, h2, h3⟩
      · left
        rw [h1]
        refine ⟨by simp, ?_⟩
        rw [List.mem_cons]
        rintro (e | e)
        · exact h e.symm
        · exact h2 e
      · right
        refine ⟨x :: a, b, by rw [h1]; rfl, ?_, ?_⟩
        · rw [List.mem_cons]
          rintro (e | e)
          · exact h e.symm
          · exact h2 e
        · rw [h3]
          have : ((a.length : Int) == -1) = false := by simp <;> omega
          simp [this]
/-- A text in its two parts. -/
def Sp (l a b : List UInt8) : Prop := ((47 : UInt8) ∉ l ∧ a = l ∧ b = [49]) ∨ (l = a ++ 47 :: b ∧ (47 : UInt8) ∉ a)
theorem split_uniq {c : UInt8} : ∀ {a a' b b' : List UInt8}, c ∉ a → c ∉ a' → a ++ c :: b = a' ++ c :: b' → a = a' ∧ b = b'
  | [], [], b, b', _, _, h => by simp at h; exact ⟨rfl, h⟩
  | [], y :: a', b, b', _, h2, h => by
    simp at h
    exact absurd (by rw [h.1]; simp) h2
  | x :: a, [], b, b', h1, _, h => by
    simp at h
    exact absurd (by rw [← h.1]; simp) h1
  | x :: a, y :: a', b, b', h1, h2, h => by
    simp at h
    have := split_uniq (c := c) (a := a) (a' := a') (b := b) (b' := b') (fun k => h1 (by simp [k])) (fun k => h2 (by simp [k])) h.2
    exact ⟨by rw [h.1, this.1], this.2⟩
theorem sp_uniq {l a b a' b' : List UInt8} (h : Sp l a b) (k : Sp l a' b') : a = a' ∧ b = b' := by
  rcases h with ⟨h1, rfl, rfl⟩ | ⟨h1, h2⟩
  · rcases k with ⟨_, rfl, rfl⟩ | ⟨k1, _⟩
    · exact ⟨rfl, rfl⟩
    · exact absurd (by rw [k1]; simp) h1
  · rcases k with ⟨k1, _, _⟩ | ⟨k1, k2⟩
    · exact absurd (by rw [h1]; simp) k1
    · exact split_uniq h2 k2 (h1 ▸ k1)
end Go.Proofs.YtboabgjgcnkelabDoor
/- READ: CUT AT ONE BYTE, NUMBERS PARSED. -/
namespace Go.Proofs.YtboabgjgcnkelabDoor
open Go.RowKit Go.Shelf
attribute [local go_sem ↓] Go.wp_at_zero Go.wp_at_succ

theorem ext_list {s : ByteArray} {i j : Nat} {l : List UInt8} (h : (s.data.toList.drop i).take (j - i) = l) : s.extract i j = ⟨l.toArray⟩ := by
  apply ByteArray.ext
  rw [ByteArray.data_extract]
  apply Array.ext'
  simp only [Array.toList_extract, List.extract_eq_take_drop]
  exact h
theorem lcut_no (s : ByteArray) (h : (47 : UInt8) ∉ s.data.toList) (w : World) :
    Calls Tryd.prog 37 #[.string s, .string ⟨#[47]⟩] w fun e w' => e = .returned (.tuple #[.string s, .string ⟨#[]⟩, .bool false]) ∧ w' = w := by
  have hi : Lib.indexByte s.data.toList 47 = -1 := by
    rcases index_cases 47 s.data.toList with ⟨h1, _⟩ | ⟨a, b, h1, _, _⟩
    · exact h1
    · exact absurd (by rw [h1]; simp) h
  have HI := hid1 (Tryd.stringslite_Index_one s 47)
  rw [hi] at HI
  clear hi h
  go_enter Tryd.func37, Tryd.ntmps37
  go_wp2_with fail
  refine (HI.out _).mono ?_
  rintro e w1 ⟨rfl, rfl⟩
  go_wp2
  simp [bodyPost, results, Tryd.results37, go_sem]
theorem lcut_yes (s : ByteArray) (a b : List UInt8) (hs : s.data.toList = a ++ 47 :: b) (ha : (47 : UInt8) ∉ a) (hl : s.size ≤ 281474976710656) (w : World) :
    Calls Tryd.prog 37 #[.string s, .string ⟨#[47]⟩] w fun e w' => e = .returned (.tuple #[.string ⟨a.toArray⟩, .string ⟨b.toArray⟩, .bool true]) ∧ ∃ n, w' = w.drewN n := by
  have hi : Lib.indexByte s.data.toList 47 = (a.length : Int) := by
    rcases index_cases 47 s.data.toList with ⟨_, h1⟩ | ⟨a', b', h1, h2, h3⟩
    · exact absurd (by rw [hs]; simp) h1
    · rw [h3, (split_uniq h2 ha (h1.symm.trans hs)).1]
  have HI := hid1 (Tryd.stringslite_Index_one s 47)
  rw [hi] at HI
  have hz : s.size = a.length + 1 + b.length := by
    have : s.size = s.data.toList.length := rfl
    rw [this, hs]; simp; omega
  obtain ⟨k, ek⟩ : ∃ k, a.length = k := ⟨_, rfl⟩
  rw [ek] at HI hz
  have k1 : k ≤ s.size := by omega
  have k2 : k + 1 ≤ s.size := by omega
  go_enter Tryd.func37, Tryd.ntmps37
  go_wp2_with fail
  refine (HI.out _).mono ?_
  rintro e w1 ⟨rfl, rfl⟩
  go_wp2_with fail
  go_quiet (fail)
  go_wp2
  simp [bodyPost, results, Tryd.results37, go_sem]
  refine ⟨⟨ext_list ?_, ext_list ?_⟩, _, rfl⟩
  · rw [hs, ← ek]; simp
  · have e1 : a ++ 47 :: b = (a ++ [47]) ++ b := by simp
    have e2 : k + 1 + b.length - (k + 1) = b.length := by omega
    rw [hs, e1, List.drop_left' (by simp [ek]), e2, List.take_length]
theorem cut_no (s : ByteArray) (h : (47 : UInt8) ∉ s.data.toList) (w : World) :
    Calls Tryd.prog 20 #[.string s, .string ⟨#[47]⟩] w fun e w' => e = .returned (.tuple #[.string s, .string ⟨#[]⟩, .bool false]) ∧ Below w.heap.size w w' := by
  go_enter Tryd.func20, Tryd.ntmps20
  go_wp2_with fail
  refine (lcut_no s h _).mono ?_
  rintro e w1 ⟨rfl, rfl⟩
  go_wp2
  simp [bodyPost, results, Tryd.results20, go_sem]
  exact Below.refl _ _
theorem cut_yes (s : ByteArray) (a b : List UInt8) (hs : s.data.toList = a ++ 47 :: b) (ha : (47 : UInt8) ∉ a) (hl : s.size ≤ 281474976710656) (w : World) :
    Calls Tryd.prog 20 #[.string s, .string ⟨#[47]⟩] w fun e w' => e = .returned (.tuple #[.string ⟨a.toArray⟩, .string ⟨b.toArray⟩, .bool true]) ∧ Below w.heap.size w w' := by
  go_enter Tryd.func20, Tryd.ntmps20
  go_wp2_with fail
  refine (lcut_yes s a b hs ha hl _).mono ?_
  rintro e w1 ⟨rfl, n, rfl⟩
  go_wp2
  simp [bodyPost, results, Tryd.results20, go_sem]
  repeat (first | exact Below.refl _ _ | refine bl_alloc ?_ _ | refine Below.drew ?_ | refine bl_drewN ?_ _ | refine bl_set ?_ (by omega) _ | refine bl_step ?_ (by assumption))
/-- What the listed variables hold. -/
structure LaidB (w : World) : Prop where
  pow : LaidP w
  syn : ∃ tp p, w.cell? ⟨2, 0, none⟩ = some (.iface tp p)
  rng : ∃ tp p, w.cell? ⟨3, 0, none⟩ = some (.iface tp p)
theorem LaidB.on {w w' : World} (h : LaidB w) (hb : Below w.heap.size w w') : LaidB w' := by
  obtain ⟨a, ⟨t, p, b⟩, ⟨t', p', c⟩⟩ := h
  exact ⟨a.on hb, ⟨t, p, keepc hb b⟩, ⟨t', p', keepc hb c⟩⟩
theorem parse_ok (s : ByteArray) (hl : s.size ≤ 281474976710656) (v : Int) (h : Lib.parseIntB 64 s.data.toList = .ok v) (w : World) :
    Calls Tryd.prog 21 #[.string s, .int .i64 10, .int .i64 64] w fun e w' => e = .returned (.tuple #[.int .i64 v, .nilIface]) ∧ Below w.heap.size w w' := by
  refine (Tryd.strconv_ParseInt_10_at64_ok s (by omega) v h w).mono ?_
  rintro e w' ⟨rfl, rfl | ⟨t, rfl⟩⟩
  · exact ⟨rfl, Below.refl _ _⟩
  · exact ⟨rfl, Lib.bytesWorld_below _ _ _⟩
theorem parse_no (s : ByteArray) (hl : s.size ≤ 281474976710656) (h : ∀ v, ¬ Lib.parseIntB 64 s.data.toList = .ok v) (w : World) (L : LaidB w) :
    Calls Tryd.prog 21 #[.string s, .int .i64 10, .int .i64 64] w fun e w' => ∃ v T N, e = .returned (.tuple #[.int .i64 v, .iface T (.pointer (some ⟨N, 0, none⟩))]) ∧ Below w.heap.size w w' := by
  cases k : Lib.parseIntB 64 s.data.toList with
  | ok v => exact absurd k (h v)
  | «syntax» =>
    obtain ⟨tp, p, hc⟩ := L.syn
    refine (Tryd.strconv_ParseInt_10_at64_syntax s hl k _ w hc (Or.inr ⟨_, _, rfl⟩)).mono ?_
    rintro e w' ⟨N, rfl, _, _, hb⟩
    exact ⟨_, _, _, rfl, hb⟩
  | range =>
    obtain ⟨tp, p, hc⟩ := L.rng
    refine (Tryd.strconv_ParseInt_10_at64_range s hl k _ w hc (Or.inr ⟨_, _, rfl⟩)).mono ?_
    rintro e w' ⟨N, rfl, _, _, hb⟩
    exact ⟨_, _, _, rfl, hb⟩
end Go.Proofs.YtboabgjgcnkelabDoor
/- READ, WALKED. -/
namespace Go.Proofs.YtboabgjgcnkelabDoor
open Go.RowKit Go.Shelf
attribute [local go_sem ↓] Go.wp_at_zero Go.wp_at_succ

/-- Two cells of a fraction, which may be written. -/
def Fy (w : World) (b : Nat) (n d : Int) : Prop := w.cell? ⟨b, 0, none⟩ = some (.int .i64 n) ∧ w.cell? ⟨b, 1, none⟩ = some (.int .i64 d) ∧ w.frozen? ⟨b, 0, none⟩ = false ∧ w.frozen? ⟨b, 1, none⟩ = false
theorem Fy.keep {w w' : World} {b : Nat} {n d : Int} (h : Fy w b n d) (hb : Below w.heap.size w w') : Fy w' b n d := by
  have z := lt_of_cell h.1
  exact ⟨keepc hb h.1, keepc hb h.2.1, keepf hb z h.2.2.1, keepf hb z h.2.2.2⟩
theorem fy_new {W : World} {t : TypeId} {g : Nat} {n d : Int} (hg : W.heap.size = g) : Fy (W.alloc (.cells #[.int .i64 n, .int .i64 d] t)) g n d := by
  subst hg
  exact ⟨by simp [go_sem], by simp [go_sem], by simp [go_sem], by simp [go_sem]⟩
set_option maxRecDepth 100000 in
theorem read_t_no_ok_x (s A B : ByteArray) (d : Int) (HC : Hid (∀ w : World, Calls Tryd.prog 20 #[.string s, .string ⟨#[47]⟩] w fun e w' => e = .returned (.tuple #[.string A, .string B, .bool true]) ∧ Below w.heap.size w w')) (PA : Hid (∀ w : World, LaidB w → Calls Tryd.prog 21 #[.string A, .int .i64 10, .int .i64 64] w fun e w' => ∃ v T N, e = .returned (.tuple #[.int .i64 v, .iface T (.pointer (some ⟨N, 0, none⟩))]) ∧ Below w.heap.size w w')) (PB : Hid (∀ w : World, Calls Tryd.prog 21 #[.string B, .int .i64 10, .int .i64 64] w fun e w' => e = .returned (.tuple #[.int .i64 d, .nilIface]) ∧ Below w.heap.size w w')) (w : World) (L : LaidB w) :
    Calls Tryd.prog 9 #[.string s] w fun e w' => e = .returned (.tuple #[fr 0 0, .int .i64 40]) ∧ Below w.heap.size w w' := by
  have HL := hid1 L
  clear L
  go_enter Tryd.func9, Tryd.ntmps9
  go_wp2_with fail
  refine (HC.out _).mono ?_
  rintro e w1 ⟨rfl, hb1⟩
  have HF : Hid (Fy w1 w.heap.size 0 0) := hid1 (Fy.keep (w := w.alloc _) (fy_new rfl) hb1)
  have B1 : Below w.heap.size w w1 := by repeat (first | (with_reducible exact Below.refl _ _) | (with_reducible refine bl_alloc ?_ _) | (with_reducible refine Below.drew ?_) | (with_reducible refine bl_drewN ?_ _) | (with_reducible refine bl_set ?_ (by omega) _) | (with_reducible refine bl_step ?_ (by assumption)))
  have HL1 := hid1 (HL.out.on B1)
  clear hb1
  go_wp2_with fail
  refine (PA.out _ HL1.out).mono ?_
  rintro e w2 ⟨v2, T2, N2, rfl, hb2⟩
  replace HF := hid1 (HF.out.keep hb2)
  have B2 : Below w.heap.size w w2 := by repeat (first | (with_reducible exact Below.refl _ _) | (with_reducible refine bl_alloc ?_ _) | (with_reducible refine Below.drew ?_) | (with_reducible refine bl_drewN ?_ _) | (with_reducible refine bl_set ?_ (by omega) _) | (with_reducible refine bl_step ?_ (by assumption)))
  have HL2 := hid1 (HL.out.on B2)
  clear hb2
  go_wp2_with fail
  refine (PB.out _).mono ?_
  rintro e w3 ⟨rfl, hb3⟩
  replace HF := hid1 (HF.out.keep hb3)
  have B3 : Below w.heap.size w w3 := by repeat (first | (with_reducible exact Below.refl _ _) | (with_reducible refine bl_alloc ?_ _) | (with_reducible refine Below.drew ?_) | (with_reducible refine bl_drewN ?_ _) | (with_reducible refine bl_set ?_ (by omega) _) | (with_reducible refine bl_step ?_ (by assumption)))
  have HL3 := hid1 (HL.out.on B3)
  clear hb3
  obtain ⟨c0, c1, f0, f1⟩ := HF.out
  have z := lt_of_cell c0
  go_wp2
  simp [bodyPost, results, Tryd.results9, go_sem, *]
  repeat (first | (with_reducible exact Below.refl _ _) | (with_reducible refine bl_alloc ?_ _) | (with_reducible refine Below.drew ?_) | (with_reducible refine bl_drewN ?_ _) | (with_reducible refine bl_set ?_ (by omega) _) | (with_reducible refine bl_step ?_ (by assumption)))
set_option maxRecDepth 100000 in
theorem read_t_no_no_x (s A B : ByteArray) (HC : Hid (∀ w : World, Calls Tryd.prog 20 #[.string s, .string ⟨#[47]⟩] w fun e w' => e = .returned (.tuple #[.string A, .string B, .bool true]) ∧ Below w.heap.size w w')) (PA : Hid (∀ w : World, LaidB w → Calls Tryd.prog 21 #[.string A, .int .i64 10, .int .i64 64] w fun e w' => ∃ v T N, e = .returned (.tuple #[.int .i64 v, .iface T (.pointer (some ⟨N, 0, none⟩))]) ∧ Below w.heap.size w w')) (PB : Hid (∀ w : World, LaidB w → Calls Tryd.prog 21 #[.string B, .int .i64 10, .int .i64 64] w fun e w' => ∃ v T N, e = .returned (.tuple #[.int .i64 v, .iface T (.pointer (some ⟨N, 0, none⟩))]) ∧ Below w.heap.size w w')) (w : World) (L : LaidB w) :
    Calls Tryd.prog 9 #[.string s] w fun e w' => e = .returned (.tuple #[fr 0 0, .int .i64 40]) ∧ Below w.heap.size w w' := by
  have HL := hid1 L
  clear L
  go_enter Tryd.func9, Tryd.ntmps9
  go_wp2_with fail
  refine (HC.out _).mono ?_
  rintro e w1 ⟨rfl, hb1⟩
  have HF : Hid (Fy w1 w.heap.size 0 0) := hid1 (Fy.keep (w := w.alloc _) (fy_new rfl) hb1)
  have B1 : Below w.heap.size w w1 := by repeat (first | (with_reducible exact Below.refl _ _) | (with_reducible refine bl_alloc ?_ _) | (with_reducible refine Below.drew ?_) | (with_reducible refine bl_drewN ?_ _) | (with_reducible refine bl_set ?_ (by omega) _) | (with_reducible refine bl_step ?_ (by assumption)))
  have HL1 := hid1 (HL.out.on B1)
  clear hb1
  go_wp2_with fail
  refine (PA.out _ HL1.out).mono ?_
  rintro e w2 ⟨v2, T2, N2, rfl, hb2⟩
  replace HF := hid1 (HF.out.keep hb2)
  have B2 : Below w.heap.size w w2 := by repeat (first | (with_reducible exact Below.refl _ _) | (with_reducible refine bl_alloc ?_ _) | (with_reducible refine Below.drew ?_) | (with_reducible refine bl_drewN ?_ _) | (with_reducible refine bl_set ?_ (by omega) _) | (with_reducible refine bl_step ?_ (by assumption)))
  have HL2 := hid1 (HL.out.on B2)
  clear hb2
  go_wp2_with fail
  refine (PB.out _ HL2.out).mono ?_
  rintro e w3 ⟨v3, T3, N3, rfl, hb3⟩
  replace HF := hid1 (HF.out.keep hb3)
  have B3 : Below w.heap.size w w3 := by repeat (first | (with_reducible exact Below.refl _ _) | (with_reducible refine bl_alloc ?_ _) | (with_reducible refine Below.drew ?_) | (with_reducible refine bl_drewN ?_ _) | (with_reducible refine bl_set ?_ (by omega) _) | (with_reducible refine bl_step ?_ (by assumption)))
  have HL3 := hid1 (HL.out.on B3)
  clear hb3
  obtain ⟨c0, c1, f0, f1⟩ := HF.out
  have z := lt_of_cell c0
  go_wp2
  simp [bodyPost, results, Tryd.results9, go_sem, *]
  repeat (first | (with_reducible exact Below.refl _ _) | (with_reducible refine bl_alloc ?_ _) | (with_reducible refine Below.drew ?_) | (with_reducible refine bl_drewN ?_ _) | (with_reducible refine bl_set ?_ (by omega) _) | (with_reducible refine bl_step ?_ (by assumption)))
set_option maxRecDepth 100000 in
theorem read_t_ok_no_x (s A B : ByteArray) (n : Int) (HC : Hid (∀ w : World, Calls Tryd.prog 20 #[.string s, .string ⟨#[47]⟩] w fun e w' => e = .returned (.tuple #[.string A, .string B, .bool true]) ∧ Below w.heap.size w w')) (PA : Hid (∀ w : World, Calls Tryd.prog 21 #[.string A, .int .i64 10, .int .i64 64] w fun e w' => e = .returned (.tuple #[.int .i64 n, .nilIface]) ∧ Below w.heap.size w w')) (PB : Hid (∀ w : World, LaidB w → Calls Tryd.prog 21 #[.string B, .int .i64 10, .int .i64 64] w fun e w' => ∃ v T N, e = .returned (.tuple #[.int .i64 v, .iface T (.pointer (some ⟨N, 0, none⟩))]) ∧ Below w.heap.size w w')) (w : World) (L : LaidB w) :
    Calls Tryd.prog 9 #[.string s] w fun e w' => e = .returned (.tuple #[fr 0 0, .int .i64 40]) ∧ Below w.heap.size w w' := by
  have HL := hid1 L
  clear L
  go_enter Tryd.func9, Tryd.ntmps9
  go_wp2_with fail
  refine (HC.out _).mono ?_
  rintro e w1 ⟨rfl, hb1⟩
  have HF : Hid (Fy w1 w.heap.size 0 0) := hid1 (Fy.keep (w := w.alloc _) (fy_new rfl) hb1)
  have B1 : Below w.heap.size w w1 := by repeat (first | (with_reducible exact Below.refl _ _) | (with_reducible refine bl_alloc ?_ _) | (with_reducible refine Below.drew ?_) | (with_reducible refine bl_drewN ?_ _) | (with_reducible refine bl_set ?_ (by omega) _) | (with_reducible refine bl_step ?_ (by assumption)))
  have HL1 := hid1 (HL.out.on B1)
  clear hb1
  go_wp2_with fail
  refine (PA.out _).mono ?_
  rintro e w2 ⟨rfl, hb2⟩
  replace HF := hid1 (HF.out.keep hb2)
  have B2 : Below w.heap.size w w2 := by repeat (first | (with_reducible exact Below.refl _ _) | (with_reducible refine bl_alloc ?_ _) | (with_reducible refine Below.drew ?_) | (with_reducible refine bl_drewN ?_ _) | (with_reducible refine bl_set ?_ (by omega) _) | (with_reducible refine bl_step ?_ (by assumption)))
  have HL2 := hid1 (HL.out.on B2)
  clear hb2
  go_wp2_with fail
  refine (PB.out _ HL2.out).mono ?_
  rintro e w3 ⟨v3, T3, N3, rfl, hb3⟩
  replace HF := hid1 (HF.out.keep hb3)
  have B3 : Below w.heap.size w w3 := by repeat (first | (with_reducible exact Below.refl _ _) | (with_reducible refine bl_alloc ?_ _) | (with_reducible refine Below.drew ?_) | (with_reducible refine bl_drewN ?_ _) | (with_reducible refine bl_set ?_ (by omega) _) | (with_reducible refine bl_step ?_ (by assumption)))
  have HL3 := hid1 (HL.out.on B3)
  clear hb3
  obtain ⟨c0, c1, f0, f1⟩ := HF.out
  have z := lt_of_cell c0
  go_wp2
  simp [bodyPost, results, Tryd.results9, go_sem, *]
  repeat (first | (with_reducible exact Below.refl _ _) | (with_reducible refine bl_alloc ?_ _) | (with_reducible refine Below.drew ?_) | (with_reducible refine bl_drewN ?_ _) | (with_reducible refine bl_set ?_ (by omega) _) | (with_reducible refine bl_step ?_ (by assumption)))
set_option maxRecDepth 100000 in
theorem read_t_ok_ok_bad (s A B t : ByteArray) (n d : Int) (HC : Hid (∀ w : World, Calls Tryd.prog 20 #[.string s, .string ⟨#[47]⟩] w fun e w' => e = .returned (.tuple #[.string A, .string B, .bool true]) ∧ Below w.heap.size w w')) (PA : Hid (∀ w : World, Calls Tryd.prog 21 #[.string A, .int .i64 10, .int .i64 64] w fun e w' => e = .returned (.tuple #[.int .i64 n, .nilIface]) ∧ Below w.heap.size w w')) (PB : Hid (∀ w : World, Calls Tryd.prog 21 #[.string B, .int .i64 10, .int .i64 64] w fun e w' => e = .returned (.tuple #[.int .i64 d, .nilIface]) ∧ Below w.heap.size w w')) (HS : Hid (∀ w : World, LaidP w → Calls Tryd.prog 8 #[fr n d] w fun e w' => e = .returned (.tuple #[.string t, .int .i64 40]) ∧ Below w.heap.size w w')) (w : World) (L : LaidB w) :
    Calls Tryd.prog 9 #[.string s] w fun e w' => e = .returned (.tuple #[fr 0 0, .int .i64 40]) ∧ Below w.heap.size w w' := by
  have HL := hid1 L
  clear L
  go_enter Tryd.func9, Tryd.ntmps9
  go_wp2_with fail
  refine (HC.out _).mono ?_
  rintro e w1 ⟨rfl, hb1⟩
  have HF : Hid (Fy w1 w.heap.size 0 0) := hid1 (Fy.keep (w := w.alloc _) (fy_new rfl) hb1)
  have B1 : Below w.heap.size w w1 := by repeat (first | (with_reducible exact Below.refl _ _) | (with_reducible refine bl_alloc ?_ _) | (with_reducible refine Below.drew ?_) | (with_reducible refine bl_drewN ?_ _) | (with_reducible refine bl_set ?_ (by omega) _) | (with_reducible refine bl_step ?_ (by assumption)))
  have HL1 := hid1 (HL.out.on B1)
  clear hb1
  go_wp2_with fail
  refine (PA.out _).mono ?_
  rintro e w2 ⟨rfl, hb2⟩
  replace HF := hid1 (HF.out.keep hb2)
  have B2 : Below w.heap.size w w2 := by repeat (first | (with_reducible exact Below.refl _ _) | (with_reducible refine bl_alloc ?_ _) | (with_reducible refine Below.drew ?_) | (with_reducible refine bl_drewN ?_ _) | (with_reducible refine bl_set ?_ (by omega) _) | (with_reducible refine bl_step ?_ (by assumption)))
  have HL2 := hid1 (HL.out.on B2)
  clear hb2
  go_wp2_with fail
  refine (PB.out _).mono ?_
  rintro e w3 ⟨rfl, hb3⟩
  replace HF := hid1 (HF.out.keep hb3)
  have B3 : Below w.heap.size w w3 := by repeat (first | (with_reducible exact Below.refl _ _) | (with_reducible refine bl_alloc ?_ _) | (with_reducible refine Below.drew ?_) | (with_reducible refine bl_drewN ?_ _) | (with_reducible refine bl_set ?_ (by omega) _) | (with_reducible refine bl_step ?_ (by assumption)))
  have HL3 := hid1 (HL.out.on B3)
  clear hb3
  go_wp2_with fail
  refine gen_calls (fun W' => Below w.heap.size w W' ∧ Below w3.heap.size w3 W' ∧ Hid (Fy W' w3.heap.size n d)) ⟨by repeat (first | (with_reducible exact Below.refl _ _) | (with_reducible refine bl_alloc ?_ _) | (with_reducible refine Below.drew ?_) | (with_reducible refine bl_drewN ?_ _) | (with_reducible refine bl_set ?_ (by omega) _) | (with_reducible refine bl_step ?_ (by assumption))), by repeat (first | (with_reducible exact Below.refl _ _) | (with_reducible refine bl_alloc ?_ _) | (with_reducible refine Below.drew ?_) | (with_reducible refine bl_drewN ?_ _) | (with_reducible refine bl_set ?_ (by omega) _) | (with_reducible refine bl_step ?_ (by assumption))), hid1 (fy_new rfl)⟩ ?_
  rintro W4 ⟨B4, b4, HG⟩
  replace HF := hid1 (HF.out.keep b4)
  clear b4
  refine (HS.out _ (HL.out.on B4).pow).mono ?_
  rintro e w5 ⟨rfl, hb5⟩
  replace HF := hid1 (HF.out.keep hb5)
  replace HG := hid1 (HG.out.keep hb5)
  have B5 : Below w.heap.size w w5 := by repeat (first | (with_reducible exact Below.refl _ _) | (with_reducible refine bl_alloc ?_ _) | (with_reducible refine Below.drew ?_) | (with_reducible refine bl_drewN ?_ _) | (with_reducible refine bl_set ?_ (by omega) _) | (with_reducible refine bl_step ?_ (by assumption)))
  clear hb5 B4 B1 B2
  obtain ⟨g0, g1, _, _⟩ := HG.out
  obtain ⟨c0, c1, f0, f1⟩ := HF.out
  have z := lt_of_cell c0
  go_wp2
  simp [bodyPost, results, Tryd.results9, go_sem, *]
  repeat (first | (with_reducible exact Below.refl _ _) | (with_reducible refine bl_alloc ?_ _) | (with_reducible refine Below.drew ?_) | (with_reducible refine bl_drewN ?_ _) | (with_reducible refine bl_set ?_ (by omega) _) | (with_reducible refine bl_step ?_ (by assumption)))
set_option maxRecDepth 100000 in
theorem read_t_ok_ok_other (s A B t : ByteArray) (n d : Int) (HC : Hid (∀ w : World, Calls Tryd.prog 20 #[.string s, .string ⟨#[47]⟩] w fun e w' => e = .returned (.tuple #[.string A, .string B, .bool true]) ∧ Below w.heap.size w w')) (PA : Hid (∀ w : World, Calls Tryd.prog 21 #[.string A, .int .i64 10, .int .i64 64] w fun e w' => e = .returned (.tuple #[.int .i64 n, .nilIface]) ∧ Below w.heap.size w w')) (PB : Hid (∀ w : World, Calls Tryd.prog 21 #[.string B, .int .i64 10, .int .i64 64] w fun e w' => e = .returned (.tuple #[.int .i64 d, .nilIface]) ∧ Below w.heap.size w w')) (HS : Hid (∀ w : World, LaidP w → Calls Tryd.prog 8 #[fr n d] w fun e w' => e = .returned (.tuple #[.string t, .int .i64 0]) ∧ Below w.heap.size w w')) (ht : (t.toList == s.toList) = false) (w : World) (L : LaidB w) :
    Calls Tryd.prog 9 #[.string s] w fun e w' => e = .returned (.tuple #[fr 0 0, .int .i64 40]) ∧ Below w.heap.size w w' := by
  have HL := hid1 L
  clear L
  go_enter Tryd.func9, Tryd.ntmps9
  go_wp2_with fail
  refine (HC.out _).mono ?_
  rintro e w1 ⟨rfl, hb1⟩
  have HF : Hid (Fy w1 w.heap.size 0 0) := hid1 (Fy.keep (w := w.alloc _) (fy_new rfl) hb1)
  have B1 : Below w.heap.size w w1 := by repeat (first | (with_reducible exact Below.refl _ _) | (with_reducible refine bl_alloc ?_ _) | (with_reducible refine Below.drew ?_) | (with_reducible refine bl_drewN ?_ _) | (with_reducible refine bl_set ?_ (by omega) _) | (with_reducible refine bl_step ?_ (by assumption)))
  have HL1 := hid1 (HL.out.on B1)
  clear hb1
  go_wp2_with fail
  refine (PA.out _).mono ?_
  rintro e w2 ⟨rfl, hb2⟩
  replace HF := hid1 (HF.out.keep hb2)
  have B2 : Below w.heap.size w w2 := by repeat (first | (with_reducible exact Below.refl _ _) | (with_reducible refine bl_alloc ?_ _) | (with_reducible refine Below.drew ?_) | (with_reducible refine bl_drewN ?_ _) | (with_reducible refine bl_set ?_ (by omega) _) | (with_reducible refine bl_step ?_ (by assumption)))
  have HL2 := hid1 (HL.out.on B2)
  clear hb2
  go_wp2_with fail
  refine (PB.out _).mono ?_
  rintro e w3 ⟨rfl, hb3⟩
  replace HF := hid1 (HF.out.keep hb3)
  have B3 : Below w.heap.size w w3 := by repeat (first | (with_reducible exact Below.refl _ _) | (with_reducible refine bl_alloc ?_ _) | (with_reducible refine Below.drew ?_) | (with_reducible refine bl_drewN ?_ _) | (with_reducible refine bl_set ?_ (by omega) _) | (with_reducible refine bl_step ?_ (by assumption)))
  have HL3 := hid1 (HL.out.on B3)
  clear hb3
  go_wp2_with fail
  refine gen_calls (fun W' => Below w.heap.size w W' ∧ Below w3.heap.size w3 W' ∧ Hid (Fy W' w3.heap.size n d)) ⟨by repeat (first | (with_reducible exact Below.refl _ _) | (with_reducible refine bl_alloc ?_ _) | (with_reducible refine Below.drew ?_) | (with_reducible refine bl_drewN ?_ _) | (with_reducible refine bl_set ?_ (by omega) _) | (with_reducible refine bl_step ?_ (by assumption))), by repeat (first | (with_reducible exact Below.refl _ _) | (with_reducible refine bl_alloc ?_ _) | (with_reducible refine Below.drew ?_) | (with_reducible refine bl_drewN ?_ _) | (with_reducible refine bl_set ?_ (by omega) _) | (with_reducible refine bl_step ?_ (by assumption))), hid1 (fy_new rfl)⟩ ?_
  rintro W4 ⟨B4, b4, HG⟩
  replace HF := hid1 (HF.out.keep b4)
  clear b4
  refine (HS.out _ (HL.out.on B4).pow).mono ?_
  rintro e w5 ⟨rfl, hb5⟩
  replace HF := hid1 (HF.out.keep hb5)
  replace HG := hid1 (HG.out.keep hb5)
  have B5 : Below w.heap.size w w5 := by repeat (first | (with_reducible exact Below.refl _ _) | (with_reducible refine bl_alloc ?_ _) | (with_reducible refine Below.drew ?_) | (with_reducible refine bl_drewN ?_ _) | (with_reducible refine bl_set ?_ (by omega) _) | (with_reducible refine bl_step ?_ (by assumption)))
  clear hb5 B4 B1 B2
  obtain ⟨g0, g1, _, _⟩ := HG.out
  obtain ⟨c0, c1, f0, f1⟩ := HF.out
  have z := lt_of_cell c0
  go_wp2
  simp [bodyPost, results, Tryd.results9, go_sem, *]
  repeat (first | (with_reducible exact Below.refl _ _) | (with_reducible refine bl_alloc ?_ _) | (with_reducible refine Below.drew ?_) | (with_reducible refine bl_drewN ?_ _) | (with_reducible refine bl_set ?_ (by omega) _) | (with_reducible refine bl_step ?_ (by assumption)))
set_option maxRecDepth 100000 in
theorem read_t_ok_ok_good (s A B : ByteArray) (n d : Int) (HC : Hid (∀ w : World, Calls Tryd.prog 20 #[.string s, .string ⟨#[47]⟩] w fun e w' => e = .returned (.tuple #[.string A, .string B, .bool true]) ∧ Below w.heap.size w w')) (PA : Hid (∀ w : World, Calls Tryd.prog 21 #[.string A, .int .i64 10, .int .i64 64] w fun e w' => e = .returned (.tuple #[.int .i64 n, .nilIface]) ∧ Below w.heap.size w w')) (PB : Hid (∀ w : World, Calls Tryd.prog 21 #[.string B, .int .i64 10, .int .i64 64] w fun e w' => e = .returned (.tuple #[.int .i64 d, .nilIface]) ∧ Below w.heap.size w w')) (HS : Hid (∀ w : World, LaidP w → Calls Tryd.prog 8 #[fr n d] w fun e w' => e = .returned (.tuple #[.string s, .int .i64 0]) ∧ Below w.heap.size w w')) (w : World) (L : LaidB w) :
    Calls Tryd.prog 9 #[.string s] w fun e w' => e = .returned (.tuple #[fr n d, .int .i64 0]) ∧ Below w.heap.size w w' := by
  have HL := hid1 L
  clear L
  go_enter Tryd.func9, Tryd.ntmps9
  go_wp2_with fail
  refine (HC.out _).mono ?_
  rintro e w1 ⟨rfl, hb1⟩
  have HF : Hid (Fy w1 w.heap.size 0 0) := hid1 (Fy.keep (w := w.alloc _) (fy_new rfl) hb1)
  have B1 : Below w.heap.size w w1 := by repeat (first | (with_reducible exact Below.refl _ _) | (with_reducible refine bl_alloc ?_ _) | (with_reducible refine Below.drew ?_) | (with_reducible refine bl_drewN ?_ _) | (with_reducible refine bl_set ?_ (by omega) _) | (with_reducible refine bl_step ?_ (by assumption)))
  have HL1 := hid1 (HL.out.on B1)
  clear hb1
  go_wp2_with fail
  refine (PA.out _).mono ?_
  rintro e w2 ⟨rfl, hb2⟩
  replace HF := hid1 (HF.out.keep hb2)
  have B2 : Below w.heap.size w w2 := by repeat (first | (with_reducible exact Below.refl _ _) | (with_reducible refine bl_alloc ?_ _) | (with_reducible refine Below.drew ?_) | (with_reducible refine bl_drewN ?_ _) | (with_reducible refine bl_set ?_ (by omega) _) | (with_reducible refine bl_step ?_ (by assumption)))
  have HL2 := hid1 (HL.out.on B2)
  clear hb2
  go_wp2_with fail
  refine (PB.out _).mono ?_
  rintro e w3 ⟨rfl, hb3⟩
  replace HF := hid1 (HF.out.keep hb3)
  have B3 : Below w.heap.size w w3 := by repeat (first | (with_reducible exact Below.refl _ _) | (with_reducible refine bl_alloc ?_ _) | (with_reducible refine Below.drew ?_) | (with_reducible refine bl_drewN ?_ _) | (with_reducible refine bl_set ?_ (by omega) _) | (with_reducible refine bl_step ?_ (by assumption)))
  have HL3 := hid1 (HL.out.on B3)
  clear hb3
  go_wp2_with fail
  refine gen_calls (fun W' => Below w.heap.size w W' ∧ Below w3.heap.size w3 W' ∧ Hid (Fy W' w3.heap.size n d)) ⟨by repeat (first | (with_reducible exact Below.refl _ _) | (with_reducible refine bl_alloc ?_ _) | (with_reducible refine Below.drew ?_) | (with_reducible refine bl_drewN ?_ _) | (with_reducible refine bl_set ?_ (by omega) _) | (with_reducible refine bl_step ?_ (by assumption))), by repeat (first | (with_reducible exact Below.refl _ _) | (with_reducible refine bl_alloc ?_ _) | (with_reducible refine Below.drew ?_) | (with_reducible refine bl_drewN ?_ _) | (with_reducible refine bl_set ?_ (by omega) _) | (with_reducible refine bl_step ?_ (by assumption))), hid1 (fy_new rfl)⟩ ?_
  rintro W4 ⟨B4, b4, HG⟩
  replace HF := hid1 (HF.out.keep b4)
  clear b4
  refine (HS.out _ (HL.out.on B4).pow).mono ?_
  rintro e w5 ⟨rfl, hb5⟩
  replace HF := hid1 (HF.out.keep hb5)
  replace HG := hid1 (HG.out.keep hb5)
  have B5 : Below w.heap.size w w5 := by repeat (first | (with_reducible exact Below.refl _ _) | (with_reducible refine bl_alloc ?_ _) | (with_reducible refine Below.drew ?_) | (with_reducible refine bl_drewN ?_ _) | (with_reducible refine bl_set ?_ (by omega) _) | (with_reducible refine bl_step ?_ (by assumption)))
  clear hb5 B4 B1 B2
  obtain ⟨g0, g1, _, _⟩ := HG.out
  obtain ⟨c0, c1, f0, f1⟩ := HF.out
  have z := lt_of_cell c0
  go_wp2
  simp [bodyPost, results, Tryd.results9, go_sem, *]
  repeat (first | (with_reducible exact Below.refl _ _) | (with_reducible refine bl_alloc ?_ _) | (with_reducible refine Below.drew ?_) | (with_reducible refine bl_drewN ?_ _) | (with_reducible refine bl_set ?_ (by omega) _) | (with_reducible refine bl_step ?_ (by assumption)))
set_option maxRecDepth 100000 in
theorem read_f_no_ok_x (s A : ByteArray) (d : Int) (HC : Hid (∀ w : World, Calls Tryd.prog 20 #[.string s, .string ⟨#[47]⟩] w fun e w' => e = .returned (.tuple #[.string A, .string ⟨#[]⟩, .bool false]) ∧ Below w.heap.size w w')) (PA : Hid (∀ w : World, LaidB w → Calls Tryd.prog 21 #[.string A, .int .i64 10, .int .i64 64] w fun e w' => ∃ v T N, e = .returned (.tuple #[.int .i64 v, .iface T (.pointer (some ⟨N, 0, none⟩))]) ∧ Below w.heap.size w w')) (PB : Hid (∀ w : World, Calls Tryd.prog 21 #[.string ⟨#[49]⟩, .int .i64 10, .int .i64 64] w fun e w' => e = .returned (.tuple #[.int .i64 d, .nilIface]) ∧ Below w.heap.size w w')) (w : World) (L : LaidB w) :
    Calls Tryd.prog 9 #[.string s] w fun e w' => e = .returned (.tuple #[fr 0 0, .int .i64 40]) ∧ Below w.heap.size w w' := by
  have HL := hid1 L
  clear L
  go_enter Tryd.func9, Tryd.ntmps9
  go_wp2_with fail
  refine (HC.out _).mono ?_
  rintro e w1 ⟨rfl, hb1⟩
  have HF : Hid (Fy w1 w.heap.size 0 0) := hid1 (Fy.keep (w := w.alloc _) (fy_new rfl) hb1)
  have B1 : Below w.heap.size w w1 := by repeat (first | (with_reducible exact Below.refl _ _) | (with_reducible refine bl_alloc ?_ _) | (with_reducible refine Below.drew ?_) | (with_reducible refine bl_drewN ?_ _) | (with_reducible refine bl_set ?_ (by omega) _) | (with_reducible refine bl_step ?_ (by assumption)))
  have HL1 := hid1 (HL.out.on B1)
  clear hb1
  go_wp2_with fail
  refine (PA.out _ HL1.out).mono ?_
  rintro e w2 ⟨v2, T2, N2, rfl, hb2⟩
  replace HF := hid1 (HF.out.keep hb2)
  have B2 : Below w.heap.size w w2 := by repeat (first | (with_reducible exact Below.refl _ _) | (with_reducible refine bl_alloc ?_ _) | (with_reducible refine Below.drew ?_) | (with_reducible refine bl_drewN ?_ _) | (with_reducible refine bl_set ?_ (by omega) _) | (with_reducible refine bl_step ?_ (by assumption)))
  have HL2 := hid1 (HL.out.on B2)
  clear hb2
  go_wp2_with fail
  refine (PB.out _).mono ?_
  rintro e w3 ⟨rfl, hb3⟩
  replace HF := hid1 (HF.out.keep hb3)
  have B3 : Below w.heap.size w w3 := by repeat (first | (with_reducible exact Below.refl _ _) | (with_reducible refine bl_alloc ?_ _) | (with_reducible refine Below.drew ?_) | (with_reducible refine bl_drewN ?_ _) | (with_reducible refine bl_set ?_ (by omega) _) | (with_reducible refine bl_step ?_ (by assumption)))
  have HL3 := hid1 (HL.out.on B3)
  clear hb3
  obtain ⟨c0, c1, f0, f1⟩ := HF.out
  have z := lt_of_cell c0
  go_wp2
  simp [bodyPost, results, Tryd.results9, go_sem, *]
  repeat (first | (with_reducible exact Below.refl _ _) | (with_reducible refine bl_alloc ?_ _) | (with_reducible refine Below.drew ?_) | (with_reducible refine bl_drewN ?_ _) | (with_reducible refine bl_set ?_ (by omega) _) | (with_reducible refine bl_step ?_ (by assumption)))
set_option maxRecDepth 100000 in
theorem read_f_no_no_x (s A : ByteArray) (HC : Hid (∀ w : World, Calls Tryd.prog 20 #[.string s, .string ⟨#[47]⟩] w fun e w' => e = .returned (.tuple #[.string A, .string ⟨#[]⟩, .bool false]) ∧ Below w.heap.size w w')) (PA : Hid (∀ w : World, LaidB w → Calls Tryd.prog 21 #[.string A, .int .i64 10, .int .i64 64] w fun e w' => ∃ v T N, e = .returned (.tuple #[.int .i64 v, .iface T (.pointer (some ⟨N, 0, none⟩))]) ∧ Below w.heap.size w w')) (PB : Hid (∀ w : World, LaidB w → Calls Tryd.prog 21 #[.string ⟨#[49]⟩, .int .i64 10, .int .i64 64] w fun e w' => ∃ v T N, e = .returned (.tuple #[.int .i64 v, .iface T (.pointer (some ⟨N, 0, none⟩))]) ∧ Below w.heap.size w w')) (w : World) (L : LaidB w) :
    Calls Tryd.prog 9 #[.string s] w fun e w' => e = .returned (.tuple #[fr 0 0, .int .i64 40]) ∧ Below w.heap.size w w' := by
  have HL := hid1 L
  clear L
  go_enter Tryd.func9, Tryd.ntmps9
  go_wp2_with fail
  refine (HC.out _).mono ?_
  rintro e w1 ⟨rfl, hb1⟩
  have HF : Hid (Fy w1 w.heap.size 0 0) := hid1 (Fy.keep (w := w.alloc _) (fy_new rfl) hb1)
  have B1 : Below w.heap.size w w1 := by repeat (first | (with_reducible exact Below.refl _ _) | (with_reducible refine bl_alloc ?_ _) | (with_reducible refine Below.drew ?_) | (with_reducible refine bl_drewN ?_ _) | (with_reducible refine bl_set ?_ (by omega) _) | (with_reducible refine bl_step ?_ (by assumption)))
  have HL1 := hid1 (HL.out.on B1)
  clear hb1
  go_wp2_with fail
  refine (PA.out _ HL1.out).mono ?_
  rintro e w2 ⟨v2, T2, N2, rfl, hb2⟩
  replace HF := hid1 (HF.out.keep hb2)
  have B2 : Below w.heap.size w w2 := by repeat (first | (with_reducible exact Below.refl _ _) | (with_reducible refine bl_alloc ?_ _) | (with_reducible refine Below.drew ?_) | (with_reducible refine bl_drewN ?_ _) | (with_reducible refine bl_set ?_ (by omega) _) | (with_reducible refine bl_step ?_ (by assumption)))
  have HL2 := hid1 (HL.out.on B2)
  clear hb2
  go_wp2_with fail
  refine (PB.out _ HL2.out).mono ?_
  rintro e w3 ⟨v3, T3, N3, rfl, hb3⟩
  replace HF := hid1 (HF.out.keep hb3)
  have B3 : Below w.heap.size w w3 := by repeat (first | (with_reducible exact Below.refl _ _) | (with_reducible refine bl_alloc ?_ _) | (with_reducible refine Below.drew ?_) | (with_reducible refine bl_drewN ?_ _) | (with_reducible refine bl_set ?_ (by omega) _) | (with_reducible refine bl_step ?_ (by assumption)))
  have HL3 := hid1 (HL.out.on B3)
  clear hb3
  obtain ⟨c0, c1, f0, f1⟩ := HF.out
  have z := lt_of_cell c0
  go_wp2
  simp [bodyPost, results, Tryd.results9, go_sem, *]
  repeat (first | (with_reducible exact Below.refl _ _) | (with_reducible refine bl_alloc ?_ _) | (with_reducible refine Below.drew ?_) | (with_reducible refine bl_drewN ?_ _) | (with_reducible refine bl_set ?_ (by omega) _) | (with_reducible refine bl_step ?_ (by assumption)))
set_option maxRecDepth 100000 in
theorem read_f_ok_no_x (s A : ByteArray) (n : Int) (HC : Hid (∀ w : World, Calls Tryd.prog 20 #[.string s, .string ⟨#[47]⟩] w fun e w' => e = .returned (.tuple #[.string A, .string ⟨#[]⟩, .bool false]) ∧ Below w.heap.size w w')) (PA : Hid (∀ w : World, Calls Tryd.prog 21 #[.string A, .int .i64 10, .int .i64 64] w fun e w' => e = .returned (.tuple #[.int .i64 n, .nilIface]) ∧ Below w.heap.size w w')) (PB : Hid (∀ w : World, LaidB w → Calls Tryd.prog 21 #[.string ⟨#[49]⟩, .int .i64 10, .int .i64 64] w fun e w' => ∃ v T N, e = .returned (.tuple #[.int .i64 v, .iface T (.pointer (some ⟨N, 0, none⟩))]) ∧ Below w.heap.size w w')) (w : World) (L : LaidB w) :
    Calls Tryd.prog 9 #[.string s] w fun e w' => e = .returned (.tuple #[fr 0 0, .int .i64 40]) ∧ Below w.heap.size w w' := by
  have HL := hid1 L
  clear L
  go_enter Tryd.func9, Tryd.ntmps9
  go_wp2_with fail
  refine (HC.out _).mono ?_
  rintro e w1 ⟨rfl, hb1⟩
  have HF : Hid (Fy w1 w.heap.size 0 0) := hid1 (Fy.keep (w := w.alloc _) (fy_new rfl) hb1)
  have B1 : Below w.heap.size w w1 := by repeat (first | (with_reducible exact Below.refl _ _) | (with_reducible refine bl_alloc ?_ _) | (with_reducible refine Below.drew ?_) | (with_reducible refine bl_drewN ?_ _) | (with_reducible refine bl_set ?_ (by omega) _) | (with_reducible refine bl_step ?_ (by assumption)))
  have HL1 := hid1 (HL.out.on B1)
  clear hb1
  go_wp2_with fail
  refine (PA.out _).mono ?_
  rintro e w2 ⟨rfl, hb2⟩
  replace HF := hid1 (HF.out.keep hb2)
  have B2 : Below w.heap.size w w2 := by repeat (first | (with_reducible exact Below.refl _ _) | (with_reducible refine bl_alloc ?_ _) | (with_reducible refine Below.drew ?_) | (with_reducible refine bl_drewN ?_ _) | (with_reducible refine bl_set ?_ (by omega) _) | (with_reducible refine bl_step ?_ (by assumption)))
  have HL2 := hid1 (HL.out.on B2)
  clear hb2
  go_wp2_with fail
  refine (PB.out _ HL2.out).mono ?_
  rintro e w3 ⟨v3, T3, N3, rfl, hb3⟩
  replace HF := hid1 (HF.out.keep hb3)
  have B3 : Below w.heap.size w w3 := by repeat (first | (with_reducible exact Below.refl _ _) | (with_reducible refine bl_alloc ?_ _) | (with_reducible refine Below.drew ?_) | (with_reducible refine bl_drewN ?_ _) | (with_reducible refine bl_set ?_ (by omega) _) | (with_reducible refine bl_step ?_ (by assumption)))
  have HL3 := hid1 (HL.out.on B3)
  clear hb3
  obtain ⟨c0, c1, f0, f1⟩ := HF.out
  have z := lt_of_cell c0
  go_wp2
  simp [bodyPost, results, Tryd.results9, go_sem, *]
  repeat (first | (with_reducible exact Below.refl _ _) | (with_reducible refine bl_alloc ?_ _) | (with_reducible refine Below.drew ?_) | (with_reducible refine bl_drewN ?_ _) | (with_reducible refine bl_set ?_ (by omega) _) | (with_reducible refine bl_step ?_ (by assumption)))
set_option maxRecDepth 100000 in
theorem read_f_ok_ok_bad (s A t : ByteArray) (n d : Int) (HC : Hid (∀ w : World, Calls Tryd.prog 20 #[.string s, .string ⟨#[47]⟩] w fun e w' => e = .returned (.tuple #[.string A, .string ⟨#[]⟩, .bool false]) ∧ Below w.heap.size w w')) (PA : Hid (∀ w : World, Calls Tryd.prog 21 #[.string A, .int .i64 10, .int .i64 64] w fun e w' => e = .returned (.tuple #[.int .i64 n, .nilIface]) ∧ Below w.heap.size w w')) (PB : Hid (∀ w : World, Calls Tryd.prog 21 #[.string ⟨#[49]⟩, .int .i64 10, .int .i64 64] w fun e w' => e = .returned (.tuple #[.int .i64 d, .nilIface]) ∧ Below w.heap.size w w')) (HS : Hid (∀ w : World, LaidP w → Calls Tryd.prog 8 #[fr n d] w fun e w' => e = .returned (.tuple #[.string t, .int .i64 40]) ∧ Below w.heap.size w w')) (w : World) (L : LaidB w) :
    Calls Tryd.prog 9 #[.string s] w fun e w' => e = .returned (.tuple #[fr 0 0, .int .i64 40]) ∧ Below w.heap.size w w' := by
  have HL := hid1 L
  clear L
  go_enter Tryd.func9, Tryd.ntmps9
  go_wp2_with fail
  refine (HC.out _).mono ?_
  rintro e w1 ⟨rfl, hb1⟩
  have HF : Hid (Fy w1 w.heap.size 0 0) := hid1 (Fy.keep (w := w.alloc _) (fy_new rfl) hb1)
  have B1 : Below w.heap.size w w1 := by repeat (first | (with_reducible exact Below.refl _ _) | (with_reducible refine bl_alloc ?_ _) | (with_reducible refine Below.drew ?_) | (with_reducible refine bl_drewN ?_ _) | (with_reducible refine bl_set ?_ (by omega) _) | (with_reducible refine bl_step ?_ (by assumption)))
  have HL1 := hid1 (HL.out.on B1)
  clear hb1
  go_wp2_with fail
  refine (PA.out _).mono ?_
  rintro e w2 ⟨rfl, hb2⟩
  replace HF := hid1 (HF.out.keep hb2)
  have B2 : Below w.heap.size w w2 := by repeat (first | (with_reducible exact Below.refl _ _) | (with_reducible refine bl_alloc ?_ _) | (with_reducible refine Below.drew ?_) | (with_reducible refine bl_drewN ?_ _) | (with_reducible refine bl_set ?_ (by omega) _) | (with_reducible refine bl_step ?_ (by assumption)))
  have HL2 := hid1 (HL.out.on B2)
  clear hb2
  go_wp2_with fail
  refine (PB.out _).mono ?_
  rintro e w3 ⟨rfl, hb3⟩
  replace HF := hid1 (HF.out.keep hb3)
  have B3 : Below w.heap.size w w3 := by repeat (first | (with_reducible exact Below.refl _ _) | (with_reducible refine bl_alloc ?_ _) | (with_reducible refine Below.drew ?_) | (with_reducible refine bl_drewN ?_ _) | (with_reducible refine bl_set ?_ (by omega) _) | (with_reducible refine bl_step ?_ (by assumption)))
  have HL3 := hid1 (HL.out.on B3)
  clear hb3
  go_wp2_with fail
  refine gen_calls (fun W' => Below w.heap.size w W' ∧ Below w3.heap.size w3 W' ∧ Hid (Fy W' w3.heap.size n d)) ⟨by repeat (first | (with_reducible exact Below.refl _ _) | (with_reducible refine bl_alloc ?_ _) | (with_reducible refine Below.drew ?_) | (with_reducible refine bl_drewN ?_ _) | (with_reducible refine bl_set ?_ (by omega) _) | (with_reducible refine bl_step ?_ (by assumption))), by repeat (first | (with_reducible exact Below.refl _ _) | (with_reducible refine bl_alloc ?_ _) | (with_reducible refine Below.drew ?_) | (with_reducible refine bl_drewN ?_ _) | (with_reducible refine bl_set ?_ (by omega) _) | (with_reducible refine bl_step ?_ (by assumption))), hid1 (fy_new rfl)⟩ ?_
  rintro W4 ⟨B4, b4, HG⟩
  replace HF := hid1 (HF.out.keep b4)
  clear b4
  refine (HS.out _ (HL.out.on B4).pow).mono ?_
  rintro e w5 ⟨rfl, hb5⟩
  replace HF := hid1 (HF.out.keep hb5)
  replace HG := hid1 (HG.out.keep hb5)
  have B5 : Below w.heap.size w w5 := by repeat (first | (with_reducible exact Below.refl _ _) | (with_reducible refine bl_alloc ?_ _) | (with_reducible refine Below.drew ?_) | (with_reducible refine bl_drewN ?_ _) | (with_reducible refine bl_set ?_ (by omega) _) | (with_reducible refine bl_step ?_ (by assumption)))
  clear hb5 B4 B1 B2
  obtain ⟨g0, g1, _, _⟩ := HG.out
  obtain ⟨c0, c1, f0, f1⟩ := HF.out
  have z := lt_of_cell c0
  go_wp2
  simp [bodyPost, results, Tryd.results9, go_sem, *]
  repeat (first | (with_reducible exact Below.refl _ _) | (with_reducible refine bl_alloc ?_ _) | (with_reducible refine Below.drew ?_) | (with_reducible refine bl_drewN ?_ _) | (with_reducible refine bl_set ?_ (by omega) _) | (with_reducible refine bl_step ?_ (by assumption)))
set_option maxRecDepth 100000 in
theorem read_f_ok_ok_other (s A t : ByteArray) (n d : Int) (HC : Hid (∀ w : World, Calls Tryd.prog 20 #[.string s, .string ⟨#[47]⟩] w fun e w' => e = .returned (.tuple #[.string A, .string ⟨#[]⟩, .bool false]) ∧ Below w.heap.size w w')) (PA : Hid (∀ w : World, Calls Tryd.prog 21 #[.string A, .int .i64 10, .int .i64 64] w fun e w' => e = .returned (.tuple #[.int .i64 n, .nilIface]) ∧ Below w.heap.size w w')) (PB : Hid (∀ w : World, Calls Tryd.prog 21 #[.string ⟨#[49]⟩, .int .i64 10, .int .i64 64] w fun e w' => e = .returned (.tuple #[.int .i64 d, .nilIface]) ∧ Below w.heap.size w w')) (HS : Hid (∀ w : World, LaidP w → Calls Tryd.prog 8 #[fr n d] w fun e w' => e = .returned (.tuple #[.string t, .int .i64 0]) ∧ Below w.heap.size w w')) (ht : (t.toList == s.toList) = false) (w : World) (L : LaidB w) :
    Calls Tryd.prog 9 #[.string s] w fun e w' => e = .returned (.tuple #[fr 0 0, .int .i64 40]) ∧ Below w.heap.size w w' := by
  have HL := hid1 L
  clear L
  go_enter Tryd.func9, Tryd.ntmps9
  go_wp2_with fail
  refine (HC.out _).mono ?_
  rintro e w1 ⟨rfl, hb1⟩
  have HF : Hid (Fy w1 w.heap.size 0 0) := hid1 (Fy.keep (w := w.alloc _) (fy_new rfl) hb1)
  have B1 : Below w.heap.size w w1 := by repeat (first | (with_reducible exact Below.refl _ _) | (with_reducible refine bl_alloc ?_ _) | (with_reducible refine Below.drew ?_) | (with_reducible refine bl_drewN ?_ _) | (with_reducible refine bl_set ?_ (by omega) _) | (with_reducible refine bl_step ?_ (by assumption)))
  have HL1 := hid1 (HL.out.on B1)
  clear hb1
  go_wp2_with fail
  refine (PA.out _).mono ?_
  rintro e w2 ⟨rfl, hb2⟩
  replace HF := hid1 (HF.out.keep hb2)
  have B2 : Below w.heap.size w w2 := by repeat (first | (with_reducible exact Below.refl _ _) | (with_reducible refine bl_alloc ?_ _) | (with_reducible refine Below.drew ?_) | (with_reducible refine bl_drewN ?_ _) | (with_reducible refine bl_set ?_ (by omega) _) | (with_reducible refine bl_step ?_ (by assumption)))
  have HL2 := hid1 (HL.out.on B2)
  clear hb2
  go_wp2_with fail
  refine (PB.out _).mono ?_
  rintro e w3 ⟨rfl, hb3⟩
  replace HF := hid1 (HF.out.keep hb3)
  have B3 : Below w.heap.size w w3 := by repeat (first | (with_reducible exact Below.refl _ _) | (with_reducible refine bl_alloc ?_ _) | (with_reducible refine Below.drew ?_) | (with_reducible refine bl_drewN ?_ _) | (with_reducible refine bl_set ?_ (by omega) _) | (with_reducible refine bl_step ?_ (by assumption)))
  have HL3 := hid1 (HL.out.on B3)
  clear hb3
  go_wp2_with fail
  refine gen_calls (fun W' => Below w.heap.size w W' ∧ Below w3.heap.size w3 W' ∧ Hid (Fy W' w3.heap.size n d)) ⟨by repeat (first | (with_reducible exact Below.refl _ _) | (with_reducible refine bl_alloc ?_ _) | (with_reducible refine Below.drew ?_) | (with_reducible refine bl_drewN ?_ _) | (with_reducible refine bl_set ?_ (by omega) _) | (with_reducible refine bl_step ?_ (by assumption))), by repeat (first | (with_reducible exact Below.refl _ _) | (with_reducible refine bl_alloc ?_ _) | (with_reducible refine Below.drew ?_) | (with_reducible refine bl_drewN ?_ _) | (with_reducible refine bl_set ?_ (by omega) _) | (with_reducible refine bl_step ?_ (by assumption))), hid1 (fy_new rfl)⟩ ?_
  rintro W4 ⟨B4, b4, HG⟩
  replace HF := hid1 (HF.out.keep b4)
  clear b4
  refine (HS.out _ (HL.out.on B4).pow).mono ?_
  rintro e w5 ⟨rfl, hb5⟩
  replace HF := hid1 (HF.out.keep hb5)
  replace HG := hid1 (HG.out.keep hb5)
  have B5 : Below w.heap.size w w5 := by repeat (first | (with_reducible exact Below.refl _ _) | (with_reducible refine bl_alloc ?_ _) | (with_reducible refine Below.drew ?_) | (with_reducible refine bl_drewN ?_ _) | (with_reducible refine bl_set ?_ (by omega) _) | (with_reducible refine bl_step ?_ (by assumption)))
  clear hb5 B4 B1 B2
  obtain ⟨g0, g1, _, _⟩ := HG.out
  obtain ⟨c0, c1, f0, f1⟩ := HF.out
  have z := lt_of_cell c0
  go_wp2
  simp [bodyPost, results, Tryd.results9, go_sem, *]
  repeat (first | (with_reducible exact Below.refl _ _) | (with_reducible refine bl_alloc ?_ _) | (with_reducible refine Below.drew ?_) | (with_reducible refine bl_drewN ?_ _) | (with_reducible refine bl_set ?_ (by omega) _) | (with_reducible refine bl_step ?_ (by assumption)))
set_option maxRecDepth 100000 in
theorem read_f_ok_ok_good (s A : ByteArray) (n d : Int) (HC : Hid (∀ w : World, Calls Tryd.prog 20 #[.string s, .string ⟨#[47]⟩] w fun e w' => e = .returned (.tuple #[.string A, .string ⟨#[]⟩, .bool false]) ∧ Below w.heap.size w w')) (PA : Hid (∀ w : World, Calls Tryd.prog 21 #[.string A, .int .i64 10, .int .i64 64] w fun e w' => e = .returned (.tuple #[.int .i64 n, .nilIface]) ∧ Below w.heap.size w w')) (PB : Hid (∀ w : World, Calls Tryd.prog 21 #[.string ⟨#[49]⟩, .int .i64 10, .int .i64 64] w fun e w' => e = .returned (.tuple #[.int .i64 d, .nilIface]) ∧ Below w.heap.size w w')) (HS : Hid (∀ w : World, LaidP w → Calls Tryd.prog 8 #[fr n d] w fun e w' => e = .returned (.tuple #[.string s, .int .i64 0]) ∧ Below w.heap.size w w')) (w : World) (L : LaidB w) :
    Calls Tryd.prog 9 #[.string s] w fun e w' => e = .returned (.tuple #[fr n d, .int .i64 0]) ∧ Below w.heap.size w w' := by
  have HL := hid1 L
  clear L
  go_enter Tryd.func9, Tryd.ntmps9
  go_wp2_with fail
  refine (HC.out _).mono ?_
  rintro e w1 ⟨rfl, hb1⟩
  have HF : Hid (Fy w1 w.heap.size 0 0) := hid1 (Fy.keep (w := w.alloc _) (fy_new rfl) hb1)
  have B1 : Below w.heap.size w w1 := by repeat (first | (with_reducible exact Below.refl _ _) | (with_reducible refine bl_alloc ?_ _) | (with_reducible refine Below.drew ?_) | (with_reducible refine bl_drewN ?_ _) | (with_reducible refine bl_set ?_ (by omega) _) | (with_reducible refine bl_step ?_ (by assumption)))
  have HL1 := hid1 (HL.out.on B1)
  clear hb1
  go_wp2_with fail
  refine (PA.out _).mono ?_
  rintro e w2 ⟨rfl, hb2⟩
  replace HF := hid1 (HF.out.keep hb2)
  have B2 : Below w.heap.size w w2 := by repeat (first | (with_reducible exact Below.refl _ _) | (with_reducible refine bl_alloc ?_ _) | (with_reducible refine Below.drew ?_) | (with_reducible refine bl_drewN ?_ _) | (with_reducible refine bl_set ?_ (by omega) _) | (with_reducible refine bl_step ?_ (by assumption)))
  have HL2 := hid1 (HL.out.on B2)
  clear hb2
  go_wp2_with fail
  refine (PB.out _).mono ?_
  rintro e w3 ⟨rfl, hb3⟩
  replace HF := hid1 (HF.out.keep hb3)
  have B3 : Below w.heap.size w w3 := by repeat (first | (with_reducible exact Below.refl _ _) | (with_reducible refine bl_alloc ?_ _) | (with_reducible refine Below.drew ?_) | (with_reducible refine bl_drewN ?_ _) | (with_reducible refine bl_set ?_ (by omega) _) | (with_reducible refine bl_step ?_ (by assumption)))
  have HL3 := hid1 (HL.out.on B3)
  clear hb3
  go_wp2_with fail
  refine gen_calls (fun W' => Below w.heap.size w W' ∧ Below w3.heap.size w3 W' ∧ Hid (Fy W' w3.heap.size n d)) ⟨by repeat (first | (with_reducible exact Below.refl _ _) | (with_reducible refine bl_alloc ?_ _) | (with_reducible refine Below.drew ?_) | (with_reducible refine bl_drewN ?_ _) | (with_reducible refine bl_set ?_ (by omega) _) | (with_reducible refine bl_step ?_ (by assumption))), by repeat (first | (with_reducible exact Below.refl _ _) | (with_reducible refine bl_alloc ?_ _) | (with_reducible refine Below.drew ?_) | (with_reducible refine bl_drewN ?_ _) | (with_reducible refine bl_set ?_ (by omega) _) | (with_reducible refine bl_step ?_ (by assumption))), hid1 (fy_new rfl)⟩ ?_
  rintro W4 ⟨B4, b4, HG⟩
  replace HF := hid1 (HF.out.keep b4)
  clear b4
  refine (HS.out _ (HL.out.on B4).pow).mono ?_
  rintro e w5 ⟨rfl, hb5⟩
  replace HF := hid1 (HF.out.keep hb5)
  replace HG := hid1 (HG.out.keep hb5)
  have B5 : Below w.heap.size w w5 := by repeat (first | (with_reducible exact Below.refl _ _) | (with_reducible refine bl_alloc ?_ _) | (with_reducible refine Below.drew ?_) | (with_reducible refine bl_drewN ?_ _) | (with_reducible refine bl_set ?_ (by omega) _) | (with_reducible refine bl_step ?_ (by assumption)))
  clear hb5 B4 B1 B2
  obtain ⟨g0, g1, _, _⟩ := HG.out
  obtain ⟨c0, c1, f0, f1⟩ := HF.out
  have z := lt_of_cell c0
  go_wp2
  simp [bodyPost, results, Tryd.results9, go_sem, *]
  repeat (first | (with_reducible exact Below.refl _ _) | (with_reducible refine bl_alloc ?_ _) | (with_reducible refine Below.drew ?_) | (with_reducible refine bl_drewN ?_ _) | (with_reducible refine bl_set ?_ (by omega) _) | (with_reducible refine bl_step ?_ (by assumption)))
end Go.Proofs.YtboabgjgcnkelabDoor
/- READ: THE FRACTION WHOSE SHOW IT IS, OR NONE. -/
namespace Go.Proofs.YtboabgjgcnkelabDoor
open Go.RowKit Go.Shelf

theorem ba_eq {s : ByteArray} {l : List UInt8} (h : s.data.toList = l) : s = ⟨l.toArray⟩ := by
  apply ByteArray.ext
  apply Array.ext'
  simpa using h
theorem ba_ne {t s : ByteArray} {l : List UInt8} (ht : t = ⟨l.toArray⟩) (h : ¬ l = s.data.toList) : (t.toList == s.toList) = false := by
  rw [Lib.toList_data, Lib.toList_data, ht]
  simpa using h
theorem itoa_one : Lib.itoa 1 = [49] := by decide +kernel
theorem parse_one : Lib.parseIntB 64 (⟨#[49]⟩ : ByteArray).data.toList = .ok 1 := by decide +kernel
theorem fread_good (s : ByteArray) (hl : s.size ≤ 281474976710656) (n d : Int) (hf : Fr n d) (hs : s.data.toList = shL n d) (w : World) (L : LaidB w) :
    Calls Tryd.prog 9 #[.string s] w fun e w' => e = .returned (.tuple #[fr n d, .int .i64 0]) ∧ Below w.heap.size w w' := by
  have pn : Lib.parseIntB 64 (Lib.itoa n) = .ok n := parse_itoa hf.2.2.1 hf.2.2.2
  have pd : Lib.parseIntB 64 (Lib.itoa d) = .ok d := parse_itoa (by have := hf.1; omega) (by have := hf.2.1; omega)
  have HS := fshow_ok n d hf
  rw [← ba_eq hs] at HS
  by_cases hd : d = 1
  · subst hd
    have e : s.data.toList = Lib.itoa n := by rw [hs]; unfold shL; rw [if_pos rfl]
    have h47 : (47 : UInt8) ∉ s.data.toList := by rw [e]; exact itoa_stroke n
    exact read_f_ok_ok_good s s n 1 (hid1 (cut_no s h47)) (hid1 (parse_ok s hl n (by rw [e]; exact pn))) (hid1 (parse_ok _ (by decide) 1 parse_one)) (hid1 HS) w L
  · have e : s.data.toList = Lib.itoa n ++ 47 :: Lib.itoa d := by rw [hs]; unfold shL; rw [if_neg hd]
    have hz : s.size = (Lib.itoa n).length + 1 + (Lib.itoa d).length := by
      have : s.size = s.data.toList.length := rfl
      rw [this, e]; simp; omega
    have z1 : (⟨(Lib.itoa n).toArray⟩ : ByteArray).size = (Lib.itoa n).length := rfl
    have z2 : (⟨(Lib.itoa d).toArray⟩ : ByteArray).size = (Lib.itoa d).length := rfl
    exact read_t_ok_ok_good s ⟨(Lib.itoa n).toArray⟩ ⟨(Lib.itoa d).toArray⟩ n d (hid1 (cut_yes s _ _ e (itoa_stroke n) hl)) (hid1 (parse_ok _ (by omega) n pn)) (hid1 (parse_ok _ (by omega) d pd)) (hid1 HS) w L
theorem fread_bad (s : ByteArray) (hl : s.size ≤ 281474976710656) (h : ∀ n d, Fr n d → ¬ shL n d = s.data.toList) (w : World) (L : LaidB w) :
    Calls Tryd.prog 9 #[.string s] w fun e w' => e = .returned (.tuple #[fr 0 0, .int .i64 40]) ∧ Below w.heap.size w w' := by
  rcases index_cases 47 s.data.toList with ⟨_, h1⟩ | ⟨a, b, h1, h2, _⟩
  · have HC := hid1 (cut_no s h1)
    have P1 := hid1 (parse_ok ⟨#[49]⟩ (by decide) 1 parse_one)
    by_cases k : ∃ n, Lib.parseIntB 64 s.data.toList = .ok n
    · obtain ⟨n, k⟩ := k
      have PA := hid1 (parse_ok s hl n k)
      by_cases hf : Fr n 1
      · exact read_f_ok_ok_other s s _ n 1 HC PA P1 (hid1 (fshow_ok n 1 hf)) (ba_ne rfl (h n 1 hf)) w L
      · exact read_f_ok_ok_bad s s _ n 1 HC PA P1 (hid1 (fun w _ => fshow_no n 1 hf w)) w L
    · have PA := hid1 (parse_no s hl (fun v e => k ⟨v, e⟩))
      exact read_f_no_ok_x s s 1 HC PA P1 w L
  · have hz : s.size = a.length + 1 + b.length := by
      have : s.size = s.data.toList.length := rfl
      rw [this, h1]; simp; omega
    have z1 : (⟨a.toArray⟩ : ByteArray).size = a.length := rfl
    have z2 : (⟨b.toArray⟩ : ByteArray).size = b.length := rfl
    have HC := hid1 (cut_yes s a b h1 h2 hl)
    by_cases k : ∃ n, Lib.parseIntB 64 a = .ok n
    · obtain ⟨n, k⟩ := k
      have PA := hid1 (parse_ok ⟨a.toArray⟩ (by omega) n k)
      by_cases k2 : ∃ d, Lib.parseIntB 64 b = .ok d
      · obtain ⟨d, k2⟩ := k2
        have PB := hid1 (parse_ok ⟨b.toArray⟩ (by omega) d k2)
        by_cases hf : Fr n d
        · exact read_t_ok_ok_other s _ _ _ n d HC PA PB (hid1 (fshow_ok n d hf)) (ba_ne rfl (h n d hf)) w L
        · exact read_t_ok_ok_bad s _ _ _ n d HC PA PB (hid1 (fun w _ => fshow_no n d hf w)) w L
      · have PB := hid1 (parse_no ⟨b.toArray⟩ (by omega) (fun v e => k2 ⟨v, e⟩))
        exact read_t_ok_no_x s _ _ n HC PA PB w L
    · have PA := hid1 (parse_no ⟨a.toArray⟩ (by omega) (fun v e => k ⟨v, e⟩))
      by_cases k2 : ∃ d, Lib.parseIntB 64 b = .ok d
      · obtain ⟨d, k2⟩ := k2
        have PB := hid1 (parse_ok ⟨b.toArray⟩ (by omega) d k2)
        exact read_t_no_ok_x s _ _ d HC PA PB w L
      · have PB := hid1 (parse_no ⟨b.toArray⟩ (by omega) (fun v e => k2 ⟨v, e⟩))
        exact read_t_no_no_x s _ _ HC PA PB w L
end Go.Proofs.YtboabgjgcnkelabDoor
/- NORMS MADE OF FOUR FRACTIONS: what the regions that make them want; small. -/
namespace Go.Proofs.YtboabgjgcnkelabDoor
open Go.RowKit Go.Shelf
attribute [local go_sem ↓] Go.wp_at_zero Go.wp_at_succ

/-- A norm's cells, which may be written. -/
def Ny (w : World) (b : Nat) (gn gd bn bd mn md sn sd : Int) : Prop := Nm w b gn gd bn bd mn md sn sd ∧ ∀ o, w.frozen? ⟨b, o, none⟩ = false
theorem Ny.keep {w w' : World} {b : Nat} {gn gd bn bd mn md sn sd : Int} (h : Ny w b gn gd bn bd mn md sn sd) (hb : Below w.heap.size w w') : Ny w' b gn gd bn bd mn md sn sd :=
  ⟨h.1.keep hb, fun o => keepf hb (lt_of_cell h.1.1) (h.2 o)⟩
theorem ny_new {W : World} {t : TypeId} {g : Nat} {gn gd bn bd mn md sn sd : Int} (hg : W.heap.size = g) : Ny (W.alloc (.cells #[.int .i64 gn, .int .i64 gd, .int .i64 bn, .int .i64 bd, .int .i64 mn, .int .i64 md, .int .i64 sn, .int .i64 sd] t)) g gn gd bn bd mn md sn sd := by
  subst hg
  exact ⟨⟨by simp [go_sem], by simp [go_sem], by simp [go_sem], by simp [go_sem], by simp [go_sem], by simp [go_sem], by simp [go_sem], by simp [go_sem]⟩, fun o => by simp [go_sem]⟩
theorem ny_n0 {W w' : World} {t : TypeId} (hb : Below (W.alloc (.cells #[.int .i64 0, .int .i64 0, .int .i64 0, .int .i64 0, .int .i64 0, .int .i64 0, .int .i64 0, .int .i64 0] t)).heap.size (W.alloc (.cells #[.int .i64 0, .int .i64 0, .int .i64 0, .int .i64 0, .int .i64 0, .int .i64 0, .int .i64 0, .int .i64 0] t)) w') : Ny w' W.heap.size 0 0 0 0 0 0 0 0 := Ny.keep (ny_new rfl) hb
theorem ny_n1 {W w' : World} {t : TypeId} (hb : Below (W.drew.alloc (.cells #[.int .i64 0, .int .i64 0, .int .i64 0, .int .i64 0, .int .i64 0, .int .i64 0, .int .i64 0, .int .i64 0] t)).heap.size (W.drew.alloc (.cells #[.int .i64 0, .int .i64 0, .int .i64 0, .int .i64 0, .int .i64 0, .int .i64 0, .int .i64 0, .int .i64 0] t)) w') : Ny w' W.heap.size 0 0 0 0 0 0 0 0 := Ny.keep (ny_new (W := W.drew) rfl) hb
theorem ny_n2 {W w' : World} {t : TypeId} (hb : Below (W.alloc (.cells #[.int .i64 0, .int .i64 0, .int .i64 0, .int .i64 0, .int .i64 0, .int .i64 0, .int .i64 0, .int .i64 0] t)).drew.heap.size (W.alloc (.cells #[.int .i64 0, .int .i64 0, .int .i64 0, .int .i64 0, .int .i64 0, .int .i64 0, .int .i64 0, .int .i64 0] t)).drew w') : Ny w' W.heap.size 0 0 0 0 0 0 0 0 :=
  Ny.keep (Ny.keep (ny_new rfl) (Below.drew (Below.refl _ _))) hb
set_option maxRecDepth 100000 in
theorem ny_set {W : World} {g : Nat} {gn gd bn bd mn md sn sd : Int} (h : Ny W g 0 0 0 0 0 0 0 0) : Ny ((((((((W.setCell ⟨g, 0, none⟩ (.int .i64 gn)).setCell ⟨g, 1, none⟩ (.int .i64 gd)).setCell ⟨g, 2, none⟩ (.int .i64 bn)).setCell ⟨g, 3, none⟩ (.int .i64 bd)).setCell ⟨g, 4, none⟩ (.int .i64 mn)).setCell ⟨g, 5, none⟩ (.int .i64 md)).setCell ⟨g, 6, none⟩ (.int .i64 sn)).setCell ⟨g, 7, none⟩ (.int .i64 sd)) g gn gd bn bd mn md sn sd := by
  obtain ⟨⟨n0, n1, n2, n3, n4, n5, n6, n7⟩, nf⟩ := h
  have z := lt_of_cell n0
  exact ⟨⟨by simp [go_sem, *], by simp [go_sem, *], by simp [go_sem, *], by simp [go_sem, *], by simp [go_sem, *], by simp [go_sem, *], by simp [go_sem, *], by simp [go_sem, *]⟩, fun o => by simp [go_sem, *]⟩
theorem ny_set6 {W : World} {g : Nat} {gn gd bn bd mn md sn sd v : Int} (h : Ny W g gn gd bn bd mn md sn sd) : Ny (W.setCell ⟨g, 6, none⟩ (.int .i64 v)) g gn gd bn bd mn md v sd := by
  obtain ⟨⟨n0, n1, n2, n3, n4, n5, n6, n7⟩, nf⟩ := h
  have z := lt_of_cell n0
  exact ⟨⟨by simp [go_sem, *], by simp [go_sem, *], by simp [go_sem, *], by simp [go_sem, *], by simp [go_sem, *], by simp [go_sem, *], by simp [go_sem, *], by simp [go_sem, *]⟩, fun o => by simp [go_sem, *]⟩
theorem nm8 {W X : World} {b : Nat} {gn gd bn bd mn md sn sd : Int} (h : Nm W b gn gd bn bd mn md sn sd) (hb : Below W.heap.size W X) : X.cell? ⟨b, 0, none⟩ = some (.int .i64 gn) ∧ X.cell? ⟨b, 1, none⟩ = some (.int .i64 gd) ∧ X.cell? ⟨b, 2, none⟩ = some (.int .i64 bn) ∧ X.cell? ⟨b, 3, none⟩ = some (.int .i64 bd) ∧ X.cell? ⟨b, 4, none⟩ = some (.int .i64 mn) ∧ X.cell? ⟨b, 5, none⟩ = some (.int .i64 md) ∧ X.cell? ⟨b, 6, none⟩ = some (.int .i64 sn) ∧ X.cell? ⟨b, 7, none⟩ = some (.int .i64 sd) := h.keep hb
/-- A small fraction made of any. -/
def smN (n : Int) : Int := n.tmod 1000
def smD (d : Int) : Int := (if d.tmod 30 < 0 then -d.tmod 30 else d.tmod 30) + 1
theorem small_bd (n d : Int) : -999 ≤ smN n ∧ smN n ≤ 999 ∧ 1 ≤ smD d ∧ smD d ≤ 30 := by
  have h1 := tmod_rng n (k := 1000) (by decide)
  have h2 := tmod_rng d (k := 30) (by decide)
  unfold smN smD
  split <;> omega
end Go.Proofs.YtboabgjgcnkelabDoor
/- THE DOCUMENT'S PRODUCTS: times. -/
namespace Go.Proofs.YtboabgjgcnkelabDoor
open Go.RowKit Go.Shelf
attribute [local go_sem ↓] Go.wp_at_zero Go.wp_at_succ

def pr (f : Nat → Int) : Nat → Int
  | 0 => 1
  | k + 1 => pr f k * f k
/-- The two cells of a big number, and that they may be written. -/
def Bc (w : World) (b : Nat) (s : Bool) (ao : Option Addr) (l c : Nat) : Prop :=
  w.cell? ⟨b, 0, none⟩ = some (.bool s) ∧ w.cell? ⟨b, 1, none⟩ = some (.slice ao l c) ∧ w.frozen? ⟨b, 0, none⟩ = false ∧ w.frozen? ⟨b, 1, none⟩ = false
theorem Bc.keep {w w' : World} {b : Nat} {s : Bool} {ao : Option Addr} {l c : Nat} (h : Bc w b s ao l c) (hb : Below w.heap.size w w') : Bc w' b s ao l c := by
  have z := lt_of_cell h.1
  exact ⟨keepc hb h.1, keepc hb h.2.1, keepf hb z h.2.2.1, keepf hb z h.2.2.2⟩
set_option maxHeartbeats 1600000 in
set_option maxRecDepth 100000 in
theorem times_any4 (f : Nat → Int) (m g cap : Nat) (hm : m ≤ 4) (w : World) (hf : ∀ i, i < m → w.cell? ⟨g, i, none⟩ = some (.int .i64 (f i))) (hi : ∀ i, i < m → I64 (f i)) (hfB : ∀ i, i < m → ((f i).natAbs : Int) < 65536 ^ 16) (hp : ∀ k, k ≤ m → ((pr f k).natAbs : Int) < 65536 ^ 16) :
    Calls Tryd.prog 65 #[.slice (some ⟨g, 0, none⟩) m cap] w fun e w' => ∃ z, e = .returned z ∧ Bg w' z (pr f m) ∧ Below w.heap.size w w' := by
  have HF := hid1 hf
  have HI := hid1 hi
  have HQ := hid1 hfB
  have HP := hid1 hp
  clear hf hi hp hfB
  have i1 : I64 1 := by unfold I64; omega
  have HO := hid1 (rint_any 1 i1)
  clear i1
  go_enter Tryd.func65, Tryd.ntmps65
  go_wp2_with fail
  refine (HO.out _).mono ?_
  rintro e w1 ⟨z1, rfl, hz1, hb1⟩
  obtain ⟨s0, ao0, l0, c0, rfl⟩ := hz1.form
  have HZ := hid1 hz1
  clear hz1
  have HR : Hid (Bc w1 w.heap.size false none 0 0) := hid1 (Bc.keep (w := w.alloc _) ⟨by simp [go_sem], by simp [go_sem], by simp [go_sem], by simp [go_sem]⟩ hb1)
  have B1 : Below w.heap.size w w1 := by repeat (first | exact Below.refl _ _ | refine bl_alloc ?_ _ | refine Below.drew ?_ | refine bl_drewN ?_ _ | refine bl_set ?_ (by omega) _ | refine bl_step ?_ (by assumption))
  have z1 := lt_of_cell HR.out.1
  clear hb1
  go_wp2_with fail
  go_loopw [4] (fun i wr => ∃ (k : Nat) (s : Bool) (ao : Option Addr) (l c : Nat), k ≤ m ∧ i = .int .i64 k ∧ Hid (Bc wr w1.heap.size s ao l c) ∧ Hid (Bg wr (.agg #[.bool s, .slice ao l c]) (pr f k)) ∧ Hid (Bc wr w.heap.size false none 0 0) ∧ Below w.heap.size w wr) (fun i _ => m - (intOf i).toNat)
  case atStart =>
    refine ⟨0, s0, ao0, l0, c0, by omega, rfl, ?_, ?_, ?_, ?_⟩
    · exact hid1 ⟨by simp [go_sem], by simp [go_sem], by simp [go_sem], by simp [go_sem]⟩
    · exact hid1 (HZ.out.below (by repeat (first | exact Below.refl _ _ | refine bl_alloc ?_ _ | refine Below.drew ?_ | refine bl_drewN ?_ _ | refine bl_set ?_ (by omega) _ | refine bl_step ?_ (by assumption))))
    · exact hid1 (HR.out.keep (by repeat (first | exact Below.refl _ _ | refine bl_alloc ?_ _ | refine Below.drew ?_ | refine bl_drewN ?_ _ | refine bl_set ?_ (by omega) _ | refine bl_step ?_ (by assumption))))
    · repeat (first | exact Below.refl _ _ | refine bl_alloc ?_ _ | refine Below.drew ?_ | refine bl_drewN ?_ _ | refine bl_set ?_ (by omega) _ | refine bl_step ?_ (by assumption))
  case round =>
    obtain ⟨k, s, ao, l, c, hk, rfl, HC, HB, HR2, hB⟩ := hrel
    have nT : ¬ w.heap.size = w1.heap.size := by omega
    have nT' : ¬ w1.heap.size = w.heap.size := by omega
    by_cases hlt : k < m
    · have hlt' : (k : Int) < m := by omega
      have a0 := keepc hB (HF.out k hlt)
      obtain ⟨x0, x1, x2, x3⟩ := HC.out
      have zx := lt_of_cell x0
      go_wp2_with fail
      go_region_with (first
        | (go_at_call 24; refine (rint_any (f k) (HI.out k hlt) _).mono ?_; rintro e X1 ⟨i1, rfl, hi1, hbi⟩; obtain ⟨si, oi, li, ci, rfl⟩ := hi1.form; have HI1 := hid1 hi1; clear hi1; have x0 := keepc hbi x0; have x1 := keepc hbi x1; have BI : Hid (Below wr.heap.size wr X1) := hid1 (by repeat (first | exact Below.refl _ _ | refine bl_alloc ?_ _ | refine Below.drew ?_ | refine bl_drewN ?_ _ | refine bl_set ?_ (by omega) _ | refine bl_step ?_ (by assumption))))
        | (go_at_call 67; refine (rmul_any (pr f k) (f k) _ _ _ (HB.out.below BI.out) HI1.out (HP.out k hk) (HQ.out k hlt)).mono ?_; rintro e X2 ⟨i2, rfl, hi2, hbj⟩; obtain ⟨sj, oj, lj, cj, rfl⟩ := hi2.form; have HJ := hid1 hi2; clear hi2; have BJ : Hid (Below wr.heap.size wr X2) := hid1 (bl_step BI.out hbj); obtain ⟨x0, x1, x2, x3⟩ := HC.out.keep BJ.out; have zx := lt_of_cell x0))
      all_goals
        have bj := BJ.out
        have BX : Hid (Bg X2 (.agg #[.bool sj, .slice oj lj cj]) (pr f (k + 1))) := HJ
        obtain ⟨y0, y1, y2, y3⟩ := HR2.out.keep bj
        have zy := lt_of_cell y0
        go_wp2_with fail
        refine ⟨⟨k + 1, sj, oj, lj, cj, by omega, rfl, ?_, ?_, ?_, ?_⟩, by simp [intOf]; omega⟩
        · exact hid1 ⟨by simp [go_sem, *], by simp [go_sem, *], by simp [go_sem, *], by simp [go_sem, *]⟩
        · exact hid1 ((BX.out.set ⟨_, x0⟩).set ⟨sj, by simp [go_sem, x0]⟩)
        · exact hid1 ⟨by simp [go_sem, *], by simp [go_sem, *], by simp [go_sem, *], by simp [go_sem, *]⟩
        · repeat (first | (with_reducible exact Below.refl _ _) | (with_reducible refine bl_alloc ?_ _) | (with_reducible refine Below.drew ?_) | (with_reducible refine bl_drewN ?_ _) | (with_reducible refine bl_set ?_ (by omega) _) | (with_reducible refine bl_step ?_ (by assumption)))
    · have : k = m := by omega
      subst this
      obtain ⟨x0, x1, x2, x3⟩ := HC.out
      obtain ⟨y0, y1, y2, y3⟩ := HR2.out
      have zx := lt_of_cell x0
      have zy := lt_of_cell y0
      go_wp2
      simp [bodyPost, results, Tryd.results65, go_sem, y0, y1]
      exact big_ret HB.out hB (Nat.le_refl _) ⟨_, y0⟩ _ _
end Go.Proofs.YtboabgjgcnkelabDoor
/- THE DOCUMENT'S CHECK AND NORM. -/
namespace Go.Proofs.YtboabgjgcnkelabDoor
open Go.RowKit Go.Shelf
attribute [local go_sem ↓] Go.wp_at_zero Go.wp_at_succ

set_option maxRecDepth 100000 in
theorem r4check_any (n d : Int) (w : World) :
    Calls Tryd.prog 22 #[fr n d] w fun e w' => e = .returned (.int .i64 (chF n d)) ∧ Below w.heap.size w w' := by
  by_cases h1 : d < 1
  · rw [chF_no (fun h => by have := h.1; omega)]
    go_enter Tryd.func22, Tryd.ntmps22
    go_wp2
    go_ret
    exact ⟨rfl, bl_alloc (Below.refl _ _) _⟩
  · by_cases h2 : 1048576 < d
    · rw [chF_no (fun h => by have := h.2.1; omega)]
      go_enter Tryd.func22, Tryd.ntmps22
      go_wp2
      go_ret
      exact ⟨rfl, bl_alloc (Below.refl _ _) _⟩
    · by_cases h3 : n < -2147483647
      · rw [chF_no (fun h => by have := h.2.2.1; omega)]
        go_enter Tryd.func22, Tryd.ntmps22
        go_wp2
        go_ret
        exact ⟨rfl, bl_alloc (Below.refl _ _) _⟩
      · by_cases h4 : 2147483647 < n
        · rw [chF_no (fun h => by have := h.2.2.2; omega)]
          go_enter Tryd.func22, Tryd.ntmps22
          go_wp2
          go_ret
          exact ⟨rfl, bl_alloc (Below.refl _ _) _⟩
        · rw [chF_ok ⟨by omega, by omega, by omega, by omega⟩]
          go_enter Tryd.func22, Tryd.ntmps22
          go_wp2
          go_ret
          exact ⟨rfl, bl_alloc (Below.refl _ _) _⟩
theorem divides_any (d n : Int) (hd : 2 ≤ d) (hd2 : d ≤ 2147483647) (w : World) :
    Calls Tryd.prog 63 #[.int .i64 d, .int .i64 n] w fun e w' => e = .returned (.bool (decide (d ∣ n))) ∧ w' = w := by
  have e := tmod_dvd (n := n) (d := d)
  have t := tmod_rng n (k := d) (by omega)
  have d0 : ¬ d = 0 := by omega
  obtain ⟨b, eb⟩ : ∃ b, decide (d ∣ n) = b := ⟨_, rfl⟩
  rw [eb] at e ⊢
  clear eb
  obtain ⟨r, er⟩ : ∃ r, n.tmod d = r := ⟨_, rfl⟩
  rw [er] at e t
  obtain ⟨t1, t2⟩ := t
  go_enter Tryd.func63, Tryd.ntmps63
  go_wp2
  go_ret
  refine ⟨by first | rfl | (simp [*]; done) | (rw [← e]; rfl), rfl⟩
set_option maxRecDepth 100000 in
theorem r4norm_no0 (gn gd bn bd mn md sn sd : Int) (h0 : chF gn gd = 40) (w : World) :
    Calls Tryd.prog 45 #[nm gn gd bn bd mn md sn sd] w fun e w' => e = .returned (.int .i64 40) ∧ Below w.heap.size w w' := by
  go_enter Tryd.func45, Tryd.ntmps45
  go_wp2_with fail
  refine gen_calls (fun W' => Below w.heap.size w W' ∧ Hid (Nm W' w.heap.size gn gd bn bd mn md sn sd)) ⟨by repeat (first | (with_reducible exact Below.refl _ _) | (with_reducible refine bl_alloc ?_ _) | (with_reducible refine Below.drew ?_) | (with_reducible refine bl_drewN ?_ _) | (with_reducible refine bl_set ?_ (by omega) _) | (with_reducible refine bl_step ?_ (by assumption))), hid1 ⟨by simp [go_sem], by simp [go_sem], by simp [go_sem], by simp [go_sem], by simp [go_sem], by simp [go_sem], by simp [go_sem], by simp [go_sem]⟩⟩ ?_
  rintro W0 ⟨B0, HM⟩
  obtain ⟨m0, m1, m2, m3, m4, m5, m6, m7⟩ := HM.out
  refine (r4check_any gn gd _).mono ?_
  rintro e w1 ⟨rfl, hb1⟩
  rw [h0]
  replace HM := hid1 (HM.out.keep hb1)
  have B1 : Below w.heap.size w w1 := by repeat (first | (with_reducible exact Below.refl _ _) | (with_reducible refine bl_alloc ?_ _) | (with_reducible refine Below.drew ?_) | (with_reducible refine bl_drewN ?_ _) | (with_reducible refine bl_set ?_ (by omega) _) | (with_reducible refine bl_step ?_ (by assumption)))
  clear hb1 m0 m1 m2 m3 m4 m5 m6 m7
  obtain ⟨m0, m1, m2, m3, m4, m5, m6, m7⟩ := HM.out
  go_wp2
  go_ret
  exact ⟨rfl, by repeat (first | (with_reducible exact Below.refl _ _) | (with_reducible refine bl_alloc ?_ _) | (with_reducible refine Below.drew ?_) | (with_reducible refine bl_drewN ?_ _) | (with_reducible refine bl_set ?_ (by omega) _) | (with_reducible refine bl_step ?_ (by assumption)))⟩
set_option maxRecDepth 100000 in
theorem r4norm_no1 (gn gd bn bd mn md sn sd : Int) (h0 : chF gn gd = 0) (h1 : chF bn bd = 40) (w : World) :
    Calls Tryd.prog 45 #[nm gn gd bn bd mn md sn sd] w fun e w' => e = .returned (.int .i64 40) ∧ Below w.heap.size w w' := by
  go_enter Tryd.func45, Tryd.ntmps45
  go_wp2_with fail
  refine gen_calls (fun W' => Below w.heap.size w W' ∧ Hid (Nm W' w.heap.size gn gd bn bd mn md sn sd)) ⟨by repeat (first | (with_reducible exact Below.refl _ _) | (with_reducible refine bl_alloc ?_ _) | (with_reducible refine Below.drew ?_) | (with_reducible refine bl_drewN ?_ _) | (with_reducible refine bl_set ?_ (by omega) _) | (with_reducible refine bl_step ?_ (by assumption))), hid1 ⟨by simp [go_sem], by simp [go_sem], by simp [go_sem], by simp [go_sem], by simp [go_sem], by simp [go_sem], by simp [go_sem], by simp [go_sem]⟩⟩ ?_
  rintro W0 ⟨B0, HM⟩
  obtain ⟨m0, m1, m2, m3, m4, m5, m6, m7⟩ := HM.out
  refine (r4check_any gn gd _).mono ?_
  rintro e w1 ⟨rfl, hb1⟩
  rw [h0]
  replace HM := hid1 (HM.out.keep hb1)
  have B1 : Below w.heap.size w w1 := by repeat (first | (with_reducible exact Below.refl _ _) | (with_reducible refine bl_alloc ?_ _) | (with_reducible refine Below.drew ?_) | (with_reducible refine bl_drewN ?_ _) | (with_reducible refine bl_set ?_ (by omega) _) | (with_reducible refine bl_step ?_ (by assumption)))
  clear hb1 m0 m1 m2 m3 m4 m5 m6 m7
  obtain ⟨m0, m1, m2, m3, m4, m5, m6, m7⟩ := HM.out
  go_wp2_with fail
  refine (r4check_any bn bd _).mono ?_
  rintro e w2 ⟨rfl, hb2⟩
  rw [h1]
  replace HM := hid1 (HM.out.keep hb2)
  have B2 : Below w.heap.size w w2 := by repeat (first | (with_reducible exact Below.refl _ _) | (with_reducible refine bl_alloc ?_ _) | (with_reducible refine Below.drew ?_) | (with_reducible refine bl_drewN ?_ _) | (with_reducible refine bl_set ?_ (by omega) _) | (with_reducible refine bl_step ?_ (by assumption)))
  clear hb2 B1 m0 m1 m2 m3 m4 m5 m6 m7
  obtain ⟨m0, m1, m2, m3, m4, m5, m6, m7⟩ := HM.out
  go_wp2
  go_ret
  exact ⟨rfl, by repeat (first | (with_reducible exact Below.refl _ _) | (with_reducible refine bl_alloc ?_ _) | (with_reducible refine Below.drew ?_) | (with_reducible refine bl_drewN ?_ _) | (with_reducible refine bl_set ?_ (by omega) _) | (with_reducible refine bl_step ?_ (by assumption)))⟩
set_option maxRecDepth 100000 in
theorem r4norm_no2 (gn gd bn bd mn md sn sd : Int) (h0 : chF gn gd = 0) (h1 : chF bn bd = 0) (h2 : chF mn md = 40) (w : World) :
    Calls Tryd.prog 45 #[nm gn gd bn bd mn md sn sd] w fun e w' => e = .returned (.int .i64 40) ∧ Below w.heap.size w w' := by
  go_enter Tryd.func45, Tryd.ntmps45
  go_wp2_with fail
  refine gen_calls (fun W' => Below w.heap.size w W' ∧ Hid (Nm W' w.heap.size gn gd bn bd mn md sn sd)) ⟨by repeat (first | (with_reducible exact Below.refl _ _) | (with_reducible refine bl_alloc ?_ _) | (with_reducible refine Below.drew ?_) | (with_reducible refine bl_drewN ?_ _) | (with_reducible refine bl_set ?_ (by omega) _) | (with_reducible refine bl_step ?_ (by assumption))), hid1 ⟨by simp [go_sem], by simp [go_sem], by simp [go_sem], by simp [go_sem], by simp [go_sem], by simp [go_sem], by simp [go_sem], by simp [go_sem]⟩⟩ ?_
  rintro W0 ⟨B0, HM⟩
  obtain ⟨m0, m1, m2, m3, m4, m5, m6, m7⟩ := HM.out
  refine (r4check_any gn gd _).mono ?_
  rintro e w1 ⟨rfl, hb1⟩
  rw [h0]
  replace HM := hid1 (HM.out.keep hb1)
  have B1 : Below w.heap.size w w1 := by repeat (first | (with_reducible exact Below.refl _ _) | (with_reducible refine bl_alloc ?_ _) | (with_reducible refine Below.drew ?_) | (with_reducible refine bl_drewN ?_ _) | (with_reducible refine bl_set ?_ (by omega) _) | (with_reducible refine bl_step ?_ (by assumption)))
  clear hb1 m0 m1 m2 m3 m4 m5 m6 m7
  obtain ⟨m0, m1, m2, m3, m4, m5, m6, m7⟩ := HM.out
  go_wp2_with fail
  refine (r4check_any bn bd _).mono ?_
  rintro e w2 ⟨rfl, hb2⟩
  rw [h1]
  replace HM := hid1 (HM.out.keep hb2)
  have B2 : Below w.heap.size w w2 := by repeat (first | (with_reducible exact Below.refl _ _) | (with_reducible refine bl_alloc ?_ _) | (with_reducible refine Below.drew ?_) | (with_reducible refine bl_drewN ?_ _) | (with_reducible refine bl_set ?_ (by omega) _) | (with_reducible refine bl_step ?_ (by assumption)))
  clear hb2 B1 m0 m1 m2 m3 m4 m5 m6 m7
  obtain ⟨m0, m1, m2, m3, m4, m5, m6, m7⟩ := HM.out
  go_wp2_with fail
  refine (r4check_any mn md _).mono ?_
  rintro e w3 ⟨rfl, hb3⟩
  rw [h2]
  replace HM := hid1 (HM.out.keep hb3)
  have B3 : Below w.heap.size w w3 := by repeat (first | (with_reducible exact Below.refl _ _) | (with_reducible refine bl_alloc ?_ _) | (with_reducible refine Below.drew ?_) | (with_reducible refine bl_drewN ?_ _) | (with_reducible refine bl_set ?_ (by omega) _) | (with_reducible refine bl_step ?_ (by assumption)))
  clear hb3 B2 m0 m1 m2 m3 m4 m5 m6 m7
  obtain ⟨m0, m1, m2, m3, m4, m5, m6, m7⟩ := HM.out
  go_wp2
  go_ret
  exact ⟨rfl, by repeat (first | (with_reducible exact Below.refl _ _) | (with_reducible refine bl_alloc ?_ _) | (with_reducible refine Below.drew ?_) | (with_reducible refine bl_drewN ?_ _) | (with_reducible refine bl_set ?_ (by omega) _) | (with_reducible refine bl_step ?_ (by assumption)))⟩
set_option maxRecDepth 100000 in
theorem r4norm_no3 (gn gd bn bd mn md sn sd : Int) (h0 : chF gn gd = 0) (h1 : chF bn bd = 0) (h2 : chF mn md = 0) (h3 : chF sn sd = 40) (w : World) :
    Calls Tryd.prog 45 #[nm gn gd bn bd mn md sn sd] w fun e w' => e = .returned (.int .i64 40) ∧ Below w.heap.size w w' := by
  go_enter Tryd.func45, Tryd.ntmps45
  go_wp2_with fail
  refine gen_calls (fun W' => Below w.heap.size w W' ∧ Hid (Nm W' w.heap.size gn gd bn bd mn md sn sd)) ⟨by repeat (first | (with_reducible exact Below.refl _ _) | (with_reducible refine bl_alloc ?_ _) | (with_reducible refine Below.drew ?_) | (with_reducible refine bl_drewN ?_ _) | (with_reducible refine bl_set ?_ (by omega) _) | (with_reducible refine bl_step ?_ (by assumption))), hid1 ⟨by simp [go_sem], by simp [go_sem], by simp [go_sem], by simp [go_sem], by simp [go_sem], by simp [go_sem], by simp [go_sem], by simp [go_sem]⟩⟩ ?_
  rintro W0 ⟨B0, HM⟩
  obtain ⟨m0, m1, m2, m3, m4, m5, m6, m7⟩ := HM.out
  refine (r4check_any gn gd _).mono ?_
  rintro e w1 ⟨rfl, hb1⟩
  rw [h0]
  replace HM := hid1 (HM.out.keep hb1)
  have B1 : Below w.heap.size w w1 := by repeat (first | (with_reducible exact Below.refl _ _) | (with_reducible refine bl_alloc ?_ _) | (with_reducible refine Below.drew ?_) | (with_reducible refine bl_drewN ?_ _) | (with_reducible refine bl_set ?_ (by omega) _) | (with_reducible refine bl_step ?_ (by assumption)))
  clear hb1 m0 m1 m2 m3 m4 m5 m6 m7
  obtain ⟨m0, m1, m2, m3, m4, m5, m6, m7⟩ := HM.out
  go_wp2_with fail
  refine (r4check_any bn bd _).mono ?_
  rintro e w2 ⟨rfl, hb2⟩
  rw [h1]
  replace HM := hid1 (HM.out.keep hb2)
  have B2 : Below w.heap.size w w2 := by repeat (first | (with_reducible exact Below.refl _ _) | (with_reducible refine bl_alloc ?_ _) | (with_reducible refine Below.drew ?_) | (with_reducible refine bl_drewN ?_ _) | (with_reducible refine bl_set ?_ (by omega) _) | (with_reducible refine bl_step ?_ (by assumption)))
  clear hb2 B1 m0 m1 m2 m3 m4 m5 m6 m7
  obtain ⟨m0, m1, m2, m3, m4, m5, m6, m7⟩ := HM.out
  go_wp2_with fail
  refine (r4check_any mn md _).mono ?_
  rintro e w3 ⟨rfl, hb3⟩
  rw [h2]
  replace HM := hid1 (HM.out.keep hb3)
  have B3 : Below w.heap.size w w3 := by repeat (first | (with_reducible exact Below.refl _ _) | (with_reducible refine bl_alloc ?_ _) | (with_reducible refine Below.drew ?_) | (with_reducible refine bl_drewN ?_ _) | (with_reducible refine bl_set ?_ (by omega) _) | (with_reducible refine bl_step ?_ (by assumption)))
  clear hb3 B2 m0 m1 m2 m3 m4 m5 m6 m7
  obtain ⟨m0, m1, m2, m3, m4, m5, m6, m7⟩ := HM.out
  go_wp2_with fail
  refine (r4check_any sn sd _).mono ?_
  rintro e w4 ⟨rfl, hb4⟩
  rw [h3]
  replace HM := hid1 (HM.out.keep hb4)
  have B4 : Below w.heap.size w w4 := by repeat (first | (with_reducible exact Below.refl _ _) | (with_reducible refine bl_alloc ?_ _) | (with_reducible refine Below.drew ?_) | (with_reducible refine bl_drewN ?_ _) | (with_reducible refine bl_set ?_ (by omega) _) | (with_reducible refine bl_step ?_ (by assumption)))
  clear hb4 B3 m0 m1 m2 m3 m4 m5 m6 m7
  obtain ⟨m0, m1, m2, m3, m4, m5, m6, m7⟩ := HM.out
  go_wp2
  go_ret
  exact ⟨rfl, by repeat (first | (with_reducible exact Below.refl _ _) | (with_reducible refine bl_alloc ?_ _) | (with_reducible refine Below.drew ?_) | (with_reducible refine bl_drewN ?_ _) | (with_reducible refine bl_set ?_ (by omega) _) | (with_reducible refine bl_step ?_ (by assumption)))⟩
set_option maxRecDepth 100000 in
theorem r4norm_small (gn gd bn bd mn md sn sd : Int) (h0 : chF gn gd = 0) (h1 : chF bn bd = 0) (h2 : chF mn md = 0) (h3 : chF sn sd = 0) (hs : sn < 1) (w : World) :
    Calls Tryd.prog 45 #[nm gn gd bn bd mn md sn sd] w fun e w' => e = .returned (.int .i64 53) ∧ Below w.heap.size w w' := by
  go_enter Tryd.func45, Tryd.ntmps45
  go_wp2_with fail
  refine gen_calls (fun W' => Below w.heap.size w W' ∧ Hid (Nm W' w.heap.size gn gd bn bd mn md sn sd)) ⟨by repeat (first | (with_reducible exact Below.refl _ _) | (with_reducible refine bl_alloc ?_ _) | (with_reducible refine Below.drew ?_) | (with_reducible refine bl_drewN ?_ _) | (with_reducible refine bl_set ?_ (by omega) _) | (with_reducible refine bl_step ?_ (by assumption))), hid1 ⟨by simp [go_sem], by simp [go_sem], by simp [go_sem], by simp [go_sem], by simp [go_sem], by simp [go_sem], by simp [go_sem], by simp [go_sem]⟩⟩ ?_
  rintro W0 ⟨B0, HM⟩
  obtain ⟨m0, m1, m2, m3, m4, m5, m6, m7⟩ := HM.out
  refine (r4check_any gn gd _).mono ?_
  rintro e w1 ⟨rfl, hb1⟩
  rw [h0]
  replace HM := hid1 (HM.out.keep hb1)
  have B1 : Below w.heap.size w w1 := by repeat (first | (with_reducible exact Below.refl _ _) | (with_reducible refine bl_alloc ?_ _) | (with_reducible refine Below.drew ?_) | (with_reducible refine bl_drewN ?_ _) | (with_reducible refine bl_set ?_ (by omega) _) | (with_reducible refine bl_step ?_ (by assumption)))
  clear hb1 m0 m1 m2 m3 m4 m5 m6 m7
  obtain ⟨m0, m1, m2, m3, m4, m5, m6, m7⟩ := HM.out
  go_wp2_with fail
  refine (r4check_any bn bd _).mono ?_
  rintro e w2 ⟨rfl, hb2⟩
  rw [h1]
  replace HM := hid1 (HM.out.keep hb2)
  have B2 : Below w.heap.size w w2 := by repeat (first | (with_reducible exact Below.refl _ _) | (with_reducible refine bl_alloc ?_ _) | (with_reducible refine Below.drew ?_) | (with_reducible refine bl_drewN ?_ _) | (with_reducible refine bl_set ?_ (by omega) _) | (with_reducible refine bl_step ?_ (by assumption)))
  clear hb2 B1 m0 m1 m2 m3 m4 m5 m6 m7
  obtain ⟨m0, m1, m2, m3, m4, m5, m6, m7⟩ := HM.out
  go_wp2_with fail
  refine (r4check_any mn md _).mono ?_
  rintro e w3 ⟨rfl, hb3⟩
  rw [h2]
  replace HM := hid1 (HM.out.keep hb3)
  have B3 : Below w.heap.size w w3 := by repeat (first | (with_reducible exact Below.refl _ _) | (with_reducible refine bl_alloc ?_ _) | (with_reducible refine Below.drew ?_) | (with_reducible refine bl_drewN ?_ _) | (with_reducible refine bl_set ?_ (by omega) _) | (with_reducible refine bl_step ?_ (by assumption)))
  clear hb3 B2 m0 m1 m2 m3 m4 m5 m6 m7
  obtain ⟨m0, m1, m2, m3, m4, m5, m6, m7⟩ := HM.out
  go_wp2_with fail
  refine (r4check_any sn sd _).mono ?_
  rintro e w4 ⟨rfl, hb4⟩
  rw [h3]
  replace HM := hid1 (HM.out.keep hb4)
  have B4 : Below w.heap.size w w4 := by repeat (first | (with_reducible exact Below.refl _ _) | (with_reducible refine bl_alloc ?_ _) | (with_reducible refine Below.drew ?_) | (with_reducible refine bl_drewN ?_ _) | (with_reducible refine bl_set ?_ (by omega) _) | (with_reducible refine bl_step ?_ (by assumption)))
  clear hb4 B3 m0 m1 m2 m3 m4 m5 m6 m7
  obtain ⟨m0, m1, m2, m3, m4, m5, m6, m7⟩ := HM.out
  go_wp2
  go_ret
  exact ⟨rfl, by repeat (first | (with_reducible exact Below.refl _ _) | (with_reducible refine bl_alloc ?_ _) | (with_reducible refine Below.drew ?_) | (with_reducible refine bl_drewN ?_ _) | (with_reducible refine bl_set ?_ (by omega) _) | (with_reducible refine bl_step ?_ (by assumption)))⟩
set_option maxRecDepth 100000 in
theorem r4norm_ok (gn gd bn bd mn md sn sd : Int) (h0 : chF gn gd = 0) (h1 : chF bn bd = 0) (h2 : chF mn md = 0) (h3 : chF sn sd = 0) (hs : ¬ sn < 1) (w : World) :
    Calls Tryd.prog 45 #[nm gn gd bn bd mn md sn sd] w fun e w' => e = .returned (.int .i64 0) ∧ Below w.heap.size w w' := by
  go_enter Tryd.func45, Tryd.ntmps45
  go_wp2_with fail
  refine gen_calls (fun W' => Below w.heap.size w W' ∧ Hid (Nm W' w.heap.size gn gd bn bd mn md sn sd)) ⟨by repeat (first | (with_reducible exact Below.refl _ _) | (with_reducible refine bl_alloc ?_ _) | (with_reducible refine Below.drew ?_) | (with_reducible refine bl_drewN ?_ _) | (with_reducible refine bl_set ?_ (by omega) _) | (with_reducible refine bl_step ?_ (by assumption))), hid1 ⟨by simp [go_sem], by simp [go_sem], by simp [go_sem], by simp [go_sem], by simp [go_sem], by simp [go_sem], by simp [go_sem], by simp [go_sem]⟩⟩ ?_
  rintro W0 ⟨B0, HM⟩
  obtain ⟨m0, m1, m2, m3, m4, m5, m6, m7⟩ := HM.out
  refine (r4check_any gn gd _).mono ?_
  rintro e w1 ⟨rfl, hb1⟩
  rw [h0]
  replace HM := hid1 (HM.out.keep hb1)
  have B1 : Below w.heap.size w w1 := by repeat (first | (with_reducible exact Below.refl _ _) | (with_reducible refine bl_alloc ?_ _) | (with_reducible refine Below.drew ?_) | (with_reducible refine bl_drewN ?_ _) | (with_reducible refine bl_set ?_ (by omega) _) | (with_reducible refine bl_step ?_ (by assumption)))
  clear hb1 m0 m1 m2 m3 m4 m5 m6 m7
  obtain ⟨m0, m1, m2, m3, m4, m5, m6, m7⟩ := HM.out
  go_wp2_with fail
  refine (r4check_any bn bd _).mono ?_
  rintro e w2 ⟨rfl, hb2⟩
  rw [h1]
  replace HM := hid1 (HM.out.keep hb2)
  have B2 : Below w.heap.size w w2 := by repeat (first | (with_reducible exact Below.refl _ _) | (with_reducible refine bl_alloc ?_ _) | (with_reducible refine Below.drew ?_) | (with_reducible refine bl_drewN ?_ _) | (with_reducible refine bl_set ?_ (by omega) _) | (with_reducible refine bl_step ?_ (by assumption)))
  clear hb2 B1 m0 m1 m2 m3 m4 m5 m6 m7
  obtain ⟨m0, m1, m2, m3, m4, m5, m6, m7⟩ := HM.out
  go_wp2_with fail
  refine (r4check_any mn md _).mono ?_
  rintro e w3 ⟨rfl, hb3⟩
  rw [h2]
  replace HM := hid1 (HM.out.keep hb3)
  have B3 : Below w.heap.size w w3 := by repeat (first | (with_reducible exact Below.refl _ _) | (with_reducible refine bl_alloc ?_ _) | (with_reducible refine Below.drew ?_) | (with_reducible refine bl_drewN ?_ _) | (with_reducible refine bl_set ?_ (by omega) _) | (with_reducible refine bl_step ?_ (by assumption)))
  clear hb3 B2 m0 m1 m2 m3 m4 m5 m6 m7
  obtain ⟨m0, m1, m2, m3, m4, m5, m6, m7⟩ := HM.out
  go_wp2_with fail
  refine (r4check_any sn sd _).mono ?_
  rintro e w4 ⟨rfl, hb4⟩
  rw [h3]
  replace HM := hid1 (HM.out.keep hb4)
  have B4 : Below w.heap.size w w4 := by repeat (first | (with_reducible exact Below.refl _ _) | (with_reducible refine bl_alloc ?_ _) | (with_reducible refine Below.drew ?_) | (with_reducible refine bl_drewN ?_ _) | (with_reducible refine bl_set ?_ (by omega) _) | (with_reducible refine bl_step ?_ (by assumption)))
  clear hb4 B3 m0 m1 m2 m3 m4 m5 m6 m7
  obtain ⟨m0, m1, m2, m3, m4, m5, m6, m7⟩ := HM.out
  go_wp2
  go_ret
  exact ⟨rfl, by repeat (first | (with_reducible exact Below.refl _ _) | (with_reducible refine bl_alloc ?_ _) | (with_reducible refine Below.drew ?_) | (with_reducible refine bl_drewN ?_ _) | (with_reducible refine bl_set ?_ (by omega) _) | (with_reducible refine bl_step ?_ (by assumption)))⟩
theorem r4norm_any (gn gd bn bd mn md sn sd : Int) (w : World) :
    Calls Tryd.prog 45 #[nm gn gd bn bd mn md sn sd] w fun e w' => e = .returned (.int .i64 (noE gn gd bn bd mn md sn sd)) ∧ Below w.heap.size w w' := by
  unfold noE
  by_cases h0 : Fr gn gd
  · by_cases h1 : Fr bn bd
    · by_cases h2 : Fr mn md
      · by_cases h3 : Fr sn sd
        · rw [if_pos ⟨h0, h1, h2, h3⟩]
          by_cases hs : sn < 1
          · rw [if_pos hs]; exact r4norm_small _ _ _ _ _ _ _ _ (chF_ok h0) (chF_ok h1) (chF_ok h2) (chF_ok h3) hs w
          · rw [if_neg hs]; exact r4norm_ok _ _ _ _ _ _ _ _ (chF_ok h0) (chF_ok h1) (chF_ok h2) (chF_ok h3) hs w
        · rw [if_neg (fun k => h3 k.2.2.2)]; exact r4norm_no3 _ _ _ _ _ _ _ _ (chF_ok h0) (chF_ok h1) (chF_ok h2) (chF_no h3) w
      · rw [if_neg (fun k => h2 k.2.2.1)]; exact r4norm_no2 _ _ _ _ _ _ _ _ (chF_ok h0) (chF_ok h1) (chF_no h2) w
    · rw [if_neg (fun k => h1 k.2.1)]; exact r4norm_no1 _ _ _ _ _ _ _ _ (chF_ok h0) (chF_no h1) w
  · rw [if_neg (fun k => h0 k.1)]; exact r4norm_no0 _ _ _ _ _ _ _ _ (chF_no h0) w
end Go.Proofs.YtboabgjgcnkelabDoor
/- THE DOCUMENT'S PLUS: what its regions want. -/
namespace Go.Proofs.YtboabgjgcnkelabDoor
open Go.RowKit Go.Shelf
attribute [local go_sem ↓] Go.wp_at_zero Go.wp_at_succ

def fn2 (a b : Int) : Nat → Int | 0 => a | _ => b
def fn3 (a b c : Int) : Nat → Int | 0 => a | 1 => b | _ => c
def fn4 (a b c d : Int) : Nat → Int | 0 => a | 1 => b | 2 => c | _ => d
theorem pow16 : (65536 : Int) ^ 16 = 115792089237316195423570985008687907853269984665640564039457584007913129639936 := by decide
theorem lt16 {n : Int} (h : -10000000000000000000000000000000000000 ≤ n ∧ n ≤ 10000000000000000000000000000000000000) : (n.natAbs : Int) < 65536 ^ 16 := by rw [pow16]; omega
theorem le1640 : (65536 : Int) ^ 16 ≤ 65536 ^ 40 := by decide +kernel
theorem lt40 {n : Int} (h : -10000000000000000000000000000000000000 ≤ n ∧ n ≤ 10000000000000000000000000000000000000) : (n.natAbs : Int) < 65536 ^ 40 := Int.lt_of_lt_of_le (lt16 h) le1640
def Md (n : Int) : Prop := -10000000000000000000000000000000000000 ≤ n ∧ n ≤ 10000000000000000000000000000000000000
theorem i64_md {n : Int} (h : I64 n) : Md n := by unfold I64 at h; unfold Md; omega
theorem times2 (a b : Int) (ha : I64 a) (hb : I64 b) (hab : Md (a * b)) (w : World) (g cap : Nat) (h0 : w.cell? ⟨g, 0, none⟩ = some (.int .i64 a)) (h1 : w.cell? ⟨g, 1, none⟩ = some (.int .i64 b)) :
    Calls Tryd.prog 65 #[.slice (some ⟨g, 0, none⟩) 2 cap] w fun e w' => ∃ z, e = .returned z ∧ Bg w' z (a * b) ∧ Below w.heap.size w w' := by
  have e1 : pr (fn2 a b) 1 = a := Int.one_mul a
  have e2 : pr (fn2 a b) 2 = a * b := by show pr (fn2 a b) 1 * b = a * b; rw [e1]
  rw [← e2]
  refine times_any4 (fn2 a b) 2 g cap (by decide) w (fun i hi => ?_) (fun i hi => ?_) (fun i hi => ?_) (fun k hk => ?_)
  · match i, hi with
    | 0, _ => exact h0
    | 1, _ => exact h1
  · match i, hi with
    | 0, _ => exact ha
    | 1, _ => exact hb
  · match i, hi with
    | 0, _ => exact lt16 (i64_md ha)
    | 1, _ => exact lt16 (i64_md hb)
  · match k, hk with
    | 0, _ => exact lt16 ⟨by show _ ≤ (1 : Int); omega, by show (1 : Int) ≤ _; omega⟩
    | 1, _ => rw [e1]; exact lt16 (i64_md ha)
    | 2, _ => rw [e2]; exact lt16 hab
theorem times3 (a b c : Int) (ha : I64 a) (hb : I64 b) (hc : I64 c) (hab : Md (a * b)) (habc : Md (a * b * c)) (w : World) (g cap : Nat) (h0 : w.cell? ⟨g, 0, none⟩ = some (.int .i64 a)) (h1 : w.cell? ⟨g, 1, none⟩ = some (.int .i64 b)) (h2 : w.cell? ⟨g, 2, none⟩ = some (.int .i64 c)) :
    Calls Tryd.prog 65 #[.slice (some ⟨g, 0, none⟩) 3 cap] w fun e w' => ∃ z, e = .returned z ∧ Bg w' z (a * b * c) ∧ Below w.heap.size w w' := by
  have e1 : pr (fn3 a b c) 1 = a := Int.one_mul a
  have e2 : pr (fn3 a b c) 2 = a * b := by show pr (fn3 a b c) 1 * b = a * b; rw [e1]
  have e3 : pr (fn3 a b c) 3 = a * b * c := by show pr (fn3 a b c) 2 * c = a * b * c; rw [e2]
  rw [← e3]
  refine times_any4 (fn3 a b c) 3 g cap (by decide) w (fun i hi => ?_) (fun i hi => ?_) (fun i hi => ?_) (fun k hk => ?_)
  · match i, hi with
    | 0, _ => exact h0
    | 1, _ => exact h1
    | 2, _ => exact h2
  · match i, hi with
    | 0, _ => exact ha
    | 1, _ => exact hb
    | 2, _ => exact hc
  · match i, hi with
    | 0, _ => exact lt16 (i64_md ha)
    | 1, _ => exact lt16 (i64_md hb)
    | 2, _ => exact lt16 (i64_md hc)
  · match k, hk with
    | 0, _ => exact lt16 ⟨by show _ ≤ (1 : Int); omega, by show (1 : Int) ≤ _; omega⟩
    | 1, _ => rw [e1]; exact lt16 (i64_md ha)
    | 2, _ => rw [e2]; exact lt16 hab
    | 3, _ => rw [e3]; exact lt16 habc
theorem times4 (a b c d : Int) (ha : I64 a) (hb : I64 b) (hc : I64 c) (hd : I64 d) (hab : Md (a * b)) (habc : Md (a * b * c)) (habcd : Md (a * b * c * d)) (w : World) (g cap : Nat) (h0 : w.cell? ⟨g, 0, none⟩ = some (.int .i64 a)) (h1 : w.cell? ⟨g, 1, none⟩ = some (.int .i64 b)) (h2 : w.cell? ⟨g, 2, none⟩ = some (.int .i64 c)) (h3 : w.cell? ⟨g, 3, none⟩ = some (.int .i64 d)) :
    Calls Tryd.prog 65 #[.slice (some ⟨g, 0, none⟩) 4 cap] w fun e w' => ∃ z, e = .returned z ∧ Bg w' z (a * b * c * d) ∧ Below w.heap.size w w' := by
  have e1 : pr (fn4 a b c d) 1 = a := Int.one_mul a
  have e2 : pr (fn4 a b c d) 2 = a * b := by show pr (fn4 a b c d) 1 * b = a * b; rw [e1]
  have e3 : pr (fn4 a b c d) 3 = a * b * c := by show pr (fn4 a b c d) 2 * c = a * b * c; rw [e2]
  have e4 : pr (fn4 a b c d) 4 = a * b * c * d := by show pr (fn4 a b c d) 3 * d = a * b * c * d; rw [e3]
  rw [← e4]
  refine times_any4 (fn4 a b c d) 4 g cap (by decide) w (fun i hi => ?_) (fun i hi => ?_) (fun i hi => ?_) (fun k hk => ?_)
  · match i, hi with
    | 0, _ => exact h0
    | 1, _ => exact h1
    | 2, _ => exact h2
    | 3, _ => exact h3
  · match i, hi with
    | 0, _ => exact ha
    | 1, _ => exact hb
    | 2, _ => exact hc
    | 3, _ => exact hd
  · match i, hi with
    | 0, _ => exact lt16 (i64_md ha)
    | 1, _ => exact lt16 (i64_md hb)
    | 2, _ => exact lt16 (i64_md hc)
    | 3, _ => exact lt16 (i64_md hd)
  · match k, hk with
    | 0, _ => exact lt16 ⟨by show _ ≤ (1 : Int); omega, by show (1 : Int) ≤ _; omega⟩
    | 1, _ => rw [e1]; exact lt16 (i64_md ha)
    | 2, _ => rw [e2]; exact lt16 hab
    | 3, _ => rw [e3]; exact lt16 habc
    | 4, _ => rw [e4]; exact lt16 habcd
theorem bc_new {W : World} {t : TypeId} {g : Nat} {s : Bool} {ao : Option Addr} {l c : Nat} (hg : W.heap.size = g) : Bc (W.alloc (.cells #[.bool s, .slice ao l c] t)) g s ao l c := by
  subst hg
  exact ⟨by simp [go_sem], by simp [go_sem], by simp [go_sem], by simp [go_sem]⟩
theorem bc_0 {W w' : World} {t : TypeId} (hb : Below (W.alloc (.cells #[.bool false, .slice none 0 0] t)).heap.size (W.alloc (.cells #[.bool false, .slice none 0 0] t)) w') : Bc w' W.heap.size false none 0 0 := Bc.keep (bc_new rfl) hb
theorem bc_B {W w' : World} {t : TypeId} {o : Obj} (hb : Below ((W.alloc (.cells #[.bool false, .slice none 0 0] t)).alloc o).drew.heap.size ((W.alloc (.cells #[.bool false, .slice none 0 0] t)).alloc o).drew w') : Bc w' W.heap.size false none 0 0 :=
  Bc.keep (Bc.keep (bc_new rfl) (Below.drew (bl_alloc (Below.refl _ _) o))) hb
theorem bc_C {W w' : World} {t : TypeId} {o : Obj} (hb : Below ((W.alloc o).alloc (.cells #[.bool false, .slice none 0 0] t)).drew.heap.size ((W.alloc o).alloc (.cells #[.bool false, .slice none 0 0] t)).drew w') : Bc w' (W.heap.size + 1) false none 0 0 :=
  Bc.keep (Bc.keep (bc_new (by simp)) (Below.drew (Below.refl _ _))) hb
end Go.Proofs.YtboabgjgcnkelabDoor
/- THE DOCUMENT'S PLUS: its first two regions. -/
namespace Go.Proofs.YtboabgjgcnkelabDoor
open Go.RowKit Go.Shelf
attribute [local go_sem ↓] Go.wp_at_zero Go.wp_at_succ

theorem nm10 {W X : World} {b M : Nat} {gn gd bn bd mn md sn sd : Int} {s : Bool} {ao : Option Addr} {l c : Nat} (h : Nm W b gn gd bn bd mn md sn sd) (h2 : Bc W M s ao l c) (hb : Below W.heap.size W X) : X.cell? ⟨b, 0, none⟩ = some (.int .i64 gn) ∧ X.cell? ⟨b, 1, none⟩ = some (.int .i64 gd) ∧ X.cell? ⟨b, 2, none⟩ = some (.int .i64 bn) ∧ X.cell? ⟨b, 3, none⟩ = some (.int .i64 bd) ∧ X.cell? ⟨b, 4, none⟩ = some (.int .i64 mn) ∧ X.cell? ⟨b, 5, none⟩ = some (.int .i64 md) ∧ X.cell? ⟨b, 6, none⟩ = some (.int .i64 sn) ∧ X.cell? ⟨b, 7, none⟩ = some (.int .i64 sd) ∧ X.cell? ⟨M, 0, none⟩ = some (.bool s) ∧ X.cell? ⟨M, 1, none⟩ = some (.slice ao l c) := by
  obtain ⟨a0, a1, a2, a3, a4, a5, a6, a7⟩ := h.keep hb
  obtain ⟨b0, b1, _, _⟩ := h2.keep hb
  exact ⟨a0, a1, a2, a3, a4, a5, a6, a7, b0, b1⟩
theorem bc_set {W : World} {g : Nat} {s s' : Bool} {ao ao' : Option Addr} {l c l' c' : Nat} (h : Bc W g s ao l c) : Bc ((W.setCell ⟨g, 0, none⟩ (.bool s')).setCell ⟨g, 1, none⟩ (.slice ao' l' c')) g s' ao' l' c' := by
  obtain ⟨x0, x1, x2, x3⟩ := h
  have z := lt_of_cell x0
  exact ⟨by simp [go_sem, *], by simp [go_sem, *], by simp [go_sem, *], by simp [go_sem, *]⟩
theorem bg_set {W : World} {g : Nat} {s s' : Bool} {ao : Option Addr} {l c : Nat} {v y : Value} {n : Int} (h : Bc W g s ao l c) (hb : Bg W y n) : Bg ((W.setCell ⟨g, 0, none⟩ (.bool s')).setCell ⟨g, 1, none⟩ v) y n :=
  (hb.set ⟨_, h.1⟩).set ⟨s', by simp [go_sem, h.1]⟩
theorem nm8' {W X : World} {b : Nat} {gn gd bn bd mn md sn sd : Int} (h : Nm W b gn gd bn bd mn md sn sd) (hb : Below W.heap.size W X) : Nm X b gn gd bn bd mn md sn sd := h.keep hb
set_option maxHeartbeats 1600000 in
set_option maxRecDepth 100000 in
theorem r4plus_core (gn gd bn bd mn md sn sd x a1 k l1 L R : Int) (p : Bool)
    (hN : ∀ w : World, Calls Tryd.prog 45 #[nm gn gd bn bd mn md sn sd] w fun e w' => e = .returned (.int .i64 0) ∧ Below w.heap.size w w')
    (x1 : ¬ x < -2147483647) (x2 : ¬ 2147483647 < x)
    (T1 : ∀ (w : World) (g cap : Nat), w.cell? ⟨g, 0, none⟩ = some (.int .i64 x) → w.cell? ⟨g, 1, none⟩ = some (.int .i64 md) → Calls Tryd.prog 65 #[.slice (some ⟨g, 0, none⟩) 2 cap] w fun e w' => ∃ z, e = .returned z ∧ Bg w' z a1 ∧ Below w.heap.size w w')
    (I1 : ∀ w : World, Calls Tryd.prog 24 #[.int .i64 mn] w fun e w' => ∃ z, e = .returned z ∧ Bg w' z mn ∧ Below w.heap.size w w')
    (S1 : ∀ (y z : Value) (w : World), Bg w y a1 → Bg w z mn → Calls Tryd.prog 66 #[y, z] w fun e w' => ∃ u, e = .returned u ∧ Bg w' u k ∧ Below w.heap.size w w')
    (T2 : ∀ (w : World) (g cap : Nat), w.cell? ⟨g, 0, none⟩ = some (.int .i64 gn) → w.cell? ⟨g, 1, none⟩ = some (.int .i64 sd) → w.cell? ⟨g, 2, none⟩ = some (.int .i64 bd) → Calls Tryd.prog 65 #[.slice (some ⟨g, 0, none⟩) 3 cap] w fun e w' => ∃ z, e = .returned z ∧ Bg w' z l1 ∧ Below w.heap.size w w')
    (M2 : ∀ (y z : Value) (w : World), Bg w y k → Bg w z l1 → Calls Tryd.prog 67 #[y, z] w fun e w' => ∃ u, e = .returned u ∧ Bg w' u L ∧ Below w.heap.size w w')
    (T3 : ∀ (w : World) (g cap : Nat), w.cell? ⟨g, 0, none⟩ = some (.int .i64 bn) → w.cell? ⟨g, 1, none⟩ = some (.int .i64 gd) → w.cell? ⟨g, 2, none⟩ = some (.int .i64 md) → w.cell? ⟨g, 3, none⟩ = some (.int .i64 sn) → Calls Tryd.prog 65 #[.slice (some ⟨g, 0, none⟩) 4 cap] w fun e w' => ∃ z, e = .returned z ∧ Bg w' z R ∧ Below w.heap.size w w')
    (A3 : ∀ (y z : Value) (w : World), Bg w y L → Bg w z R → Calls Tryd.prog 60 #[y, z] w fun e w' => ∃ u, e = .returned u ∧ Bg w' u (L + R) ∧ Below w.heap.size w w')
    (I0 : ∀ w : World, Calls Tryd.prog 24 #[.int .i64 0] w fun e w' => ∃ z, e = .returned z ∧ Bg w' z 0 ∧ Below w.heap.size w w')
    (C0 : ∀ (y z : Value) (w : World), Bg w y (L + R) → Bg w z 0 → Calls Tryd.prog 64 #[y, z] w fun e w' => ∃ v, e = .returned (.int .i64 v) ∧ decide (0 ≤ v) = p ∧ Below w.heap.size w w')
    (w : World) :
    Calls Tryd.prog 46 #[nm gn gd bn bd mn md sn sd, .int .i64 x] w fun e w' => e = .returned (.tuple #[.bool p, .int .i64 0]) ∧ Below w.heap.size w w' := by
  have HN := hid1 hN; have HT1 := hid1 T1; have HI1 := hid1 I1; have HS1 := hid1 S1; have HT2 := hid1 T2; have HM2 := hid1 M2; have HT3 := hid1 T3; have HA3 := hid1 A3; have HI0 := hid1 I0; have HC0 := hid1 C0
  clear hN T1 I1 S1 T2 M2 T3 A3 I0 C0
  go_enter Tryd.func46, Tryd.ntmps46
  go_wp2_with fail
  refine gen_calls (fun W' => Below w.heap.size w W' ∧ Hid (Nm W' w.heap.size gn gd bn bd mn md sn sd)) ⟨by repeat (first | (with_reducible exact Below.refl _ _) | (with_reducible refine bl_alloc ?_ _) | (with_reducible refine Below.drew ?_) | (with_reducible refine bl_drewN ?_ _) | (with_reducible refine bl_set ?_ (by omega) _) | (with_reducible refine bl_step ?_ (by assumption))), hid1 (ny_new rfl).1⟩ ?_
  rintro W ⟨B0, HM⟩
  refine (HN.out _).mono ?_
  rintro e w1 ⟨rfl, hb1⟩
  replace HM := hid1 (HM.out.keep hb1)
  have B1 : Below w.heap.size w w1 := by repeat (first | (with_reducible exact Below.refl _ _) | (with_reducible refine bl_alloc ?_ _) | (with_reducible refine Below.drew ?_) | (with_reducible refine bl_drewN ?_ _) | (with_reducible refine bl_set ?_ (by omega) _) | (with_reducible refine bl_step ?_ (by assumption)))
  have zB := B1.size
  clear hb1 B0 HN
  go_upto_region 6 with fail
  go_cut [7] (fun s7 wx => ∃ M s ao l c, w1.heap.size ≤ M ∧ s7 = .pointer (some ⟨M, 0, none⟩) ∧ Hid (Bc wx M s ao l c) ∧ Hid (Bg wx (.agg #[.bool s, .slice ao l c]) k) ∧ Hid (Nm wx w.heap.size gn gd bn bd mn md sn sd) ∧ Below w.heap.size w wx)
  case first =>
    obtain ⟨m0, m1, m2, m3, m4, m5, m6, m7⟩ := HM.out
    go_region_held3 (fun X => X.cell? ⟨w.heap.size, 0, none⟩ = some (.int .i64 gn) ∧ X.cell? ⟨w.heap.size, 1, none⟩ = some (.int .i64 gd) ∧ X.cell? ⟨w.heap.size, 2, none⟩ = some (.int .i64 bn) ∧ X.cell? ⟨w.heap.size, 3, none⟩ = some (.int .i64 bd) ∧ X.cell? ⟨w.heap.size, 4, none⟩ = some (.int .i64 mn) ∧ X.cell? ⟨w.heap.size, 5, none⟩ = some (.int .i64 md) ∧ X.cell? ⟨w.heap.size, 6, none⟩ = some (.int .i64 sn) ∧ X.cell? ⟨w.heap.size, 7, none⟩ = some (.int .i64 sd)) (((try dsimp only); (with_reducible refine nm8 HM.out ?_); repeat (first | (with_reducible exact Below.refl _ _) | (with_reducible refine bl_alloc ?_ _) | (with_reducible refine Below.drew ?_) | (with_reducible refine bl_drewN ?_ _) | (with_reducible refine bl_set ?_ (by omega) _) | (with_reducible refine bl_step ?_ (by assumption)))))
      (first
        | (go_at_call 65; (with_reducible refine (HT1.out _ _ _ (by simp [go_sem]) (by simp [go_sem])).mono ?_); rintro e X1 ⟨u1, rfl, h1, hb1⟩; obtain ⟨s1, o1, l1, c1, rfl⟩ := h1.form; have HB1 := hid1 h1; clear h1; have z1 : w1.heap.size ≤ X1.heap.size := Nat.le_trans (by first | exact Nat.le_refl _ | (simp; done) | (simp; omega)) hb1.size; (first | (with_reducible have NA := hid1 (bc_B (W := w1) hb1)) | (with_reducible have NA := hid1 (bc_C (W := w1) hb1)) | skip))
        | (go_at_call 24; (with_reducible refine (HI1.out _).mono ?_); rintro e X2 ⟨u2, rfl, h2, hb2⟩; obtain ⟨s2, o2, l2, c2, rfl⟩ := h2.form; have HB2 := hid1 h2; clear h2; have HB1 := hid1 (HB1.out.below (w' := X2) (by repeat (first | (with_reducible exact Below.refl _ _) | (with_reducible refine bl_alloc ?_ _) | (with_reducible refine Below.drew ?_) | (with_reducible refine bl_drewN ?_ _) | (with_reducible refine bl_set ?_ (by omega) _) | (with_reducible refine bl_step ?_ (by assumption))))); have z2 : X1.heap.size ≤ X2.heap.size := Nat.le_trans (by first | exact Nat.le_refl _ | (simp; done) | (simp; omega)) hb2.size; (first | (with_reducible have NB := hid1 (bc_0 (W := X1) hb2)) | (with_reducible have NB := hid1 (NA.out.keep hb2)) | skip))
        | (go_at_call 66; (with_reducible refine (HS1.out _ _ _ (HB1.out.below (by repeat (first | (with_reducible exact Below.refl _ _) | (with_reducible refine bl_alloc ?_ _) | (with_reducible refine Below.drew ?_) | (with_reducible refine bl_drewN ?_ _) | (with_reducible refine bl_set ?_ (by omega) _) | (with_reducible refine bl_step ?_ (by assumption))))) (HB2.out.below (by repeat (first | (with_reducible exact Below.refl _ _) | (with_reducible refine bl_alloc ?_ _) | (with_reducible refine Below.drew ?_) | (with_reducible refine bl_drewN ?_ _) | (with_reducible refine bl_set ?_ (by omega) _) | (with_reducible refine bl_step ?_ (by assumption)))))).mono ?_); rintro e X3 ⟨u3, rfl, h3, hb3⟩; obtain ⟨s3, o3, l3, c3, rfl⟩ := h3.form; have HB3 := hid1 h3; clear h3; have z3 : X2.heap.size ≤ X3.heap.size := Nat.le_trans (by first | exact Nat.le_refl _ | (simp; done) | (simp; omega)) hb3.size; (first | ((with_reducible have NC := hid1 (bc_0 (W := X2) hb3)); obtain ⟨n0, n1, n2, n3⟩ := NC.out; have zn := lt_of_cell n0) | ((with_reducible have NC := hid1 (NB.out.keep hb3)); obtain ⟨n0, n1, n2, n3⟩ := NC.out; have zn := lt_of_cell n0) | skip)))
    all_goals go_wp2_with fail
    all_goals go_meet
    · exact ⟨_, s3, o3, l3, c3, by omega, rfl, hid1 (bc_new rfl), hid1 (HB3.out.below (by repeat (first | (with_reducible exact Below.refl _ _) | (with_reducible refine bl_alloc ?_ _) | (with_reducible refine Below.drew ?_) | (with_reducible refine bl_drewN ?_ _) | (with_reducible refine bl_set ?_ (by omega) _) | (with_reducible refine bl_step ?_ (by assumption))))), hid1 (HM.out.keep (by repeat (first | (with_reducible exact Below.refl _ _) | (with_reducible refine bl_alloc ?_ _) | (with_reducible refine Below.drew ?_) | (with_reducible refine bl_drewN ?_ _) | (with_reducible refine bl_set ?_ (by omega) _) | (with_reducible refine bl_step ?_ (by assumption))))), by repeat (first | (with_reducible exact Below.refl _ _) | (with_reducible refine bl_alloc ?_ _) | (with_reducible refine Below.drew ?_) | (with_reducible refine bl_drewN ?_ _) | (with_reducible refine bl_set ?_ (by omega) _) | (with_reducible refine bl_step ?_ (by assumption)))⟩
    · exact ⟨_, s3, o3, l3, c3, by omega, rfl, hid1 (bc_set NC.out), hid1 (bg_set NC.out HB3.out), hid1 (HM.out.keep (by repeat (first | (with_reducible exact Below.refl _ _) | (with_reducible refine bl_alloc ?_ _) | (with_reducible refine Below.drew ?_) | (with_reducible refine bl_drewN ?_ _) | (with_reducible refine bl_set ?_ (by omega) _) | (with_reducible refine bl_step ?_ (by assumption))))), by repeat (first | (with_reducible exact Below.refl _ _) | (with_reducible refine bl_alloc ?_ _) | (with_reducible refine Below.drew ?_) | (with_reducible refine bl_drewN ?_ _) | (with_reducible refine bl_set ?_ (by omega) _) | (with_reducible refine bl_step ?_ (by assumption)))⟩
    · exact ⟨_, s3, o3, l3, c3, by omega, rfl, hid1 (bc_set NC.out), hid1 (bg_set NC.out HB3.out), hid1 (HM.out.keep (by repeat (first | (with_reducible exact Below.refl _ _) | (with_reducible refine bl_alloc ?_ _) | (with_reducible refine Below.drew ?_) | (with_reducible refine bl_drewN ?_ _) | (with_reducible refine bl_set ?_ (by omega) _) | (with_reducible refine bl_step ?_ (by assumption))))), by repeat (first | (with_reducible exact Below.refl _ _) | (with_reducible refine bl_alloc ?_ _) | (with_reducible refine Below.drew ?_) | (with_reducible refine bl_drewN ?_ _) | (with_reducible refine bl_set ?_ (by omega) _) | (with_reducible refine bl_step ?_ (by assumption)))⟩
    · exact ⟨_, s3, o3, l3, c3, by omega, rfl, hid1 (bc_set NC.out), hid1 (bg_set NC.out HB3.out), hid1 (HM.out.keep (by repeat (first | (with_reducible exact Below.refl _ _) | (with_reducible refine bl_alloc ?_ _) | (with_reducible refine Below.drew ?_) | (with_reducible refine bl_drewN ?_ _) | (with_reducible refine bl_set ?_ (by omega) _) | (with_reducible refine bl_step ?_ (by assumption))))), by repeat (first | (with_reducible exact Below.refl _ _) | (with_reducible refine bl_alloc ?_ _) | (with_reducible refine Below.drew ?_) | (with_reducible refine bl_drewN ?_ _) | (with_reducible refine bl_set ?_ (by omega) _) | (with_reducible refine bl_step ?_ (by assumption)))⟩
    · exact ⟨_, s3, o3, l3, c3, by omega, rfl, hid1 (bc_set NC.out), hid1 (bg_set NC.out HB3.out), hid1 (HM.out.keep (by repeat (first | (with_reducible exact Below.refl _ _) | (with_reducible refine bl_alloc ?_ _) | (with_reducible refine Below.drew ?_) | (with_reducible refine bl_drewN ?_ _) | (with_reducible refine bl_set ?_ (by omega) _) | (with_reducible refine bl_step ?_ (by assumption))))), by repeat (first | (with_reducible exact Below.refl _ _) | (with_reducible refine bl_alloc ?_ _) | (with_reducible refine Below.drew ?_) | (with_reducible refine bl_drewN ?_ _) | (with_reducible refine bl_set ?_ (by omega) _) | (with_reducible refine bl_step ?_ (by assumption)))⟩
  case rest =>
    clear HM
    obtain ⟨M, s, ao, l, c, zM, rfl, HC, HK, HM, BC⟩ := hcut
    rename World => V
    clear B1 HT1 HI1 HS1
    have zV := BC.size
    go_upto_region 7 with fail
    go_cut [8] (fun s8 wx => ∃ M' s' ao' l' c', V.heap.size ≤ M' ∧ s8 = .pointer (some ⟨M', 0, none⟩) ∧ Hid (Bc wx M' s' ao' l' c') ∧ Hid (Bg wx (.agg #[.bool s', .slice ao' l' c']) L) ∧ Hid (Nm wx w.heap.size gn gd bn bd mn md sn sd) ∧ Below w.heap.size w wx)
    case first =>
      obtain ⟨m0, m1, m2, m3, m4, m5, m6, m7⟩ := HM.out
      obtain ⟨y0, y1, _, _⟩ := HC.out
      go_region_held3 (fun X => X.cell? ⟨w.heap.size, 0, none⟩ = some (.int .i64 gn) ∧ X.cell? ⟨w.heap.size, 1, none⟩ = some (.int .i64 gd) ∧ X.cell? ⟨w.heap.size, 2, none⟩ = some (.int .i64 bn) ∧ X.cell? ⟨w.heap.size, 3, none⟩ = some (.int .i64 bd) ∧ X.cell? ⟨w.heap.size, 4, none⟩ = some (.int .i64 mn) ∧ X.cell? ⟨w.heap.size, 5, none⟩ = some (.int .i64 md) ∧ X.cell? ⟨w.heap.size, 6, none⟩ = some (.int .i64 sn) ∧ X.cell? ⟨w.heap.size, 7, none⟩ = some (.int .i64 sd) ∧ X.cell? ⟨M, 0, none⟩ = some (.bool s) ∧ X.cell? ⟨M, 1, none⟩ = some (.slice ao l c)) (((try dsimp only); (with_reducible refine nm10 HM.out HC.out ?_); repeat (first | (with_reducible exact Below.refl _ _) | (with_reducible refine bl_alloc ?_ _) | (with_reducible refine Below.drew ?_) | (with_reducible refine bl_drewN ?_ _) | (with_reducible refine bl_set ?_ (by omega) _) | (with_reducible refine bl_step ?_ (by assumption)))))
        (first
          | (go_at_call 65; (with_reducible refine (HT2.out _ _ _ (by simp [go_sem]) (by simp [go_sem]) (by simp [go_sem])).mono ?_); rintro e X1 ⟨u1, rfl, h1, hb1⟩; obtain ⟨s1, o1, l1, c1, rfl⟩ := h1.form; have HB1 := hid1 h1; clear h1; have z1 : V.heap.size ≤ X1.heap.size := Nat.le_trans (by first | exact Nat.le_refl _ | (simp; done) | (simp; omega)) hb1.size; (first | (with_reducible have NA := hid1 (bc_B (W := V) hb1)) | (with_reducible have NA := hid1 (bc_C (W := V) hb1)) | skip))
          | (go_at_call 67; (with_reducible refine (HM2.out _ _ _ (HK.out.below (by repeat (first | (with_reducible exact Below.refl _ _) | (with_reducible refine bl_alloc ?_ _) | (with_reducible refine Below.drew ?_) | (with_reducible refine bl_drewN ?_ _) | (with_reducible refine bl_set ?_ (by omega) _) | (with_reducible refine bl_step ?_ (by assumption))))) (HB1.out.below (by repeat (first | (with_reducible exact Below.refl _ _) | (with_reducible refine bl_alloc ?_ _) | (with_reducible refine Below.drew ?_) | (with_reducible refine bl_drewN ?_ _) | (with_reducible refine bl_set ?_ (by omega) _) | (with_reducible refine bl_step ?_ (by assumption)))))).mono ?_); rintro e X3 ⟨u3, rfl, h3, hb3⟩; obtain ⟨s3, o3, l3, c3, rfl⟩ := h3.form; have HB3 := hid1 h3; clear h3; have z3 : X1.heap.size ≤ X3.heap.size := Nat.le_trans (by first | exact Nat.le_refl _ | (simp; done) | (simp; omega)) hb3.size; (first | ((with_reducible have NC := hid1 (bc_0 (W := X1) hb3)); obtain ⟨n0, n1, n2, n3⟩ := NC.out; have zn := lt_of_cell n0) | ((with_reducible have NC := hid1 (NA.out.keep hb3)); obtain ⟨n0, n1, n2, n3⟩ := NC.out; have zn := lt_of_cell n0) | skip)))
      all_goals go_wp2_with fail
      all_goals go_meet
      · exact ⟨_, s3, o3, l3, c3, by omega, rfl, hid1 (bc_new rfl), hid1 (HB3.out.below (by repeat (first | (with_reducible exact Below.refl _ _) | (with_reducible refine bl_alloc ?_ _) | (with_reducible refine Below.drew ?_) | (with_reducible refine bl_drewN ?_ _) | (with_reducible refine bl_set ?_ (by omega) _) | (with_reducible refine bl_step ?_ (by assumption))))), hid1 (HM.out.keep (by repeat (first | (with_reducible exact Below.refl _ _) | (with_reducible refine bl_alloc ?_ _) | (with_reducible refine Below.drew ?_) | (with_reducible refine bl_drewN ?_ _) | (with_reducible refine bl_set ?_ (by omega) _) | (with_reducible refine bl_step ?_ (by assumption))))), by repeat (first | (with_reducible exact Below.refl _ _) | (with_reducible refine bl_alloc ?_ _) | (with_reducible refine Below.drew ?_) | (with_reducible refine bl_drewN ?_ _) | (with_reducible refine bl_set ?_ (by omega) _) | (with_reducible refine bl_step ?_ (by assumption)))⟩
      · exact ⟨_, s3, o3, l3, c3, by omega, rfl, hid1 (bc_set NC.out), hid1 (bg_set NC.out HB3.out), hid1 (HM.out.keep (by repeat (first | (with_reducible exact Below.refl _ _) | (with_reducible refine bl_alloc ?_ _) | (with_reducible refine Below.drew ?_) | (with_reducible refine bl_drewN ?_ _) | (with_reducible refine bl_set ?_ (by omega) _) | (with_reducible refine bl_step ?_ (by assumption))))), by repeat (first | (with_reducible exact Below.refl _ _) | (with_reducible refine bl_alloc ?_ _) | (with_reducible refine Below.drew ?_) | (with_reducible refine bl_drewN ?_ _) | (with_reducible refine bl_set ?_ (by omega) _) | (with_reducible refine bl_step ?_ (by assumption)))⟩
      · exact ⟨_, s3, o3, l3, c3, by omega, rfl, hid1 (bc_set NC.out), hid1 (bg_set NC.out HB3.out), hid1 (HM.out.keep (by repeat (first | (with_reducible exact Below.refl _ _) | (with_reducible refine bl_alloc ?_ _) | (with_reducible refine Below.drew ?_) | (with_reducible refine bl_drewN ?_ _) | (with_reducible refine bl_set ?_ (by omega) _) | (with_reducible refine bl_step ?_ (by assumption))))), by repeat (first | (with_reducible exact Below.refl _ _) | (with_reducible refine bl_alloc ?_ _) | (with_reducible refine Below.drew ?_) | (with_reducible refine bl_drewN ?_ _) | (with_reducible refine bl_set ?_ (by omega) _) | (with_reducible refine bl_step ?_ (by assumption)))⟩
      · exact ⟨_, s3, o3, l3, c3, by omega, rfl, hid1 (bc_set NC.out), hid1 (bg_set NC.out HB3.out), hid1 (HM.out.keep (by repeat (first | (with_reducible exact Below.refl _ _) | (with_reducible refine bl_alloc ?_ _) | (with_reducible refine Below.drew ?_) | (with_reducible refine bl_drewN ?_ _) | (with_reducible refine bl_set ?_ (by omega) _) | (with_reducible refine bl_step ?_ (by assumption))))), by repeat (first | (with_reducible exact Below.refl _ _) | (with_reducible refine bl_alloc ?_ _) | (with_reducible refine Below.drew ?_) | (with_reducible refine bl_drewN ?_ _) | (with_reducible refine bl_set ?_ (by omega) _) | (with_reducible refine bl_step ?_ (by assumption)))⟩
    case rest =>
      clear HM HC HK
      obtain ⟨M', s', ao', l', c', zM', rfl, HC, HK, HM, BC2⟩ := hcut
      rename World => V2
      clear BC HT2 HM2
      obtain ⟨m0, m1, m2, m3, m4, m5, m6, m7⟩ := HM.out
      have zm := lt_of_cell m0
      go_wp2_with fail
      refine (HT3.out _ _ _ (by simp [go_sem]) (by simp [go_sem]) (by simp [go_sem]) (by simp [go_sem])).mono ?_
      rintro e X1 ⟨u1, rfl, h1, hb1⟩
      obtain ⟨s1, o1, l1', c1, rfl⟩ := h1.form
      have HB1 := hid1 h1
      clear h1
      have b1 : Below V2.heap.size V2 X1 := by repeat (first | (with_reducible exact Below.refl _ _) | (with_reducible refine bl_alloc ?_ _) | (with_reducible refine Below.drew ?_) | (with_reducible refine bl_drewN ?_ _) | (with_reducible refine bl_set ?_ (by omega) _) | (with_reducible refine bl_step ?_ (by assumption)))
      replace HC := hid1 (HC.out.keep b1)
      replace HK := hid1 (HK.out.below b1)
      have B3 : Below w.heap.size w X1 := by repeat (first | (with_reducible exact Below.refl _ _) | (with_reducible refine bl_alloc ?_ _) | (with_reducible refine Below.drew ?_) | (with_reducible refine bl_drewN ?_ _) | (with_reducible refine bl_set ?_ (by omega) _) | (with_reducible refine bl_step ?_ (by assumption)))
      clear hb1 b1 BC2 m0 m1 m2 m3 m4 m5 m6 m7 zm HM HT3
      obtain ⟨y0, y1, _, _⟩ := HC.out
      have zy := lt_of_cell y0
      go_wp2_with fail
      refine (HA3.out _ _ _ (HK.out.below (by repeat (first | (with_reducible exact Below.refl _ _) | (with_reducible refine bl_alloc ?_ _) | (with_reducible refine Below.drew ?_) | (with_reducible refine bl_drewN ?_ _) | (with_reducible refine bl_set ?_ (by omega) _) | (with_reducible refine bl_step ?_ (by assumption))))) (HB1.out.below (by repeat (first | (with_reducible exact Below.refl _ _) | (with_reducible refine bl_alloc ?_ _) | (with_reducible refine Below.drew ?_) | (with_reducible refine bl_drewN ?_ _) | (with_reducible refine bl_set ?_ (by omega) _) | (with_reducible refine bl_step ?_ (by assumption)))))).mono ?_
      rintro e X2 ⟨u2, rfl, h2, hb2⟩
      obtain ⟨s2, o2, l2', c2, rfl⟩ := h2.form
      have HB2 := hid1 h2
      clear h2
      have B4 : Below w.heap.size w X2 := by repeat (first | (with_reducible exact Below.refl _ _) | (with_reducible refine bl_alloc ?_ _) | (with_reducible refine Below.drew ?_) | (with_reducible refine bl_drewN ?_ _) | (with_reducible refine bl_set ?_ (by omega) _) | (with_reducible refine bl_step ?_ (by assumption)))
      clear hb2 B3 y0 y1 zy HC HK HB1 HA3
      go_wp2_with fail
      refine (HI0.out _).mono ?_
      rintro e X3 ⟨u3, rfl, h3, hb3⟩
      obtain ⟨s3, o3, l3', c3, rfl⟩ := h3.form
      have HB3 := hid1 h3
      clear h3
      replace HB2 := hid1 (HB2.out.below hb3)
      have B5 : Below w.heap.size w X3 := by repeat (first | (with_reducible exact Below.refl _ _) | (with_reducible refine bl_alloc ?_ _) | (with_reducible refine Below.drew ?_) | (with_reducible refine bl_drewN ?_ _) | (with_reducible refine bl_set ?_ (by omega) _) | (with_reducible refine bl_step ?_ (by assumption)))
      clear hb3 B4
      go_wp2_with fail
      refine (HC0.out _ _ _ HB2.out HB3.out).mono ?_
      rintro e X4 ⟨v, rfl, hv, hb4⟩
      have HV := hid1 hv
      clear hv
      go_wp2
      go_ret2
      refine ⟨by rw [← HV.out]; rfl, ?_⟩
      repeat (first | (with_reducible exact Below.refl _ _) | (with_reducible refine bl_alloc ?_ _) | (with_reducible refine Below.drew ?_) | (with_reducible refine bl_drewN ?_ _) | (with_reducible refine bl_set ?_ (by omega) _) | (with_reducible refine bl_step ?_ (by assumption)))
end Go.Proofs.YtboabgjgcnkelabDoor
/- THE DOCUMENT'S NUMBERS WRITTEN: Text. -/
namespace Go.Proofs.YtboabgjgcnkelabDoor
open Go.RowKit Go.Shelf
attribute [local go_sem ↓] Go.wp_at_zero Go.wp_at_succ

theorem bc_E1 {W w' : World} {t : TypeId} (hb : Below (W.alloc (.cells #[.bool false, .slice none 0 0] t)).drew.heap.size (W.alloc (.cells #[.bool false, .slice none 0 0] t)).drew w') : Bc w' W.heap.size false none 0 0 :=
  Bc.keep (Bc.keep (bc_new rfl) (Below.drew (Below.refl _ _))) hb
theorem bc_E2 {W w' : World} {t t' : TypeId} (hb : Below ((W.alloc (.cells #[.bool false, .slice none 0 0] t)).alloc (.cells #[.bool false, .slice none 0 0] t')).drew.heap.size ((W.alloc (.cells #[.bool false, .slice none 0 0] t)).alloc (.cells #[.bool false, .slice none 0 0] t')).drew w') : Bc w' W.heap.size false none 0 0 ∧ Bc w' (W.heap.size + 1) false none 0 0 :=
  ⟨Bc.keep (Bc.keep (bc_new rfl) (Below.drew (bl_alloc (Below.refl _ _) _))) hb, Bc.keep (Bc.keep (bc_new (by simp)) (Below.drew (Below.refl _ _))) hb⟩
theorem bc_02 {W w' : World} {t t' : TypeId} (hb : Below ((W.alloc (.cells #[.bool false, .slice none 0 0] t)).alloc (.cells #[.bool false, .slice none 0 0] t')).heap.size ((W.alloc (.cells #[.bool false, .slice none 0 0] t)).alloc (.cells #[.bool false, .slice none 0 0] t')) w') : Bc w' W.heap.size false none 0 0 ∧ Bc w' (W.heap.size + 1) false none 0 0 :=
  ⟨Bc.keep (Bc.keep (bc_new rfl) (bl_alloc (Below.refl _ _) _)) hb, Bc.keep (bc_new (by simp)) hb⟩
theorem Bc.other {W : World} {g k o : Nat} {s : Bool} {ao : Option Addr} {l c : Nat} {u : Value} (h : Bc W g s ao l c) (hk : ¬ k = g) : Bc (W.setCell ⟨k, o, none⟩ u) g s ao l c := by
  obtain ⟨x0, x1, x2, x3⟩ := h
  have z := lt_of_cell x0
  have hk2 : ¬ g = k := fun e => hk e.symm
  exact ⟨by simp [go_sem, *], by simp [go_sem, *], by simp [go_sem, *], by simp [go_sem, *]⟩
def strLen (v : Value) : Nat := match v with | .string s => s.size | _ => 0
/-- What is written so far, behind what is left. -/
def Tx (u R : Int) (s : List UInt8) : Prop := 0 ≤ R ∧ (R = 0 → s = Lib.decDigits u.toNat) ∧ (0 < R → Lib.decDigits R.toNat ++ s = Lib.decDigits u.toNat)
theorem tx_step {u R : Int} {s : List UInt8} (h : Tx u R s) (hR : 0 < R) : Tx u (R / 10) (UInt8.ofNat (48 + (R % 10).toNat) :: s) := by
  obtain ⟨_, _, h3⟩ := h
  have e := h3 hR
  refine ⟨by omega, fun h0 => ?_, fun h0 => ?_⟩
  · rw [← e, Lib.decDigits, dif_pos (by omega)]
    have : (R % 10).toNat = R.toNat := by omega
    rw [this]; rfl
  · rw [← e]
    conv => rhs; rw [Lib.decDigits, dif_neg (show ¬ R.toNat < 10 by omega)]
    have e1 : (R / 10).toNat = R.toNat / 10 := by omega
    have e2 : (R % 10).toNat = R.toNat % 10 := by omega
    rw [e1, e2]; simp
theorem tx_len {u R : Int} {s : List UInt8} (h : Tx u R s) (hR : 0 < R) (hu : u < 10000000000000000000) : s.length ≤ 19 := by
  have e := congrArg List.length (h.2.2 hR)
  have b := dec_len (k := 18) (K := u.toNat) (by omega)
  have c := dec_len_pos R.toNat
  rw [List.length_append] at e
  omega
end Go.Proofs.YtboabgjgcnkelabDoor
/- THE DOCUMENT'S NUMBERS WRITTEN: Text, walked. -/
namespace Go.Proofs.YtboabgjgcnkelabDoor
open Go.RowKit Go.Shelf
attribute [local go_sem ↓] Go.wp_at_zero Go.wp_at_succ

theorem dec_big : ∀ {k K : Nat}, 10 ^ k ≤ K → k + 1 ≤ (Lib.decDigits K).length
  | 0, K, _ => dec_len_pos K
  | k + 1, K, h => by
    have hp : 1 ≤ 10 ^ k := Nat.one_le_pow _ _ (by decide)
    rw [Nat.pow_succ] at h
    rw [dec_step (by omega), List.length_append]
    have := dec_big (k := k) (K := K / 10) (by omega)
    simp
    omega
theorem bc2 {W X : World} {T : Nat} {s : Bool} {ao : Option Addr} {l c : Nat} (h : Bc W T s ao l c) (hb : Below W.heap.size W X) : X.cell? ⟨T, 0, none⟩ = some (.bool s) ∧ X.cell? ⟨T, 1, none⟩ = some (.slice ao l c) := ⟨(h.keep hb).1, (h.keep hb).2.1⟩
theorem bg_len {w : World} {s : Bool} {ao : Option Addr} {l c : Nat} {R : Int} (h : Bg w (.agg #[.bool s, .slice ao l c]) R) : (R = 0 → l = 0) ∧ (0 < R → 0 < l) := by
  obtain ⟨v, ds, e, rd, dg, tr, vd⟩ := h
  obtain ⟨ao', cap', ev, _⟩ := rd.parts
  subst ev
  have el : l = ds.length := by
    have := e
    simp at this
    omega
  constructor
  · intro hR
    have := len_le (k := 0) dg tr (by rw [vd, hR]; decide)
    omega
  · intro hR
    rcases Nat.eq_zero_or_pos ds.length with k | k
    · have : ds = [] := List.length_eq_zero_iff.mp k
      subst this
      simp [val] at vd
      omega
    · omega
theorem bg_small {w : World} {s : Bool} {ao : Option Addr} {l c : Nat} {r : Int} (h : Bg w (.agg #[.bool s, .slice ao l c]) r) (h0 : 0 < r) (h1 : r < 65536) : ∃ g, ao = some ⟨g, 0, none⟩ ∧ l = 1 ∧ w.cell? ⟨g, 0, none⟩ = some (.int .i64 r) := by
  obtain ⟨v, ds, e, rd, dg, tr, vd⟩ := h
  have hl := len_le (k := 1) dg tr (by rw [vd]; omega)
  obtain ⟨ao', cap', ev, hc⟩ := rd.parts
  subst ev
  have e2 : ao = ao' ∧ l = ds.length := by
    have := e
    simp at this
    exact ⟨this.2.1, this.2.2.1⟩
  match ds, hl, vd, hc, e2 with
  | [], _, vd, _, _ => simp [val] at vd; omega
  | [d], _, vd, hc, e2 =>
    obtain ⟨g, eg, hcell⟩ := hc 0 (by simp)
    refine ⟨g, e2.1.trans eg, e2.2, ?_⟩
    have : d = r := by simp [val] at vd; omega
    rw [hcell]
    simp [dat, this]
  | _ :: _ :: _, hl, _, _, _ => simp at hl
theorem und_bytes : Tryd.prog.underlying 82 = some (.slice 5) := by kernel_rfl
theorem conv_one {W : World} {c : Int} (h0 : 0 ≤ c) (h1 : c < 256) (g : Nat) (hg : g = W.heap.size) :
    (convert 82 9 (.slice (some ⟨g, 0, none⟩) 1 1)).run Tryd.prog (W.alloc (.cells #[.int .u8 c] 5)) = .ok (.string ⟨#[UInt8.ofNat c.toNat]⟩) (W.alloc (.cells #[.int .u8 c] 5)) := by
  subst hg
  refine Lib.run_convert_whole (W.alloc (.cells #[.int .u8 c] 5)) 82 5 9 und_bytes Tryd.underlying5 Tryd.underlying9 W.heap.size 0 ⟨#[UInt8.ofNat c.toNat]⟩ (fun i hi => ?_) 1
  have : i = 0 := by have : i < 1 := hi; omega
  subst this
  have e : ((⟨#[UInt8.ofNat c.toNat]⟩ : ByteArray)[0].toNat : Int) = c := by
    show ((UInt8.ofNat c.toNat).toNat : Int) = c
    rw [UInt8.toNat_ofNat']
    omega
  rw [e]
  simp [go_sem]
/-- Two big numbers laid down. -/
def En (w : World) (M5 M6 : Nat) (sq : Bool) (oq : Option Addr) (lq cq : Nat) (sr : Bool) (or_ : Option Addr) (lr cr : Nat) (a b : Int) : Prop :=
  Bc w M5 sq oq lq cq ∧ Bc w M6 sr or_ lr cr ∧ Bg w (.agg #[.bool sq, .slice oq lq cq]) a ∧ Bg w (.agg #[.bool sr, .slice or_ lr cr]) b
section
variable {X : World} {t t' : TypeId} {G H : Nat} {sq sr g h : Bool} {oq or_ go ho : Option Addr} {lq cq lr cr gl gc hl hc : Nat} {a b : Int}
theorem en1 (hq : Bg X (.agg #[.bool sq, .slice oq lq cq]) a) (hr : Bg X (.agg #[.bool sr, .slice or_ lr cr]) b) : En ((X.alloc (.cells #[.bool sq, .slice oq lq cq] t)).alloc (.cells #[.bool sr, .slice or_ lr cr] t')) X.heap.size (X.heap.size + 1) sq oq lq cq sr or_ lr cr a b :=
  ⟨Bc.keep (bc_new rfl) (bl_alloc (Below.refl _ _) _), bc_new (by simp), hq.below (bl_alloc (bl_alloc (Below.refl _ _) _) _), hr.below (bl_alloc (bl_alloc (Below.refl _ _) _) _)⟩
theorem en2 (hq : Bg X (.agg #[.bool sq, .slice oq lq cq]) a) (hr : Bg X (.agg #[.bool sr, .slice or_ lr cr]) b) : En ((X.alloc (.cells #[.bool sr, .slice or_ lr cr] t)).alloc (.cells #[.bool sq, .slice oq lq cq] t')) (X.heap.size + 1) X.heap.size sq oq lq cq sr or_ lr cr a b :=
  ⟨bc_new (by simp), Bc.keep (bc_new rfl) (bl_alloc (Below.refl _ _) _), hq.below (bl_alloc (bl_alloc (Below.refl _ _) _) _), hr.below (bl_alloc (bl_alloc (Below.refl _ _) _) _)⟩
theorem en3 (hG : Bc X G g go gl gc) (hq : Bg X (.agg #[.bool sq, .slice oq lq cq]) a) (hr : Bg X (.agg #[.bool sr, .slice or_ lr cr]) b) : En (((X.setCell ⟨G, 0, none⟩ (.bool sq)).setCell ⟨G, 1, none⟩ (.slice oq lq cq)).alloc (.cells #[.bool sr, .slice or_ lr cr] t)) G X.heap.size sq oq lq cq sr or_ lr cr a b :=
  ⟨Bc.keep (bc_set hG) (bl_alloc (Below.refl _ _) _), bc_new (by simp), (bg_set hG hq).below (bl_alloc (Below.refl _ _) _), (bg_set hG hr).below (bl_alloc (Below.refl _ _) _)⟩
theorem en4 (hG : Bc X G g go gl gc) (hq : Bg X (.agg #[.bool sq, .slice oq lq cq]) a) (hr : Bg X (.agg #[.bool sr, .slice or_ lr cr]) b) : En (((X.setCell ⟨G, 0, none⟩ (.bool sr)).setCell ⟨G, 1, none⟩ (.slice or_ lr cr)).alloc (.cells #[.bool sq, .slice oq lq cq] t)) X.heap.size G sq oq lq cq sr or_ lr cr a b :=
  ⟨bc_new (by simp), Bc.keep (bc_set hG) (bl_alloc (Below.refl _ _) _), (bg_set hG hq).below (bl_alloc (Below.refl _ _) _), (bg_set hG hr).below (bl_alloc (Below.refl _ _) _)⟩
theorem en5 (hG : Bc X G g go gl gc) (hH : Bc X H h ho hl hc) (ne : ¬ G = H) (hq : Bg X (.agg #[.bool sq, .slice oq lq cq]) a) (hr : Bg X (.agg #[.bool sr, .slice or_ lr cr]) b) : En ((((X.setCell ⟨G, 0, none⟩ (.bool sq)).setCell ⟨G, 1, none⟩ (.slice oq lq cq)).setCell ⟨H, 0, none⟩ (.bool sr)).setCell ⟨H, 1, none⟩ (.slice or_ lr cr)) G H sq oq lq cq sr or_ lr cr a b :=
  ⟨Bc.other (Bc.other (bc_set hG) (fun e => ne e.symm)) (fun e => ne e.symm), bc_set (Bc.other (Bc.other hH ne) ne), bg_set (Bc.other (Bc.other hH ne) ne) (bg_set hG hq), bg_set (Bc.other (Bc.other hH ne) ne) (bg_set hG hr)⟩
end
theorem en_cut {wx w : World} {A B T4 T1 : Nat} {sq : Bool} {oq : Option Addr} {lq cq : Nat} {sr : Bool} {or_ : Option Addr} {lr cr : Nat} {a b : Int} {s ng : Bool} {ao ao0 : Option Addr} {l c l0 c0 : Nat}
    (e : En wx A B sq oq lq cq sr or_ lr cr a b) (h4 : Bc wx T4 s ao l c) (h1 : Bc wx T1 ng ao0 l0 c0) (hB : Below w.heap.size w wx) :
    ∃ M5 M6 sq oq lq cq sr or_ lr cr, Value.pointer (some ⟨A, 0, none⟩) = .pointer (some ⟨M5, 0, none⟩) ∧ Value.pointer (some ⟨B, 0, none⟩) = .pointer (some ⟨M6, 0, none⟩) ∧ Hid (Bc wx M5 sq oq lq cq) ∧ Hid (Bc wx M6 sr or_ lr cr) ∧ Hid (Bg wx (.agg #[.bool sq, .slice oq lq cq]) a) ∧ Hid (Bg wx (.agg #[.bool sr, .slice or_ lr cr]) b) ∧ Hid (Bc wx T4 s ao l c) ∧ Hid (Bc wx T1 ng ao0 l0 c0) ∧ Below w.heap.size w wx :=
  ⟨A, B, sq, oq, lq, cq, sr, or_, lr, cr, rfl, rfl, hid1 e.1, hid1 e.2.1, hid1 e.2.2.1, hid1 e.2.2.2, hid1 h4, hid1 h1, hB⟩
set_option maxHeartbeats 3200000 in
set_option maxRecDepth 100000 in
theorem text_core (n : Int) (x : Value) (w : World) (hx : Bg w x n) (hn0 : ¬ n = 0) (hu : (n.natAbs : Int) < 10000000000000000000) :
    Calls Tryd.prog 23 #[x] w fun e w' => e = .returned (.string ⟨(Lib.itoa n).toArray⟩) ∧ Below w.heap.size w w' := by
  obtain ⟨v, ds, rfl, rd, dg, tr, vd⟩ := hx
  obtain ⟨ao0, cap0, rfl, _⟩ := rd.parts
  have hl : 0 < ds.length := by
    rcases Nat.eq_zero_or_pos ds.length with k | k
    · have : ds = [] := List.length_eq_zero_iff.mp k
      subst this
      simp [val] at vd
      omega
    · exact k
  have hl' : ((ds.length : Int) == 0) = false := beq_false_of_ne (by omega)
  have HRD := hid1 rd
  have HDG := hid1 dg
  have HVD := hid1 vd
  clear rd dg tr vd
  obtain ⟨u, eu⟩ : ∃ u : Int, u = (n.natAbs : Int) := ⟨_, rfl⟩
  have HU := hid1 eu
  have u0 : 0 < u := by omega
  rw [← eu] at hu
  clear eu
  obtain ⟨ng, eng⟩ : ∃ ng, decide (n < 0) = ng := ⟨_, rfl⟩
  have HNG := hid1 eng
  rw [eng]
  clear eng
  go_enter Tryd.func23, Tryd.ntmps23
  go_wp2_with fail
  refine (trim_num u false _ ds _ (HRD.out.below (by repeat (first | exact Below.refl _ _ | refine bl_alloc ?_ _ | refine Below.drew ?_ | refine bl_drewN ?_ _ | refine bl_set ?_ (by omega) _ | refine bl_step ?_ (by assumption)))) HDG.out (by rw [HVD.out, HU.out]; simp) (fun _ => rfl) (fun h => by omega)).mono ?_
  rintro e w1 ⟨x1, b1, ao1, m1, cap1, rfl, rfl, hx1, hb1⟩
  have HX := hid1 hx1
  have HT1 : Hid (Bc w1 w.heap.size ng ao0 ds.length cap0) := hid1 (Bc.keep (bc_new rfl) hb1)
  have B1 : Below w.heap.size w w1 := by repeat (first | exact Below.refl _ _ | refine bl_alloc ?_ _ | refine Below.drew ?_ | refine bl_drewN ?_ _ | refine bl_set ?_ (by omega) _ | refine bl_step ?_ (by assumption))
  have zw := lt_of_cell HT1.out.1
  clear hx1 hb1
  go_wp2_with fail
  go_loopw [3] (fun s3 wr => ∃ (R : Int) (st : ByteArray) (s : Bool) (ao : Option Addr) (l c : Nat), s3 = .string st ∧ Hid (Tx u R st.data.toList) ∧ Hid (Bc wr w1.heap.size s ao l c) ∧ Hid (Bg wr (.agg #[.bool s, .slice ao l c]) R) ∧ Hid (Bc wr w.heap.size ng ao0 ds.length cap0) ∧ Below w.heap.size w wr) (fun s3 _ => 100 - strLen s3)
  case atStart =>
    refine ⟨u, ⟨#[]⟩, b1, ao1, m1, cap1, rfl, hid1 ⟨by omega, fun h => by omega, fun _ => by simp⟩, hid1 (bc_new rfl), hid1 (HX.out.below (by repeat (first | exact Below.refl _ _ | refine bl_alloc ?_ _ | refine Below.drew ?_ | refine bl_drewN ?_ _ | refine bl_set ?_ (by omega) _ | refine bl_step ?_ (by assumption)))), hid1 (HT1.out.keep (by repeat (first | exact Below.refl _ _ | refine bl_alloc ?_ _ | refine Below.drew ?_ | refine bl_drewN ?_ _ | refine bl_set ?_ (by omega) _ | refine bl_step ?_ (by assumption)))), by repeat (first | exact Below.refl _ _ | refine bl_alloc ?_ _ | refine Below.drew ?_ | refine bl_drewN ?_ _ | refine bl_set ?_ (by omega) _ | refine bl_step ?_ (by assumption))⟩
  case round =>
    obtain ⟨R, st, s, ao, l, c, rfl, HTX, HC, HB, HT, hB⟩ := hrel
    rename World => V
    have R0 := HTX.out.1
    obtain ⟨q1, q2⟩ := bg_len HB.out
    by_cases hR : R = 0
    · have l0 := q1 hR
      subst l0
      have hs := HTX.out.2.1 hR
      have HS := hid1 hs
      clear hs q1 q2
      obtain ⟨y0, y1, _, _⟩ := HC.out
      obtain ⟨x0, x1, _, _⟩ := HT.out
      by_cases hn : n < 0
      · have g : ng = true := by rw [← HNG.out]; exact decide_eq_true hn
        subst g
        have hstz : st.size ≤ 20 := by
          have e : st.size = st.data.toList.length := rfl
          rw [e, HS.out]
          have := dec_len (k := 18) (K := u.toNat) (by omega)
          omega
        have HE : Hid ((⟨#[45]⟩ ++ st : ByteArray) = ⟨(Lib.itoa n).toArray⟩) := hid1 (by
          apply ByteArray.ext
          apply Array.ext'
          have e : u.toNat = n.natAbs := by have := HU.out; omega
          have e2 : st.data.toList = Lib.decDigits n.natAbs := by rw [HS.out, e]
          unfold Lib.itoa
          rw [if_pos hn]
          simp [e2])
        go_wp2
        go_ret
        exact ⟨by rw [← HE.out]; rfl, hB⟩
      · have g : ng = false := by rw [← HNG.out]; exact decide_eq_false hn
        subst g
        have HE : Hid (st = ⟨(Lib.itoa n).toArray⟩) := hid1 (by
          apply ByteArray.ext
          apply Array.ext'
          have e : u.toNat = n.toNat := by have := HU.out; omega
          unfold Lib.itoa
          rw [if_neg hn]
          rw [HS.out, e])
        go_wp2
        go_ret
        exact ⟨by rw [← HE.out]; rfl, hB⟩
    · have hR0 : 0 < R := by omega
      have l0 := q2 hR0
      have l0' : (0 : Int) < (l : Int) := by omega
      have hst := tx_len HTX.out hR0 hu
      have hstz : st.size ≤ 19 := hst
      clear q1 q2 hst
      obtain ⟨y0, y1, _, _⟩ := HC.out
      have zV := hB.size
      have HI10 := hid1 (rint_any 10 (by unfold I64; omega))
      have hR2 : R ≤ 10000000000000000000 := by
        have e := congrArg List.length (HTX.out.2.2 hR0)
        have b := dec_len (k := 18) (K := u.toNat) (by omega)
        rw [List.length_append] at e
        rcases Int.lt_or_le 10000000000000000000 R with k | k
        · exfalso
          have := dec_big (k := 19) (K := R.toNat) (by omega)
          omega
        · exact k
      have HPT := hid1 (fun (y z : Value) (w : World) (hy : Bg w y R) (hz : Bg w z 10) => rparts_any R 10 y z w hy hz (by omega) (by omega) (lt16 ⟨by omega, by omega⟩) (lt16 ⟨by omega, by omega⟩))
      clear hR2
      go_upto_region 6 with fail
      clear y0 y1
      go_cut [5, 6] (fun s5 s6 wx => ∃ M5 M6 sq oq lq cq sr or_ lr cr, s5 = .pointer (some ⟨M5, 0, none⟩) ∧ s6 = .pointer (some ⟨M6, 0, none⟩) ∧ Hid (Bc wx M5 sq oq lq cq) ∧ Hid (Bc wx M6 sr or_ lr cr) ∧ Hid (Bg wx (.agg #[.bool sq, .slice oq lq cq]) (R / 10)) ∧ Hid (Bg wx (.agg #[.bool sr, .slice or_ lr cr]) (R % 10)) ∧ Hid (Bc wx w1.heap.size s ao l c) ∧ Hid (Bc wx w.heap.size ng ao0 ds.length cap0) ∧ Below w.heap.size w wx)
      case first =>
        obtain ⟨y0, y1, _, _⟩ := HC.out
        go_region_held3 (fun X => X.cell? ⟨w1.heap.size, 0, none⟩ = some (.bool s) ∧ X.cell? ⟨w1.heap.size, 1, none⟩ = some (.slice ao l c)) (((try dsimp only); (with_reducible refine bc2 HC.out ?_); repeat (first | (with_reducible exact Below.refl _ _) | (with_reducible refine bl_alloc ?_ _) | (with_reducible refine Below.drew ?_) | (with_reducible refine bl_drewN ?_ _) | (with_reducible refine bl_set ?_ (by omega) _) | (with_reducible refine bl_step ?_ (by assumption)))))
          (first
            | (go_at_call 24; (with_reducible refine (HI10.out _).mono ?_); rintro e X1 ⟨i1, rfl, hi1, hb1⟩; obtain ⟨si, oi, li, ci, rfl⟩ := hi1.form; have HI1 := hid1 hi1; clear hi1; have z1 : V.heap.size ≤ X1.heap.size := Nat.le_trans (by first | exact Nat.le_refl _ | (simp; done) | (simp; omega)) hb1.size; (first | ((with_reducible have NE := bc_E2 (W := V) hb1); have NA := hid1 NE.1; have NB := hid1 NE.2; clear NE) | (with_reducible have NA := hid1 (bc_E1 (W := V) hb1)) | skip); (try (have zNA := lt_of_cell NA.out.1; have n1 := Nat.ne_of_lt zNA; have n2 := Nat.ne_of_gt zNA)))
            | (go_at_call 41; (with_reducible refine (HPT.out _ _ _ (HB.out.below (by repeat (first | (with_reducible exact Below.refl _ _) | (with_reducible refine bl_alloc ?_ _) | (with_reducible refine Below.drew ?_) | (with_reducible refine bl_drewN ?_ _) | (with_reducible refine bl_set ?_ (by omega) _) | (with_reducible refine bl_step ?_ (by assumption))))) (HI1.out.below (by repeat (first | (with_reducible exact Below.refl _ _) | (with_reducible refine bl_alloc ?_ _) | (with_reducible refine Below.drew ?_) | (with_reducible refine bl_drewN ?_ _) | (with_reducible refine bl_set ?_ (by omega) _) | (with_reducible refine bl_step ?_ (by assumption)))))).mono ?_); rintro e X2 ⟨vq, vr, rfl, hq, hr, hb2⟩; obtain ⟨sq, oq, lq, cq, rfl⟩ := hq.form; obtain ⟨sr, or_, lr, cr, rfl⟩ := hr.form; have HQ := hid1 hq; have HRR := hid1 hr; clear hq hr; have z2 : X1.heap.size ≤ X2.heap.size := Nat.le_trans (by first | exact Nat.le_refl _ | (simp; done) | (simp; omega)) hb2.size; have b12 : Below X1.heap.size X1 X2 := (by repeat (first | (with_reducible exact Below.refl _ _) | (with_reducible refine bl_alloc ?_ _) | (with_reducible refine Below.drew ?_) | (with_reducible refine bl_drewN ?_ _) | (with_reducible refine bl_set ?_ (by omega) _) | (with_reducible refine bl_step ?_ (by assumption)))); (try (with_reducible have NA := hid1 (NA.out.keep b12))); (try (with_reducible have NB := hid1 (NB.out.keep b12))); clear b12; (first | ((with_reducible have NE := bc_02 (W := X1) hb2); have NC := hid1 NE.1; have ND := hid1 NE.2; clear NE) | (with_reducible have NC := hid1 (bc_0 (W := X1) hb2)) | skip); (try (obtain ⟨pa0, pa1, pa2, pa3⟩ := NA.out; have za := lt_of_cell pa0)); (try (obtain ⟨pb0, pb1, pb2, pb3⟩ := NB.out; have zb := lt_of_cell pb0)); (try (obtain ⟨pc0, pc1, pc2, pc3⟩ := NC.out; have zc := lt_of_cell pc0)); (try (obtain ⟨pd0, pd1, pd2, pd3⟩ := ND.out; have zd := lt_of_cell pd0))))
        all_goals go_wp2_with fail
        all_goals go_meet
        · exact en_cut (en1 HQ.out HRR.out) (HC.out.keep (by repeat (first | (with_reducible exact Below.refl _ _) | (with_reducible refine bl_alloc ?_ _) | (with_reducible refine Below.drew ?_) | (with_reducible refine bl_drewN ?_ _) | (with_reducible refine bl_set ?_ (by omega) _) | (with_reducible refine bl_step ?_ (by assumption))))) (HT.out.keep (by repeat (first | (with_reducible exact Below.refl _ _) | (with_reducible refine bl_alloc ?_ _) | (with_reducible refine Below.drew ?_) | (with_reducible refine bl_drewN ?_ _) | (with_reducible refine bl_set ?_ (by omega) _) | (with_reducible refine bl_step ?_ (by assumption))))) (by repeat (first | (with_reducible exact Below.refl _ _) | (with_reducible refine bl_alloc ?_ _) | (with_reducible refine Below.drew ?_) | (with_reducible refine bl_drewN ?_ _) | (with_reducible refine bl_set ?_ (by omega) _) | (with_reducible refine bl_step ?_ (by assumption))))
        · exact en_cut (en2 HQ.out HRR.out) (HC.out.keep (by repeat (first | (with_reducible exact Below.refl _ _) | (with_reducible refine bl_alloc ?_ _) | (with_reducible refine Below.drew ?_) | (with_reducible refine bl_drewN ?_ _) | (with_reducible refine bl_set ?_ (by omega) _) | (with_reducible refine bl_step ?_ (by assumption))))) (HT.out.keep (by repeat (first | (with_reducible exact Below.refl _ _) | (with_reducible refine bl_alloc ?_ _) | (with_reducible refine Below.drew ?_) | (with_reducible refine bl_drewN ?_ _) | (with_reducible refine bl_set ?_ (by omega) _) | (with_reducible refine bl_step ?_ (by assumption))))) (by repeat (first | (with_reducible exact Below.refl _ _) | (with_reducible refine bl_alloc ?_ _) | (with_reducible refine Below.drew ?_) | (with_reducible refine bl_drewN ?_ _) | (with_reducible refine bl_set ?_ (by omega) _) | (with_reducible refine bl_step ?_ (by assumption))))
        · exact en_cut (en3 NC.out HQ.out HRR.out) (HC.out.keep (by repeat (first | (with_reducible exact Below.refl _ _) | (with_reducible refine bl_alloc ?_ _) | (with_reducible refine Below.drew ?_) | (with_reducible refine bl_drewN ?_ _) | (with_reducible refine bl_set ?_ (by omega) _) | (with_reducible refine bl_step ?_ (by assumption))))) (HT.out.keep (by repeat (first | (with_reducible exact Below.refl _ _) | (with_reducible refine bl_alloc ?_ _) | (with_reducible refine Below.drew ?_) | (with_reducible refine bl_drewN ?_ _) | (with_reducible refine bl_set ?_ (by omega) _) | (with_reducible refine bl_step ?_ (by assumption))))) (by repeat (first | (with_reducible exact Below.refl _ _) | (with_reducible refine bl_alloc ?_ _) | (with_reducible refine Below.drew ?_) | (with_reducible refine bl_drewN ?_ _) | (with_reducible refine bl_set ?_ (by omega) _) | (with_reducible refine bl_step ?_ (by assumption))))
        · exact en_cut (en5 NC.out ND.out (by omega) HQ.out HRR.out) (HC.out.keep (by repeat (first | (with_reducible exact Below.refl _ _) | (with_reducible refine bl_alloc ?_ _) | (with_reducible refine Below.drew ?_) | (with_reducible refine bl_drewN ?_ _) | (with_reducible refine bl_set ?_ (by omega) _) | (with_reducible refine bl_step ?_ (by assumption))))) (HT.out.keep (by repeat (first | (with_reducible exact Below.refl _ _) | (with_reducible refine bl_alloc ?_ _) | (with_reducible refine Below.drew ?_) | (with_reducible refine bl_drewN ?_ _) | (with_reducible refine bl_set ?_ (by omega) _) | (with_reducible refine bl_step ?_ (by assumption))))) (by repeat (first | (with_reducible exact Below.refl _ _) | (with_reducible refine bl_alloc ?_ _) | (with_reducible refine Below.drew ?_) | (with_reducible refine bl_drewN ?_ _) | (with_reducible refine bl_set ?_ (by omega) _) | (with_reducible refine bl_step ?_ (by assumption))))
        · exact en_cut (en4 NC.out HQ.out HRR.out) (HC.out.keep (by repeat (first | (with_reducible exact Below.refl _ _) | (with_reducible refine bl_alloc ?_ _) | (with_reducible refine Below.drew ?_) | (with_reducible refine bl_drewN ?_ _) | (with_reducible refine bl_set ?_ (by omega) _) | (with_reducible refine bl_step ?_ (by assumption))))) (HT.out.keep (by repeat (first | (with_reducible exact Below.refl _ _) | (with_reducible refine bl_alloc ?_ _) | (with_reducible refine Below.drew ?_) | (with_reducible refine bl_drewN ?_ _) | (with_reducible refine bl_set ?_ (by omega) _) | (with_reducible refine bl_step ?_ (by assumption))))) (by repeat (first | (with_reducible exact Below.refl _ _) | (with_reducible refine bl_alloc ?_ _) | (with_reducible refine Below.drew ?_) | (with_reducible refine bl_drewN ?_ _) | (with_reducible refine bl_set ?_ (by omega) _) | (with_reducible refine bl_step ?_ (by assumption))))
        · exact en_cut (en5 ND.out NC.out (by omega) HQ.out HRR.out) (HC.out.keep (by repeat (first | (with_reducible exact Below.refl _ _) | (with_reducible refine bl_alloc ?_ _) | (with_reducible refine Below.drew ?_) | (with_reducible refine bl_drewN ?_ _) | (with_reducible refine bl_set ?_ (by omega) _) | (with_reducible refine bl_step ?_ (by assumption))))) (HT.out.keep (by repeat (first | (with_reducible exact Below.refl _ _) | (with_reducible refine bl_alloc ?_ _) | (with_reducible refine Below.drew ?_) | (with_reducible refine bl_drewN ?_ _) | (with_reducible refine bl_set ?_ (by omega) _) | (with_reducible refine bl_step ?_ (by assumption))))) (by repeat (first | (with_reducible exact Below.refl _ _) | (with_reducible refine bl_alloc ?_ _) | (with_reducible refine Below.drew ?_) | (with_reducible refine bl_drewN ?_ _) | (with_reducible refine bl_set ?_ (by omega) _) | (with_reducible refine bl_step ?_ (by assumption))))
        · exact en_cut (en3 NA.out HQ.out HRR.out) (HC.out.keep (by repeat (first | (with_reducible exact Below.refl _ _) | (with_reducible refine bl_alloc ?_ _) | (with_reducible refine Below.drew ?_) | (with_reducible refine bl_drewN ?_ _) | (with_reducible refine bl_set ?_ (by omega) _) | (with_reducible refine bl_step ?_ (by assumption))))) (HT.out.keep (by repeat (first | (with_reducible exact Below.refl _ _) | (with_reducible refine bl_alloc ?_ _) | (with_reducible refine Below.drew ?_) | (with_reducible refine bl_drewN ?_ _) | (with_reducible refine bl_set ?_ (by omega) _) | (with_reducible refine bl_step ?_ (by assumption))))) (by repeat (first | (with_reducible exact Below.refl _ _) | (with_reducible refine bl_alloc ?_ _) | (with_reducible refine Below.drew ?_) | (with_reducible refine bl_drewN ?_ _) | (with_reducible refine bl_set ?_ (by omega) _) | (with_reducible refine bl_step ?_ (by assumption))))
        · exact en_cut (en5 NA.out NC.out (by omega) HQ.out HRR.out) (HC.out.keep (by repeat (first | (with_reducible exact Below.refl _ _) | (with_reducible refine bl_alloc ?_ _) | (with_reducible refine Below.drew ?_) | (with_reducible refine bl_drewN ?_ _) | (with_reducible refine bl_set ?_ (by omega) _) | (with_reducible refine bl_step ?_ (by assumption))))) (HT.out.keep (by repeat (first | (with_reducible exact Below.refl _ _) | (with_reducible refine bl_alloc ?_ _) | (with_reducible refine Below.drew ?_) | (with_reducible refine bl_drewN ?_ _) | (with_reducible refine bl_set ?_ (by omega) _) | (with_reducible refine bl_step ?_ (by assumption))))) (by repeat (first | (with_reducible exact Below.refl _ _) | (with_reducible refine bl_alloc ?_ _) | (with_reducible refine Below.drew ?_) | (with_reducible refine bl_drewN ?_ _) | (with_reducible refine bl_set ?_ (by omega) _) | (with_reducible refine bl_step ?_ (by assumption))))
        · exact en_cut (en5 NA.out NB.out (by omega) HQ.out HRR.out) (HC.out.keep (by repeat (first | (with_reducible exact Below.refl _ _) | (with_reducible refine bl_alloc ?_ _) | (with_reducible refine Below.drew ?_) | (with_reducible refine bl_drewN ?_ _) | (with_reducible refine bl_set ?_ (by omega) _) | (with_reducible refine bl_step ?_ (by assumption))))) (HT.out.keep (by repeat (first | (with_reducible exact Below.refl _ _) | (with_reducible refine bl_alloc ?_ _) | (with_reducible refine Below.drew ?_) | (with_reducible refine bl_drewN ?_ _) | (with_reducible refine bl_set ?_ (by omega) _) | (with_reducible refine bl_step ?_ (by assumption))))) (by repeat (first | (with_reducible exact Below.refl _ _) | (with_reducible refine bl_alloc ?_ _) | (with_reducible refine Below.drew ?_) | (with_reducible refine bl_drewN ?_ _) | (with_reducible refine bl_set ?_ (by omega) _) | (with_reducible refine bl_step ?_ (by assumption))))
        · exact en_cut (en4 NA.out HQ.out HRR.out) (HC.out.keep (by repeat (first | (with_reducible exact Below.refl _ _) | (with_reducible refine bl_alloc ?_ _) | (with_reducible refine Below.drew ?_) | (with_reducible refine bl_drewN ?_ _) | (with_reducible refine bl_set ?_ (by omega) _) | (with_reducible refine bl_step ?_ (by assumption))))) (HT.out.keep (by repeat (first | (with_reducible exact Below.refl _ _) | (with_reducible refine bl_alloc ?_ _) | (with_reducible refine Below.drew ?_) | (with_reducible refine bl_drewN ?_ _) | (with_reducible refine bl_set ?_ (by omega) _) | (with_reducible refine bl_step ?_ (by assumption))))) (by repeat (first | (with_reducible exact Below.refl _ _) | (with_reducible refine bl_alloc ?_ _) | (with_reducible refine Below.drew ?_) | (with_reducible refine bl_drewN ?_ _) | (with_reducible refine bl_set ?_ (by omega) _) | (with_reducible refine bl_step ?_ (by assumption))))
        · exact en_cut (en5 NC.out NA.out (by omega) HQ.out HRR.out) (HC.out.keep (by repeat (first | (with_reducible exact Below.refl _ _) | (with_reducible refine bl_alloc ?_ _) | (with_reducible refine Below.drew ?_) | (with_reducible refine bl_drewN ?_ _) | (with_reducible refine bl_set ?_ (by omega) _) | (with_reducible refine bl_step ?_ (by assumption))))) (HT.out.keep (by repeat (first | (with_reducible exact Below.refl _ _) | (with_reducible refine bl_alloc ?_ _) | (with_reducible refine Below.drew ?_) | (with_reducible refine bl_drewN ?_ _) | (with_reducible refine bl_set ?_ (by omega) _) | (with_reducible refine bl_step ?_ (by assumption))))) (by repeat (first | (with_reducible exact Below.refl _ _) | (with_reducible refine bl_alloc ?_ _) | (with_reducible refine Below.drew ?_) | (with_reducible refine bl_drewN ?_ _) | (with_reducible refine bl_set ?_ (by omega) _) | (with_reducible refine bl_step ?_ (by assumption))))
        · exact en_cut (en5 NB.out NA.out (by omega) HQ.out HRR.out) (HC.out.keep (by repeat (first | (with_reducible exact Below.refl _ _) | (with_reducible refine bl_alloc ?_ _) | (with_reducible refine Below.drew ?_) | (with_reducible refine bl_drewN ?_ _) | (with_reducible refine bl_set ?_ (by omega) _) | (with_reducible refine bl_step ?_ (by assumption))))) (HT.out.keep (by repeat (first | (with_reducible exact Below.refl _ _) | (with_reducible refine bl_alloc ?_ _) | (with_reducible refine Below.drew ?_) | (with_reducible refine bl_drewN ?_ _) | (with_reducible refine bl_set ?_ (by omega) _) | (with_reducible refine bl_step ?_ (by assumption))))) (by repeat (first | (with_reducible exact Below.refl _ _) | (with_reducible refine bl_alloc ?_ _) | (with_reducible refine Below.drew ?_) | (with_reducible refine bl_drewN ?_ _) | (with_reducible refine bl_set ?_ (by omega) _) | (with_reducible refine bl_step ?_ (by assumption))))
      case rest =>
        clear HC HB HT
        obtain ⟨M5, M6, sq, oq, lq, cq, sr, or_, lr, cr, rfl, rfl, H5, H6, HQ, HRR, HC, HT, hB2⟩ := hcut
        rename World => V2
        clear hB zV HPT HI10
        have HTY := hid1 (tx_step HTX.out hR0)
        have r0 : 0 ≤ R % 10 := by omega
        have r1 : R % 10 < 10 := by omega
        obtain ⟨y0, y1, y2, y3⟩ := HC.out
        have zy := lt_of_cell y0
        obtain ⟨a0, a1, _, _⟩ := H5.out
        obtain ⟨b0, b1, _, _⟩ := H6.out
        have za := lt_of_cell a0
        have zb := lt_of_cell b0
        obtain ⟨D, eD⟩ : ∃ D, R % 10 = D := ⟨_, rfl⟩
        rw [eD] at HTY r0 r1 HRR
        clear eD
        by_cases hD : D = 0
        · subst hD
          have lr0 := (bg_len HRR.out).1 rfl
          subst lr0
          have hcv := conv_one (W := V2) (c := 48) (by omega) (by omega) V2.heap.size rfl
          have ec : UInt8.ofNat (48 : Int).toNat = UInt8.ofNat (48 + (0 : Int).toNat) := by first | rfl | (congr 1; omega)
          rw [ec] at hcv
          clear ec
          obtain ⟨ch, ech⟩ : ∃ ch, UInt8.ofNat (48 + (0 : Int).toNat) = ch := ⟨_, rfl⟩
          rw [ech] at hcv HTY
          clear ech
          have zs : (⟨#[ch]⟩ : ByteArray).size = 1 := rfl
          have nT : ¬ w1.heap.size = w.heap.size := by omega
          go_wp2_with fail
          refine ⟨⟨R / 10, ⟨#[ch]⟩ ++ st, sq, oq, lq, cq, rfl, ?_, ?_, ?_, ?_, ?_⟩, ?_⟩
          · have e : (⟨#[ch]⟩ ++ st : ByteArray).data.toList = ch :: st.data.toList := by simp
            rw [e]; exact HTY
          · exact hid1 (Bc.keep (bc_set HC.out) (bl_alloc (Below.refl _ _) _))
          · exact hid1 ((bg_set HC.out HQ.out).below (bl_alloc (Below.refl _ _) _))
          · exact hid1 (Bc.keep (Bc.other (Bc.other HT.out nT) nT) (bl_alloc (Below.refl _ _) _))
          · repeat (first | (with_reducible exact Below.refl _ _) | (with_reducible refine bl_alloc ?_ _) | (with_reducible refine Below.drew ?_) | (with_reducible refine bl_drewN ?_ _) | (with_reducible refine bl_set ?_ (by omega) _) | (with_reducible refine bl_step ?_ (by assumption)))
          · have e : (⟨#[ch]⟩ ++ st : ByteArray).size = 1 + st.size := by rw [ByteArray.size_append, zs]
            show 100 - (⟨#[ch]⟩ ++ st : ByteArray).size < 100 - st.size
            omega
        · obtain ⟨gr, rfl, rfl, hcell⟩ := bg_small HRR.out (by omega) (by omega)
          have i1 : (0 : Int) < 1 := by omega
          have hcv := conv_one (W := V2) (c := 48 + D) (by omega) (by omega) V2.heap.size rfl
          have ec : UInt8.ofNat (48 + D : Int).toNat = UInt8.ofNat (48 + (D : Int).toNat) := by first | rfl | (congr 1; omega)
          rw [ec] at hcv
          clear ec
          obtain ⟨ch, ech⟩ : ∃ ch, UInt8.ofNat (48 + (D : Int).toNat) = ch := ⟨_, rfl⟩
          rw [ech] at hcv HTY
          clear ech
          have zs : (⟨#[ch]⟩ : ByteArray).size = 1 := rfl
          have nT : ¬ w1.heap.size = w.heap.size := by omega
          go_wp2_with fail
          refine ⟨⟨R / 10, ⟨#[ch]⟩ ++ st, sq, oq, lq, cq, rfl, ?_, ?_, ?_, ?_, ?_⟩, ?_⟩
          · have e : (⟨#[ch]⟩ ++ st : ByteArray).data.toList = ch :: st.data.toList := by simp
            rw [e]; exact HTY
          · exact hid1 (Bc.keep (bc_set HC.out) (bl_alloc (Below.refl _ _) _))
          · exact hid1 ((bg_set HC.out HQ.out).below (bl_alloc (Below.refl _ _) _))
          · exact hid1 (Bc.keep (Bc.other (Bc.other HT.out nT) nT) (bl_alloc (Below.refl _ _) _))
          · repeat (first | (with_reducible exact Below.refl _ _) | (with_reducible refine bl_alloc ?_ _) | (with_reducible refine Below.drew ?_) | (with_reducible refine bl_drewN ?_ _) | (with_reducible refine bl_set ?_ (by omega) _) | (with_reducible refine bl_step ?_ (by assumption)))
          · have e : (⟨#[ch]⟩ ++ st : ByteArray).size = 1 + st.size := by rw [ByteArray.size_append, zs]
            show 100 - (⟨#[ch]⟩ ++ st : ByteArray).size < 100 - st.size
            omega
end Go.Proofs.YtboabgjgcnkelabDoor
/- THE DOCUMENT'S NUMBERS GUESSED: number. -/
namespace Go.Proofs.YtboabgjgcnkelabDoor
open Go.RowKit Go.Shelf
attribute [local go_sem ↓] Go.wp_at_zero Go.wp_at_succ

def numF (acc : Int) : List UInt8 → Int
  | [] => acc
  | c :: r => if acc < 1000000000000 then (if 48 ≤ c.toNat ∧ c.toNat ≤ 57 then numF (acc * 10 + ((c.toNat : Int) - 48)) r else numF acc r) else acc
def numV (l : List UInt8) : Int := if l.head? = some 45 then -(numF 0 l) else numF 0 l
theorem numF_app (l r : List UInt8) : ∀ acc a : Int, (∀ c ∈ l, 48 ≤ c.toNat ∧ c.toNat ≤ 57) → 0 ≤ acc → numF acc l = a → a < 1000000000000 → numF acc (l ++ r) = numF a r := by
  induction l with
  | nil => intro acc a _ _ h _; simp [numF] at h; subst h; rfl
  | cons c l ih =>
    intro acc a hd h0 h ha
    have hc := hd c (by simp)
    rw [List.cons_append]
    by_cases hacc : acc < 1000000000000
    · unfold numF at h
      conv => lhs; unfold numF
      rw [if_pos hacc, if_pos hc] at h ⊢
      exact ih _ a (fun x hx => hd x (by simp [hx])) (by omega) h ha
    · unfold numF at h
      rw [if_neg hacc] at h
      omega
theorem numF_dec : ∀ u : Nat, u < 1000000000000 → numF 0 (Lib.decDigits u) = u := by
  intro u
  induction u using Nat.strongRecOn with
  | _ u ih =>
    intro h
    rw [Lib.decDigits]
    split
    · rename_i k
      have e := dig_nat k
      unfold numF
      rw [e, if_pos (by omega), if_pos (by omega)]
      unfold numF
      omega
    · rename_i k
      rw [numF_app _ _ 0 _ (dec_dig _) (by omega) (ih (u / 10) (by omega) (by omega)) (by omega)]
      have e := dig_nat (k := u % 10) (by omega)
      unfold numF
      rw [e, if_pos (by omega), if_pos (by omega)]
      unfold numF
      omega
theorem numV_itoa {n : Int} (h1 : -2147483647 ≤ n) (h2 : n ≤ 2147483647) : numV (Lib.itoa n) = n := by
  unfold Lib.itoa numV
  split
  · rename_i h
    rw [if_pos (show (45 :: Lib.decDigits n.natAbs).head? = some 45 from rfl)]
    have e : numF 0 (45 :: Lib.decDigits n.natAbs) = numF 0 (Lib.decDigits n.natAbs) := by
      conv => lhs; unfold numF
      rw [if_pos (by omega), if_neg (by decide)]
    rw [e, numF_dec _ (by omega)]
    omega
  · rename_i h
    obtain ⟨c, r, e, c1, c2⟩ := dec_cons n.toNat
    have hh : ¬ (Lib.decDigits n.toNat).head? = some 45 := by
      rw [e]
      intro k
      simp at k
      subst k
      exact absurd c1 (by decide)
    rw [if_neg hh, numF_dec _ (by omega)]
    omega
theorem drop_at (s : ByteArray) (k : Nat) (h : k < s.size) : s.data.toList.drop k = s[k] :: s.data.toList.drop (k + 1) := by
  rw [List.drop_eq_getElem_cons (by simpa using h)]; rfl
theorem head_at (s : ByteArray) (h : 0 < s.size) : s.data.toList.head? = some s[0] := by
  have e := drop_at s 0 h
  rw [List.drop_zero] at e
  rw [e]; rfl
theorem head_none (s : ByteArray) (h : ¬ 0 < s.size) : s.data.toList.head? = none := by
  have : s.data.toList = [] := List.length_eq_zero_iff.mp (by have : s.data.toList.length = s.size := rfl; omega)
  rw [this]; rfl
theorem byte_45 {c : UInt8} : c = 45 ↔ (c.toNat : Int) = 45 := by
  constructor
  · rintro rfl; rfl
  · intro h
    apply UInt8.toNat_inj.mp
    have : (45 : UInt8).toNat = 45 := rfl
    omega
theorem numF_bd : ∀ (l : List UInt8) (acc : Int), 0 ≤ acc → acc < 10000000000000 → 0 ≤ numF acc l ∧ numF acc l < 10000000000000
  | [], acc, h1, h2 => ⟨h1, h2⟩
  | c :: r, acc, h1, h2 => by
    unfold numF
    split
    · split
      · exact numF_bd r _ (by omega) (by omega)
      · exact numF_bd r _ h1 h2
    · exact ⟨h1, h2⟩
theorem numV_bd (l : List UInt8) : -10000000000000 < numV l ∧ numV l < 10000000000000 := by
  have := numF_bd l 0 (by omega) (by omega)
  unfold numV
  split <;> omega
set_option maxHeartbeats 800000 in
set_option maxRecDepth 100000 in
theorem number_any (s : ByteArray) (hs : s.size ≤ 281474976710656) (w : World) :
    Calls Tryd.prog 25 #[.string s] w fun e w' => e = .returned (.int .i64 (numV s.data.toList)) ∧ w = w' := by
  go_enter Tryd.func25, Tryd.ntmps25
  go_wp2
  go_loop [3, 4] (fun n i => ∃ (k : Nat) (v : Int), k ≤ s.size ∧ i = .int .i64 k ∧ n = .int .i64 v ∧ 0 ≤ v ∧ v < 10000000000000 ∧ Hid (numF 0 s.data.toList = numF v (s.data.toList.drop k))) (fun _ i => s.size - (intOf i).toNat)
  case atStart => exact ⟨0, 0, Nat.zero_le _, rfl, rfl, by omega, by omega, hid1 rfl⟩
  case round =>
    obtain ⟨k, v, hk, rfl, rfl, v0, v1, HF⟩ := hrel
    by_cases hgo : k < s.size ∧ v < 1000000000000
    · obtain ⟨hlt, hv⟩ := hgo
      have hlt' : (k : Int) < s.size := by omega
      by_cases hd : 48 ≤ s[k].toNat ∧ s[k].toNat ≤ 57
      · have d1 : 48 ≤ (s[k].toNat : Int) := by omega
        have d2 : (s[k].toNat : Int) ≤ 57 := by omega
        have HX : Hid (numF 0 s.data.toList = numF (v * 10 + ((s[k].toNat : Int) - 48)) (s.data.toList.drop (k + 1))) := hid1 (by
          rw [HF.out, drop_at s k hlt]
          conv => lhs; unfold numF
          rw [if_pos hv, if_pos hd])
        go_wp2_with fail
        exact ⟨⟨k + 1, _, by omega, by go_num, rfl, by omega, by omega, HX⟩, by simp [intOf]; omega⟩
      · have HX : Hid (numF 0 s.data.toList = numF v (s.data.toList.drop (k + 1))) := hid1 (by
          rw [HF.out, drop_at s k hlt]
          conv => lhs; unfold numF
          rw [if_pos hv, if_neg hd])
        by_cases d1 : 48 ≤ (s[k].toNat : Int)
        · have d2 : ¬ (s[k].toNat : Int) ≤ 57 := by omega
          go_wp2_with fail
          exact ⟨⟨k + 1, v, by omega, by go_num, rfl, v0, v1, HX⟩, by simp [intOf]; omega⟩
        · go_wp2_with fail
          exact ⟨⟨k + 1, v, by omega, by go_num, rfl, v0, v1, HX⟩, by simp [intOf]; omega⟩
    · have HV : Hid (numF 0 s.data.toList = v) := hid1 (by
        rw [HF.out]
        by_cases hlt : k < s.size
        · have hv : ¬ v < 1000000000000 := fun h => hgo ⟨hlt, h⟩
          rw [drop_at s k hlt]
          conv => lhs; unfold numF
          rw [if_neg hv]
        · rw [List.drop_of_length_le (by simp; omega)]
          rfl)
      by_cases hlt : k < s.size
      · have hlt' : (k : Int) < s.size := by omega
        have hv : ¬ v < 1000000000000 := fun h => hgo ⟨hlt, h⟩
        clear hgo
        by_cases hz : 0 < s.size
        · have hz' : (0 : Int) < s.size := by omega
          by_cases h45 : s[0] = 45
          · have q : (s[0].toNat : Int) = 45 := byte_45.mp h45
            have HN : Hid (numV s.data.toList = -v) := hid1 (by unfold numV; rw [if_pos (by rw [head_at s hz, h45]), HV.out])
            clear h45
            go_wp2
            go_ret
            exact ⟨by rw [HN.out]; rfl, rfl⟩
          · have q : ¬ (s[0].toNat : Int) = 45 := fun k => h45 (byte_45.mpr k)
            have q' : ((s[0].toNat : Int) == 45) = false := by simpa using q
            have HN : Hid (numV s.data.toList = v) := hid1 (by unfold numV; rw [if_neg (by rw [head_at s hz]; exact fun k => h45 (Option.some.inj k)), HV.out])
            clear h45
            go_wp2
            go_ret
            exact ⟨by rw [HN.out]; rfl, rfl⟩
        · have hz' : ¬ (0 : Int) < s.size := by omega
          have HN : Hid (numV s.data.toList = v) := hid1 (by unfold numV; rw [if_neg (by rw [head_none s hz]; exact fun k => by cases k), HV.out])
          go_wp2
          go_ret
          exact ⟨by rw [HN.out]; rfl, rfl⟩
      · have hlt' : ¬ (k : Int) < s.size := by omega
        clear hgo
        by_cases hz : 0 < s.size
        · have hz' : (0 : Int) < s.size := by omega
          by_cases h45 : s[0] = 45
          · have q : (s[0].toNat : Int) = 45 := byte_45.mp h45
            have HN : Hid (numV s.data.toList = -v) := hid1 (by unfold numV; rw [if_pos (by rw [head_at s hz, h45]), HV.out])
            clear h45
            go_wp2
            go_ret
            exact ⟨by rw [HN.out]; rfl, rfl⟩
          · have q : ¬ (s[0].toNat : Int) = 45 := fun k => h45 (byte_45.mpr k)
            have q' : ((s[0].toNat : Int) == 45) = false := by simpa using q
            have HN : Hid (numV s.data.toList = v) := hid1 (by unfold numV; rw [if_neg (by rw [head_at s hz]; exact fun k => h45 (Option.some.inj k)), HV.out])
            clear h45
            go_wp2
            go_ret
            exact ⟨by rw [HN.out]; rfl, rfl⟩
        · have hz' : ¬ (0 : Int) < s.size := by omega
          have HN : Hid (numV s.data.toList = v) := hid1 (by unfold numV; rw [if_neg (by rw [head_none s hz]; exact fun k => by cases k), HV.out])
          go_wp2
          go_ret
          exact ⟨by rw [HN.out]; rfl, rfl⟩
end Go.Proofs.YtboabgjgcnkelabDoor
/- THE DOCUMENT'S READ, WALKED. -/
namespace Go.Proofs.YtboabgjgcnkelabDoor
open Go.RowKit Go.Shelf
attribute [local go_sem ↓] Go.wp_at_zero Go.wp_at_succ

theorem followsT : Tryd.prog.follows .mixedOrders = true := by kernel_rfl
theorem number_still (s : ByteArray) (hs : s.size ≤ 281474976710656) (w : World) :
    Calls Tryd.prog 25 #[.string s] w fun e w' => e = .returned (.int .i64 (numV s.data.toList)) ∧ w' = w :=
  (number_any s hs w).mono (fun _ _ h => ⟨h.1, h.2.symm⟩)
theorem byte_47 {c : UInt8} : c = 47 ↔ (c.toNat : Int) = 47 := by
  constructor
  · rintro rfl; rfl
  · intro h
    apply UInt8.toNat_inj.mp
    have : (47 : UInt8).toNat = 47 := rfl
    omega
theorem at_no {s : ByteArray} (h : (47 : UInt8) ∉ s.data.toList) (k : Nat) (hk : k < s.size) : ¬ (s[k].toNat : Int) = 47 := by
  intro e
  apply h
  rw [← byte_47.mpr e]
  have e : s[k] = s.data.toList[k]'(by simpa using hk) := rfl
  rw [e]; exact List.getElem_mem _
theorem at_get {s : ByteArray} {a b : List UInt8} (h : s.data.toList = a ++ 47 :: b) (k : Nat) (hk : k < s.size) (ha : k < a.length) : s[k] = a[k] := by
  have e : s[k] = s.data.toList[k]'(by simpa using hk) := rfl
  rw [e]
  simp only [h]
  rw [List.getElem_append_left ha]
theorem at_yes {s : ByteArray} {a b : List UInt8} (h : s.data.toList = a ++ 47 :: b) (hk : a.length < s.size) : (s[a.length].toNat : Int) = 47 := by
  have e : s[a.length] = s.data.toList[a.length]'(by simpa using hk) := rfl
  rw [e]
  simp only [h]
  rw [List.getElem_append_right (Nat.le_refl _)]
  simp
set_option maxHeartbeats 1600000 in
set_option maxRecDepth 100000 in
theorem r4read_f_bad (s t : ByteArray) (hs : s.size ≤ 281474976710656) (n : Int) (hno : (47 : UInt8) ∉ s.data.toList) (hn : numV s.data.toList = n) (HS : Hid (∀ w : World, Calls Tryd.prog 10 #[fr n 1] w fun e w' => e = .returned (.tuple #[.string t, .int .i64 40]) ∧ Below w.heap.size w w')) (w : World) :
    Calls Tryd.prog 11 #[.string s] w fun e w' => e = .returned (.tuple #[fr 0 0, .int .i64 40]) ∧ Below w.heap.size w w' := by
  have H0 := hid1 (number_any s hs)
  rw [hn] at H0
  have HG := hid1 (at_no hno)
  clear hn hno
  go_enter Tryd.func11, Tryd.ntmps11
  go_wp2_with fail
  refine (H0.out _).mono ?_
  rintro e w1 ⟨rfl, rfl⟩
  go_wp2_with fail
  go_loopw [5] (fun i wr => ∃ k : Nat, k ≤ s.size ∧ i = .int .i64 k ∧ Below w.heap.size w wr ∧ Hid (Fy wr w.heap.size 0 0) ∧ Hid (Fy wr (w.heap.size + 1) n 1)) (fun i _ => s.size - (intOf i).toNat)
  case atStart => exact ⟨0, Nat.zero_le _, rfl, by repeat (first | (with_reducible exact Below.refl _ _) | (with_reducible refine bl_alloc ?_ _) | (with_reducible refine Below.drew ?_) | (with_reducible refine bl_drewN ?_ _) | (with_reducible refine bl_set ?_ (by omega) _) | (with_reducible refine bl_step ?_ (by assumption))), hid1 (Fy.keep (fy_new rfl) (bl_alloc (Below.refl _ _) _)), hid1 (fy_new (by simp))⟩
  case round =>
    obtain ⟨k, hk, rfl, hB, HF, HG4⟩ := hrel
    by_cases hlt : k < s.size
    · have hlt2 : k < s.size := by omega
      have hlt' : (k : Int) < s.size := by omega
      have q := HG.out k hlt2
      have q' : ((s[k].toNat : Int) == 47) = false := by simpa using q
      go_wp2_with fail
      exact ⟨⟨k + 1, by omega, by go_num, hB, HF, HG4⟩, by simp [intOf]; omega⟩
    · have : k = s.size := by omega
      subst this
      obtain ⟨g0, g1, _, _⟩ := HG4.out
      go_wp2_with fail
      clear g0 g1
      refine (HS.out _).mono ?_
      rintro e w5 ⟨rfl, hb5⟩
      replace HF := hid1 (HF.out.keep hb5)
      replace HG4 := hid1 (HG4.out.keep hb5)
      have B5 : Below w.heap.size w w5 := by repeat (first | (with_reducible exact Below.refl _ _) | (with_reducible refine bl_alloc ?_ _) | (with_reducible refine Below.drew ?_) | (with_reducible refine bl_drewN ?_ _) | (with_reducible refine bl_set ?_ (by omega) _) | (with_reducible refine bl_step ?_ (by assumption)))
      clear hb5
      obtain ⟨g0, g1, _, _⟩ := HG4.out
      obtain ⟨c0, c1, f0, f1⟩ := HF.out
      have z := lt_of_cell c0
      go_wp2
      simp [bodyPost, results, Tryd.results11, go_sem, *]
      repeat (first | (with_reducible exact Below.refl _ _) | (with_reducible refine bl_alloc ?_ _) | (with_reducible refine Below.drew ?_) | (with_reducible refine bl_drewN ?_ _) | (with_reducible refine bl_set ?_ (by omega) _) | (with_reducible refine bl_step ?_ (by assumption)))
set_option maxHeartbeats 1600000 in
set_option maxRecDepth 100000 in
theorem r4read_f_other (s t : ByteArray) (hs : s.size ≤ 281474976710656) (n : Int) (hno : (47 : UInt8) ∉ s.data.toList) (hn : numV s.data.toList = n) (HS : Hid (∀ w : World, Calls Tryd.prog 10 #[fr n 1] w fun e w' => e = .returned (.tuple #[.string t, .int .i64 0]) ∧ Below w.heap.size w w')) (ht : (t.toList == s.toList) = false) (w : World) :
    Calls Tryd.prog 11 #[.string s] w fun e w' => e = .returned (.tuple #[fr 0 0, .int .i64 40]) ∧ Below w.heap.size w w' := by
  have H0 := hid1 (number_any s hs)
  rw [hn] at H0
  have HG := hid1 (at_no hno)
  clear hn hno
  go_enter Tryd.func11, Tryd.ntmps11
  go_wp2_with fail
  refine (H0.out _).mono ?_
  rintro e w1 ⟨rfl, rfl⟩
  go_wp2_with fail
  go_loopw [5] (fun i wr => ∃ k : Nat, k ≤ s.size ∧ i = .int .i64 k ∧ Below w.heap.size w wr ∧ Hid (Fy wr w.heap.size 0 0) ∧ Hid (Fy wr (w.heap.size + 1) n 1)) (fun i _ => s.size - (intOf i).toNat)
  case atStart => exact ⟨0, Nat.zero_le _, rfl, by repeat (first | (with_reducible exact Below.refl _ _) | (with_reducible refine bl_alloc ?_ _) | (with_reducible refine Below.drew ?_) | (with_reducible refine bl_drewN ?_ _) | (with_reducible refine bl_set ?_ (by omega) _) | (with_reducible refine bl_step ?_ (by assumption))), hid1 (Fy.keep (fy_new rfl) (bl_alloc (Below.refl _ _) _)), hid1 (fy_new (by simp))⟩
  case round =>
    obtain ⟨k, hk, rfl, hB, HF, HG4⟩ := hrel
    by_cases hlt : k < s.size
    · have hlt2 : k < s.size := by omega
      have hlt' : (k : Int) < s.size := by omega
      have q := HG.out k hlt2
      have q' : ((s[k].toNat : Int) == 47) = false := by simpa using q
      go_wp2_with fail
      exact ⟨⟨k + 1, by omega, by go_num, hB, HF, HG4⟩, by simp [intOf]; omega⟩
    · have : k = s.size := by omega
      subst this
      obtain ⟨g0, g1, _, _⟩ := HG4.out
      go_wp2_with fail
      clear g0 g1
      refine (HS.out _).mono ?_
      rintro e w5 ⟨rfl, hb5⟩
      replace HF := hid1 (HF.out.keep hb5)
      replace HG4 := hid1 (HG4.out.keep hb5)
      have B5 : Below w.heap.size w w5 := by repeat (first | (with_reducible exact Below.refl _ _) | (with_reducible refine bl_alloc ?_ _) | (with_reducible refine Below.drew ?_) | (with_reducible refine bl_drewN ?_ _) | (with_reducible refine bl_set ?_ (by omega) _) | (with_reducible refine bl_step ?_ (by assumption)))
      clear hb5
      obtain ⟨g0, g1, _, _⟩ := HG4.out
      obtain ⟨c0, c1, f0, f1⟩ := HF.out
      have z := lt_of_cell c0
      go_wp2
      simp [bodyPost, results, Tryd.results11, go_sem, *]
      repeat (first | (with_reducible exact Below.refl _ _) | (with_reducible refine bl_alloc ?_ _) | (with_reducible refine Below.drew ?_) | (with_reducible refine bl_drewN ?_ _) | (with_reducible refine bl_set ?_ (by omega) _) | (with_reducible refine bl_step ?_ (by assumption)))
set_option maxHeartbeats 1600000 in
set_option maxRecDepth 100000 in
theorem r4read_f_good (s : ByteArray) (hs : s.size ≤ 281474976710656) (n : Int) (hno : (47 : UInt8) ∉ s.data.toList) (hn : numV s.data.toList = n) (HS : Hid (∀ w : World, Calls Tryd.prog 10 #[fr n 1] w fun e w' => e = .returned (.tuple #[.string s, .int .i64 0]) ∧ Below w.heap.size w w')) (w : World) :
    Calls Tryd.prog 11 #[.string s] w fun e w' => e = .returned (.tuple #[fr n 1, .int .i64 0]) ∧ Below w.heap.size w w' := by
  have H0 := hid1 (number_any s hs)
  rw [hn] at H0
  have HG := hid1 (at_no hno)
  clear hn hno
  go_enter Tryd.func11, Tryd.ntmps11
  go_wp2_with fail
  refine (H0.out _).mono ?_
  rintro e w1 ⟨rfl, rfl⟩
  go_wp2_with fail
  go_loopw [5] (fun i wr => ∃ k : Nat, k ≤ s.size ∧ i = .int .i64 k ∧ Below w.heap.size w wr ∧ Hid (Fy wr w.heap.size 0 0) ∧ Hid (Fy wr (w.heap.size + 1) n 1)) (fun i _ => s.size - (intOf i).toNat)
  case atStart => exact ⟨0, Nat.zero_le _, rfl, by repeat (first | (with_reducible exact Below.refl _ _) | (with_reducible refine bl_alloc ?_ _) | (with_reducible refine Below.drew ?_) | (with_reducible refine bl_drewN ?_ _) | (with_reducible refine bl_set ?_ (by omega) _) | (with_reducible refine bl_step ?_ (by assumption))), hid1 (Fy.keep (fy_new rfl) (bl_alloc (Below.refl _ _) _)), hid1 (fy_new (by simp))⟩
  case round =>
    obtain ⟨k, hk, rfl, hB, HF, HG4⟩ := hrel
    by_cases hlt : k < s.size
    · have hlt2 : k < s.size := by omega
      have hlt' : (k : Int) < s.size := by omega
      have q := HG.out k hlt2
      have q' : ((s[k].toNat : Int) == 47) = false := by simpa using q
      go_wp2_with fail
      exact ⟨⟨k + 1, by omega, by go_num, hB, HF, HG4⟩, by simp [intOf]; omega⟩
    · have : k = s.size := by omega
      subst this
      obtain ⟨g0, g1, _, _⟩ := HG4.out
      go_wp2_with fail
      clear g0 g1
      refine (HS.out _).mono ?_
      rintro e w5 ⟨rfl, hb5⟩
      replace HF := hid1 (HF.out.keep hb5)
      replace HG4 := hid1 (HG4.out.keep hb5)
      have B5 : Below w.heap.size w w5 := by repeat (first | (with_reducible exact Below.refl _ _) | (with_reducible refine bl_alloc ?_ _) | (with_reducible refine Below.drew ?_) | (with_reducible refine bl_drewN ?_ _) | (with_reducible refine bl_set ?_ (by omega) _) | (with_reducible refine bl_step ?_ (by assumption)))
      clear hb5
      obtain ⟨g0, g1, _, _⟩ := HG4.out
      obtain ⟨c0, c1, f0, f1⟩ := HF.out
      have z := lt_of_cell c0
      go_wp2
      simp [bodyPost, results, Tryd.results11, go_sem, *]
      repeat (first | (with_reducible exact Below.refl _ _) | (with_reducible refine bl_alloc ?_ _) | (with_reducible refine Below.drew ?_) | (with_reducible refine bl_drewN ?_ _) | (with_reducible refine bl_set ?_ (by omega) _) | (with_reducible refine bl_step ?_ (by assumption)))
set_option maxHeartbeats 1600000 in
set_option maxRecDepth 100000 in
theorem r4read_t_bad (s t : ByteArray) (hs : s.size ≤ 281474976710656) (n d : Int) (a b : List UInt8) (hsp : s.data.toList = a ++ 47 :: b) (ha : (47 : UInt8) ∉ a) (hn : numV a = n) (hd : numV b = d) (y : Int) (hy : numV s.data.toList = y) (HS : Hid (∀ w : World, Calls Tryd.prog 10 #[fr n d] w fun e w' => e = .returned (.tuple #[.string t, .int .i64 40]) ∧ Below w.heap.size w w')) (w : World) :
    Calls Tryd.prog 11 #[.string s] w fun e w' => e = .returned (.tuple #[fr 0 0, .int .i64 40]) ∧ Below w.heap.size w w' := by
  have H0 := hid1 (number_any s hs)
  rw [hy] at H0
  have hz : s.size = a.length + 1 + b.length := by
    have : s.size = s.data.toList.length := rfl
    rw [this, hsp]; simp; omega
  have z1 : (⟨a.toArray⟩ : ByteArray).size = a.length := rfl
  have z2 : (⟨b.toArray⟩ : ByteArray).size = b.length := rfl
  have HA := hid1 (number_still ⟨a.toArray⟩ (by omega))
  have HB := hid1 (number_still ⟨b.toArray⟩ (by omega))
  rw [show (⟨a.toArray⟩ : ByteArray).data.toList = a from rfl, hn] at HA
  rw [show (⟨b.toArray⟩ : ByteArray).data.toList = b from rfl, hd] at HB
  have xa : s.extract 0 a.length = ⟨a.toArray⟩ := ext_list (by rw [hsp]; simp)
  have xb : s.extract (a.length + 1) s.size = ⟨b.toArray⟩ := ext_list (by
    have e1 : a ++ 47 :: b = (a ++ [47]) ++ b := by simp
    have e2 : s.size - (a.length + 1) = b.length := by omega
    rw [hsp, e1, List.drop_left' (by simp), e2, List.take_length])
  have HG : Hid (∀ k (h : k < s.size), k < a.length → ¬ (s[k].toNat : Int) = 47) := hid1 (fun k h hk e => ha (by rw [← byte_47.mpr e, at_get hsp k h hk]; exact List.getElem_mem _))
  have HE : Hid (∀ j (h : j < s.size), j = a.length → (s[j].toNat : Int) = 47) := hid1 (fun j h e => by subst e; exact at_yes hsp h)
  clear hy hn hd hsp ha z1 z2
  obtain ⟨A, eA⟩ : ∃ A, (⟨a.toArray⟩ : ByteArray) = A := ⟨_, rfl⟩
  obtain ⟨B, eB⟩ : ∃ B, (⟨b.toArray⟩ : ByteArray) = B := ⟨_, rfl⟩
  rw [eA] at HA xa
  rw [eB] at HB xb
  clear eA eB
  obtain ⟨m, em⟩ : ∃ m, a.length = m := ⟨_, rfl⟩
  simp only [em] at xa xb HG HE hz
  have hm : m < s.size := by omega
  clear em hz
  go_enter Tryd.func11, Tryd.ntmps11
  go_wp2_with fail
  refine (H0.out _).mono ?_
  rintro e w1 ⟨rfl, rfl⟩
  go_wp2_with fail
  go_loopw [5] (fun i wr => ∃ k : Nat, k ≤ m ∧ i = .int .i64 k ∧ Below w.heap.size w wr ∧ Hid (Fy wr w.heap.size 0 0) ∧ Hid (Fy wr (w.heap.size + 1) y 1)) (fun i _ => s.size - (intOf i).toNat)
  case atStart => exact ⟨0, Nat.zero_le _, rfl, by repeat (first | (with_reducible exact Below.refl _ _) | (with_reducible refine bl_alloc ?_ _) | (with_reducible refine Below.drew ?_) | (with_reducible refine bl_drewN ?_ _) | (with_reducible refine bl_set ?_ (by omega) _) | (with_reducible refine bl_step ?_ (by assumption))), hid1 (Fy.keep (fy_new rfl) (bl_alloc (Below.refl _ _) _)), hid1 (fy_new (by simp))⟩
  case round =>
    obtain ⟨k, hk, rfl, hB, HF, HG4⟩ := hrel
    by_cases hlt : k < m
    · have hlt2 : k < s.size := by omega
      have hlt' : (k : Int) < s.size := by omega
      have q := HG.out k hlt2 hlt
      have q' : ((s[k].toNat : Int) == 47) = false := by simpa using q
      go_wp2_with fail
      exact ⟨⟨k + 1, by omega, by go_num, hB, HF, HG4⟩, by simp [intOf]; omega⟩
    · have : k = m := by omega
      subst this
      have hlt' : (k : Int) < s.size := by omega
      have q := HE.out k hm rfl
      obtain ⟨g0, g1, g2, g3⟩ := HG4.out
      have zg := lt_of_cell g0
      obtain ⟨c0, c1, c2, c3⟩ := HF.out
      have zc := lt_of_cell c0
      have k1 : k ≤ s.size := by omega
      have k2 : k + 1 ≤ s.size := by omega
      have i0 : (0 : Int) ≤ (k : Int) := by omega
      have i1 : (k : Int) ≤ (s.size : Int) := by omega
      have i2 : (k : Int) + 1 ≤ (s.size : Int) := by omega
      have i3 : (0 : Int) ≤ (k : Int) + 1 := by omega
      have i4 : IntKind.i64.wrap ((k : Int) + 1) = (k : Int) + 1 := by rw [IntKind.wrap_i64]; omega
      have i5 : ((k : Int) + 1).toNat = k + 1 := by omega
      go_wp2_with fail
      refine wp_region_still_tail 10 followsT (by kernel_rfl) ?_
      simp only [List.take_succ_cons, List.take_zero, List.drop_succ_cons, List.drop_zero]
      repeat still_step
      still_call (HA.out _)
      repeat still_step
      still_call (HB.out _)
      repeat still_step
      refine wpStill_nil ?_
      go_wp2_with fail
      refine gen_calls (fun W' => Below w.heap.size w W' ∧ Hid (Fy W' w.heap.size 0 0) ∧ Hid (Fy W' (w.heap.size + 1) n d)) ⟨by repeat (first | (with_reducible exact Below.refl _ _) | (with_reducible refine bl_alloc ?_ _) | (with_reducible refine Below.drew ?_) | (with_reducible refine bl_drewN ?_ _) | (with_reducible refine bl_set ?_ (by omega) _) | (with_reducible refine bl_step ?_ (by assumption))), hid1 ⟨by simp [go_sem, *], by simp [go_sem, *], by simp [go_sem, *], by simp [go_sem, *]⟩, hid1 ⟨by simp [go_sem, *], by simp [go_sem, *], by simp [go_sem, *], by simp [go_sem, *]⟩⟩ ?_
      clear g0 g1 g2 g3 zg c0 c1 c2 c3 zc HF HG4 hB
      rintro W6 ⟨hB, HF, HG4⟩
      refine (HS.out _).mono ?_
      rintro e w5 ⟨rfl, hb5⟩
      replace HF := hid1 (HF.out.keep hb5)
      replace HG4 := hid1 (HG4.out.keep hb5)
      have B5 : Below w.heap.size w w5 := by repeat (first | (with_reducible exact Below.refl _ _) | (with_reducible refine bl_alloc ?_ _) | (with_reducible refine Below.drew ?_) | (with_reducible refine bl_drewN ?_ _) | (with_reducible refine bl_set ?_ (by omega) _) | (with_reducible refine bl_step ?_ (by assumption)))
      clear hb5
      obtain ⟨g0, g1, _, _⟩ := HG4.out
      obtain ⟨c0, c1, f0, f1⟩ := HF.out
      have z := lt_of_cell c0
      go_wp2
      simp [bodyPost, results, Tryd.results11, go_sem, *]
      repeat (first | (with_reducible exact Below.refl _ _) | (with_reducible refine bl_alloc ?_ _) | (with_reducible refine Below.drew ?_) | (with_reducible refine bl_drewN ?_ _) | (with_reducible refine bl_set ?_ (by omega) _) | (with_reducible refine bl_step ?_ (by assumption)))
set_option maxHeartbeats 1600000 in
set_option maxRecDepth 100000 in
theorem r4read_t_other (s t : ByteArray) (hs : s.size ≤ 281474976710656) (n d : Int) (a b : List UInt8) (hsp : s.data.toList = a ++ 47 :: b) (ha : (47 : UInt8) ∉ a) (hn : numV a = n) (hd : numV b = d) (y : Int) (hy : numV s.data.toList = y) (HS : Hid (∀ w : World, Calls Tryd.prog 10 #[fr n d] w fun e w' => e = .returned (.tuple #[.string t, .int .i64 0]) ∧ Below w.heap.size w w')) (ht : (t.toList == s.toList) = false) (w : World) :
    Calls Tryd.prog 11 #[.string s] w fun e w' => e = .returned (.tuple #[fr 0 0, .int .i64 40]) ∧ Below w.heap.size w w' := by
  have H0 := hid1 (number_any s hs)
  rw [hy] at H0
  have hz : s.size = a.length + 1 + b.length := by
    have : s.size = s.data.toList.length := rfl
    rw [this, hsp]; simp; omega
  have z1 : (⟨a.toArray⟩ : ByteArray).size = a.length := rfl
  have z2 : (⟨b.toArray⟩ : ByteArray).size = b.length := rfl
  have HA := hid1 (number_still ⟨a.toArray⟩ (by omega))
  have HB := hid1 (number_still ⟨b.toArray⟩ (by omega))
  rw [show (⟨a.toArray⟩ : ByteArray).data.toList = a from rfl, hn] at HA
  rw [show (⟨b.toArray⟩ : ByteArray).data.toList = b from rfl, hd] at HB
  have xa : s.extract 0 a.length = ⟨a.toArray⟩ := ext_list (by rw [hsp]; simp)
  have xb : s.extract (a.length + 1) s.size = ⟨b.toArray⟩ := ext_list (by
    have e1 : a ++ 47 :: b = (a ++ [47]) ++ b := by simp
    have e2 : s.size - (a.length + 1) = b.length := by omega
    rw [hsp, e1, List.drop_left' (by simp), e2, List.take_length])
  have HG : Hid (∀ k (h : k < s.size), k < a.length → ¬ (s[k].toNat : Int) = 47) := hid1 (fun k h hk e => ha (by rw [← byte_47.mpr e, at_get hsp k h hk]; exact List.getElem_mem _))
  have HE : Hid (∀ j (h : j < s.size), j = a.length → (s[j].toNat : Int) = 47) := hid1 (fun j h e => by subst e; exact at_yes hsp h)
  clear hy hn hd hsp ha z1 z2
  obtain ⟨A, eA⟩ : ∃ A, (⟨a.toArray⟩ : ByteArray) = A := ⟨_, rfl⟩
  obtain ⟨B, eB⟩ : ∃ B, (⟨b.toArray⟩ : ByteArray) = B := ⟨_, rfl⟩
  rw [eA] at HA xa
  rw [eB] at HB xb
  clear eA eB
  obtain ⟨m, em⟩ : ∃ m, a.length = m := ⟨_, rfl⟩
  simp only [em] at xa xb HG HE hz
  have hm : m < s.size := by omega
  clear em hz
  go_enter Tryd.func11, Tryd.ntmps11
  go_wp2_with fail
  refine (H0.out _).mono ?_
  rintro e w1 ⟨rfl, rfl⟩
  go_wp2_with fail
  go_loopw [5] (fun i wr => ∃ k : Nat, k ≤ m ∧ i = .int .i64 k ∧ Below w.heap.size w wr ∧ Hid (Fy wr w.heap.size 0 0) ∧ Hid (Fy wr (w.heap.size + 1) y 1)) (fun i _ => s.size - (intOf i).toNat)
  case atStart => exact ⟨0, Nat.zero_le _, rfl, by repeat (first | (with_reducible exact Below.refl _ _) | (with_reducible refine bl_alloc ?_ _) | (with_reducible refine Below.drew ?_) | (with_reducible refine bl_drewN ?_ _) | (with_reducible refine bl_set ?_ (by omega) _) | (with_reducible refine bl_step ?_ (by assumption))), hid1 (Fy.keep (fy_new rfl) (bl_alloc (Below.refl _ _) _)), hid1 (fy_new (by simp))⟩
  case round =>
    obtain ⟨k, hk, rfl, hB, HF, HG4⟩ := hrel
    by_cases hlt : k < m
    · have hlt2 : k < s.size := by omega
      have hlt' : (k : Int) < s.size := by omega
      have q := HG.out k hlt2 hlt
      have q' : ((s[k].toNat : Int) == 47) = false := by simpa using q
      go_wp2_with fail
      exact ⟨⟨k + 1, by omega, by go_num, hB, HF, HG4⟩, by simp [intOf]; omega⟩
    · have : k = m := by omega
      subst this
      have hlt' : (k : Int) < s.size := by omega
      have q := HE.out k hm rfl
      obtain ⟨g0, g1, g2, g3⟩ := HG4.out
      have zg := lt_of_cell g0
      obtain ⟨c0, c1, c2, c3⟩ := HF.out
      have zc := lt_of_cell c0
      have k1 : k ≤ s.size := by omega
      have k2 : k + 1 ≤ s.size := by omega
      have i0 : (0 : Int) ≤ (k : Int) := by omega
      have i1 : (k : Int) ≤ (s.size : Int) := by omega
      have i2 : (k : Int) + 1 ≤ (s.size : Int) := by omega
      have i3 : (0 : Int) ≤ (k : Int) + 1 := by omega
      have i4 : IntKind.i64.wrap ((k : Int) + 1) = (k : Int) + 1 := by rw [IntKind.wrap_i64]; omega
      have i5 : ((k : Int) + 1).toNat = k + 1 := by omega
      go_wp2_with fail
      refine wp_region_still_tail 10 followsT (by kernel_rfl) ?_
      simp only [List.take_succ_cons, List.take_zero, List.drop_succ_cons, List.drop_zero]
      repeat still_step
      still_call (HA.out _)
      repeat still_step
      still_call (HB.out _)
      repeat still_step
      refine wpStill_nil ?_
      go_wp2_with fail
      refine gen_calls (fun W' => Below w.heap.size w W' ∧ Hid (Fy W' w.heap.size 0 0) ∧ Hid (Fy W' (w.heap.size + 1) n d)) ⟨by repeat (first | (with_reducible exact Below.refl _ _) | (with_reducible refine bl_alloc ?_ _) | (with_reducible refine Below.drew ?_) | (with_reducible refine bl_drewN ?_ _) | (with_reducible refine bl_set ?_ (by omega) _) | (with_reducible refine bl_step ?_ (by assumption))), hid1 ⟨by simp [go_sem, *], by simp [go_sem, *], by simp [go_sem, *], by simp [go_sem, *]⟩, hid1 ⟨by simp [go_sem, *], by simp [go_sem, *], by simp [go_sem, *], by simp [go_sem, *]⟩⟩ ?_
      clear g0 g1 g2 g3 zg c0 c1 c2 c3 zc HF HG4 hB
      rintro W6 ⟨hB, HF, HG4⟩
      refine (HS.out _).mono ?_
      rintro e w5 ⟨rfl, hb5⟩
      replace HF := hid1 (HF.out.keep hb5)
      replace HG4 := hid1 (HG4.out.keep hb5)
      have B5 : Below w.heap.size w w5 := by repeat (first | (with_reducible exact Below.refl _ _) | (with_reducible refine bl_alloc ?_ _) | (with_reducible refine Below.drew ?_) | (with_reducible refine bl_drewN ?_ _) | (with_reducible refine bl_set ?_ (by omega) _) | (with_reducible refine bl_step ?_ (by assumption)))
      clear hb5
      obtain ⟨g0, g1, _, _⟩ := HG4.out
      obtain ⟨c0, c1, f0, f1⟩ := HF.out
      have z := lt_of_cell c0
      go_wp2
      simp [bodyPost, results, Tryd.results11, go_sem, *]
      repeat (first | (with_reducible exact Below.refl _ _) | (with_reducible refine bl_alloc ?_ _) | (with_reducible refine Below.drew ?_) | (with_reducible refine bl_drewN ?_ _) | (with_reducible refine bl_set ?_ (by omega) _) | (with_reducible refine bl_step ?_ (by assumption)))
set_option maxHeartbeats 1600000 in
set_option maxRecDepth 100000 in
theorem r4read_t_good (s : ByteArray) (hs : s.size ≤ 281474976710656) (n d : Int) (a b : List UInt8) (hsp : s.data.toList = a ++ 47 :: b) (ha : (47 : UInt8) ∉ a) (hn : numV a = n) (hd : numV b = d) (y : Int) (hy : numV s.data.toList = y) (HS : Hid (∀ w : World, Calls Tryd.prog 10 #[fr n d] w fun e w' => e = .returned (.tuple #[.string s, .int .i64 0]) ∧ Below w.heap.size w w')) (w : World) :
    Calls Tryd.prog 11 #[.string s] w fun e w' => e = .returned (.tuple #[fr n d, .int .i64 0]) ∧ Below w.heap.size w w' := by
  have H0 := hid1 (number_any s hs)
  rw [hy] at H0
  have hz : s.size = a.length + 1 + b.length := by
    have : s.size = s.data.toList.length := rfl
    rw [this, hsp]; simp; omega
  have z1 : (⟨a.toArray⟩ : ByteArray).size = a.length := rfl
  have z2 : (⟨b.toArray⟩ : ByteArray).size = b.length := rfl
  have HA := hid1 (number_still ⟨a.toArray⟩ (by omega))
  have HB := hid1 (number_still ⟨b.toArray⟩ (by omega))
  rw [show (⟨a.toArray⟩ : ByteArray).data.toList = a from rfl, hn] at HA
  rw [show (⟨b.toArray⟩ : ByteArray).data.toList = b from rfl, hd] at HB
  have xa : s.extract 0 a.length = ⟨a.toArray⟩ := ext_list (by rw [hsp]; simp)
  have xb : s.extract (a.length + 1) s.size = ⟨b.toArray⟩ := ext_list (by
    have e1 : a ++ 47 :: b = (a ++ [47]) ++ b := by simp
    have e2 : s.size - (a.length + 1) = b.length := by omega
    rw [hsp, e1, List.drop_left' (by simp), e2, List.take_length])
  have HG : Hid (∀ k (h : k < s.size), k < a.length → ¬ (s[k].toNat : Int) = 47) := hid1 (fun k h hk e => ha (by rw [← byte_47.mpr e, at_get hsp k h hk]; exact List.getElem_mem _))
  have HE : Hid (∀ j (h : j < s.size), j = a.length → (s[j].toNat : Int) = 47) := hid1 (fun j h e => by subst e; exact at_yes hsp h)
  clear hy hn hd hsp ha z1 z2
  obtain ⟨A, eA⟩ : ∃ A, (⟨a.toArray⟩ : ByteArray) = A := ⟨_, rfl⟩
  obtain ⟨B, eB⟩ : ∃ B, (⟨b.toArray⟩ : ByteArray) = B := ⟨_, rfl⟩
  rw [eA] at HA xa
  rw [eB] at HB xb
  clear eA eB
  obtain ⟨m, em⟩ : ∃ m, a.length = m := ⟨_, rfl⟩
  simp only [em] at xa xb HG HE hz
  have hm : m < s.size := by omega
  clear em hz
  go_enter Tryd.func11, Tryd.ntmps11
  go_wp2_with fail
  refine (H0.out _).mono ?_
  rintro e w1 ⟨rfl, rfl⟩
  go_wp2_with fail
  go_loopw [5] (fun i wr => ∃ k : Nat, k ≤ m ∧ i = .int .i64 k ∧ Below w.heap.size w wr ∧ Hid (Fy wr w.heap.size 0 0) ∧ Hid (Fy wr (w.heap.size + 1) y 1)) (fun i _ => s.size - (intOf i).toNat)
  case atStart => exact ⟨0, Nat.zero_le _, rfl, by repeat (first | (with_reducible exact Below.refl _ _) | (with_reducible refine bl_alloc ?_ _) | (with_reducible refine Below.drew ?_) | (with_reducible refine bl_drewN ?_ _) | (with_reducible refine bl_set ?_ (by omega) _) | (with_reducible refine bl_step ?_ (by assumption))), hid1 (Fy.keep (fy_new rfl) (bl_alloc (Below.refl _ _) _)), hid1 (fy_new (by simp))⟩
  case round =>
    obtain ⟨k, hk, rfl, hB, HF, HG4⟩ := hrel
    by_cases hlt : k < m
    · have hlt2 : k < s.size := by omega
      have hlt' : (k : Int) < s.size := by omega
      have q := HG.out k hlt2 hlt
      have q' : ((s[k].toNat : Int) == 47) = false := by simpa using q
      go_wp2_with fail
      exact ⟨⟨k + 1, by omega, by go_num, hB, HF, HG4⟩, by simp [intOf]; omega⟩
    · have : k = m := by omega
      subst this
      have hlt' : (k : Int) < s.size := by omega
      have q := HE.out k hm rfl
      obtain ⟨g0, g1, g2, g3⟩ := HG4.out
      have zg := lt_of_cell g0
      obtain ⟨c0, c1, c2, c3⟩ := HF.out
      have zc := lt_of_cell c0
      have k1 : k ≤ s.size := by omega
      have k2 : k + 1 ≤ s.size := by omega
      have i0 : (0 : Int) ≤ (k : Int) := by omega
      have i1 : (k : Int) ≤ (s.size : Int) := by omega
      have i2 : (k : Int) + 1 ≤ (s.size : Int) := by omega
      have i3 : (0 : Int) ≤ (k : Int) + 1 := by omega
      have i4 : IntKind.i64.wrap ((k : Int) + 1) = (k : Int) + 1 := by rw [IntKind.wrap_i64]; omega
      have i5 : ((k : Int) + 1).toNat = k + 1 := by omega
      go_wp2_with fail
      refine wp_region_still_tail 10 followsT (by kernel_rfl) ?_
      simp only [List.take_succ_cons, List.take_zero, List.drop_succ_cons, List.drop_zero]
      repeat still_step
      still_call (HA.out _)
      repeat still_step
      still_call (HB.out _)
      repeat still_step
      refine wpStill_nil ?_
      go_wp2_with fail
      refine gen_calls (fun W' => Below w.heap.size w W' ∧ Hid (Fy W' w.heap.size 0 0) ∧ Hid (Fy W' (w.heap.size + 1) n d)) ⟨by repeat (first | (with_reducible exact Below.refl _ _) | (with_reducible refine bl_alloc ?_ _) | (with_reducible refine Below.drew ?_) | (with_reducible refine bl_drewN ?_ _) | (with_reducible refine bl_set ?_ (by omega) _) | (with_reducible refine bl_step ?_ (by assumption))), hid1 ⟨by simp [go_sem, *], by simp [go_sem, *], by simp [go_sem, *], by simp [go_sem, *]⟩, hid1 ⟨by simp [go_sem, *], by simp [go_sem, *], by simp [go_sem, *], by simp [go_sem, *]⟩⟩ ?_
      clear g0 g1 g2 g3 zg c0 c1 c2 c3 zc HF HG4 hB
      rintro W6 ⟨hB, HF, HG4⟩
      refine (HS.out _).mono ?_
      rintro e w5 ⟨rfl, hb5⟩
      replace HF := hid1 (HF.out.keep hb5)
      replace HG4 := hid1 (HG4.out.keep hb5)
      have B5 : Below w.heap.size w w5 := by repeat (first | (with_reducible exact Below.refl _ _) | (with_reducible refine bl_alloc ?_ _) | (with_reducible refine Below.drew ?_) | (with_reducible refine bl_drewN ?_ _) | (with_reducible refine bl_set ?_ (by omega) _) | (with_reducible refine bl_step ?_ (by assumption)))
      clear hb5
      obtain ⟨g0, g1, _, _⟩ := HG4.out
      obtain ⟨c0, c1, f0, f1⟩ := HF.out
      have z := lt_of_cell c0
      go_wp2
      simp [bodyPost, results, Tryd.results11, go_sem, *]
      repeat (first | (with_reducible exact Below.refl _ _) | (with_reducible refine bl_alloc ?_ _) | (with_reducible refine Below.drew ?_) | (with_reducible refine bl_drewN ?_ _) | (with_reducible refine bl_set ?_ (by omega) _) | (with_reducible refine bl_step ?_ (by assumption)))
end Go.Proofs.YtboabgjgcnkelabDoor
/- THE DOCUMENT'S SHOW AND READ OF FRACTIONS: THE WHOLE. -/
namespace Go.Proofs.YtboabgjgcnkelabDoor
open Go.RowKit Go.Shelf
attribute [local go_sem ↓] Go.wp_at_zero Go.wp_at_succ

theorem text_zero (x : Value) (w : World) (hx : Bg w x 0) :
    Calls Tryd.prog 23 #[x] w fun e w' => e = .returned (.string ⟨(Lib.itoa 0).toArray⟩) ∧ Below w.heap.size w w' := by
  obtain ⟨s, ao, l, c, rfl⟩ := hx.form
  have l0 := (bg_len hx).1 rfl
  subst l0
  have e : (⟨(Lib.itoa 0).toArray⟩ : ByteArray) = ⟨#[48]⟩ := by decide +kernel
  rw [e]
  clear hx e
  go_enter Tryd.func23, Tryd.ntmps23
  go_wp2
  go_ret
  exact ⟨rfl, by repeat (first | exact Below.refl _ _ | refine bl_alloc ?_ _ | refine Below.drew ?_ | refine bl_drewN ?_ _ | refine bl_set ?_ (by omega) _ | refine bl_step ?_ (by assumption))⟩
theorem text_any (n : Int) (x : Value) (w : World) (hx : Bg w x n) (hu : (n.natAbs : Int) < 10000000000000000000) :
    Calls Tryd.prog 23 #[x] w fun e w' => e = .returned (.string ⟨(Lib.itoa n).toArray⟩) ∧ Below w.heap.size w w' := by
  by_cases h : n = 0
  · subst h; exact text_zero x w hx
  · exact text_core n x w hx h hu
set_option maxRecDepth 100000 in
theorem r4show_ok (n d : Int) (h : Fr n d) (w : World) :
    Calls Tryd.prog 10 #[fr n d] w fun e w' => e = .returned (.tuple #[.string ⟨(shL n d).toArray⟩, .int .i64 0]) ∧ Below w.heap.size w w' := by
  have HCK := hid1 (r4check_any n d)
  rw [chF_ok h] at HCK
  obtain ⟨i1, i2⟩ := fr_i64 h
  have HI := hid1 (rint_any n i1)
  have HJ := hid1 (rint_any d i2)
  have HF := hid1 (fun (x : Value) (w : World) (hx : Bg w x n) => text_any n x w hx (by have := i1.1; have := i1.2; omega))
  have HD := hid1 (fun (x : Value) (w : World) (hx : Bg w x d) => text_any d x w hx (by have := i2.1; have := i2.2; omega))
  have ls : (⟨(Lib.itoa n).toArray⟩ : ByteArray).size ≤ 21 := Lib.itoa_length_le n i1.1 (by have := i1.2; omega)
  have lt : (⟨(Lib.itoa d).toArray⟩ : ByteArray).size ≤ 21 := Lib.itoa_length_le d i2.1 (by have := i2.2; omega)
  clear h i1 i2
  by_cases hd : d = 1
  · subst hd
    unfold shL
    rw [if_pos rfl]
    obtain ⟨s, es⟩ : ∃ s, (⟨(Lib.itoa n).toArray⟩ : ByteArray) = s := ⟨_, rfl⟩
    rw [es] at HF ⊢
    clear es ls lt
    go_enter Tryd.func10, Tryd.ntmps10
    go_wp2_with fail
    refine (HCK.out _).mono ?_
    rintro e w1 ⟨rfl, hb1⟩
    have c0 := keepc hb1 (b := w.heap.size) (o := 0) (v := .int .i64 n) (by simp [go_sem])
    have c1 := keepc hb1 (b := w.heap.size) (o := 1) (v := .int .i64 1) (by simp [go_sem])
    have B1 : Below w.heap.size w w1 := by repeat (first | exact Below.refl _ _ | refine bl_alloc ?_ _ | refine Below.drew ?_ | refine bl_drewN ?_ _ | refine bl_set ?_ (by omega) _ | refine bl_step ?_ (by assumption))
    clear hb1
    go_wp2_with fail
    refine (HI.out _).mono ?_
    rintro e w2 ⟨x1, rfl, hx1, hb2⟩
    obtain ⟨s1, o1, l1, k1, rfl⟩ := hx1.form
    have HX := hid1 hx1
    clear hx1
    replace c0 := keepc hb2 c0; replace c1 := keepc hb2 c1
    go_wp2_with fail
    refine (HF.out _ _ HX.out).mono ?_
    rintro e w3 ⟨rfl, hb3⟩
    replace c0 := keepc hb3 c0; replace c1 := keepc hb3 c1
    go_wp2
    go_ret2
    refine ⟨rfl, ?_⟩
    repeat (first | exact Below.refl _ _ | refine bl_alloc ?_ _ | refine Below.drew ?_ | refine bl_drewN ?_ _ | refine bl_set ?_ (by omega) _ | refine bl_step ?_ (by assumption))
  · have hs : (⟨(shL n d).toArray⟩ : ByteArray) = ⟨(Lib.itoa n).toArray⟩ ++ ⟨#[47]⟩ ++ ⟨(Lib.itoa d).toArray⟩ := by
      unfold shL
      rw [if_neg hd]
      apply ByteArray.ext; simp
    rw [hs]
    clear hs
    obtain ⟨s, es⟩ : ∃ s, (⟨(Lib.itoa n).toArray⟩ : ByteArray) = s := ⟨_, rfl⟩
    obtain ⟨t, et⟩ : ∃ t, (⟨(Lib.itoa d).toArray⟩ : ByteArray) = t := ⟨_, rfl⟩
    rw [es] at HF ls ⊢
    rw [et] at HD lt ⊢
    clear es et
    have l47 : (s ++ ⟨#[47]⟩ : ByteArray).size ≤ 22 := by
      rw [ByteArray.size_append]
      have : (⟨#[47]⟩ : ByteArray).size = 1 := rfl
      omega
    go_enter Tryd.func10, Tryd.ntmps10
    go_wp2_with fail
    refine (HCK.out _).mono ?_
    rintro e w1 ⟨rfl, hb1⟩
    have c0 := keepc hb1 (b := w.heap.size) (o := 0) (v := .int .i64 n) (by simp [go_sem])
    have c1 := keepc hb1 (b := w.heap.size) (o := 1) (v := .int .i64 d) (by simp [go_sem])
    have B1 : Below w.heap.size w w1 := by repeat (first | exact Below.refl _ _ | refine bl_alloc ?_ _ | refine Below.drew ?_ | refine bl_drewN ?_ _ | refine bl_set ?_ (by omega) _ | refine bl_step ?_ (by assumption))
    clear hb1
    go_wp2_with fail
    refine (HI.out _).mono ?_
    rintro e w2 ⟨x1, rfl, hx1, hb2⟩
    obtain ⟨s1, o1, l1, k1, rfl⟩ := hx1.form
    have HX := hid1 hx1
    clear hx1
    replace c0 := keepc hb2 c0; replace c1 := keepc hb2 c1
    go_wp2_with fail
    refine (HF.out _ _ HX.out).mono ?_
    rintro e w3 ⟨rfl, hb3⟩
    replace c0 := keepc hb3 c0; replace c1 := keepc hb3 c1
    go_wp2_with fail
    refine (HJ.out _).mono ?_
    rintro e w4 ⟨x2, rfl, hx2, hb4⟩
    obtain ⟨s2, o2, l2, k2, rfl⟩ := hx2.form
    have HX2 := hid1 hx2
    clear hx2
    go_wp2_with fail
    refine (HD.out _ _ HX2.out).mono ?_
    rintro e w5 ⟨rfl, hb5⟩
    go_wp2
    go_ret2
    refine ⟨rfl, ?_⟩
    repeat (first | exact Below.refl _ _ | refine bl_alloc ?_ _ | refine Below.drew ?_ | refine bl_drewN ?_ _ | refine bl_set ?_ (by omega) _ | refine bl_step ?_ (by assumption))
set_option maxRecDepth 100000 in
theorem r4show_no (n d : Int) (h : ¬ Fr n d) (w : World) :
    Calls Tryd.prog 10 #[fr n d] w fun e w' => e = .returned (.tuple #[.string ⟨#[]⟩, .int .i64 40]) ∧ Below w.heap.size w w' := by
  have HCK := hid1 (r4check_any n d)
  rw [chF_no h] at HCK
  clear h
  go_enter Tryd.func10, Tryd.ntmps10
  go_wp2_with fail
  refine (HCK.out _).mono ?_
  rintro e w1 ⟨rfl, hb1⟩
  go_wp2
  go_ret2
  refine ⟨rfl, ?_⟩
  repeat (first | exact Below.refl _ _ | refine bl_alloc ?_ _ | refine Below.drew ?_ | refine bl_drewN ?_ _ | refine bl_set ?_ (by omega) _ | refine bl_step ?_ (by assumption))
theorem r4show_any (n d : Int) (w : World) :
    Calls Tryd.prog 10 #[fr n d] w fun e w' => e = .returned (.tuple #[.string ⟨(shV n d).toArray⟩, .int .i64 (chF n d)]) ∧ Below w.heap.size w w' := by
  by_cases h : Fr n d
  · unfold shV
    rw [if_pos h, chF_ok h]
    exact r4show_ok n d h w
  · unfold shV
    rw [if_neg h, chF_no h]
    exact r4show_no n d h w
theorem r4read_good (s : ByteArray) (hl : s.size ≤ 281474976710656) (n d : Int) (hf : Fr n d) (hs : s.data.toList = shL n d) (w : World) :
    Calls Tryd.prog 11 #[.string s] w fun e w' => e = .returned (.tuple #[fr n d, .int .i64 0]) ∧ Below w.heap.size w w' := by
  have vn := numV_itoa hf.2.2.1 hf.2.2.2
  have vd : numV (Lib.itoa d) = d := numV_itoa (by have := hf.1; omega) (by have := hf.2.1; omega)
  have HS := r4show_ok n d hf
  rw [← ba_eq hs] at HS
  by_cases hd : d = 1
  · subst hd
    have e : s.data.toList = Lib.itoa n := by rw [hs]; unfold shL; rw [if_pos rfl]
    have h47 : (47 : UInt8) ∉ s.data.toList := by rw [e]; exact itoa_stroke n
    exact r4read_f_good s hl n h47 (by rw [e]; exact vn) (hid1 HS) w
  · have e : s.data.toList = Lib.itoa n ++ 47 :: Lib.itoa d := by rw [hs]; unfold shL; rw [if_neg hd]
    exact r4read_t_good s hl n d _ _ e (itoa_stroke n) vn vd _ rfl (hid1 HS) w
theorem r4read_bad (s : ByteArray) (hl : s.size ≤ 281474976710656) (h : ∀ n d, Fr n d → ¬ shL n d = s.data.toList) (w : World) :
    Calls Tryd.prog 11 #[.string s] w fun e w' => e = .returned (.tuple #[fr 0 0, .int .i64 40]) ∧ Below w.heap.size w w' := by
  rcases index_cases 47 s.data.toList with ⟨_, h1⟩ | ⟨a, b, h1, h2, _⟩
  · by_cases hf : Fr (numV s.data.toList) 1
    · exact r4read_f_other s _ hl _ h1 rfl (hid1 (r4show_ok _ 1 hf)) (ba_ne rfl (h _ 1 hf)) w
    · exact r4read_f_bad s _ hl _ h1 rfl (hid1 (r4show_no _ 1 hf)) w
  · by_cases hf : Fr (numV a) (numV b)
    · exact r4read_t_other s _ hl _ _ a b h1 h2 rfl rfl _ rfl (hid1 (r4show_ok _ _ hf)) (ba_ne rfl (h _ _ hf)) w
    · exact r4read_t_bad s _ hl _ _ a b h1 h2 rfl rfl _ rfl (hid1 (r4show_no _ _ hf)) w
end Go.Proofs.YtboabgjgcnkelabDoor
/- LISTS OF FRACTIONS AND NORMS. -/
namespace Go.Proofs.YtboabgjgcnkelabDoor
open Go.RowKit Go.Shelf

/-- A norm's cells from a place on. -/
def No (w : World) (g o : Nat) (gn gd bn bd mn md sn sd : Int) : Prop := w.cell? ⟨g, o, none⟩ = some (.int .i64 gn) ∧ w.cell? ⟨g, o + 1, none⟩ = some (.int .i64 gd) ∧ w.cell? ⟨g, o + 2, none⟩ = some (.int .i64 bn) ∧ w.cell? ⟨g, o + 3, none⟩ = some (.int .i64 bd) ∧ w.cell? ⟨g, o + 4, none⟩ = some (.int .i64 mn) ∧ w.cell? ⟨g, o + 5, none⟩ = some (.int .i64 md) ∧ w.cell? ⟨g, o + 6, none⟩ = some (.int .i64 sn) ∧ w.cell? ⟨g, o + 7, none⟩ = some (.int .i64 sd)
theorem No.keep {w w' : World} {g o : Nat} {gn gd bn bd mn md sn sd : Int} (h : No w g o gn gd bn bd mn md sn sd) (hb : Below w.heap.size w w') : No w' g o gn gd bn bd mn md sn sd := by
  obtain ⟨a, c, d, e, f, h, i, j⟩ := h
  exact ⟨keepc hb a, keepc hb c, keepc hb d, keepc hb e, keepc hb f, keepc hb h, keepc hb i, keepc hb j⟩
theorem kp9 {W X : World} {g o gx ox : Nat} {gn gd bn bd mn md sn sd x : Int} (h : No W g o gn gd bn bd mn md sn sd) (hx : W.cell? ⟨gx, ox, none⟩ = some (.int .i64 x)) (hb : Below W.heap.size W X) :
    X.cell? ⟨g, o, none⟩ = some (.int .i64 gn) ∧ X.cell? ⟨g, o + 1, none⟩ = some (.int .i64 gd) ∧ X.cell? ⟨g, o + 2, none⟩ = some (.int .i64 bn) ∧ X.cell? ⟨g, o + 3, none⟩ = some (.int .i64 bd) ∧ X.cell? ⟨g, o + 4, none⟩ = some (.int .i64 mn) ∧ X.cell? ⟨g, o + 5, none⟩ = some (.int .i64 md) ∧ X.cell? ⟨g, o + 6, none⟩ = some (.int .i64 sn) ∧ X.cell? ⟨g, o + 7, none⟩ = some (.int .i64 sd) ∧ X.cell? ⟨gx, ox, none⟩ = some (.int .i64 x) := by
  obtain ⟨a, c, d, e, f, h, i, j⟩ := h
  exact ⟨keepc hb a, keepc hb c, keepc hb d, keepc hb e, keepc hb f, keepc hb h, keepc hb i, keepc hb j, keepc hb hx⟩
theorem kp4 {W X : World} {g o h p : Nat} {a b c d : Int} (a0 : W.cell? ⟨g, o, none⟩ = some (.int .i64 a)) (a1 : W.cell? ⟨g, o + 1, none⟩ = some (.int .i64 b)) (b0 : W.cell? ⟨h, p, none⟩ = some (.int .i64 c)) (b1 : W.cell? ⟨h, p + 1, none⟩ = some (.int .i64 d)) (hb : Below W.heap.size W X) :
    X.cell? ⟨g, o, none⟩ = some (.int .i64 a) ∧ X.cell? ⟨g, o + 1, none⟩ = some (.int .i64 b) ∧ X.cell? ⟨h, p, none⟩ = some (.int .i64 c) ∧ X.cell? ⟨h, p + 1, none⟩ = some (.int .i64 d) :=
  ⟨keepc hb a0, keepc hb a1, keepc hb b0, keepc hb b1⟩
def Lno (W : World) (ao : Option Addr) (m : Nat) : Prop := ∀ k, k < m → ∃ (g o : Nat) (gn gd bn bd mn md sn sd : Int), ao = some ⟨g, o, none⟩ ∧ No W g (o + k * 8) gn gd bn bd mn md sn sd
def Lfr (W : World) (ao : Option Addr) (m : Nat) : Prop := ∀ k, k < m → ∃ (g o : Nat) (n d : Int), ao = some ⟨g, o, none⟩ ∧ W.cell? ⟨g, o + k * 2, none⟩ = some (.int .i64 n) ∧ W.cell? ⟨g, o + k * 2 + 1, none⟩ = some (.int .i64 d)
def Lin (W : World) (ao : Option Addr) (m : Nat) : Prop := ∀ k, k < m → ∃ (g o : Nat) (x : Int), ao = some ⟨g, o, none⟩ ∧ W.cell? ⟨g, o + k, none⟩ = some (.int .i64 x)
theorem Lno.keep {W w' : World} {ao : Option Addr} {m : Nat} (h : Lno W ao m) (hb : Below W.heap.size W w') : Lno w' ao m := fun k hk => by
  obtain ⟨g, o, r, s, sy, sx, t, l, b, q, e, a⟩ := h k hk
  exact ⟨g, o, r, s, sy, sx, t, l, b, q, e, a.keep hb⟩
theorem Lfr.keep {W w' : World} {ao : Option Addr} {m : Nat} (h : Lfr W ao m) (hb : Below W.heap.size W w') : Lfr w' ao m := fun k hk => by
  obtain ⟨g, o, x, y, e, a, b⟩ := h k hk
  exact ⟨g, o, x, y, e, keepc hb a, keepc hb b⟩
theorem Lin.keep {W w' : World} {ao : Option Addr} {m : Nat} (h : Lin W ao m) (hb : Below W.heap.size W w') : Lin w' ao m := fun k hk => by
  obtain ⟨g, o, x, e, a⟩ := h k hk
  exact ⟨g, o, x, e, keepc hb a⟩
end Go.Proofs.YtboabgjgcnkelabDoor
/- LISTS OF TEXTS. -/
namespace Go.Proofs.YtboabgjgcnkelabDoor
open Go.RowKit Go.Shelf

def Lst (W : World) (ao : Option Addr) (m : Nat) : Prop := ∀ k, k < m → ∃ (g o : Nat) (s : ByteArray), ao = some ⟨g, o, none⟩ ∧ s.size ≤ 281474976710656 ∧ W.cell? ⟨g, o + k, none⟩ = some (.string s)
theorem Lst.keep {W w' : World} {ao : Option Addr} {m : Nat} (h : Lst W ao m) (hb : Below W.heap.size W w') : Lst w' ao m := fun k hk => by
  obtain ⟨g, o, s, e, z, a⟩ := h k hk
  exact ⟨g, o, s, e, z, keepc hb a⟩
end Go.Proofs.YtboabgjgcnkelabDoor
/- FRACTEXTS, WALKED. -/
namespace Go.Proofs.YtboabgjgcnkelabDoor
open Go.RowKit Go.Shelf
attribute [local go_sem ↓] Go.wp_at_zero Go.wp_at_succ

/-- Both readings answer the same. -/
theorem both_read (s : ByteArray) (hl : s.size ≤ 281474976710656) : ∃ n d e : Int, (∀ w : World, LaidB w → Calls Tryd.prog 9 #[.string s] w fun e' w' => e' = .returned (.tuple #[fr n d, .int .i64 e]) ∧ Below w.heap.size w w') ∧
    (∀ w : World, Calls Tryd.prog 11 #[.string s] w fun e' w' => e' = .returned (.tuple #[fr n d, .int .i64 e]) ∧ Below w.heap.size w w') := by
  by_cases h : ∃ p q, Fr p q ∧ shL p q = s.data.toList
  · obtain ⟨p, q, g, e⟩ := h
    exact ⟨p, q, 0, fread_good s hl p q g e.symm, r4read_good s hl p q g e.symm⟩
  · exact ⟨0, 0, 40, fread_bad s hl (fun p q g e => h ⟨p, q, g, e⟩), r4read_bad s hl (fun p q g e => h ⟨p, q, g, e⟩)⟩
theorem both_show (n d : Int) : ∃ (t : ByteArray) (e : Int), (∀ w : World, LaidP w → Calls Tryd.prog 8 #[fr n d] w fun e' w' => e' = .returned (.tuple #[.string t, .int .i64 e]) ∧ Below w.heap.size w w') ∧
    (∀ w : World, Calls Tryd.prog 10 #[fr n d] w fun e' w' => e' = .returned (.tuple #[.string t, .int .i64 e]) ∧ Below w.heap.size w w') :=
  ⟨_, _, fshow_any n d, r4show_any n d⟩
set_option maxHeartbeats 3200000 in
set_option maxRecDepth 100000 in
theorem ftexts_walk (ao : Option Addr) (m cm : Nat) (hm : m ≤ 9223372036854775807) (bo : Option Addr) (n cn : Nat) (hn : n ≤ 9223372036854775807) (w : World) (L : LaidB w) (L1 : Lfr w ao m) (L2 : Lst w bo n) :
    Calls Tryd.prog 4 #[.slice ao m cm, .slice bo n cn] w fun e w' => e = .returned (.bool true) ∧ Below w.heap.size w w' := by
  have H1 := hid1 L1
  have H2 := hid1 L2
  have HL := hid1 L
  clear L1 L2 L
  go_enter Tryd.func4, Tryd.ntmps4
  go_wp2_with fail
  refine (fbegun_any _ HL.out.pow).mono ?_
  rintro e w1 ⟨rfl, hb1⟩
  go_wp2_with fail
  go_loopw [6] (fun i wr => ∃ k : Nat, k ≤ m ∧ i = .int .i64 k ∧ Below w.heap.size w wr) (fun i _ => m - (intOf i).toNat)
  case atStart => exact ⟨0, Nat.zero_le _, rfl, hb1⟩
  case round =>
    obtain ⟨i, hi, rfl, hnx⟩ := hrel
    have ii0 : (0 : Int) ≤ (i : Int) := by omega
    by_cases hli : i < m
    · have ii : (i : Int) < (m : Int) := by omega
      obtain ⟨g, o, p, q, rfl, a0, a1⟩ := (H1.out.keep hnx) i hli
      obtain ⟨t, et, h1, h2⟩ := both_show p q
      have HA := hid1 h1
      have HB := hid1 h2
      clear h1 h2
      go_wp2_with fail
      refine (HA.out _ (HL.out.on hnx).pow).mono ?_
      rintro e x1 ⟨rfl, hx⟩
      replace a0 := keepc hx a0; replace a1 := keepc hx a1
      replace hnx := bl_step hnx hx
      clear hx
      go_wp2_with fail
      refine (HB.out _).mono ?_
      rintro e x2 ⟨rfl, hx⟩
      replace hnx := bl_step hnx hx
      clear hx
      go_wp2_with fail
      exact ⟨⟨i + 1, by omega, by go_num, hnx⟩, by simp [intOf]; omega⟩
    · have : i = m := by omega
      subst this
      go_wp2_with fail
      go_loopw [11] (fun q wr => ∃ k : Nat, k ≤ n ∧ q = .int .i64 k ∧ Below w.heap.size w wr) (fun q _ => n - (intOf q).toNat)
      case atStart => exact ⟨0, Nat.zero_le _, rfl, hnx⟩
      case round =>
        clear hnx
        obtain ⟨k, hk, rfl, hnx⟩ := hrel
        rename World => V
        have ik0 : (0 : Int) ≤ (k : Int) := by omega
        by_cases l1 : k < n
        · have j1 : (k : Int) < (n : Int) := by omega
          obtain ⟨g, o, s, rfl, hs, a0⟩ := (H2.out.keep hnx) k l1
          obtain ⟨p, q, er, h1, h2⟩ := both_read s hs
          have HA := hid1 h1
          have HB := hid1 h2
          clear h1 h2 hs
          go_wp2_with fail
          refine (HA.out _ (HL.out.on hnx)).mono ?_
          rintro e x1 ⟨rfl, hx⟩
          replace a0 := keepc hx a0
          replace hnx : Below w.heap.size w x1 := by repeat (first | (with_reducible exact Below.refl _ _) | (with_reducible refine bl_alloc ?_ _) | (with_reducible refine Below.drew ?_) | (with_reducible refine bl_drewN ?_ _) | (with_reducible refine bl_set ?_ (by omega) _) | (with_reducible refine bl_step ?_ (by assumption)))
          clear hx
          have za := lt_of_cell a0
          go_wp2_with fail
          refine gen_calls (fun W' => Below w.heap.size w W' ∧ Hid (Fy W' x1.heap.size p q)) ⟨by repeat (first | (with_reducible exact Below.refl _ _) | (with_reducible refine bl_alloc ?_ _) | (with_reducible refine Below.drew ?_) | (with_reducible refine bl_drewN ?_ _) | (with_reducible refine bl_set ?_ (by omega) _) | (with_reducible refine bl_step ?_ (by assumption))), hid1 (fy_new rfl)⟩ ?_
          rintro x2 ⟨B2, HF⟩
          clear a0 za hnx
          refine (HB.out _).mono ?_
          rintro e x3 ⟨rfl, hx⟩
          replace HF := hid1 (HF.out.keep hx)
          have hnx : Below w.heap.size w x3 := by repeat (first | (with_reducible exact Below.refl _ _) | (with_reducible refine bl_alloc ?_ _) | (with_reducible refine Below.drew ?_) | (with_reducible refine bl_drewN ?_ _) | (with_reducible refine bl_set ?_ (by omega) _) | (with_reducible refine bl_step ?_ (by assumption)))
          clear hx B2
          obtain ⟨f0, f1, _, _⟩ := HF.out
          have zf := lt_of_cell f0
          go_wp2_with fail
          exact ⟨⟨k + 1, by omega, by go_num, by repeat (first | (with_reducible exact Below.refl _ _) | (with_reducible refine bl_alloc ?_ _) | (with_reducible refine Below.drew ?_) | (with_reducible refine bl_drewN ?_ _) | (with_reducible refine bl_set ?_ (by omega) _) | (with_reducible refine bl_step ?_ (by assumption)))⟩, by simp [intOf]; omega⟩
        · have : k = n := by omega
          subst this
          go_wp2
          go_ret
          exact ⟨rfl, hnx⟩
end Go.Proofs.YtboabgjgcnkelabDoor
/-
  WHAT EVERY ROW OF THIS SEAT WANTS: the listed variables, the start that fits, fractions and norms as parameters.
-/
namespace Go.Proofs.YtboabgjgcnkelabDoor
open Go.ChangeShapes Go.WideShapes Go.ChangeAt Go.RowKit

theorem own : ownKnob Tryd.prog.godebug = none := by kernel_rfl
theorem laidOut : laidOutB Tryd.prog = true := by kernel_rfl
def laidL : List (String × DataW Unit) := [("math/bits.deBruijn32tab", Rows.laid_math_bits_deBruijn32tab), ("math/bits.deBruijn64tab", Rows.laid_math_bits_deBruijn64tab), ("internal/strconv.uint64pow10", Rows.laid_internal_strconv_uint64pow10), ("strconv.ErrRange", Rows.laid_strconv_ErrRange), ("strconv.ErrSyntax", Rows.laid_strconv_ErrSyntax)]
theorem door_met (os : Os) (args : Array Value) : laidMetH Tryd.prog laidL ((World.doorLaid Tryd.prog 400 os).forCall (fun _ _ => 0) ⟨#[], args, []⟩).memory :=
  laidMetH_of_parts3 (fuel := 8) (laidMet_of_run' 8 (by kernel_rfl) (by kernel_rfl)) (by kernel_rfl) (by kernel_rfl)
theorem only_pow : laidL.filter (fun x => x.1 == "internal/strconv.uint64pow10") = [("internal/strconv.uint64pow10", Lib.tabData .u64 Lib.pow10Tab)] := by kernel_rfl
theorem tyPow : (Tryd.prog.globals[0]?).map (·.type) = some 117 := by kernel_rfl
theorem cells_u64 : Tryd.prog.cellsOf 67 = 1 := by kernel_rfl
theorem cells_tab : Tryd.prog.cellsOf 117 = 20 := by kernel_rfl
theorem pow_laid {W : World} (h : laidMetH Tryd.prog laidL W) : LaidP W := by
  rw [MakeChecks.laidMetH_plain _ _ _ (by kernel_rfl)] at h
  have h1 := h.filter (fun x => x.1 == "internal/strconv.uint64pow10")
  rw [only_pow] at h1
  exact Lib.tabIs_of_head hgPow tyPow Tryd.underlying117 Tryd.underlying67 cells_u64 cells_tab h1
theorem fld {H : Type} {enc : TypeId × Value → H} {P : Program} {w : World} {base : Nat} {sp : Nat → Bool} {held : Bool} {t : TypeId} {fs : Array Field} {fuel : Nat} {cs : List Value} {x : DataW H × List MemPlace}
    (ht : P.underlying t = some (.struct fs)) (h : DataW.trod enc P w base sp held fuel t cs = some x) (i : Nat) (f : Field) (hi : fs[i]? = some f) :
    ∃ n y, DataW.trod enc P w base sp held n f.type ((cs.drop f.offset).take (P.cellsOf f.type)) = some y := by
  obtain ⟨xs, n, _, _, _, hxl, hf⟩ := DataW.trod_struct ht h
  have g := hf i f hi
  have hlt : i < xs.length := by
    rw [hxl]
    exact (Array.getElem?_eq_some_iff.1 hi).1
  rw [List.getElem?_eq_getElem hlt] at g
  exact ⟨n, _, g⟩
theorem fldI {H : Type} {enc : TypeId × Value → H} {P : Program} {w : World} {base : Nat} {sp : Nat → Bool} {held : Bool} {t : TypeId} {fs : Array Field} {fuel : Nat} {cs : List Value} {x : DataW H × List MemPlace}
    (ht : P.underlying t = some (.struct fs)) (h : DataW.trod enc P w base sp held fuel t cs = some x) (i : Nat) (f : Field) (hi : fs[i]? = some f) (hu : P.underlying f.type = some (.int .i64)) (hc : P.cellsOf f.type = 1) :
    ∃ z : Int, (cs.drop f.offset).take 1 = [.int .i64 z] := by
  obtain ⟨n, y, g⟩ := fld ht h i f hi
  rw [hc] at g
  obtain ⟨z, e, _⟩ := DataW.trod_int hu g
  exact ⟨z, e⟩
theorem cells_i64 : Tryd.prog.cellsOf 2 = 1 := by kernel_rfl
theorem cells_frac : Tryd.prog.cellsOf 23 = 2 := by kernel_rfl
theorem cells_norm : Tryd.prog.cellsOf 39 = 8 := by kernel_rfl
theorem len2 {l : List Value} (h : l.length = 2) : ∃ a b, l = [a, b] := by
  match l, h with
  | [a, b], _ => exact ⟨a, b, rfl⟩
theorem len8 {l : List Value} (h : l.length = 8) : ∃ a b c d e f g i, l = [a, b, c, d, e, f, g, i] := by
  match l, h with
  | [a, b, c, d, e, f, g, i], _ => exact ⟨a, b, c, d, e, f, g, i, rfl⟩
set_option maxRecDepth 100000 in
theorem frac_cells {H : Type} {enc : TypeId × Value → H} {w : World} {base : Nat} {sp : Nat → Bool} {held : Bool} {fuel : Nat} {cs : List Value} {x : DataW H × List MemPlace}
    (h : DataW.trod enc Tryd.prog w base sp held fuel 23 cs = some x) : ∃ a b : Int, cs = [.int .i64 a, .int .i64 b] := by
  have hl : cs.length = 2 := by
    obtain ⟨_, _, _, _, hlen, _, _⟩ := DataW.trod_struct Tryd.underlying23 h
    exact hlen.trans cells_frac
  obtain ⟨z0, e0⟩ := fldI Tryd.underlying23 h 0 _ rfl Tryd.underlying2 cells_i64
  obtain ⟨z1, e1⟩ := fldI Tryd.underlying23 h 1 _ rfl Tryd.underlying2 cells_i64
  obtain ⟨a, b, rfl⟩ := len2 hl
  simp at e0 e1
  subst e0 e1
  exact ⟨z0, z1, rfl⟩
theorem fldF {H : Type} {enc : TypeId × Value → H} {w : World} {base : Nat} {sp : Nat → Bool} {held : Bool} {t : TypeId} {fs : Array Field} {fuel : Nat} {cs : List Value} {x : DataW H × List MemPlace}
    (ht : Tryd.prog.underlying t = some (.struct fs)) (h : DataW.trod enc Tryd.prog w base sp held fuel t cs = some x) (i : Nat) (f : Field) (hi : fs[i]? = some f) (hu : f.type = 23) :
    ∃ a b : Int, (cs.drop f.offset).take 2 = [.int .i64 a, .int .i64 b] := by
  obtain ⟨n, y, g⟩ := fld ht h i f hi
  rw [hu, cells_frac] at g
  exact frac_cells g
set_option maxRecDepth 100000 in
theorem norm_cells {H : Type} {enc : TypeId × Value → H} {w : World} {base : Nat} {sp : Nat → Bool} {held : Bool} {fuel : Nat} {cs : List Value} {x : DataW H × List MemPlace}
    (h : DataW.trod enc Tryd.prog w base sp held fuel 39 cs = some x) :
    ∃ gn gd bn bd mn md sn sd : Int, cs = [.int .i64 gn, .int .i64 gd, .int .i64 bn, .int .i64 bd, .int .i64 mn, .int .i64 md, .int .i64 sn, .int .i64 sd] := by
  have hl : cs.length = 8 := by
    obtain ⟨_, _, _, _, hlen, _, _⟩ := DataW.trod_struct Tryd.underlying39 h
    exact hlen.trans cells_norm
  obtain ⟨a0, b0, e0⟩ := fldF Tryd.underlying39 h 0 _ rfl rfl
  obtain ⟨a1, b1, e1⟩ := fldF Tryd.underlying39 h 1 _ rfl rfl
  obtain ⟨a2, b2, e2⟩ := fldF Tryd.underlying39 h 2 _ rfl rfl
  obtain ⟨a3, b3, e3⟩ := fldF Tryd.underlying39 h 3 _ rfl rfl
  obtain ⟨a, b, c, d, e, f, g, i, rfl⟩ := len8 hl
  simp at e0 e1 e2 e3
  obtain ⟨rfl, rfl⟩ := e0
  obtain ⟨rfl, rfl⟩ := e1
  obtain ⟨rfl, rfl⟩ := e2
  obtain ⟨rfl, rfl⟩ := e3
  exact ⟨_, _, _, _, _, _, _, _, rfl⟩
set_option maxRecDepth 100000 in
theorem open_frac {H : Type} {enc : TypeId × Value → H} {W : World} {base : Nat} {v : Value} {d : DataW H} {p : List MemPlace}
    (hv : Value.okWide Tryd.prog W .any base 23 v) (h : DataW.Trod enc Tryd.prog W 0 (fun _ => true) true 23 v d p) : ∃ a b : Int, v = fr a b := by
  obtain ⟨cs, rfl, _⟩ := okWide_struct Tryd.underlying23 hv
  obtain ⟨fuel, hf⟩ := h
  obtain ⟨a, b, e⟩ := frac_cells hf
  refine ⟨a, b, ?_⟩
  simp [Value.cells] at e
  obtain ⟨l⟩ := cs
  simp at e
  subst e
  rfl
set_option maxRecDepth 100000 in
theorem open_norm {H : Type} {enc : TypeId × Value → H} {W : World} {base : Nat} {v : Value} {d : DataW H} {p : List MemPlace}
    (hv : Value.okWide Tryd.prog W .any base 39 v) (h : DataW.Trod enc Tryd.prog W 0 (fun _ => true) true 39 v d p) : ∃ gn gd bn bd mn md sn sd : Int, v = nm gn gd bn bd mn md sn sd := by
  obtain ⟨cs, rfl, _⟩ := okWide_struct Tryd.underlying39 hv
  obtain ⟨fuel, hf⟩ := h
  obtain ⟨gn, gd, bn, bd, mn, md, sn, sd, e⟩ := norm_cells hf
  refine ⟨gn, gd, bn, bd, mn, md, sn, sd, ?_⟩
  simp [Value.cells] at e
  obtain ⟨l⟩ := cs
  simp at e
  subst e
  rfl
end Go.Proofs.YtboabgjgcnkelabDoor
/- PARAMETERS THAT ARE LISTS. -/
namespace Go.Proofs.YtboabgjgcnkelabDoor
open Go.ChangeShapes Go.WideShapes Go.ChangeAt Go.RowKit
set_option maxRecDepth 100000

theorem add_at (b o n : Nat) : Addr.add ⟨b, o, none⟩ n = ⟨b, o + n, none⟩ := by
  unfold Addr.add
  by_cases h : n = 0
  · subst h; rfl
  · rw [if_neg h]
theorem und_fracs : Tryd.prog.underlying 32 = some (.slice 23) := by kernel_rfl
theorem und_i64s : Tryd.prog.underlying 84 = some (.slice 2) := by kernel_rfl
theorem max_is : maxLen = 9223372036854775807 := by decide
/-- A list at the cells of each element. -/
theorem open_list {H : Type} {enc : TypeId × Value → H} {W : World} {base : Nat} {t e : TypeId} {N : Nat} {v : Value} {d : DataW H} {p : List MemPlace} (ht : Tryd.prog.underlying t = some (.slice e)) (hN : Tryd.prog.cellsOf e = N) (hpos : 0 < N)
    (hv : Value.okWide Tryd.prog W .any base t v) (h : DataW.Trod enc Tryd.prog W 0 (fun _ => true) true t v d p) :
    ∃ (ao : Option Addr) (m cap : Nat), v = .slice ao m cap ∧ m ≤ 9223372036854775807 ∧ ∀ k, k < m → ∃ (g o n : Nat) (cs : List Value) (y : DataW H × List MemPlace), ao = some ⟨g, o, none⟩ ∧ DataW.trod enc Tryd.prog W 0 (fun _ => true) true n e cs = some y ∧ cs.length = N ∧
      ∀ j, j < N → W.cell? ⟨g, o + k * N + j, none⟩ = cs[j]? := by
  obtain ⟨a0, len, cap, rfl⟩ := okWide_slice ht hv
  obtain ⟨fuel, hf⟩ := h
  rcases Deep.open_slice ht hf with ⟨hc, hx⟩ | ⟨a, len', cap', mm, n, D, Pl, hc, _, hl, hm, hmm, hx, hcell⟩
  · simp [Value.cells] at hc
    obtain ⟨rfl, rfl, rfl⟩ := hc
    exact ⟨none, 0, 0, rfl, by omega, fun k hk => absurd hk (by omega)⟩
  · simp [Value.cells] at hc
    obtain ⟨rfl, rfl, rfl⟩ := hc
    simp only [if_true] at hmm
    refine ⟨some a, len, cap, rfl, by have := max_is; omega, fun k hk => ?_⟩
    obtain ⟨b, o, s⟩ := a
    obtain rfl : s = none := by
      obtain ⟨cs0, h0, _⟩ := hcell 0 (by omega)
      rw [hN] at h0
      obtain ⟨_, hlen, hc0⟩ := World.cells?_some h0
      have e0 := hc0 0 hpos
      rw [Deep.add_add, List.getElem?_eq_getElem (by omega)] at e0
      have := World.cell?_spot e0
      simpa [Addr.add] using this
    obtain ⟨cs, h1, h2⟩ := hcell k (by omega)
    rw [hN] at h1
    obtain ⟨_, hlen, hc1⟩ := World.cells?_some h1
    refine ⟨b, o, n, cs, _, rfl, h2, hlen, fun j hj => ?_⟩
    have := hc1 j hj
    rw [Deep.add_add, add_at, ← Nat.add_assoc] at this
    exact this
theorem open_fracs {H : Type} {enc : TypeId × Value → H} {W : World} {base : Nat} {v : Value} {d : DataW H} {p : List MemPlace}
    (hv : Value.okWide Tryd.prog W .any base 32 v) (h : DataW.Trod enc Tryd.prog W 0 (fun _ => true) true 32 v d p) :
    ∃ (ao : Option Addr) (m cap : Nat), v = .slice ao m cap ∧ m ≤ 9223372036854775807 ∧ Lfr W ao m := by
  obtain ⟨ao, m, cap, rfl, hm, hf⟩ := open_list und_fracs cells_frac (by decide) hv h
  refine ⟨ao, m, cap, rfl, hm, fun k hk => ?_⟩
  obtain ⟨g, o, n, cs, y, rfl, ht, _, hc⟩ := hf k hk
  obtain ⟨a, b, rfl⟩ := frac_cells ht
  exact ⟨g, o, a, b, rfl, hc 0 (by decide), hc 1 (by decide)⟩
theorem open_i64s {H : Type} {enc : TypeId × Value → H} {W : World} {base : Nat} {v : Value} {d : DataW H} {p : List MemPlace}
    (hv : Value.okWide Tryd.prog W .any base 84 v) (h : DataW.Trod enc Tryd.prog W 0 (fun _ => true) true 84 v d p) :
    ∃ (ao : Option Addr) (m cap : Nat), v = .slice ao m cap ∧ m ≤ 9223372036854775807 ∧ Lin W ao m := by
  obtain ⟨ao, m, cap, rfl, hm, hf⟩ := open_list und_i64s cells_i64 (by decide) hv h
  refine ⟨ao, m, cap, rfl, hm, fun k hk => ?_⟩
  obtain ⟨g, o, n, cs, y, rfl, ht, _, hc⟩ := hf k hk
  obtain ⟨x, rfl, _, _⟩ := DataW.trod_int Tryd.underlying2 ht
  have c := hc 0 (by decide)
  rw [Nat.mul_one] at c
  exact ⟨g, o, x, rfl, c⟩
end Go.Proofs.YtboabgjgcnkelabDoor
/- PARAMETERS THAT ARE LISTS OF TEXTS. -/
namespace Go.Proofs.YtboabgjgcnkelabDoor
open Go.ChangeShapes Go.WideShapes Go.ChangeAt Go.RowKit
set_option maxRecDepth 100000

theorem und_strs : Tryd.prog.underlying 33 = some (.slice 9) := by kernel_rfl
theorem cells_string : Tryd.prog.cellsOf 9 = 1 := by kernel_rfl
theorem weightsAll_mem {H : Type} {P : Program} {e : TypeId} : ∀ {l : List (DataW H)} {d : DataW H}, d ∈ l → ∀ n ∈ d.weights P e, n ∈ DataW.weightsAll P e l
  | x :: l, d, hd, n, hn => by
    rw [DataW.weightsAll, List.mem_append]
    rcases List.mem_cons.mp hd with rfl | h
    · exact Or.inl hn
    · exact Or.inr (weightsAll_mem h n hn)
theorem open_strs {H : Type} {enc : TypeId × Value → H} {W : World} {base : Nat} {v : Value} {d : DataW H} {p : List MemPlace}
    (hv : Value.okWide Tryd.prog W .any base 33 v) (h : DataW.Trod enc Tryd.prog W 0 (fun _ => true) true 33 v d p) (hz : ∀ n ∈ d.weights Tryd.prog 33, n ≤ reachBytes) :
    ∃ (ao : Option Addr) (m cap : Nat), v = .slice ao m cap ∧ m ≤ 9223372036854775807 ∧ Lst W ao m := by
  obtain ⟨a0, len, cap, rfl⟩ := okWide_slice und_strs hv
  obtain ⟨fuel, hf⟩ := h
  rcases open_strings und_strs Tryd.underlying9 cells_string hf with ⟨hc, hx⟩ | ⟨a, len', cap', ss, hc, _, hl, hm, hss, hx, hcell, _⟩
  · simp [Value.cells] at hc
    obtain ⟨rfl, rfl, rfl⟩ := hc
    exact ⟨none, 0, 0, rfl, by omega, fun k hk => absurd hk (by omega)⟩
  · simp [Value.cells] at hc
    obtain ⟨rfl, rfl, rfl⟩ := hc
    simp only [if_true] at hss
    have hd : d = .slice (strs (ss.take len)) (strs (ss.drop len)) := congrArg Prod.fst hx
    refine ⟨some a, len, cap, rfl, by have := max_is; omega, fun k hk => ?_⟩
    have hk2 : k < ss.length := by omega
    have c := hcell k hk2
    obtain ⟨b, o, s⟩ := a
    obtain rfl : s = none := by
      have c0 := hcell 0 (by omega)
      have := World.cell?_spot c0
      simpa [Addr.add] using this
    rw [add_at] at c
    have e : ss.getD k ByteArray.empty = ss[k] := by simp [List.getD, hk2]
    rw [e] at c
    refine ⟨b, o, ss[k], rfl, ?_, c⟩
    have mem : (DataW.lit (.string ss[k].data.toList) : DataW H) ∈ strs (ss.take len) := by
      unfold strs
      refine List.mem_map.mpr ⟨ss[k], ?_, rfl⟩
      rw [List.mem_take_iff_getElem]
      exact ⟨k, by omega, rfl⟩
    have w1 := hz ss[k].data.toList.length (by
      rw [hd]
      simp only [DataW.weights, und_strs]
      refine List.mem_cons_of_mem _ (List.mem_append.mpr (Or.inl ?_))
      exact weightsAll_mem mem _ (by simp [DataW.weights]))
    have e2 : ss[k].size = ss[k].data.toList.length := rfl
    rw [e2]
    exact Nat.le_trans w1 (by decide)
end Go.Proofs.YtboabgjgcnkelabDoor
/- THE TWO ERRORS THAT A NUMBER'S TEXT CAN HAVE, AS THEY LIE. -/
namespace Go.Proofs.YtboabgjgcnkelabDoor
open Go.ChangeShapes Go.WideShapes Go.ChangeAt Go.RowKit

theorem starErr : "*" ++ "errors.errorString" = "*errors.errorString" := by decide
theorem rowErr (u : TypeId) (h : Tryd.prog.typeName? 3 u = some "*errors.errorString") : u = 135 :=
  typeName_ptr_named (nm := "errors.errorString") (by rw [starErr]; kernel_rfl) (by kernel_rfl) (by decide) u (by rw [starErr]; exact h)
theorem only_syn : laidL.filter (fun x => x.1 == "strconv.ErrSyntax") = [("strconv.ErrSyntax", Rows.laid_strconv_ErrSyntax)] := by kernel_rfl
theorem only_rng : laidL.filter (fun x => x.1 == "strconv.ErrRange") = [("strconv.ErrRange", Rows.laid_strconv_ErrRange)] := by kernel_rfl
theorem gSyn : Tryd.prog.globalNamed "strconv.ErrSyntax" = some 2 := by kernel_rfl
theorem gRng : Tryd.prog.globalNamed "strconv.ErrRange" = some 3 := by kernel_rfl
theorem tySyn : (Tryd.prog.globals[2]?).map (·.type) = some 55 := by kernel_rfl
theorem tyRng : (Tryd.prog.globals[3]?).map (·.type) = some 55 := by kernel_rfl
theorem cells_es : Tryd.prog.cellsOf 137 = 1 := by kernel_rfl
theorem cells_str : Tryd.prog.cellsOf 9 = 1 := by kernel_rfl
theorem laidB_of {W : World} (h : laidMetH Tryd.prog laidL W) : LaidB W := by
  have hp := pow_laid h
  rw [MakeChecks.laidMetH_plain _ _ _ (by kernel_rfl)] at h
  have h1 := h.filter (fun x => x.1 == "strconv.ErrSyntax")
  have h2 := h.filter (fun x => x.1 == "strconv.ErrRange")
  rw [only_syn] at h1
  rw [only_rng] at h2
  obtain ⟨a1, s1, v1, _⟩ := laid_sentinel h1 gSyn tySyn Tryd.underlying55 rowErr Tryd.underlying135 Tryd.underlying137 rfl rfl Tryd.underlying9 cells_es cells_str
  obtain ⟨a2, s2, v2, _⟩ := laid_sentinel h2 gRng tyRng Tryd.underlying55 rowErr Tryd.underlying135 Tryd.underlying137 rfl rfl Tryd.underlying9 cells_es cells_str
  have c1 := World.var?_cell gSyn v1 0
  have c2 := World.var?_cell gRng v2 0
  exact ⟨hp, ⟨_, _, by simpa using c1⟩, ⟨_, _, by simpa using c2⟩⟩
end Go.Proofs.YtboabgjgcnkelabDoor
/- BOTH. -/
namespace Go.Proofs.YtboabgjgcnkelabDoor
theorem both_there : True := trivial
end Go.Proofs.YtboabgjgcnkelabDoor
namespace Go.Proofs.YtboabgjgcnkelabDoor
open Go.ChangeShapes Go.WideShapes Go.ChangeAt Go.RowKit
open Go.ChangeMaps (open_string shut_string)

set_option maxRecDepth 100000 in
theorem fracTexts_lifted (os : Os) (started : os.Started) (H : Type) (enc : TypeId × Value → H) :
    ReturnsInHanded {} Tryd.checked os 4 .any (fun w args => (Rows.fracTextsSpec.pre enc Tryd.prog Tryd.f4 [] false w args ∧ laidMetH Tryd.prog laidL w) ∧ sizedMet enc Tryd.prog Tryd.f4 (OpenSpec.ofChange Rows.fracTextsSpec) false w args)
      (Rows.fracTextsSpec.post enc Tryd.prog Tryd.f4 false true false false) := by
  refine returnsInHanded_of_change_and (C := Tryd.checked) (X := fun w _ => laidMetH Tryd.prog laidL w) (fun _ _ _ hh h => h.of_heap hh) own started (by kernel_rfl) Tryd.func4
    (ChangeSpec.witness_shaped (enc := enc) (C := Tryd.checked) (os := os) (X := fun w _ => laidMetH Tryd.prog laidL w) false (World.doorLaid Tryd.prog 400 os) #[.slice none 0 0, .slice none 0 0] 8 rfl (World.shaped_of_RefB (by kernel_rfl) (by kernel_rfl)) (by kernel_rfl) (by kernel_rfl) (by kernel_rfl) (door_met os _)) ?_
  intro W base args ds gs before hval0 hW _ hz hL _
  have hval : ∀ (j : Nat) t v, Tryd.f4.params[j]? = some t → args[j]? = some v → Value.okWide Tryd.prog W .any base t v := hval0
  have hW' := hW
  obtain ⟨p, q, hA0, hV, rfl, hfz, hnd⟩ := hW
  have hA : DataW.TrodAll enc Tryd.prog W 0 (fun _ => true) true Tryd.f4.params.toList args.toList ds p := hA0
  rw [Tryd.params4] at hA hval hz
  obtain ⟨v0, vs0, d0, ds0, p0, q0, hargs, rfl, rfl, h0, r0⟩ := trodAll_cons hA
  obtain ⟨v1, vs1, d1, ds1, p1, q1, rfl, rfl, rfl, h1, r1⟩ := trodAll_cons r0
  obtain ⟨rfl, rfl, rfl⟩ := trodAll_nil r1
  obtain rfl : args = #[v0, v1] := by cases args; simp_all
  obtain ⟨rfl, rfl⟩ := trodVars_none hV
  have lt0 : ∀ x ∈ p0, x.block < W.heap.size := by obtain ⟨m, hm⟩ := h0; exact DataW.trod_lt m _ _ _ hm
  have k0 := h0
  have lt1 : ∀ x ∈ p1, x.block < W.heap.size := by obtain ⟨m, hm⟩ := h1; exact DataW.trod_lt m _ _ _ hm
  have k1 := h1
  obtain ⟨ao0, m0, c0, rfl, hm0, f0⟩ := open_fracs (hval 0 32 v0 rfl rfl) h0
  obtain ⟨ao1, m1, c1, rfl, hm1, f1⟩ := open_strs (hval 1 33 v1 rfl rfl) h1 (fun n hn => by have := List.all_eq_true.1 hz _ (DataW.weights_mem_each (j := 1) (t := 33) (d := d1) rfl rfl n hn); simpa using this)
  clear hA0 hval0
  refine (ftexts_walk ao0 m0 c0 hm0 ao1 m1 c1 hm1 W (laidB_of hL) f0 f1).mono fun e W' ⟨he, bel⟩ => ?_
  subst he
  exact ⟨_, rfl, _, _, _, [], _, [], hW', trodAll_mk1 (shut_bool Tryd.underlying4 _), (trodAll_cons_mk (Below.trod laidOut (by kernel_rfl) (of_decide_eq_true (by kernel_rfl)) k0 bel lt0) (trodAll_cons_mk (Below.trod laidOut (by kernel_rfl) (of_decide_eq_true (by kernel_rfl)) k1 bel lt1) trodAll_mk0)), rfl, bel.frame _, fun h => by cases h⟩

theorem fracTexts_row : Rows.FracTextsSaid :=
  OpenClaim.holds_of_wide 4 Tryd.f4 rfl rfl rfl rfl rfl rfl rfl ⟨rfl, rfl, rfl, rfl, rfl⟩ rfl rfl rfl rfl rfl (by kernel_rfl) Tryd.func4 (by kernel_rfl)
    (of_decide_eq_true (by kernel_rfl)) (by unfold Func.isWrapper; first | (rw [if_pos (by decide +kernel)]; kernel_rfl) | (rw [if_neg (by decide +kernel)]; exact ⟨rfl, rfl⟩))
    (fun os started H enc _ => fracTexts_lifted os started H enc)
set_option maxRecDepth 100000 in
theorem fracTexts_holds : Rows.FracTextsCardSaid :=
  Claim7.holds_tied_plain_at .later [] [.data, .data, .data, .sentinel, .sentinel] true _ true
    fracTexts_row (fun _ h => by cases h) (by kernel_rfl) (fun _ h => by cases h) fracTexts_row_tie rfl ⟨rfl, rfl⟩ (by kernel_rfl) rfl
    (fun f fn hf hfn => by
      obtain rfl : f = 4 := Option.some.inj ((show Tryd.prog.funcNamed "heddle/heddlelaw4.FracTexts" = some 4 by kernel_rfl).symm.trans hf) |>.symm
      obtain rfl : fn = Tryd.f4 := (Option.some.inj (Tryd.func4.symm.trans hfn)).symm
      exact ⟨by kernel_rfl, fun j t ht => by
        rw [Tryd.params4] at ht
        rcases j with _ | _ | j
        · simp at ht; subst ht; exact (show Tryd.prog.wantsStandIn 32 = false by kernel_rfl)
        · simp at ht; subst ht; exact (show Tryd.prog.wantsStandIn 33 = false by kernel_rfl)
        · simp at ht⟩)
    (by kernel_rfl)
#print axioms fracTexts_holds
end Go.Proofs.YtboabgjgcnkelabDoor
