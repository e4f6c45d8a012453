import Derived.Test.YtmbhapegdbajpaaQBPoolFreshUpto
import Derived.Test.YtmbhapegdbajpaaQAPoolFreshUpto
import Derived.Test.YtmbhapegdbajpaaSW8
/- THE DOCUMENT'S OWN Bit. -/
namespace Go.Proofs.Ytmbhapegdbajpaa
open Go.RowKit Go.Shelf

theorem bit_at (N j r : Nat) (hr : r < 64) : (wd N j &&& 2 ^ r = 0) ↔ N.testBit (64 * j + r) = false := by
  have h := wd_bit N j r
  simp only [hr, decide_true, Bool.true_and] at h
  rw [← h]
  constructor
  · intro e
    have := congrArg (fun x => Nat.testBit x r) e
    simpa [Nat.testBit_and, Nat.testBit_two_pow_self] using this
  · intro e
    refine Nat.eq_of_testBit_eq fun i => ?_
    rw [Nat.testBit_and, Nat.testBit_two_pow]
    by_cases hi : r = i
    · subst hi; simp [e]
    · simp [hi]
end Go.Proofs.Ytmbhapegdbajpaa
/- THE DOCUMENT'S OWN pooled. -/
namespace Go.Proofs.Ytmbhapegdbajpaa
open Go.RowKit Go.Shelf

theorem sum4 {t l b q : Int} (ht : 0 ≤ t ∧ t ≤ 14) (hl : 0 ≤ l ∧ l ≤ 14) (hb : 0 ≤ b ∧ b ≤ 14) (hq : 0 ≤ q ∧ q ≤ 14) : IntKind.i64.wrap (t + l) = t + l ∧ IntKind.i64.wrap (t + l + b) = t + l + b ∧ IntKind.i64.wrap (t + l + b + q) = t + l + b + q := by
  rw [IntKind.wrap_i64, IntKind.wrap_i64, IntKind.wrap_i64]
  omega
end Go.Proofs.Ytmbhapegdbajpaa
/- THE DOCUMENT'S OWN pooled: what is right. -/
namespace Go.Proofs.Ytmbhapegdbajpaa
open Go.RowKit Go.Shelf

structure Pq (w W : World) (H V C R S y x OH OW g o m cap bS bC G M X : Nat) : Prop where
  cu : W.rowIs w.heap.size 35 4 (cf H V C (some ⟨g, o, none⟩) m cap)
  wi : Sg.Wn W (w.heap.size + 1) 0 R S y x 0 0 0 0
  re : W.rowIs (w.heap.size + 2) 35 4 (cf 0 0 0 none 0 0)
  sh : W.rowIs bS 32 3 (hf OH OW C)
  ou : W.rowIs bC 35 4 (cf OH OW C (some ⟨G, 0, none⟩) M M)
  row : W.rowIs G 47 M (wf X)
  be : Below w.heap.size w W
theorem Pq.keep {w W W' : World} {H V C R S y x OH OW g o m cap bS bC G M X : Nat} (h : Pq w W H V C R S y x OH OW g o m cap bS bC G M X) (hb : Below W.heap.size W W') : Pq w W' H V C R S y x OH OW g o m cap bS bC G M X :=
  ⟨keepr hb h.cu, h.wi.keep hb, keepr hb h.re, keepr hb h.sh, keepr hb h.ou, keepr hb h.row, bl_step h.be hb⟩
theorem Pq.put {w W W' : World} {H V C R S y x OH OW g o m cap bS bC G M X Y : Nat} (h : Pq w W H V C R S y x OH OW g o m cap bS bC G M X) (hG : w.heap.size + 2 < G) (h1 : bS ≠ G) (h2 : bC ≠ G) (hr : W'.rowIs G 47 M (wf Y)) (hb : But G W W') : Pq w W' H V C R S y x OH OW g o m cap bS bC G M Y :=
  ⟨hb.row (by omega) h.cu, Wn.butU h.wi hb (by omega), hb.row (by omega) h.re, hb.row h1 h.sh, hb.row h2 h.ou, hr, hb.below (by omega) h.be.size h.be⟩
theorem kpR {W X : World} {b : Nat} {v0 v1 v2 v3 v4 v5 v6 v7 : Value} (h : (W.cell? ⟨b, 0, none⟩ = some v0 ∧ W.cell? ⟨b, 1, none⟩ = some v1 ∧ W.cell? ⟨b, 2, none⟩ = some v2 ∧ W.cell? ⟨b, 3, none⟩ = some v3) ∧ W.cell? ⟨b + 1, 0, none⟩ = some v4 ∧ W.cell? ⟨b + 1, 1, none⟩ = some v5 ∧ W.cell? ⟨b + 1, 2, none⟩ = some v6 ∧ W.cell? ⟨b + 1, 3, none⟩ = some v7) (hb : Below W.heap.size W X) :
    (X.cell? ⟨b, 0, none⟩ = some v0 ∧ X.cell? ⟨b, 1, none⟩ = some v1 ∧ X.cell? ⟨b, 2, none⟩ = some v2 ∧ X.cell? ⟨b, 3, none⟩ = some v3) ∧ X.cell? ⟨b + 1, 0, none⟩ = some v4 ∧ X.cell? ⟨b + 1, 1, none⟩ = some v5 ∧ X.cell? ⟨b + 1, 2, none⟩ = some v6 ∧ X.cell? ⟨b + 1, 3, none⟩ = some v7 := by
  obtain ⟨⟨a0, a1, a2, a3⟩, b0, b1, b2, b3⟩ := h
  exact ⟨⟨keepc hb a0, keepc hb a1, keepc hb a2, keepc hb a3⟩, keepc hb b0, keepc hb b1, keepc hb b2, keepc hb b3⟩
end Go.Proofs.Ytmbhapegdbajpaa
