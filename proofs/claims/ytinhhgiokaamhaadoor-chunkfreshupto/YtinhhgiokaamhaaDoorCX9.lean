/- CHUNKFRESH: walked. -/
import Derived.Test.YtinhhgiokaamhaaDoorCX8
namespace Go.Proofs.YtinhhgiokaamhaaDoor
open Go.RowKit

/-- The Hand and the Book, apart. -/
structure F1 (w wr : World) (S B : Nat → Prop) (hb bb ny nl : Nat) : Prop where
  i : Hi wr S hb
  b : Bi wr B bb ny nl
  d : ∀ x, S x → ¬ B x
  sl : ∀ x, S x → w.heap.size ≤ x ∧ x < wr.heap.size
  bl : ∀ x, B x → w.heap.size ≤ x ∧ x < wr.heap.size
  e : ny % 2 = 0 ∧ nl % 2 = 0
  p : BP (w.heap.size ≤ ·) w wr
theorem F1.below {w wr w1 : World} {S B : Nat → Prop} {hb bb ny nl : Nat} (h : F1 w wr S B hb bb ny nl) (hu : Below wr.heap.size wr w1) : F1 w w1 S B hb bb ny nl :=
  ⟨h.i.below hu, h.b.below hu, h.d, fun x hx => ⟨(h.sl x hx).1, by have := (h.sl x hx).2; have := hu.size; omega⟩, fun x hx => ⟨(h.bl x hx).1, by have := (h.bl x hx).2; have := hu.size; omega⟩, h.e, h.p.step hu⟩
/-- Behind told: the answer is none of the Book's, nor of the Hand's. -/
structure F2 (w wr P : World) (S' B : Nat → Prop) (hb bb ny nl : Nat) (o : Oq) (b : Option Addr) (bn : Nat) (c : Option Addr) (cn cp : Nat) (gs : List Nat) (s E : Nat) (z : Nat) : Prop where
  f : F1 w P S' B hb bb ny nl
  t : At P ⟨b, bn, c, cn, cp, gs, aB o, aC o, s, E⟩
  z : (∀ x, Ab b bn c cn cp gs x → z ≤ x) ∧ (∀ x, S' x → x < z) ∧ (∀ x, B x → x < z) ∧ w.heap.size ≤ z ∧ z ≤ P.heap.size
theorem F2.below {w wr P P1 : World} {S' B : Nat → Prop} {hb bb ny nl : Nat} {o : Oq} {b : Option Addr} {bn : Nat} {c : Option Addr} {cn cp : Nat} {gs : List Nat} {s E z : Nat} (h : F2 w wr P S' B hb bb ny nl o b bn c cn cp gs s E z) (hu : Below P.heap.size P P1) : F2 w wr P1 S' B hb bb ny nl o b bn c cn cp gs s E z :=
  ⟨h.f.below hu, h.t.below' hu, h.z.1, h.z.2.1, h.z.2.2.1, h.z.2.2.2.1, by have := h.z.2.2.2.2; have := hu.size; omega⟩
theorem F1.told {w wr W1 P : World} {S B : Nat → Prop} {hb bb ny nl : Nat} {o : Oq} {lo co bo : Option Addr} {bc : Nat} {b : Option Addr} {bn bcp : Nat} {c : Option Addr} {cn cp s E : Nat} (h : F1 w wr S B hb bb ny nl) (hm : Ow w (w.heap.size ≤ ·) o lo co bo bc) (ht : To wr W1 (fun x => S x ∨ wr.heap.size ≤ x) hb o b bn bcp c cn cp) (hP : Below W1.heap.size W1 P) :
    bn = bcp ∧ ∃ S' gs z, F2 w wr P S' B hb bb ny nl o b bn c cn cp gs s E z := by
  obtain ⟨z, gs, S', z1, z2, en, ec, hoB, hoC, hi', hS', hbcp, hne⟩ := ht.z
  subst hbcp
  have hpz := h.p.size
  have hPz := hP.size
  refine ⟨rfl, S', gs, z, ⟨hi'.below hP, (h.b.bp ht.b fun x hx h2 => ?_).below hP, fun x h1 h2 => ?_, fun x h1 => ?_, fun x h1 => ⟨(h.bl x h1).1, by have := (h.bl x h1).2; omega⟩, h.e, (h.p.trans ht.b fun x hx h2 => ?_).step hP⟩, ⟨own_mono (own_keep (S := fun _ => False) (BP.bel hP) hoB fun _ _ h => h) (Nat.zero_le _), (hoC.keep hP).mono (Nat.zero_le _), by simp only; rw [en]; exact aB_len o, by simp only; rw [ec]; exact aC_len o, aC_body hm.bn, hne, aB_lt hm⟩, fun x hx => ?_, fun x hx => (hS' x hx).2, fun x hx => by have := (h.bl x hx).2; omega, by omega, by omega⟩
  · rcases h2 with h2 | h2
    · exact h.d x h2 hx
    · have := (h.bl x hx).2; omega
  · rcases (hS' x h1).1 with h3 | h3
    · exact h.d x h3 h2
    · have := (h.bl x h2).2; omega
  · refine ⟨?_, by have := (hS' x h1).2; omega⟩
    rcases (hS' x h1).1 with h3 | h3
    · exact (h.sl x h3).1
    · omega
  · rcases h2 with h2 | h2
    · exact (h.sl x h2).1
    · omega
  · rcases hx with e1 | e1 | e1
    · exact (hoB.lt x e1).1
    · exact (hoC.own.lt x e1).1
    · exact (hoC.lt x e1).1
/-- Behind take. -/
theorem F2.take {w wr P w5 : World} {S' B : Nat → Prop} {hb bb ny nl ny' nl' : Nat} {o : Oq} {b : Option Addr} {bn : Nat} {c : Option Addr} {cn cp : Nat} {gs : List Nat} {s E z : Nat} (h : F2 w wr P S' B hb bb ny nl o b bn c cn cp gs s E z) (hb5 : Bi w5 (fun x => B x ∨ Ab b bn c cn cp gs x ∨ P.heap.size ≤ x) bb ny' nl') (bp5 : BP (fun x => B x ∨ Ab b bn c cn cp gs x) P w5) (he : ny' % 2 = 0 ∧ nl' % 2 = 0) :
    ∃ B', F1 w w5 S' B' hb bb ny' nl' := by
  have hz := h.z
  have z5 := bp5.size
  refine ⟨fun x => (B x ∨ Ab b bn c cn cp gs x ∨ P.heap.size ≤ x) ∧ x < w5.heap.size, h.f.i.bp bp5 fun x h1 h2 => ?_, hb5.sub fun x h1 h2 => ⟨h1, h2⟩, fun x h1 h2 => ?_, fun x h1 => ⟨(h.f.sl x h1).1, by have := (h.f.sl x h1).2; omega⟩, fun x h1 => ⟨?_, h1.2⟩, he, h.f.p.trans bp5 fun x hx h1 => ?_⟩
  · rcases h2 with h2 | h2
    · exact h.f.d x h1 h2
    · have := hz.1 x h2; have := hz.2.1 x h1; omega
  · rcases h2.1 with h3 | h3 | h3
    · exact h.f.d x h1 h3
    · have := hz.1 x h3; have := hz.2.1 x h1; omega
    · have := hz.2.1 x h1; omega
  · rcases h1.1 with h3 | h3 | h3
    · exact (h.f.bl x h3).1
    · have := hz.1 x h3; omega
    · omega
  · rcases h1 with h3 | h3
    · exact (h.f.bl x h3).1
    · have := hz.1 x h3; omega
/-- The second half: the Hand, the Book, the Quiet, apart. -/
structure F3 (w wr : World) (S B Q : Nat → Prop) (hb bb ny nl qb nq : Nat) : Prop where
  f : F1 w wr S B hb bb ny nl
  q : Qi wr Q qb nq
  sq : ∀ x, S x → ¬ Q x
  bq : ∀ x, B x → ¬ Q x
  ql : ∀ x, Q x → w.heap.size ≤ x ∧ x < wr.heap.size
theorem F3.asked {w wr w1 : World} {S B Q S' Q' : Nat → Prop} {hb bb ny nl qb nq nq' : Nat} (h : F3 w wr S B Q hb bb ny nl qb nq) (hi : Hi w1 S' hb) (hq : Qi w1 Q' qb nq') (h1 : ∀ x, S' x → ¬ Q' x) (h2 : ∀ x, S' x → x < w1.heap.size ∧ (S x ∨ wr.heap.size ≤ x)) (h3 : ∀ x, Q' x → x < w1.heap.size ∧ (Q x ∨ wr.heap.size ≤ x)) (hu : BP (fun x => S x ∨ Q x) wr w1) : F3 w w1 S' B Q' hb bb ny nl qb nq' := by
  have hz := hu.size
  have hp := h.f.p.size
  refine ⟨⟨hi, h.f.b.bp hu fun x hx h4 => ?_, fun x h4 h5 => ?_, fun x h4 => ⟨?_, (h2 x h4).1⟩, fun x h4 => ⟨(h.f.bl x h4).1, by have := (h.f.bl x h4).2; omega⟩, h.f.e, h.f.p.trans hu fun x hx h4 => ?_⟩, hq, h1, fun x h4 h5 => ?_, fun x h4 => ⟨?_, (h3 x h4).1⟩⟩
  · rcases h4 with h4 | h4
    · exact h.f.d x h4 hx
    · exact h.bq x hx h4
  · rcases (h2 x h4).2 with h6 | h6
    · exact h.f.d x h6 h5
    · have := (h.f.bl x h5).2; omega
  · rcases (h2 x h4).2 with h6 | h6
    · exact (h.f.sl x h6).1
    · omega
  · rcases h4 with h4 | h4
    · exact (h.f.sl x h4).1
    · exact (h.ql x h4).1
  · rcases (h3 x h5).2 with h6 | h6
    · exact h.bq x h4 h6
    · have := (h.f.bl x h4).2; omega
  · rcases (h3 x h4).2 with h6 | h6
    · exact (h.ql x h6).1
    · omega
end Go.Proofs.YtinhhgiokaamhaaDoor
