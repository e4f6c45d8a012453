/- CachePlays: two pairs of caches. -/
import Derived.Test.YtpjcpikafpnmpaaAC10
namespace Go.Proofs.Ytpjcpikafpnmpaa
open Go.RowKit

/-- A pair of caches, or none. -/
def Pn (w0 w : World) (U : Nat → Prop) (va vb : Value) (rm n : Int) : Prop :=
  (va = .pointer none ∧ vb = .pointer none) ∨ ∃ p d, va = .pointer (some ⟨p, 0, none⟩) ∧ vb = .pointer (some ⟨d, 0, none⟩) ∧ Pz w0 w U p d rm n
theorem Pn.below {w0 w w' : World} {U : Nat → Prop} {va vb : Value} {rm n : Int} (z : Pn w0 w U va vb rm n) (hb : Below w.heap.size w w') : Pn w0 w' U va vb rm n := by
  rcases z with z | ⟨p, d, e1, e2, z⟩
  · exact .inl z
  · exact .inr ⟨p, d, e1, e2, z.below hb⟩
theorem Pn.bp {w0 w w' : World} {U V : Nat → Prop} {va vb : Value} {rm n : Int} (z : Pn w0 w U va vb rm n) (hb : BP V w w') (hV : ∀ k, V k → w0.heap.size ≤ k ∧ k < w.heap.size) (hd : ∀ k, U k → ¬ V k) : Pn w0 w' U va vb rm n := by
  rcases z with z | ⟨p, d, e1, e2, z⟩
  · exact .inl z
  · exact .inr ⟨p, d, e1, e2, z.bp hb hV hd⟩
theorem Pn.le {w0 w : World} {U : Nat → Prop} {va vb : Value} {rm n n' : Int} (z : Pn w0 w U va vb rm n) (h : n ≤ n') : Pn w0 w U va vb rm n' := by
  rcases z with z | ⟨p, d, e1, e2, z⟩
  · exact .inl z
  · exact .inr ⟨p, d, e1, e2, z.more (fun _ h => h) z.1 h⟩
/-- Both pairs. -/
structure Jn (w0 : World) (U1 U2 : Nat → Prop) (va vb vc vd : Value) (r1 r2 n1 n2 : Int) (X : World) : Prop where
  a : Pn w0 X U1 va vb r1 n1
  c : Pn w0 X U2 vc vd r2 n2
  ap : ∀ k, U1 k → ¬ U2 k
  bel : Below w0.heap.size w0 X
  u1 : ∀ k, U1 k → w0.heap.size ≤ k ∧ k < X.heap.size
  u2 : ∀ k, U2 k → w0.heap.size ≤ k ∧ k < X.heap.size
section
variable {w0 : World} {U1 U2 : Nat → Prop} {va vb vc vd : Value} {r1 r2 n1 n2 : Int} {X : World}
theorem Jn.below (j : Jn w0 U1 U2 va vb vc vd r1 r2 n1 n2 X) {Y : World} (hb : Below X.heap.size X Y) : Jn w0 U1 U2 va vb vc vd r1 r2 n1 n2 Y :=
  ⟨j.a.below hb, j.c.below hb, j.ap, j.bel.trans (hb.mono j.bel.size), fun k hk => ⟨(j.u1 k hk).1, Nat.lt_of_lt_of_le (j.u1 k hk).2 hb.size⟩, fun k hk => ⟨(j.u2 k hk).1, Nat.lt_of_lt_of_le (j.u2 k hk).2 hb.size⟩⟩
theorem grown_in {w0 X Y : World} {U : Nat → Prop} (hu : ∀ k, U k → w0.heap.size ≤ k ∧ k < X.heap.size) (h0 : w0.heap.size ≤ X.heap.size) (hz : X.heap.size ≤ Y.heap.size) : ∀ k, grown U X Y k → w0.heap.size ≤ k ∧ k < Y.heap.size := fun k hk => by
  rcases hk with h | h
  · exact ⟨(hu k h).1, Nat.lt_of_lt_of_le (hu k h).2 hz⟩
  · exact ⟨by omega, h.2⟩
theorem Jn.turn1 (j : Jn w0 U1 U2 va vb vc vd r1 r2 n1 n2 X) {Y : World} {p d : Nat} {n1' : Int} (z : Pz w0 Y (grown U1 X Y) p d r1 n1') (b : BP U1 X Y) : Jn w0 (grown U1 X Y) U2 (.pointer (some ⟨p, 0, none⟩)) (.pointer (some ⟨d, 0, none⟩)) vc vd r1 r2 n1' n2 Y := by
  refine ⟨.inr ⟨p, d, rfl, rfl, z⟩, j.c.bp b j.u1 fun k hk h => j.ap k h hk, fun k hk h2 => ?_, z.bel, grown_in j.u1 j.bel.size b.size, fun k hk => ⟨(j.u2 k hk).1, Nat.lt_of_lt_of_le (j.u2 k hk).2 b.size⟩⟩
  rcases hk with h | h
  · exact j.ap k h h2
  · have := (j.u2 k h2).2; omega
theorem Jn.turn2 (j : Jn w0 U1 U2 va vb vc vd r1 r2 n1 n2 X) {Y : World} {p d : Nat} {n2' : Int} (z : Pz w0 Y (grown U2 X Y) p d r2 n2') (b : BP U2 X Y) : Jn w0 U1 (grown U2 X Y) va vb (.pointer (some ⟨p, 0, none⟩)) (.pointer (some ⟨d, 0, none⟩)) r1 r2 n1 n2' Y := by
  refine ⟨j.a.bp b j.u2 fun k hk h => j.ap k hk h, .inr ⟨p, d, rfl, rfl, z⟩, fun k hk h2 => ?_, z.bel, fun k hk => ⟨(j.u1 k hk).1, Nat.lt_of_lt_of_le (j.u1 k hk).2 b.size⟩, grown_in j.u2 j.bel.size b.size⟩
  rcases h2 with h | h
  · exact j.ap k hk h
  · have := (j.u1 k hk).2; omega
/-- What other memory is turned. -/
theorem Jn.other (j : Jn w0 U1 U2 va vb vc vd r1 r2 n1 n2 X) {Y : World} {V : Nat → Prop} (b : BP V X Y) (hV : ∀ k, V k → w0.heap.size ≤ k ∧ k < X.heap.size) (h1 : ∀ k, U1 k → ¬ V k) (h2 : ∀ k, U2 k → ¬ V k) : Jn w0 U1 U2 va vb vc vd r1 r2 n1 n2 Y :=
  ⟨j.a.bp b hV h1, j.c.bp b hV h2, j.ap, cw_bel hV j.bel b, fun k hk => ⟨(j.u1 k hk).1, Nat.lt_of_lt_of_le (j.u1 k hk).2 b.size⟩, fun k hk => ⟨(j.u2 k hk).1, Nat.lt_of_lt_of_le (j.u2 k hk).2 b.size⟩⟩
theorem Jn.le (j : Jn w0 U1 U2 va vb vc vd r1 r2 n1 n2 X) {n1' n2' : Int} (h1 : n1 ≤ n1') (h2 : n2 ≤ n2') : Jn w0 U1 U2 va vb vc vd r1 r2 n1' n2' X :=
  ⟨j.a.le h1, j.c.le h2, j.ap, j.bel, j.u1, j.u2⟩
/-- The second pair is another. -/
theorem Jn.set2 (j : Jn w0 U1 U2 va vb vc vd r1 r2 n1 n2 X) {V : Nat → Prop} {vx vy : Value} {n : Int} (z : Pn w0 X V vx vy r2 n) (hV : ∀ k, V k → w0.heap.size ≤ k ∧ k < X.heap.size) (hd : ∀ k, U1 k → ¬ V k) : Jn w0 U1 V va vb vx vy r1 r2 n1 n X :=
  ⟨j.a, z, hd, j.bel, j.u1, hV⟩
end
/-- A new pair's caches, made one after the other. -/
theorem new_pair {w0 X Y Z : World} {S : Nat → Prop} {p bm d : Nat} {rm : Int} (c : Cw w0 Y S p rm bm 0 0 []) (hS : ∀ k, S k → X.heap.size ≤ k) (h0 : w0.heap.size ≤ X.heap.size) (bl : Below X.heap.size X Y) (r : Rv Z (fun k => k = d) d rm 0 0 (.slice none 0 0) []) (hd : Y.heap.size ≤ d) (bz : Below Y.heap.size Y Z) :
    Pz w0 Z (fun k => X.heap.size ≤ k ∧ k < Z.heap.size) p d rm 0 := by
  have hz := bl.size
  have hz2 := bz.size
  refine ⟨fun k hk => ⟨by omega, hk.2⟩, S, fun k => k = d, bm, 0, 0, [], _, [], ⟨c.below bz, r, rfl, fun k hk => ?_, fun k hk h => ?_⟩, by omega, fun k hk => ?_⟩
  · subst hk; exact ⟨by omega, r.box.lt⟩
  · subst h; have := (c.ns k hk).2; omega
  · rcases hk with hk | hk
    · exact ⟨hS k hk, Nat.lt_of_lt_of_le (c.ns k hk).2 bz.size⟩
    · subst hk; exact ⟨by omega, r.box.lt⟩
end Go.Proofs.Ytpjcpikafpnmpaa
