/- wanted, for every operation. -/
import Derived.Test.YteghelmbibpohaaBW37
namespace Go.Proofs.Yteghelmbibpohaa
open Go.RowKit

/-- An operation: what it asks. -/
structure Oq where
  kd : Int
  n1 : Int
  m1 : Nat
  A : Nat
  n2 : Int
  m2 : Nat
  B : Nat
  l : List Int
  J : Nat
  n : Nat → Int
  m : Nat → Nat
  N : Nat → Nat
  fr : Int
  to_ : Int
/-- This operation, in this memory. -/
structure Ow (w : World) (o : Oq) (ao : Option Addr) (ca : Nat) (bo : Option Addr) (cb : Nat) (lo : Option Addr) (ro : Option Addr) (ad : Nat → Option Addr) (cp : Nat → Nat) : Prop where
  a : Ro w ao o.m1 o.A
  am : o.m1 ≤ 1048576
  az : ao = none → o.m1 = 0 ∧ ca = 0
  b : Ro w bo o.m2 o.B
  bm : o.m2 ≤ 1048576
  bz : bo = none → o.m2 = 0 ∧ cb = 0
  l : R8 w lo o.l
  lm : o.l.length ≤ 1048576
  r : Jo Ro w ro o.J o.n o.m o.N ad cp
  rm : ∀ j, j < o.J → o.m j ≤ 1048576
  rz : ∀ j, j < o.J → ad j = none → o.m j = 0 ∧ cp j = 0
  jm : o.J ≤ 1048576
  f : o.fr ≤ 9223372036854775807
theorem Ow.below {w w' : World} {o : Oq} {ao bo lo ro : Option Addr} {ca cb : Nat} {ad : Nat → Option Addr} {cp : Nat → Nat} (h : Ow w o ao ca bo cb lo ro ad cp) (hb : Below w.heap.size w w') : Ow w' o ao ca bo cb lo ro ad cp :=
  ⟨h.a.below hb, h.am, h.az, h.b.below hb, h.bm, h.bz, h.l.below hb, h.lm, h.r.belowR hb, h.rm, h.rz, h.jm, h.f⟩
/-- What is answered to it; r: Join's answer. -/
def WS (o : Oq) (r : RS) : TS :=
  if o.kd = 1 then tR (packS o.l) else
  if o.kd = 2 then tS (unpackS o.n1 o.m1 o.A) else
  if o.kd = 3 then tE (chk o.n1 o.m1 o.A) else
  if o.kd = 4 then tM (tailS o.fr) else
  if o.kd = 5 then tR (andS o.n1 o.m1 o.A o.n2 o.m2 o.B) else
  if o.kd = 6 then tR (xorS o.n1 o.m1 o.A o.n2 o.m2 o.B) else
  if o.kd = 7 then tR (notS o.n1 o.m1 o.A) else
  if o.kd = 8 then tC (countS o.n1 o.m1 o.A) else
  if o.kd = 9 then tR (sliceS o.n1 o.m1 o.A o.fr o.to_) else
  if o.kd = 10 then tR r else tE 0
theorem wanted_any (o : Oq) (r : RS) (ao : Option Addr) (ca : Nat) (bo : Option Addr) (cb : Nat) (lo : Option Addr) (lc : Nat) (ro : Option Addr) (rc : Nat) (ad : Nat → Option Addr) (cp : Nat → Nat) (w : World) (hr : JS o.J o.n o.m o.N r) (h : Ow w o ao ca bo cb lo ro ad cp) :
    Calls Try.prog 26 #[ov o.kd o.n1 ao o.m1 ca o.n2 bo o.m2 cb lo o.l.length lc ro o.J rc o.fr o.to_] w fun e w' => ∃ v, e = .returned v ∧ TA w.heap.size w' v (WS o r) ∧ Below w.heap.size w w' := by
  obtain ⟨kd, n1, m1, A, n2, m2, B, l, J, n, m, N, fr, to_⟩ := o
  unfold WS
  simp only at hr h ⊢
  by_cases e1 : kd = 1
  · subst e1; exact wanted_pack n1 n2 fr to_ ao bo lo ro m1 m2 ca cb _ lc J rc l w rfl h.lm h.l
  rw [if_neg e1]
  by_cases e2 : kd = 2
  · subst e2; exact wanted_unpack n1 n2 fr to_ ao bo lo ro m1 m2 ca cb _ lc J rc A w h.am h.a
  rw [if_neg e2]
  by_cases e3 : kd = 3
  · subst e3; exact wanted_check n1 n2 fr to_ ao bo lo ro m1 m2 ca cb _ lc J rc A w h.am h.a
  rw [if_neg e3]
  by_cases e4 : kd = 4
  · subst e4; exact wanted_tail n1 n2 fr to_ ao bo lo ro m1 m2 ca cb _ lc J rc w h.f
  rw [if_neg e4]
  by_cases e5 : kd = 5
  · subst e5; exact wanted_and n1 n2 fr to_ ao bo lo ro m1 m2 ca cb _ lc J rc A B w h.am h.a h.bm h.b
  rw [if_neg e5]
  by_cases e6 : kd = 6
  · subst e6; exact wanted_xor n1 n2 fr to_ ao bo lo ro m1 m2 ca cb _ lc J rc A B w h.am h.a h.bm h.b
  rw [if_neg e6]
  by_cases e7 : kd = 7
  · subst e7; exact wanted_not n1 n2 fr to_ ao bo lo ro m1 m2 ca cb _ lc J rc A w h.am h.a
  rw [if_neg e7]
  by_cases e8 : kd = 8
  · subst e8; exact wanted_count n1 n2 fr to_ ao bo lo ro m1 m2 ca cb _ lc J rc A w h.am h.a
  rw [if_neg e8]
  by_cases e9 : kd = 9
  · subst e9; exact wanted_slice n1 n2 fr to_ ao bo lo ro m1 m2 ca cb _ lc J rc A w h.am h.a
  rw [if_neg e9]
  by_cases e10 : kd = 10
  · subst e10; exact wanted_join n1 n2 fr to_ ao bo lo ro m1 m2 ca cb _ lc J rc n m N ad cp r w hr h.jm h.r h.rm
  rw [if_neg e10]
  exact wanted_none kd (by omega) n1 n2 fr to_ ao bo lo ro m1 m2 ca cb _ lc J rc w
end Go.Proofs.Yteghelmbibpohaa
