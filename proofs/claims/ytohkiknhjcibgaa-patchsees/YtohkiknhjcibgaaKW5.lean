/- PACKAGE cube: Flat. -/
import Derived.Test.YtohkiknhjcibgaaKW4
namespace Go.Proofs.Ytohkiknhjcibgaa
open Go.RowKit Go.Shelf
attribute [local go_sem] Oper.semAt_some

/-- All bits of those places that have come. -/
def fx (N C : Nat) {P : Nat} (s : List (Fin P)) : Nat := s.foldl (fun X x => X ||| pl N (nw C) x.1 * 2 ^ (x.1 * C)) 0
theorem fx_step (N C : Nat) {P : Nat} (s : List (Fin P)) (x : Fin P) : fx N C (s ++ [x]) = fx N C s ||| pl N (nw C) x.1 * 2 ^ (x.1 * C) := by
  unfold fx; rw [List.foldl_append]; rfl
theorem fx_upt (N C P : Nat) : ∀ (k : Nat) (hk : k ≤ P), fx N C (upt P k hk) = js C (pl N (nw C)) k
  | 0, _ => rfl
  | k + 1, hk => by
    rw [upt_succ P k hk, fx_step, fx_upt N C P k (by omega), js_succ]
/-- A result's two cells, filled. -/
theorem rs_set {w : World} {b t : Nat} {n0 : Int} {a0 : Option Addr} {m0 c0 : Nat} (h : w.rowIs b t 2 (sf n0 a0 m0 c0)) (n : Int) (ao : Option Addr) (m cap : Nat) :
    ((w.setCell ⟨b, 0, none⟩ (.int .i64 n)).setCell ⟨b, 1, none⟩ (.slice ao m cap)).rowIs b t 2 (sf n ao m cap) := ((h.set 0 _).set 1 _).congr fun k hk => by
  have : k = 0 ∨ k = 1 := by omega
  rcases this with rfl | rfl <;> simp [sf]
end Go.Proofs.Ytohkiknhjcibgaa
