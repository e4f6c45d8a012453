/- PACKAGE cube: Turn, At. -/
import Derived.Test.YtlghmojjcfjibaaKW8
import Derived.Test.YtlghmojjcfjibaaDW1
namespace Go.Proofs.Ytlghmojjcfjibaa
open Go.RowKit Go.Shelf

theorem Wr.rw {w : World} {ao : Option Addr} {m N : Nat} (h : Wr w ao m N) (hm : m ≤ 9223372036854775807) (n : Int) (cap : Nat) : Rw w ⟨n, ao, m, cap, N⟩ := ⟨h.1, hm, h.2⟩
theorem wr_put {w : World} {G m N b : Nat} (h : Wr w (some ⟨G, 0, none⟩) m N) (hb : G ≠ b) (k : Nat) (u : Value) : Wr (w.setCell ⟨b, k, none⟩ u) (some ⟨G, 0, none⟩) m N :=
  ⟨h.1, fun j hj => by
    obtain ⟨g, o, e, c⟩ := h.2 j hj
    cases e
    refine ⟨G, 0, rfl, ?_⟩
    exact (((But.refl b w).set u).cell hb c)⟩
theorem own_put {w : World} {base e G m K b : Nat} {xs : List Value} (h : w.ownsRow base e 1 (.slice (some ⟨G, 0, none⟩) m K) m xs) (hb : G ≠ b) (k : Nat) (u : Value) : (w.setCell ⟨b, k, none⟩ u).ownsRow base e 1 (.slice (some ⟨G, 0, none⟩) m K) m xs :=
  by
  refine ⟨h.1, ?_⟩
  rcases h.2 with q | ⟨g, cap, cur, h1, h2, h3, h4⟩
  · exact .inl q
  · refine .inr ⟨g, cap, cur, h1, h2, ?_, h4⟩
    have e : G = g := by cases h1; rfl
    subst e
    exact (((But.refl b w).set (o := k) u).block G (Array.getElem?_eq_some_iff.1 h3).1 hb).trans h3
theorem own_base {w : World} {base base' e m : Nat} {v : Value} {xs : List Value} (h : w.ownsRow base e 1 v m xs) (hb : base' ≤ base) : w.ownsRow base' e 1 v m xs := by
  refine ⟨h.1, ?_⟩
  rcases h.2 with k | ⟨g, cap, cur, h1, h2, h3⟩
  · exact .inl k
  · exact .inr ⟨g, cap, cur, h1, Nat.le_trans hb h2, h3⟩
/-- What Turn tells of a row. -/
def tuE (n : Int) (m N : Nat) : Int := if chk n m N = 0 then (if n < 1 ∨ 4096 < n then 30 else 0) else chk n m N
end Go.Proofs.Ytlghmojjcfjibaa
