import Derived.Test.YtmbhapegdbajpaaQAPoolFreshUpto
/- THE DOCUMENT'S OWN Check. -/
namespace Go.Proofs.Ytmbhapegdbajpaa
open Go.RowKit Go.Shelf

theorem place_shr {N C p : Nat} (h0 : 0 < C) (hr : C % 64 ≠ 0) : wd N (p * nw C + (nw C - 1)) / 2 ^ (C % 64) = 0 ↔ pl N (nw C) p < 2 ^ C := by
  have hd : nw C - 1 < nw C := by unfold nw; omega
  rw [← pl_wd hd]
  exact last_shr h0 hr (pl_lt N (nw C) p)
theorem place_full {N C p : Nat} (hr : C % 64 = 0) : pl N (nw C) p < 2 ^ C := by
  have := pl_lt N (nw C) p
  rwa [show 64 * nw C = C by unfold nw; omega] at this
end Go.Proofs.Ytmbhapegdbajpaa
