import Derived.Test.YtmbhapegdbajpaaQCPoolFreshUpto
/- THE DOCUMENT'S OWN Max AND Min; all four as functions of what is asked. -/
namespace Go.Proofs.Ytmbhapegdbajpaa
open Go.RowKit Go.Shelf

/-- A list of words in new memory, or none. -/
def Nw (w w' : World) (bo : Option Addr) (M X : Nat) : Prop := (bo = none ∧ M = 0 ∧ X = 0) ∨ ∃ G, bo = some ⟨G, 0, none⟩ ∧ w.heap.size ≤ G ∧ w'.rowIs G 47 M (wf X) ∧ X < 2 ^ (64 * M)
theorem Nw.wr {w w' : World} {bo : Option Addr} {M X : Nat} (h : Nw w w' bo M X) : Wr w' bo M X := by
  rcases h with ⟨rfl, rfl, rfl⟩ | ⟨G, rfl, _, row, hX⟩
  · exact Wr.nil _
  · exact Wr.row row hX
section
variable (h v c : Int) (m N : Nat) (r s sy sx t l b q : Int)
def aH : Int := if poE h v c m N r s sy sx t l b q = 0 then (oS h.toNat r.toNat sy.toNat : Nat) else 0
def aV : Int := if poE h v c m N r s sy sx t l b q = 0 then (oS v.toNat s.toNat sx.toNat : Nat) else 0
def aC : Int := if poE h v c m N r s sy sx t l b q = 0 then c else 0
def aM : Nat := if poE h v c m N r s sy sx t l b q = 0 then oS h.toNat r.toNat sy.toNat * oS v.toNat s.toNat sx.toNat * nw c.toNat else 0
def aX (al : Bool) : Nat := if poE h v c m N r s sy sx t l b q = 0 then poN al N v.toNat (nw c.toNat) r.toNat s.toNat sy.toNat sx.toNat (oS v.toNat s.toNat sx.toNat) (oS h.toNat r.toNat sy.toNat * oS v.toNat s.toNat sx.toNat) else 0
end
theorem aM_le (h v c : Int) (m N : Nat) (r s sy sx t l b q : Int) : aM h v c m N r s sy sx t l b q ≤ 1073741824 := by
  unfold aM
  by_cases k : poE h v c m N r s sy sx t l b q = 0
  · rw [if_pos k]
    obtain ⟨H, V, C, R, S, y, x, rfl, rfl, rfl, rfl, rfl, rfl, rfl, rfl, rfl, rfl, rfl, pg⟩ := poE_zero k
    simp only [Int.toNat_natCast]
    exact (wo_bd (Nat.le_trans (oS_le pg.fH pg.hR.1) pg.hH.2) (Nat.le_trans (oS_le pg.fV pg.hS.1) pg.hV.2) pg.hC.2).2
  · rw [if_neg k]; omega
theorem max_fn (h v c : Int) (ao : Option Addr) (m cap N : Nat) (r s sy sx t l b q : Int) (w : World) (hmc : m ≤ cap) (hcap : cap ≤ 9223372036854775807) (rd : Wr w ao m N) :
    Calls Try.prog 12 #[cuv h v c ao m cap, Sg.win r s sy sx t l b q] w fun e w' => ∃ bo, e = .returned (.tuple #[cuv (aH h v c m N r s sy sx t l b q) (aV h v c m N r s sy sx t l b q) (aC h v c m N r s sy sx t l b q) bo (aM h v c m N r s sy sx t l b q) (aM h v c m N r s sy sx t l b q), .int .i64 (poE h v c m N r s sy sx t l b q)]) ∧ Nw w w' bo (aM h v c m N r s sy sx t l b q) (aX h v c m N r s sy sx t l b q false) ∧ Below w.heap.size w w' := by
  unfold aH aV aC aM aX
  by_cases k : poE h v c m N r s sy sx t l b q = 0
  · simp only [if_pos k]
    rw [k]
    obtain ⟨H, V, C, R, S, y, x, rfl, rfl, rfl, rfl, rfl, rfl, rfl, rfl, rfl, rfl, rfl, pg⟩ := poE_zero k
    obtain ⟨g, o, rfl⟩ := rd.some pg.qb.pos
    simp only [Int.toNat_natCast]
    refine (max_ok H V C R S y x g o m cap N _ _ _ w pg rfl rfl rfl hmc hcap rd).mono ?_
    rintro e w1 ⟨G, rfl, hG, row, hb⟩
    exact ⟨_, rfl, .inr ⟨G, rfl, hG, row, poN_lt _ _ _ _ _ _ _ _ _ _⟩, hb⟩
  · simp only [if_neg k]
    refine (max_bad h v c ao m cap N r s sy sx t l b q w hmc hcap rd k).mono ?_
    rintro e w1 ⟨rfl, hb⟩
    exact ⟨_, rfl, .inl ⟨rfl, rfl, rfl⟩, hb⟩
theorem min_fn (h v c : Int) (ao : Option Addr) (m cap N : Nat) (r s sy sx t l b q : Int) (w : World) (hmc : m ≤ cap) (hcap : cap ≤ 9223372036854775807) (rd : Wr w ao m N) :
    Calls Try.prog 13 #[cuv h v c ao m cap, Sg.win r s sy sx t l b q] w fun e w' => ∃ bo, e = .returned (.tuple #[cuv (aH h v c m N r s sy sx t l b q) (aV h v c m N r s sy sx t l b q) (aC h v c m N r s sy sx t l b q) bo (aM h v c m N r s sy sx t l b q) (aM h v c m N r s sy sx t l b q), .int .i64 (poE h v c m N r s sy sx t l b q)]) ∧ Nw w w' bo (aM h v c m N r s sy sx t l b q) (aX h v c m N r s sy sx t l b q true) ∧ Below w.heap.size w w' := by
  unfold aH aV aC aM aX
  by_cases k : poE h v c m N r s sy sx t l b q = 0
  · simp only [if_pos k]
    rw [k]
    obtain ⟨H, V, C, R, S, y, x, rfl, rfl, rfl, rfl, rfl, rfl, rfl, rfl, rfl, rfl, rfl, pg⟩ := poE_zero k
    obtain ⟨g, o, rfl⟩ := rd.some pg.qb.pos
    simp only [Int.toNat_natCast]
    refine (min_ok H V C R S y x g o m cap N _ _ _ w pg rfl rfl rfl hmc hcap rd).mono ?_
    rintro e w1 ⟨G, rfl, hG, row, hb⟩
    exact ⟨_, rfl, .inr ⟨G, rfl, hG, row, poN_lt _ _ _ _ _ _ _ _ _ _⟩, hb⟩
  · simp only [if_neg k]
    refine (min_bad h v c ao m cap N r s sy sx t l b q w hmc hcap rd k).mono ?_
    rintro e w1 ⟨rfl, hb⟩
    exact ⟨_, rfl, .inl ⟨rfl, rfl, rfl⟩, hb⟩
end Go.Proofs.Ytmbhapegdbajpaa
