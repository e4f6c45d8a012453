/- PACKAGE cube: Unpack. -/
import Derived.Test.YtohkiknhjcibgaaKW3
namespace Go.Proofs.Ytohkiknhjcibgaa
open Go.RowKit Go.Shelf
attribute [local go_sem] Oper.semAt_some

/-- An element's sign. -/
def uv (N C j : Nat) : Int := sg (pl N (nw C) (j / C)) (j % C)
theorem info_i8k : (Try.prog.info? 50).map (fun i => (i.zero, i.size, i.bytes)) = some (some (.int .i8 0), 1, 1) := by kernel_rfl
theorem und_i8sk : Try.prog.underlying 69 = some (.slice 50) := by kernel_rfl
theorem keepsFrom_but {B G t n : Nat} {f : Nat → Value} {W W' : World} (h : But G W W') (r : W.rowIs G t n f) : KeepsFrom B W W' :=
  ⟨h.size, fun k o _ hk ho => by
    have hlt : k < W.heap.size := (Array.getElem?_eq_some_iff.1 hk).1
    refine (h.block k hlt fun e => ?_).trans hk
    subst e
    obtain ⟨cs, hb, _⟩ := r
    rw [hb] at hk
    cases hk
    simp [Obj.isCells] at ho⟩
theorem Wr.place {w : World} {g o m N d i : Nat} (h : Wr w (some ⟨g, o, none⟩) m N) (hi : i * d + d ≤ m) : Wr w (some ⟨g, o + i * d, none⟩) d (pl N d i) :=
  ⟨pl_lt _ _ _, fun k hk => by
    obtain ⟨g', o', e, c⟩ := h.2 (i * d + k) (by omega)
    cases e
    refine ⟨g, o + i * d, rfl, ?_⟩
    rw [Nat.add_assoc, c]
    unfold wf
    rw [pl_wd hk]⟩
/-- The values of those places that have come. -/
def vf (N C : Nat) (s : List Nat) : Nat → Value := fun j => if j / C ∈ s then .int .i8 (uv N C j) else .int .i8 0
theorem vf_step {N C x : Nat} (hC : 0 < C) (s : List Nat) (j : Nat) : uf (vf N C s) (pl N (nw C) x) (x * C) C j = vf N C (s ++ [x]) j := by
  have e : (x * C ≤ j ∧ j < x * C + C) ↔ j / C = x := by
    constructor
    · rintro ⟨a, b⟩
      exact Nat.div_eq_of_lt_le a (by rw [Nat.succ_mul]; exact b)
    · rintro rfl
      have := Nat.div_add_mod j C
      have l := Nat.mod_lt j hC
      rw [Nat.mul_comm] at this
      omega
  unfold uf vf
  by_cases h : x * C ≤ j ∧ j < x * C + C
  · rw [if_pos h]
    have hx := e.1 h
    rw [if_pos (by rw [hx]; simp)]
    unfold gf uv
    rw [hx]
    have : j - x * C = j % C := by
      have := Nat.div_add_mod j C
      rw [hx, Nat.mul_comm] at this
      omega
    rw [this]
  · rw [if_neg h]
    have hx : ¬ j / C = x := fun k => h (e.2 k)
    by_cases h2 : j / C ∈ s
    · rw [if_pos h2, if_pos (by simp [h2])]
    · rw [if_neg h2, if_neg (by simp [h2, hx])]
end Go.Proofs.Ytohkiknhjcibgaa
