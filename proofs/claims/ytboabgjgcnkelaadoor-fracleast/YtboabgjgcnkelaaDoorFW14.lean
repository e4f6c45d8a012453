/- FRACLEAST: THE WHOLE. -/
import Derived.Test.YtboabgjgcnkelaaDoorFW13
namespace Go.Proofs.YtboabgjgcnkelaaDoor
open Go.RowKit Go.Shelf

theorem red_fr {n d : Int} (h : Fr n d) : Fr (rn n d) (rd n d) := by
  have a := rn_bd (n := n) (d := d) (B := 2147483647) (by have := h.1; omega) h.2.2.1 h.2.2.2
  have b := rd_pos (n := n) (d := d) (by have := h.1; omega)
  have c := rd_le (n := n) (d := d) (by have := h.1; omega)
  exact ⟨by omega, by have := h.2.1; omega, a.1, a.2⟩
theorem times_le {n k A q : Int} (hk : 0 < k) (h : n ≤ q) (hq : q * k ≤ A) : n * k ≤ A := by
  have := Int.mul_le_mul_of_nonneg_right h (show 0 ≤ k by omega)
  omega
theorem fleast_walk (n0 d0 n1 d1 k : Int) (w : World) (L : LaidP w) :
    Calls Tryd.prog 5 #[fr n0 d0, fr n1 d1, .int .i64 k] w fun e w' => e = .returned (.bool true) ∧ Below w.heap.size w w' := by
  have f := tame_fr n0 d0
  have g := tame_fr n1 d1
  have T0 := tame_any n0 d0
  have T1 := tame_any n1 d1
  generalize tmN n0 = fn at *
  generalize tmD d0 = fd at *
  generalize tmN n1 = gn at *
  generalize tmD d1 = gd' at *
  have pf : 0 < fd := by have := f.1; omega
  have pg : 0 < gd' := by have := g.1; omega
  have R1 := reduce_ok fn fd f
  have R2 := reduce_ok gn gd' g
  have r := red_fr f
  have rc := red_cop (n := fn) pf
  have rp := rd_pos (n := fn) pf
  have R3 := reduce_ok (rn fn fd) (rd fn fd) r
  have rs := red_self rp rc
  rw [rs.1, rs.2] at R3
  have C1 := fcmp_any fn fd (rn fn fd) (rd fn fd)
  have e1 : fn * rd fn fd = rn fn fd * fd := (same_iff pf rp).mpr ⟨rs.1.symm, rs.2.symm⟩
  rw [cmF_ok f r, ceF_ok f r, e1, cmp_eq] at C1
  have C2 := fcmp_any fn fd gn gd'
  rw [cmF_ok f g, ceF_ok f g] at C2
  have G := common_any (rn fn fd) (rd fn fd) r.2.2 ⟨rp, by have := r.2.1; omega⟩
  rw [rc] at G
  refine fleast_core n0 d0 n1 d1 k fn fd gn gd' _ _ _ _ _ (hid1 T0) (hid1 T1) (hid1 R1) (hid1 R2) (hid1 R3) (hid1 C1) (hid1 C2) (hid1 G) r.1 (hid1 ?_) (hid1 ?_) w L
  · by_cases e : fn * gd' = gn * fd
    · left
      refine ⟨by rw [e]; exact cmp_eq _, ?_⟩
      exact (same_iff pf pg).mp e
    · right
      have h0 : (cmpN (fn * gd') (gn * fd) == 0) = false := by
        refine beq_false_of_ne ?_
        unfold cmpN
        split
        · omega
        · omega
      by_cases h1 : rn fn fd = rn gn gd'
      · right
        refine ⟨h0, fun h2 => e ?_⟩
        exact (same_iff pf pg).mpr ⟨h1, h2⟩
      · left; exact ⟨h0, h1⟩
  · intro k1 k2 k3 k4 k5
    have kp : 0 < k := by omega
    obtain ⟨_, _, m1⟩ := quo_bd (A := 2147483647) (k := k) (by decide) kp
    obtain ⟨_, _, m2⟩ := quo_bd (A := 1048576) (k := k) (by decide) kp
    rw [quo_neg] at k4
    have u1 := times_le kp k3 m1
    have u2 := times_le kp k5 m2
    have u3 := times_le (n := -fn) kp (by omega) m1
    rw [Int.neg_mul] at u3
    have u4 : 1 ≤ fd * k := by
      have := Int.mul_le_mul_of_nonneg_right f.1 (show 0 ≤ k by omega)
      omega
    have hf : Fr (fn * k) (fd * k) := ⟨u4, u2, by omega, u1⟩
    have R := reduce_ok (fn * k) (fd * k) hf
    have t := red_times (n := fn) (d := fd) (k := k) pf kp
    rw [t.1, t.2] at R
    exact ⟨by unfold wrap64; omega, by unfold wrap64; omega, R⟩
end Go.Proofs.YtboabgjgcnkelaaDoor
