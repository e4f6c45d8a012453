/- RankCounts: mathematics: answers counted in any order. -/
import Derived.Test.YtfdkjckoelmgeaaDoorRF1
namespace Go.Proofs.YtfdkjckoelmgeaaDoor
open Go.RowKit Go.Sort

/-- Answers counted, one after the other. -/
def adL (T : List (List Int)) (P : List (Nat × Nat)) : List (List Int) := P.foldl (fun T p => ad T p.1 p.2) T
theorem adL_snoc (T : List (List Int)) (P : List (Nat × Nat)) (p : Nat × Nat) : adL T (P ++ [p]) = ad (adL T P) p.1 p.2 := by simp [adL]
theorem ad_eq (T : List (List Int)) (i j : Nat) : ad T i j = st2 T i j (vT T i j + 1) := rfl
theorem Sc.adL {k : Nat} : ∀ {P : List (Nat × Nat)} {T : List (List Int)}, Sc k T → (∀ p ∈ P, p.1 < k ∧ p.2 < k) → Sc k (adL T P)
  | [], _, h, _ => h
  | p :: P, T, h, hp => by
    have h1 : Sc k (ad T p.1 p.2) := h.st2 (hp p List.mem_cons_self).1 _ _
    exact Sc.adL (P := P) h1 fun q hq => hp q (List.mem_cons_of_mem _ hq)
/-- How often an answer stands there. -/
def ctP (a b : Nat) (P : List (Nat × Nat)) : Int := (P.countP fun p => p.1 == a && p.2 == b : Nat)
theorem vT_adL {k : Nat} : ∀ {P : List (Nat × Nat)} {T : List (List Int)}, Sc k T → (∀ p ∈ P, p.1 < k ∧ p.2 < k) → ∀ a b, vT (adL T P) a b = vT T a b + ctP a b P
  | [], T, _, _, a, b => by simp [Go.Proofs.YtfdkjckoelmgeaaDoor.adL, ctP]
  | p :: P, T, h, hp, a, b => by
    obtain ⟨k1, k2⟩ := hp p List.mem_cons_self
    have h1 : Sc k (ad T p.1 p.2) := h.st2 k1 _ _
    have ih := vT_adL (P := P) h1 (fun q hq => hp q (List.mem_cons_of_mem _ hq)) a b
    show vT (adL (ad T p.1 p.2) P) a b = _
    rw [ih, ad_eq, vT_st2 h k1 k2]
    unfold ctP
    rw [List.countP_cons]
    by_cases e : a = p.1 ∧ b = p.2
    · obtain ⟨rfl, rfl⟩ := e
      simp; omega
    · have : ¬ ((p.1 == a && p.2 == b) = true) := by simp; intro e1 e2; exact e ⟨e1.symm, e2.symm⟩
      rw [if_neg e, if_neg this]; simp
theorem sR_adL {k : Nat} : ∀ {P : List (Nat × Nat)} {T : List (List Int)}, Sc k T → (∀ p ∈ P, p.1 < k ∧ p.2 < k) → sR (adL T P) = sR T + P.length
  | [], T, _, _ => by simp [Go.Proofs.YtfdkjckoelmgeaaDoor.adL]
  | p :: P, T, h, hp => by
    obtain ⟨k1, k2⟩ := hp p List.mem_cons_self
    have h1 : Sc k (ad T p.1 p.2) := h.st2 k1 _ _
    have ih := sR_adL (P := P) h1 fun q hq => hp q (List.mem_cons_of_mem _ hq)
    show sR (adL (ad T p.1 p.2) P) = _
    rw [ih, ad_eq, sR_st2 h k1 k2]
    simp; omega
theorem rg_vT (T : List (List Int)) : ∀ n, rg T (n + 1) = rg T n + vT T n n := fun _ => rfl
/-- How many of them were right. -/
def dgP (P : List (Nat × Nat)) : Int := (P.countP fun p => p.1 == p.2 : Nat)
theorem rg_st2 {k : Nat} {T : List (List Int)} (h : Sc k T) {i j : Nat} (hi : i < k) (hj : j < k) (x : Int) : ∀ n, rg (st2 T i j x) n = rg T n + if i = j ∧ i < n then x - vT T i j else 0
  | 0 => by simp [rg]
  | n + 1 => by
    rw [rg_vT, rg_vT, rg_st2 h hi hj x n, vT_st2 h hi hj]
    by_cases e : i = j
    · subst e
      by_cases e2 : n = i
      · subst e2; simp; omega
      · rw [if_neg (show ¬ (n = i ∧ n = i) by omega)]
        by_cases e3 : i < n
        · rw [if_pos ⟨rfl, e3⟩, if_pos ⟨rfl, by omega⟩]; omega
        · rw [if_neg (fun h => e3 h.2), if_neg (fun h => by omega)]; omega
    · rw [if_neg (show ¬ (n = i ∧ n = j) by omega), if_neg (show ¬ (i = j ∧ i < n) from fun h => e h.1), if_neg (show ¬ (i = j ∧ i < n + 1) from fun h => e h.1)]; omega
theorem rg_adL {k : Nat} : ∀ {P : List (Nat × Nat)} {T : List (List Int)}, Sc k T → (∀ p ∈ P, p.1 < k ∧ p.2 < k) → rg (adL T P) k = rg T k + dgP P
  | [], T, _, _ => by simp [Go.Proofs.YtfdkjckoelmgeaaDoor.adL, dgP]
  | p :: P, T, h, hp => by
    obtain ⟨k1, k2⟩ := hp p List.mem_cons_self
    have h1 : Sc k (ad T p.1 p.2) := h.st2 k1 _ _
    have ih := rg_adL (P := P) h1 fun q hq => hp q (List.mem_cons_of_mem _ hq)
    show rg (adL (ad T p.1 p.2) P) k = _
    rw [ih, ad_eq, rg_st2 h k1 k2]
    unfold dgP
    rw [List.countP_cons]
    by_cases e : p.1 = p.2
    · rw [if_pos ⟨e, k1⟩, if_pos (by simpa using e)]; omega
    · rw [if_neg (fun h => e h.1), if_neg (by simpa using e)]; simp
theorem rg_zero (k : Nat) : ∀ n, rg (t0 k) n = 0
  | 0 => rfl
  | n + 1 => by rw [rg_vT, rg_zero k n, t0_v]; rfl
/-- Scores with the same numbers are the same. -/
theorem Sc.ext {k : Nat} {T U : List (List Int)} (h : Sc k T) (h' : Sc k U) (he : ∀ i j, vT T i j = vT U i j) : T = U := by
  refine List.ext_getElem (by rw [h.len, h'.len]) fun i h1 h2 => ?_
  have r1 := h.row i (by rw [← h.len]; exact h1)
  have r2 := h'.row i (by rw [← h.len]; exact h1)
  rw [getD_at h1] at r1
  rw [getD_at h2] at r2
  refine List.ext_getElem (by rw [r1, r2]) fun j h3 h4 => ?_
  have := he i j
  unfold vT at this
  rwa [getD_at h1, getD_at h2, getD_at h3, getD_at h4] at this
/-- In another order it is the same score. -/
theorem adL_rev {k : Nat} {P : List (Nat × Nat)} (hp : ∀ p ∈ P, p.1 < k ∧ p.2 < k) : adL (t0 k) P.reverse = adL (t0 k) P := by
  have hp' : ∀ p ∈ P.reverse, p.1 < k ∧ p.2 < k := fun p h => hp p (List.mem_reverse.1 h)
  refine Sc.ext ((t0_sc k).adL hp') ((t0_sc k).adL hp) fun i j => ?_
  rw [vT_adL (t0_sc k) hp', vT_adL (t0_sc k) hp]
  unfold ctP
  rw [List.countP_reverse]
theorem ctP_nn (a b : Nat) (P : List (Nat × Nat)) : 0 ≤ ctP a b P := by unfold ctP; omega
theorem dgP_le (P : List (Nat × Nat)) : 0 ≤ dgP P ∧ dgP P ≤ P.length := by
  unfold dgP
  have := List.countP_le_length (p := fun p : Nat × Nat => p.1 == p.2) (l := P)
  omega
theorem dgP_snoc (P : List (Nat × Nat)) (p : Nat × Nat) : dgP (P ++ [p]) = dgP P + if p.1 = p.2 then 1 else 0 := by
  unfold dgP
  rw [List.countP_append, List.countP_singleton]
  by_cases e : p.1 = p.2 <;> simp [e]
/-- What a score of few answers tells. -/
theorem cnt_adL {k : Nat} (h1 : 1 ≤ k) (h2 : k ≤ 256) {P : List (Nat × Nat)} (hp : ∀ p ∈ P, p.1 < k ∧ p.2 < k) (hl : P.length ≤ 1000) : cnt (adL (t0 k) P) = some (P.length : Int) ∧ rV (adL (t0 k) P) = dgP P := by
  have sc := (t0_sc k).adL hp
  have hz : sR (t0 k) = 0 := sR_zero k k
  have hs := sR_adL (t0_sc k) hp
  have hc : cnt (adL (t0 k) P) = some (sR (adL (t0 k) P)) := cnt_sc sc h1 h2 (fun i j => by rw [vT_adL (t0_sc k) hp, t0_v]; have := ctP_nn i j P; omega) (by omega)
  refine ⟨by rw [hc, hs, hz]; congr 1; omega, ?_⟩
  unfold rV
  rw [if_pos (cnt_cE hc).1, sc.len, rg_adL (t0_sc k) hp, rg_zero]; omega
end Go.Proofs.YtfdkjckoelmgeaaDoor
