/- SCORES: plain mathematics: how many answers a table counts. -/
import Derived.Test.YtfdkjckoelmgeaaDoorProg
namespace Go.Proofs.YtfdkjckoelmgeaaDoor

/-- A row's numbers, counted from a on: nothing where one may not be. -/
def c1 (a : Int) : List Int → Option Int
  | [] => some a
  | x :: r => if x < 0 ∨ 4611686018427387904 - a < x then none else c1 (a + x) r
/-- Rows of k numbers. -/
def cR (k : Nat) (a : Int) : List (List Int) → Option Int
  | [] => some a
  | r :: t => if r.length = k then (match c1 a r with | none => none | some b => cR k b t) else none
/-- A score. -/
def cnt (T : List (List Int)) : Option Int := if 1 ≤ T.length ∧ T.length ≤ 256 then cR T.length 0 T else none
def sm (l : List Int) : Int := l.foldr (· + ·) 0
def sR (T : List (List Int)) : Int := T.foldr (fun r a => sm r + a) 0
theorem sm_cons (x : Int) (l : List Int) : sm (x :: l) = x + sm l := rfl
theorem sR_cons (r : List Int) (T : List (List Int)) : sR (r :: T) = sm r + sR T := rfl
theorem sm_nn : ∀ {l : List Int}, (∀ x ∈ l, 0 ≤ x) → 0 ≤ sm l
  | [], _ => by simp [sm]
  | x :: r, h => by
    have := sm_nn (l := r) fun y hy => h y (List.mem_cons_of_mem _ hy)
    have := h x List.mem_cons_self
    rw [sm_cons]; omega
theorem sR_nn : ∀ {T : List (List Int)}, (∀ r ∈ T, ∀ x ∈ r, 0 ≤ x) → 0 ≤ sR T
  | [], _ => by simp [sR]
  | r :: T, h => by
    have := sR_nn (T := T) fun y hy => h y (List.mem_cons_of_mem _ hy)
    have := sm_nn (h r List.mem_cons_self)
    rw [sR_cons]; omega
theorem c1_some : ∀ {l : List Int} {a b : Int}, c1 a l = some b → (∀ x ∈ l, 0 ≤ x) ∧ b = a + sm l ∧ (a ≤ 4611686018427387904 → b ≤ 4611686018427387904)
  | [], a, b, h => by simp [c1] at h; simp [sm, h]
  | x :: r, a, b, h => by
    unfold c1 at h
    split at h
    · cases h
    · obtain ⟨h1, h2, h3⟩ := c1_some h
      refine ⟨fun y hy => ?_, ?_, fun ha => h3 (by omega)⟩
      · rcases List.mem_cons.1 hy with rfl | hy
        · omega
        · exact h1 y hy
      · rw [sm_cons]; omega
theorem c1_is : ∀ {l : List Int} {a : Int}, (∀ x ∈ l, 0 ≤ x) → a + sm l ≤ 4611686018427387904 → c1 a l = some (a + sm l)
  | [], a, _, _ => by simp [c1, sm]
  | x :: r, a, h, hs => by
    have h0 := h x List.mem_cons_self
    have h1 := sm_nn (l := r) fun y hy => h y (List.mem_cons_of_mem _ hy)
    rw [sm_cons] at hs ⊢
    unfold c1
    rw [if_neg (by omega), c1_is (fun y hy => h y (List.mem_cons_of_mem _ hy)) (by omega)]
    congr 1; omega
theorem cR_some {k : Nat} : ∀ {T : List (List Int)} {a b : Int}, cR k a T = some b → (∀ r ∈ T, r.length = k ∧ ∀ x ∈ r, 0 ≤ x) ∧ b = a + sR T ∧ (a ≤ 4611686018427387904 → b ≤ 4611686018427387904)
  | [], a, b, h => by simp [cR] at h; simp [sR, h]
  | r :: T, a, b, h => by
    unfold cR at h
    split at h
    · rename_i hk
      split at h
      · cases h
      · rename_i c hc
        obtain ⟨h1, h2, h3⟩ := c1_some hc
        obtain ⟨k1, k2, k3⟩ := cR_some h
        refine ⟨fun y hy => ?_, ?_, fun ha => k3 (h3 ha)⟩
        · rcases List.mem_cons.1 hy with rfl | hy
          · exact ⟨hk, h1⟩
          · exact k1 y hy
        · rw [sR_cons]; omega
    · cases h
theorem cR_is {k : Nat} : ∀ {T : List (List Int)} {a : Int}, (∀ r ∈ T, r.length = k ∧ ∀ x ∈ r, 0 ≤ x) → a + sR T ≤ 4611686018427387904 → cR k a T = some (a + sR T)
  | [], a, _, _ => by simp [cR, sR]
  | r :: T, a, h, hs => by
    have h0 := h r List.mem_cons_self
    have h1 := sR_nn (T := T) fun y hy => (h y (List.mem_cons_of_mem _ hy)).2
    rw [sR_cons] at hs ⊢
    unfold cR
    rw [if_pos h0.1, c1_is h0.2 (by omega)]
    show cR k (a + sm r) T = _
    rw [cR_is (fun y hy => h y (List.mem_cons_of_mem _ hy)) (by omega)]
    congr 1; omega
/-- A score that may be, told plainly. -/
theorem cnt_some {T : List (List Int)} {b : Int} (h : cnt T = some b) : 1 ≤ T.length ∧ T.length ≤ 256 ∧ (∀ r ∈ T, r.length = T.length ∧ ∀ x ∈ r, 0 ≤ x) ∧ b = sR T ∧ b ≤ 4611686018427387904 ∧ 0 ≤ b := by
  unfold cnt at h
  split at h
  · rename_i hk
    obtain ⟨h1, h2, h3⟩ := cR_some h
    have h4 := sR_nn fun y hy => (h1 y hy).2
    exact ⟨hk.1, hk.2, h1, by omega, h3 (by omega), by omega⟩
  · cases h
theorem cnt_is {T : List (List Int)} (h1 : 1 ≤ T.length) (h2 : T.length ≤ 256) (h3 : ∀ r ∈ T, r.length = T.length ∧ ∀ x ∈ r, 0 ≤ x) (h4 : sR T ≤ 4611686018427387904) : cnt T = some (sR T) := by
  unfold cnt
  rw [if_pos ⟨h1, h2⟩, cR_is h3 (by omega)]
  congr 1; omega
theorem cnt_none {T : List (List Int)} (h : 1 ≤ T.length → T.length ≤ 256 → (∀ r ∈ T, r.length = T.length ∧ ∀ x ∈ r, 0 ≤ x) → sR T ≤ 4611686018427387904 → False) : cnt T = none := by
  cases hc : cnt T with
  | none => rfl
  | some b =>
    obtain ⟨a1, a2, a3, a4, a5, _⟩ := cnt_some hc
    exact (h a1 a2 a3 (by omega)).elim
/-- A row's places changed. -/
theorem sm_set : ∀ {l : List Int} {j : Nat} {x y : Int}, l[j]? = some x → sm (l.set j y) = sm l - x + y
  | [], j, x, y, h => by simp at h
  | z :: r, 0, x, y, h => by simp at h; subst h; simp only [List.set, sm_cons]; omega
  | z :: r, j + 1, x, y, h => by
    have := sm_set (l := r) (j := j) (x := x) (y := y) (by simpa using h)
    simp only [List.set, sm_cons]; omega
theorem sR_set : ∀ {T : List (List Int)} {i : Nat} {r s : List Int}, T[i]? = some r → sR (T.set i s) = sR T - sm r + sm s
  | [], i, r, s, h => by simp at h
  | z :: T, 0, r, s, h => by simp at h; subst h; simp only [List.set, sR_cons]; omega
  | z :: T, i + 1, r, s, h => by
    have := sR_set (T := T) (i := i) (r := r) (s := s) (by simpa using h)
    simp only [List.set, sR_cons]; omega
theorem sm_zero (k : Nat) : sm (List.replicate k 0) = 0 := by
  induction k with
  | zero => rfl
  | succ k ih => rw [List.replicate_succ, sm_cons, ih]; rfl
theorem sR_zero (k m : Nat) : sR (List.replicate m (List.replicate k 0)) = 0 := by
  induction m with
  | zero => rfl
  | succ m ih => rw [List.replicate_succ, sR_cons, ih, sm_zero]; rfl
end Go.Proofs.YtfdkjckoelmgeaaDoor
