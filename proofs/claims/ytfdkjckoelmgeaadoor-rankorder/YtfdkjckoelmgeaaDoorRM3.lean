/- A SCORE WRITTEN: plain mathematics: its text, how many were right. -/
import Derived.Test.YtfdkjckoelmgeaaDoorRM1
import Derived.Lib.ItoaLen
import Derived.Lib.ItoaNum
namespace Go.Proofs.YtfdkjckoelmgeaaDoor

/-- The first k numbers of a row, a sign between each two. -/
def pre (b : UInt8) (l : List Int) : Nat → List UInt8
  | 0 => []
  | k + 1 => (pre b l k ++ if k = 0 then [] else [b]) ++ Lib.itoa (l.getD k 0)
/-- A line. -/
def lin (b : UInt8) (l : List Int) : List UInt8 := pre b l l.length ++ [10]
/-- The first k lines. -/
def lns (T : List (List Int)) : Nat → List UInt8
  | 0 => []
  | k + 1 => lns T k ++ lin 32 (T.getD k [])
/-- How many were right, of the first k rows. -/
def rg (T : List (List Int)) : Nat → Int
  | 0 => 0
  | k + 1 => rg T k + (T.getD k []).getD k 0
/-- All of it. -/
def shw (T : List (List Int)) : List UInt8 := lns T T.length ++ lin 47 [rg T T.length, sR T]
def i64In (x : Int) : Prop := -9223372036854775808 ≤ x ∧ x ≤ 9223372036854775807
theorem pre_len (b : UInt8) {l : List Int} (h : ∀ x ∈ l, i64In x) : ∀ k, k ≤ l.length → (pre b l k).length ≤ 22 * k
  | 0, _ => by simp [pre]
  | k + 1, hk => by
    have h1 := pre_len b h k (by omega)
    have h2 : i64In (l.getD k 0) := by
      rw [List.getD_eq_getElem?_getD, List.getElem?_eq_getElem (show k < l.length by omega)]
      exact h _ (List.getElem_mem _)
    have h3 := Lib.itoa_length_le _ h2.1 h2.2
    simp only [pre, List.length_append]
    split <;> simp only [List.length_cons, List.length_nil] <;> omega
theorem lin_len (b : UInt8) {l : List Int} (h : ∀ x ∈ l, i64In x) : (lin b l).length ≤ 22 * l.length + 1 := by
  have := pre_len b h l.length (Nat.le_refl _)
  simp only [lin, List.length_append, List.length_cons, List.length_nil]
  omega
theorem lns_len {T : List (List Int)} {n : Nat} (h : ∀ r ∈ T, r.length ≤ n ∧ ∀ x ∈ r, i64In x) : ∀ k, k ≤ T.length → (lns T k).length ≤ k * (22 * n + 1)
  | 0, _ => by simp [lns]
  | k + 1, hk => by
    have h1 := lns_len h k (by omega)
    have h2 := h (T.getD k []) (by
      rw [List.getD_eq_getElem?_getD, List.getElem?_eq_getElem (show k < T.length by omega)]
      exact List.getElem_mem _)
    have h3 := lin_len 32 h2.2
    simp only [lns, List.length_append, Nat.add_mul]
    have : 22 * (T.getD k []).length ≤ 22 * n := Nat.mul_le_mul_left _ h2.1
    omega
theorem sm_ge {l : List Int} (h : ∀ x ∈ l, 0 ≤ x) (k : Nat) : 0 ≤ l.getD k 0 ∧ l.getD k 0 ≤ sm l := by
  induction l generalizing k with
  | nil => simp [sm]
  | cons x r ih =>
    have h0 := h x List.mem_cons_self
    have hr := sm_nn (l := r) fun y hy => h y (List.mem_cons_of_mem _ hy)
    cases k with
    | zero => simp only [List.getD_cons_zero, sm_cons]; omega
    | succ k =>
      have := ih (fun y hy => h y (List.mem_cons_of_mem _ hy)) k
      simp only [List.getD_cons_succ, sm_cons]; omega
theorem sR_take {T : List (List Int)} (h : ∀ r ∈ T, ∀ x ∈ r, 0 ≤ x) : ∀ k, k ≤ T.length → 0 ≤ rg T k ∧ rg T k ≤ sR (T.take k)
  | 0, _ => by simp [rg, sR]
  | k + 1, hk => by
    obtain ⟨h1, h2⟩ := sR_take h k (by omega)
    have hk' : k < T.length := by omega
    have e : T.getD k [] = T[k] := by rw [List.getD_eq_getElem?_getD, List.getElem?_eq_getElem hk']; rfl
    have h3 := sm_ge (h T[k] (List.getElem_mem hk')) k
    have h4 : ∀ (A : List (List Int)) (r : List Int), sR (A ++ [r]) = sR A + sm r := by
      intro A r
      induction A with
      | nil => simp [sR]
      | cons a A ih => rw [List.cons_append, sR_cons, sR_cons, ih]; omega
    rw [List.take_add_one, List.getElem?_eq_getElem hk']
    simp only [Option.toList_some, rg, e, h4]
    omega
theorem sR_le {T : List (List Int)} (h : ∀ r ∈ T, ∀ x ∈ r, 0 ≤ x) (k : Nat) : sR (T.take k) ≤ sR T := by
  induction T generalizing k with
  | nil => simp [sR]
  | cons r T ih =>
    cases k with
    | zero =>
      have := sR_nn h
      simp only [List.take_zero]; exact this
    | succ k =>
      have := ih (fun y hy => h y (List.mem_cons_of_mem _ hy)) k
      simp only [List.take_succ_cons, sR_cons]; omega
/-- What is right is never more than all. -/
theorem rg_bd {T : List (List Int)} {b : Int} (h : cnt T = some b) (k : Nat) (hk : k ≤ T.length) : 0 ≤ rg T k ∧ rg T k ≤ b ∧ b ≤ 4611686018427387904 := by
  obtain ⟨_, _, h3, h4, h5, _⟩ := cnt_some h
  obtain ⟨a1, a2⟩ := sR_take (fun y hy => (h3 y hy).2) k hk
  have a3 := sR_le (fun y hy => (h3 y hy).2) k
  omega
theorem sm_each {l : List Int} (h : ∀ x ∈ l, 0 ≤ x) {x : Int} (hx : x ∈ l) : x ≤ sm l := by
  obtain ⟨k, hk, e⟩ := List.mem_iff_getElem.1 hx
  have := (sm_ge h k).2
  rwa [List.getD_eq_getElem?_getD, List.getElem?_eq_getElem hk, e] at this
theorem sR_each {T : List (List Int)} (h : ∀ r ∈ T, ∀ x ∈ r, 0 ≤ x) {r : List Int} (hr : r ∈ T) : sm r ≤ sR T := by
  induction T with
  | nil => cases hr
  | cons a T ih =>
    have h1 := sR_nn (T := T) fun y hy => h y (List.mem_cons_of_mem _ hy)
    have h2 := sm_nn (h a List.mem_cons_self)
    rw [sR_cons]
    rcases List.mem_cons.1 hr with rfl | hr
    · omega
    · have := ih (fun y hy => h y (List.mem_cons_of_mem _ hy)) hr; omega
/-- The numbers of a score that may be. -/
theorem cnt_in {T : List (List Int)} {b : Int} (h : cnt T = some b) : ∀ r ∈ T, r.length = T.length ∧ ∀ x ∈ r, i64In x := by
  obtain ⟨_, _, h3, h4, h5, _⟩ := cnt_some h
  intro r hr
  refine ⟨(h3 r hr).1, fun x hx => ?_⟩
  have h0 := (h3 r hr).2 x hx
  have h6 := sm_each (h3 r hr).2 hx
  have h7 := sR_each (fun y hy => (h3 y hy).2) hr
  constructor <;> omega
theorem shw_len {T : List (List Int)} {b : Int} (h : cnt T = some b) : ∀ k, k ≤ T.length → (lns T k).length ≤ 2000000 := by
  intro k hk
  obtain ⟨_, h2, _⟩ := cnt_some h
  have h3 := lns_len (n := 256) (fun r hr => ⟨by have := (cnt_in h r hr).1; omega, (cnt_in h r hr).2⟩) k hk
  have : k * (22 * 256 + 1) ≤ 256 * (22 * 256 + 1) := Nat.mul_le_mul_right _ (by omega)
  omega
end Go.Proofs.YtfdkjckoelmgeaaDoor
