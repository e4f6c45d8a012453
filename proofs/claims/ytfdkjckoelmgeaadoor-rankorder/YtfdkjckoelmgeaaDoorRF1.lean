/- SCORES: mathematics of a number changed; a score's memory in a box. -/
import Derived.Test.YtfdkjckoelmgeaaDoorRB2
namespace Go.Proofs.YtfdkjckoelmgeaaDoor
open Go.RowKit Go.Sort

/-- A score's numbers. -/
def vT (T : List (List Int)) (i j : Nat) : Int := (T.getD i []).getD j 0
/-- k rows of k numbers. -/
structure Sc (k : Nat) (T : List (List Int)) : Prop where
  len : T.length = k
  row : ∀ i, i < k → (T.getD i []).length = k
theorem getD_at {α : Type} {l : List α} {i : Nat} (h : i < l.length) (d : α) : l.getD i d = l[i] := by
  rw [List.getD_eq_getElem?_getD, List.getElem?_eq_getElem h]; rfl
theorem Sc.rows {k : Nat} {T : List (List Int)} (h : Sc k T) : ∀ r ∈ T, r.length = T.length := fun r hr => by
  obtain ⟨i, hi, rfl⟩ := List.mem_iff_getElem.1 hr
  have := h.row i (by rw [← h.len]; exact hi)
  rw [getD_at hi] at this
  rw [this, h.len]
theorem Sc.st2 {k : Nat} {T : List (List Int)} (h : Sc k T) {i : Nat} (hi : i < k) (j : Nat) (x : Int) : Sc k (st2 T i j x) := by
  refine ⟨(st2_len T i j x).trans h.len, fun m hm => ?_⟩
  rw [st2_getD m (by rw [h.len]; exact hi)]
  split
  · rw [List.length_set]; exact h.row i hi
  · exact h.row m hm
theorem vT_st2 {k : Nat} {T : List (List Int)} (h : Sc k T) {i : Nat} (hi : i < k) {j : Nat} (hj : j < k) (x : Int) (a b : Nat) : vT (st2 T i j x) a b = if a = i ∧ b = j then x else vT T a b := by
  unfold vT
  rw [st2_getD a (by rw [h.len]; exact hi)]
  by_cases e : a = i
  · subst e
    rw [if_pos rfl]
    by_cases e2 : b = j
    · subst e2
      rw [if_pos ⟨rfl, rfl⟩, List.getD_eq_getElem?_getD, List.getElem?_set_self (by rw [h.row a hi]; exact hj)]; rfl
    · rw [if_neg (fun h => e2 h.2), List.getD_eq_getElem?_getD, List.getElem?_set_ne (fun h => e2 h.symm), ← List.getD_eq_getElem?_getD]
  · rw [if_neg e, if_neg (fun h => e h.1)]
theorem sR_st2 {k : Nat} {T : List (List Int)} (h : Sc k T) {i : Nat} (hi : i < k) {j : Nat} (hj : j < k) (x : Int) : sR (st2 T i j x) = sR T - vT T i j + x := by
  have hiT : i < T.length := by rw [h.len]; exact hi
  have hjr : j < (T[i]).length := by have := h.row i hi; rw [getD_at hiT] at this; omega
  unfold st2
  rw [sR_set (r := T[i]) (List.getElem?_eq_getElem hiT), getD_at hiT, sm_set (x := (T[i])[j]) (List.getElem?_eq_getElem hjr)]
  unfold vT
  rw [getD_at hiT, getD_at hjr]
  omega
theorem vT_mem {T : List (List Int)} {r : List Int} (hr : r ∈ T) {x : Int} (hx : x ∈ r) : ∃ i j, i < T.length ∧ j < r.length ∧ vT T i j = x := by
  obtain ⟨i, hi, rfl⟩ := List.mem_iff_getElem.1 hr
  obtain ⟨j, hj, rfl⟩ := List.mem_iff_getElem.1 hx
  refine ⟨i, j, hi, hj, ?_⟩
  unfold vT
  rw [getD_at hi, getD_at hj]
theorem cnt_sc {k : Nat} {T : List (List Int)} (h : Sc k T) (h1 : 1 ≤ k) (h2 : k ≤ 256) (h3 : ∀ i j, 0 ≤ vT T i j) (h4 : sR T ≤ 4611686018427387904) : cnt T = some (sR T) :=
  cnt_is (by rw [h.len]; exact h1) (by rw [h.len]; exact h2) (fun r hr => ⟨h.rows r hr, fun x hx => by obtain ⟨i, j, _, _, e⟩ := vT_mem hr hx; rw [← e]; exact h3 i j⟩) h4
theorem cnt_big {T : List (List Int)} (h : 4611686018427387904 < sR T) : cnt T = none := cnt_none fun _ _ _ h4 => by omega
theorem cnt_neg {k : Nat} {T : List (List Int)} (h : Sc k T) {i j : Nat} (hi : i < k) (hj : j < k) (hv : vT T i j < 0) : cnt T = none := cnt_none fun _ _ h3 _ => by
  have hiT : i < T.length := by rw [h.len]; exact hi
  have hjr : j < (T[i]).length := by have := h.row i hi; rw [getD_at hiT] at this; omega
  have := (h3 T[i] (List.getElem_mem hiT)).2 _ (List.getElem_mem hjr)
  unfold vT at hv
  rw [getD_at hiT, getD_at hjr] at hv
  omega
/-- The score of zeros. -/
def t0 (k : Nat) : List (List Int) := List.replicate k (List.replicate k 0)
theorem t0_sc (k : Nat) : Sc k (t0 k) := ⟨by simp [t0], fun i hi => by unfold t0; rw [getD_at (by simpa using hi)]; simp⟩
theorem t0_v (k i j : Nat) : vT (t0 k) i j = 0 := by
  unfold vT t0
  simp only [List.getD_eq_getElem?_getD, List.getElem?_replicate]
  split
  · simp only [Option.getD_some, List.getElem?_replicate]
    split <;> rfl
  · simp
theorem cnt_cE {T : List (List Int)} {b : Int} (h : cnt T = some b) : cE T = 0 ∧ cV T = b := by unfold cE cV; rw [h]; exact ⟨rfl, rfl⟩
theorem cnt_cN {T : List (List Int)} (h : cnt T = none) : cE T = 1 ∧ cV T = 0 := by unfold cE cV; rw [h]; exact ⟨rfl, rfl⟩
theorem aE_no {T : List (List Int)} (h : cnt T = none) (r t : Int) : aE T r t = 1 := by unfold aE; rw [if_neg]; rw [h]; simp
theorem aE_yes {T : List (List Int)} {b r t : Int} (h : cnt T = some b) (hr : 0 ≤ r ∧ r < (T.length : Int)) (ht : 0 ≤ t ∧ t < (T.length : Int)) : aE T r t = if b = 4611686018427387904 then 4 else 0 := by
  unfold aE cV; rw [h, if_pos ⟨rfl, hr, ht⟩]; rfl
/-- A score in a box. -/
structure Bx (w X : World) (p G : Nat) (b K : Nat → Nat) (k : Nat) (T : List (List Int)) : Prop where
  bel : Below w.heap.size w X
  box : X.rowIs p 36 1 (fun _ => .slice (some ⟨G, 0, none⟩) k k)
  tb : Tb X w.heap.size G b K T
  sc : Sc k T
theorem Bx.step {w X Y : World} {p G k : Nat} {b K : Nat → Nat} {T : List (List Int)} (h : Bx w X p G b K k T) (hb : Below X.heap.size X Y) : Bx w Y p G b K k T :=
  ⟨bl_step h.bel hb, keepr hb h.box, h.tb.below hb, h.sc⟩
theorem Bx.drew {w X : World} {p G k : Nat} {b K : Nat → Nat} {T : List (List Int)} (h : Bx w X p G b K k T) : Bx w X.drew p G b K k T := h.step (Below.refl _ _).drew
theorem Bx.drewN {w X : World} {p G k : Nat} {b K : Nat → Nat} {T : List (List Int)} (h : Bx w X p G b K k T) (n : Nat) : Bx w (X.drewN n) p G b K k T := h.step (bl_drewN (Below.refl _ _) n)
/-- What a walk reads of it. -/
theorem Bx.at {w X : World} {p G k : Nat} {b K : Nat → Nat} {T : List (List Int)} (h : Bx w X p G b K k T) {i j : Nat} (hi : i < k) (hj : j < k) :
    ∃ g c, X.cell? ⟨p, 0, none⟩ = some (.slice (some ⟨G, 0, none⟩) k k) ∧ X.cell? ⟨G, i, none⟩ = some (.slice (some ⟨g, 0, none⟩) k c) ∧ X.cell? ⟨g, j, none⟩ = some (.int .i64 (vT T i j)) ∧ X.frozen? ⟨g, j, none⟩ = false ∧ g < X.heap.size ∧ ∀ n x, Bx w ((X.drewN n).setCell ⟨g, j, none⟩ (.int .i64 x)) p G b K k (st2 T i j x) := by
  have hiT : i < T.length := by rw [h.sc.len]; exact hi
  have co := h.tb.out.cell hiT
  rw [if_pos hiT, h.sc.row i hi] at co
  obtain ⟨f, r, q1, q2, q3⟩ := h.tb.row i hiT
  have hjr : j < (T.getD i []).length := by rw [h.sc.row i hi]; exact hj
  have cx := r.cell (i := j) (by omega)
  rw [q3 j _ (List.getElem?_eq_getElem hjr)] at cx
  refine ⟨b i, K i, h.box.cell (i := 0) (by omega), co, ?_, r.frozen j, r.lt, fun n x => ?_⟩
  · rw [cx]; unfold vT; rw [getD_at hjr]
  · have h' := h.drewN n
    exact ⟨bl_set h'.bel (h.tb.low.2 i hiT) _, h'.box.setOther (row_ne h.box r (by decide)) _, h'.tb.set hiT j x, h.sc.st2 hi j x⟩
theorem Bx.tn {w X : World} {p G k : Nat} {b K : Nat → Nat} {T : List (List Int)} (h : Bx w X p G b K k T) : Tn X (some ⟨G, 0, none⟩) T := Tb.tn h.tb
theorem Bx.small {w X : World} {p G k : Nat} {b K : Nat → Nat} {T : List (List Int)} (h : Bx w X p G b K k T) (hk : k ≤ 256) : ∀ r ∈ T, r.length ≤ 9223372036854775807 := fun r hr => by
  have := h.sc.rows r hr; rw [h.sc.len] at this; omega
/-- A new box. -/
theorem Bx.new {w X : World} {M G k : Nat} {b K : Nat → Nat} {T : List (List Int)} (hb : Below w.heap.size w X) (ht : Tb X M G b K T) (hM : w.heap.size ≤ M) (hs : Sc k T) : Bx w (X.alloc (.cells #[.slice (some ⟨G, 0, none⟩) k k] 36)) X.heap.size G b K k T :=
  ⟨bl_alloc hb _, World.rowIs_alloc X #[.slice (some ⟨G, 0, none⟩) k k] 36 (fun _ => .slice (some ⟨G, 0, none⟩) k k) (fun i hi => by simp at hi; subst hi; rfl), (Tz.mono ht hM).below (bl_alloc (Below.refl _ _) _), hs⟩
end Go.Proofs.YtfdkjckoelmgeaaDoor
