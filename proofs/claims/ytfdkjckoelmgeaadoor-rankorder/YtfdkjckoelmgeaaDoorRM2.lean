/- ANSWERS ORDERED: plain mathematics: the places of a list, falling. -/
import Derived.Test.YtfdkjckoelmgeaaDoorRA2
import Derived.Shelf.SlSortCmp.NoneTotal
namespace Go.Proofs.YtfdkjckoelmgeaaDoor
open Go.Sort

/-- What falling tells. -/
def fal (x y : Int × Int) : Int := or2 (cp y.2 x.2) (cp x.1 y.1)
theorem fal_lt (x y : Int × Int) : ltOf fal x y = decide (y.2 < x.2 ∨ (x.2 = y.2 ∧ x.1 < y.1)) := by
  obtain ⟨a, b⟩ := x
  obtain ⟨c, d⟩ := y
  unfold ltOf fal or2 cp
  apply decide_eq_decide.2
  dsimp only
  rcases Int.lt_trichotomy d b with h | h | h
  · simp [h]
  · subst h
    rcases Int.lt_trichotomy a c with k | k | k
    · simp [k]
    · subst k; simp
    · have : ¬ a < c := by omega
      simp [k, this]
  · have h1 : ¬ d < b := by omega
    have h2 : ¬ b = d := by omega
    simp [h, h1, h2]
theorem fal_f (x y : Int × Int) : ltOf fal x y = false ↔ ¬ (y.2 < x.2 ∨ (x.2 = y.2 ∧ x.1 < y.1)) := by rw [fal_lt, decide_eq_false_iff_not]
theorem fal_t (x y : Int × Int) : ltOf fal x y = true ↔ (y.2 < x.2 ∨ (x.2 = y.2 ∧ x.1 < y.1)) := by rw [fal_lt, decide_eq_true_iff]
theorem fal_swo : SWO (ltOf fal) where
  irrefl x := by rw [fal_f]; omega
  trans x y z h k := by rw [fal_t] at *; omega
  ntrans x y z h k := by rw [fal_f] at *; omega
theorem fal_total (x y : Int × Int) (h : ltOf fal x y = false) (k : ltOf fal y x = false) : x = y := by
  rw [fal_f] at h k
  obtain ⟨a, b⟩ := x
  obtain ⟨c, d⟩ := y
  dsimp only at h k
  have e1 : a = c := by omega
  have e2 : b = d := by omega
  rw [e1, e2]
/-- The places of a list with their numbers. -/
def pl (l : List Int) : List (Int × Int) := (List.range l.length).map fun (i : Nat) => ((i : Int), l.getD i 0)
theorem pl_len (l : List Int) : (pl l).length = l.length := by simp [pl]
theorem pl_at {l : List Int} {i : Nat} (h : i < l.length) : (pl l)[i]? = some ((i : Int), l.getD i 0) := by
  simp [pl, h]
theorem pl_mem {l : List Int} {p : Int × Int} : p ∈ pl l ↔ ∃ i : Nat, i < l.length ∧ p = ((i : Int), l.getD i 0) := by
  simp only [pl, List.mem_map, List.mem_range]
  exact ⟨fun ⟨i, h, e⟩ => ⟨i, h, e.symm⟩, fun ⟨i, h, e⟩ => ⟨i, h, e.symm⟩⟩
theorem pl_nodup (l : List Int) : (pl l).Nodup := by
  unfold pl List.Nodup
  rw [List.pairwise_map]
  refine List.Pairwise.imp ?_ (List.nodup_range (n := l.length))
  intro a b hab h
  injection h with h1 h2
  exact hab (by omega)
/-- Them all, falling. -/
def srt (l : List Int) : List (Int × Int) := (pl l).mergeSort fun x y => !(ltOf fal y x)
theorem srt_perm (l : List Int) : (srt l).Perm (pl l) := List.mergeSort_perm _ _
theorem srt_len (l : List Int) : (srt l).length = l.length := by rw [(srt_perm l).length_eq, pl_len]
theorem srt_mem {l : List Int} {p : Int × Int} : p ∈ srt l ↔ ∃ i : Nat, i < l.length ∧ p = ((i : Int), l.getD i 0) := by rw [(srt_perm l).mem_iff, pl_mem]
theorem srt_pair (l : List Int) : (srt l).Pairwise fun x y => ltOf fal x y = true := by
  have h1 : (srt l).Pairwise fun x y => (!(ltOf fal y x)) = true := by
    unfold srt
    refine List.pairwise_mergeSort (le := fun x y => !(ltOf fal y x)) (fun a b c h k => ?_) (fun a b => ?_) _
    · simp only [Bool.not_eq_true'] at h k ⊢
      exact fal_swo.ntrans _ _ _ k h
    · cases h : ltOf fal b a with
      | false => simp
      | true =>
        have : ltOf fal a b = false := by rw [fal_t] at h; rw [fal_f]; omega
        simp [this]
  have h2 : (srt l).Nodup := (srt_perm l).nodup_iff.2 (pl_nodup l)
  refine (h1.and h2).imp ?_
  intro x y ⟨h, hne⟩
  simp only [Bool.not_eq_true'] at h
  cases hx : ltOf fal x y with
  | true => rfl
  | false => exact (hne (fal_total x y hx h)).elim
/-- There is no other list of these places that falls. -/
theorem srt_uniq {l : List Int} {L : List (Int × Int)} (hp : L.Perm (pl l)) (hs : L.Pairwise fun x y => ltOf fal x y = true) : L = srt l := by
  refine List.Perm.eq_of_pairwise (le := fun x y => ltOf fal x y = true) (fun a b _ _ h k => ?_) hs (srt_pair l) (hp.trans (srt_perm l).symm)
  rw [fal_t] at h k
  omega
/-- What Top tells. -/
def tp (l : List Int) (n : Nat) : List (Int × Int) := (srt l).take n
theorem tp_len (l : List Int) (n : Nat) : (tp l n).length = min n l.length := by simp [tp, srt_len]
theorem tp_mem {l : List Int} {n j : Nat} {p : Int × Int} (h : (tp l n)[j]? = some p) : ∃ i : Nat, i < l.length ∧ p = ((i : Int), l.getD i 0) := by
  have h1 : p ∈ tp l n := List.mem_of_getElem? h
  exact srt_mem.1 (List.mem_of_mem_take h1)
theorem tp_lt {l : List Int} {n i j : Nat} {p q : Int × Int} (hij : i < j) (h : (tp l n)[i]? = some p) (k : (tp l n)[j]? = some q) : q.2 < p.2 ∨ (p.2 = q.2 ∧ p.1 < q.1) := by
  have hp : (tp l n).Pairwise fun x y => ltOf fal x y = true := (srt_pair l).sublist (List.take_sublist _ _)
  obtain ⟨h1, h2⟩ := List.getElem?_eq_some_iff.1 h
  obtain ⟨k1, k2⟩ := List.getElem?_eq_some_iff.1 k
  have := List.pairwise_iff_getElem.1 hp i j h1 k1 hij
  rw [h2, k2, fal_t] at this
  exact this
theorem tp_front (l : List Int) {m n : Nat} (h : m ≤ n) : (tp l n).take m = tp l m := by
  unfold tp
  rw [List.take_take, Nat.min_eq_left h]
/-- What is left out is not above the last one. -/
theorem tp_left {l : List Int} {n j i : Nat} {p : Int × Int} (h : (tp l n)[j]? = some p) (hi : i < l.length) (hn : ∀ k : Nat, k < (tp l n).length → (tp l n)[k]? ≠ some ((i : Int), l.getD i 0)) : ¬ (p.2 < l.getD i 0 ∨ (p.2 = l.getD i 0 ∧ (i : Int) < p.1)) := by
  have hm : ((i : Int), l.getD i 0) ∈ srt l := srt_mem.2 ⟨i, hi, rfl⟩
  rw [← List.take_append_drop n (srt l)] at hm
  rcases List.mem_append.1 hm with hm | hm
  · obtain ⟨k, hk, e⟩ := List.mem_iff_getElem.1 hm
    exact (hn k hk ((List.getElem?_eq_getElem (l := tp l n) hk).trans (congrArg some e))).elim
  · have hp := srt_pair l
    rw [← List.take_append_drop n (srt l), List.pairwise_append] at hp
    have := hp.2.2 p (List.mem_of_getElem? h) _ hm
    rw [fal_t] at this
    dsimp only at this
    omega
/-- The first is Arg's. -/
theorem tp_first {l : List Int} {n : Nat} {p : Int × Int} (h : (tp l n)[0]? = some p) : p.1 = ag (fun j => l.getD j 0) l.length := by
  obtain ⟨i, hi, e⟩ := tp_mem h
  have hb := ag_bd (fun j => l.getD j 0) l.length
  have h0 := hb.2.2 (by omega)
  obtain ⟨A, hA⟩ := Int.eq_ofNat_of_zero_le h0
  have hAl : A < l.length := by omega
  have ht := ag_top (fun j => l.getD j 0) l.length
  rw [hA] at ht ⊢
  simp only [Int.toNat_natCast] at ht
  have hi2 := ht i hi
  by_cases e2 : i = A
  · rw [e, e2]
  · have hm : ((A : Int), l.getD A 0) ∈ srt l := srt_mem.2 ⟨A, hAl, rfl⟩
    obtain ⟨k, hk, ek⟩ := List.mem_iff_getElem.1 hm
    have h1 : (srt l)[0]? = some p := by
      unfold tp at h
      cases n with
      | zero => simp at h
      | succ n => simpa using h
    obtain ⟨z1, z2⟩ := List.getElem?_eq_some_iff.1 h1
    have hk0 : k ≠ 0 := by
      rintro rfl
      rw [z2] at ek
      rw [e] at ek
      injection ek with ek _
      exact e2 (by omega)
    have := List.pairwise_iff_getElem.1 (srt_pair l) 0 k z1 hk (by omega)
    rw [z2, ek, fal_t, e] at this
    dsimp only at this
    omega
theorem srt_ex : srt [3, 7, 7, -1] = [(1, 7), (2, 7), (0, 3), (3, -1)] := by
  refine (srt_uniq ?_ ?_).symm
  · decide
  · simp [fal_t]
end Go.Proofs.YtfdkjckoelmgeaaDoor
