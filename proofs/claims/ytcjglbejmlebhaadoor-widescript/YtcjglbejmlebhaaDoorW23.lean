import Derived.Test.YtcjglbejmlebhaaDoorW22
namespace Go.Proofs.YtcjglbejmlebhaaDoor
open Go.RowKit Go.Shelf

/-- How many of the first k digits are left when the noughts at the top go. -/
def trimN (ds : List Int) : Nat → Nat
  | 0 => 0
  | k + 1 => if dat ds k = 0 then trimN ds k else k + 1
def trimL (ds : List Int) : List Int := ds.take (trimN ds ds.length)
theorem trimN_le (ds : List Int) : ∀ k, trimN ds k ≤ k
  | 0 => Nat.le_refl 0
  | k + 1 => by
    have := trimN_le ds k
    simp only [trimN]; split <;> omega
theorem trimL_len (ds : List Int) : (trimL ds).length = trimN ds ds.length := by
  have := trimN_le ds ds.length
  simp [trimL, this]
theorem trim_val (ds : List Int) : ∀ k, val (ds.take (trimN ds k)) = val (ds.take k)
  | 0 => rfl
  | k + 1 => by
    simp only [trimN]
    split
    · next h => rw [trim_val ds k, val_take, h]; omega
    · rfl
theorem trimL_val (ds : List Int) : val (trimL ds) = val ds := by
  unfold trimL; rw [trim_val, List.take_length]
theorem trimL_dg {ds : List Int} (h : Dg ds) : Dg (trimL ds) := fun d hd => h d (List.mem_of_mem_take hd)
/-- No nought at the top. -/
def Tr (ds : List Int) : Prop := ds = [] ∨ dat ds (ds.length - 1) ≠ 0
theorem trimN_top (ds : List Int) : ∀ k, trimN ds k = 0 ∨ dat ds (trimN ds k - 1) ≠ 0
  | 0 => .inl rfl
  | k + 1 => by
    simp only [trimN]
    split
    · exact trimN_top ds k
    · next h => exact .inr h
theorem trimL_tr (ds : List Int) : Tr (trimL ds) := by
  rcases trimN_top ds ds.length with h | h
  · left; unfold trimL; rw [h]; rfl
  · by_cases h0 : trimN ds ds.length = 0
    · left; unfold trimL; rw [h0]; rfl
    · right; rw [trimL_len]; unfold trimL
      intro e; apply h
      rw [← e]; unfold dat; rw [List.getElem?_take_of_lt (by omega)]

def bv (s : Bool) (v : Value) : Value := .agg #[.bool s, v]
theorem trimL_nil : trimL [] = [] := rfl
set_option maxHeartbeats 1600000 in
set_option maxRecDepth 100000 in
theorem trim_nil (s : Bool) (w : World) :
    Calls Tryd.prog 51 #[.agg #[.bool s, .slice none 0 0]] w fun e w' => e = .returned (.agg #[.bool false, .slice none 0 0]) ∧ Below w.heap.size w w' := by
  go_enter Tryd.func51, Tryd.ntmps51
  go_wp2
  go_loop [3] (fun i => i = .int .i64 0) (fun i => (intOf i).toNat)
  case atStart => rfl
  case round =>
    subst hrel
    go_wp2
    simp [bodyPost, results, Tryd.results51, go_sem]
    repeat (first | exact Below.refl _ _ | refine bl_alloc ?_ _ | refine Below.drew ?_ | refine bl_set ?_ (by omega) _ | refine bl_step ?_ (by assumption))

set_option maxHeartbeats 1600000 in
set_option maxRecDepth 100000 in
theorem trim_block (s : Bool) (g cap : Nat) (ds : List Int) (w : World) (hg : g < w.heap.size) (hcap : ds.length ≤ cap) (hmax : cap ≤ maxLen) (rd : ∀ k, k < ds.length → w.cell? ⟨g, k, none⟩ = some (.int .i64 (dat ds k))) :
    Calls Tryd.prog 51 #[.agg #[.bool s, .slice (some ⟨g, 0, none⟩) ds.length cap]] w fun e w' => e = .returned (.agg #[.bool (s && !(trimL ds).isEmpty), .slice (some ⟨g, 0, none⟩) (trimL ds).length cap]) ∧ Below w.heap.size w w' := by
  have RD := hid1 rd
  clear rd
  unfold maxLen at hmax
  go_enter Tryd.func51, Tryd.ntmps51
  go_wp2
  go_loop [3] (fun i => ∃ (k : Nat), k ≤ ds.length ∧ i = .int .i64 k ∧ trimN ds k = trimN ds ds.length) (fun i => (intOf i).toNat)
  case atStart => exact ⟨ds.length, Nat.le_refl _, rfl, rfl⟩
  case round =>
    obtain ⟨k, hk, rfl, ht⟩ := hrel
    have HT := hid1 ht
    clear ht
    cases k with
    | zero =>
      have h0 : (trimL ds).length = 0 := by rw [trimL_len, ← HT.out]; rfl
      have h1 : trimL ds = [] := List.eq_nil_of_length_eq_zero h0
      have H1 := hid1 h1
      clear h0 h1
      go_wp2
      simp [bodyPost, results, Tryd.results51, go_sem, H1.out]
      repeat (first | exact Below.refl _ _ | refine bl_alloc ?_ _ | refine Below.drew ?_ | refine bl_set ?_ (by omega) _ | refine bl_step ?_ (by assumption))
    | succ j =>
      have c1 := RD.out j (by omega)
      have hgz : g ≠ w.heap.size := by omega
      by_cases hd : dat ds j = 0
      · have H1 : Hid (trimN ds j = trimN ds ds.length) := hid1 (by rw [← HT.out]; simp only [trimN, if_pos hd])
        rw [hd] at c1
        go_wp2
        exact ⟨⟨j, by omega, rfl, H1.out⟩, by simp [intOf]⟩
      · have h0 : (trimL ds).length = j + 1 := by rw [trimL_len, ← HT.out]; simp only [trimN, if_neg hd]
        have h1 : (trimL ds).isEmpty = false := by
          rcases hL : trimL ds with _ | ⟨x, r⟩
          · rw [hL] at h0; simp at h0
          · rfl
        have H0 := hid1 h0
        have H1 := hid1 h1
        clear h0 h1
        generalize dat ds j = x at *
        go_wp2
        simp [bodyPost, results, Tryd.results51, go_sem, H0.out, H1.out]
        repeat (first | exact Below.refl _ _ | refine bl_alloc ?_ _ | refine Below.drew ?_ | refine bl_set ?_ (by omega) _ | refine bl_step ?_ (by assumption))
theorem trim_any (s : Bool) (v : Value) (ds : List Int) (w : World) (r : Rd w v ds) :
    Calls Tryd.prog 51 #[bv s v] w fun e w' => ∃ v', e = .returned (bv (s && !(trimL ds).isEmpty) v') ∧ Rd w' v' (trimL ds) ∧ Below w.heap.size w w' := by
  rcases r with ⟨h1, h2⟩ | ⟨g, cap, h1, h2, h3, h4, h5⟩
  · subst h1 h2
    refine (trim_nil s w).mono ?_
    rintro e w' ⟨rfl, hb⟩
    exact ⟨.slice none 0 0, by simp [bv, trimL_nil], .inl ⟨rfl, rfl⟩, hb⟩
  · subst h1
    refine (trim_block s g cap ds w h4 h2 h3 fun k hk => h5 k _ (dat_of hk)).mono ?_
    rintro e w' ⟨rfl, hb⟩
    have hle := trimN_le ds ds.length
    refine ⟨_, rfl, .inr ⟨g, cap, rfl, by rw [trimL_len]; omega, h3, Nat.lt_of_lt_of_le h4 hb.size, fun k d hk => keepc hb (h5 k d ?_)⟩, hb⟩
    have hkl : k < (trimL ds).length := (List.getElem?_eq_some_iff.1 hk).1
    rw [trimL_len] at hkl
    unfold trimL at hk
    rwa [List.getElem?_take_of_lt hkl] at hk
