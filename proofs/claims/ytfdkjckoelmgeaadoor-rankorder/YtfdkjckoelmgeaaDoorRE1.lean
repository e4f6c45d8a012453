/- heddlelaw11, heddlelaw24: EqNums, Eq, eqRanked of every two. -/
import Derived.Test.YtfdkjckoelmgeaaDoorRT3
namespace Go.Proofs.YtfdkjckoelmgeaaDoor
open Go.RowKit Go.Sort

theorem take_ext {α : Type} {a b : List α} {k : Nat} (h : a.take k = b.take k) {x : α} (ha : a[k]? = some x) (hb : b[k]? = some x) : a.take (k + 1) = b.take (k + 1) := by
  rw [List.take_add_one, List.take_add_one, h, ha, hb]
theorem take_all {α : Type} {a b : List α} (h : a.take a.length = b.take a.length) (hl : a.length = b.length) : a = b := by
  rw [List.take_length] at h
  rw [h, hl, List.take_length]
set_option maxHeartbeats 1600000 in
set_option maxRecDepth 100000 in
theorem eqn_any (ao bo : Option Addr) (a b : List Int) (ca cb : Nat) (w : World) (hl : a.length ≤ 1099511627776) (h1 : Nm w ao a) (h2 : Nm w bo b) :
    Calls Tryd.prog 44 #[.slice ao a.length ca, .slice bo b.length cb] w fun e w' => e = .returned (.bool (decide (a = b))) ∧ Qt w w' := by
  obtain ⟨n, en⟩ : ∃ n, a.length = n := ⟨_, rfl⟩
  obtain ⟨m, em⟩ : ∃ m, b.length = m := ⟨_, rfl⟩
  by_cases hnm : n = m
  · subst hnm
    have HA : Hid (∀ k, k < n → ∃ g o x, ao = some ⟨g, o, none⟩ ∧ w.cell? ⟨g, o + k, none⟩ = some (.int .i64 x) ∧ a[k]? = some x) := fun k hk => by
      obtain ⟨g, o, e, c⟩ := h1.at (k := k) (by omega)
      exact ⟨g, o, _, e, c, List.getElem?_eq_getElem (by omega)⟩
    have HB : Hid (∀ k, k < n → ∃ g o x, bo = some ⟨g, o, none⟩ ∧ w.cell? ⟨g, o + k, none⟩ = some (.int .i64 x) ∧ b[k]? = some x) := fun k hk => by
      obtain ⟨g, o, e, c⟩ := h2.at (k := k) (by omega)
      exact ⟨g, o, _, e, c, List.getElem?_eq_getElem (by omega)⟩
    have HE : Hid (a.take n = b.take n → decide (a = b) = true) := fun h => decide_eq_true (take_all (by rw [en]; exact h) (by rw [en, em]))
    have HF : Hid (∀ (k : Nat) (x y : Int), a[k]? = some x → b[k]? = some y → ¬ x = y → decide (a = b) = false) := fun k x y hx hy hne => decide_eq_false (fun e => hne (by subst e; exact Option.some.inj (hx.symm.trans hy)))
    rw [en] at hl ⊢
    rw [em]
    clear h1 h2 en em
    generalize decide (a = b) = D at *
    go_enter Tryd.func44, Tryd.ntmps44
    go_wp2_with fail
    go_loopw [5] (fun x wr => ∃ k : Nat, k ≤ n ∧ x = .int .i64 k ∧ Qt w wr ∧ Hid (a.take k = b.take k)) (fun x _ => n - (intOf x).toNat)
    case atStart => exact ⟨0, Nat.zero_le _, rfl, Qt.refl _, by simp [Hid]⟩
    case round =>
      obtain ⟨k, hk, rfl, hq, ht⟩ := hrel
      by_cases hlt : k < n
      · obtain ⟨g1, o1, x, rfl, d1, x1⟩ := HA.out k hlt
        obtain ⟨g2, o2, y, rfl, d2, x2⟩ := HB.out k hlt
        replace d1 := hq.cell d1
        replace d2 := hq.cell d2
        have ik : (k : Int) < (n : Int) := by omega
        have ik0 : (0 : Int) ≤ (k : Int) := by omega
        by_cases hxy : x = y
        · subst hxy
          have HT : Hid (a.take (k + 1) = b.take (k + 1)) := take_ext ht.out x1 x2
          clear x1 x2 ht
          go_wp2_with fail
          go_quiet (fail)
          go_wp2_with fail
          exact ⟨⟨k + 1, by omega, by go_num, hq.drewN _, HT⟩, by simp [intOf]; omega⟩
        · have hD := HF.out k x y x1 x2 hxy
          clear x1 x2 ht
          go_wp2_with fail
          go_quiet (fail)
          go_wp2_with fail
          go_ret
          exact ⟨by rw [hD]; rfl, hq.drewN _⟩
      · have hkN : k = n := by omega
        subst hkN
        have hD := HE.out ht.out
        clear ht
        go_wp2_with fail
        go_ret
        exact ⟨by rw [hD]; rfl, hq⟩
  · rw [decide_eq_false (show ¬ a = b by rintro rfl; omega), en, em]
    clear h1 h2 en em
    have hnm' : ¬ (n : Int) = (m : Int) := by omega
    go_enter Tryd.func44, Tryd.ntmps44
    go_wp2_with fail
    go_ret
    exact ⟨rfl, Qt.refl _⟩
set_option maxHeartbeats 1600000 in
set_option maxRecDepth 100000 in
theorem eqt_any (ao bo : Option Addr) (a b : List (List Int)) (ca cb : Nat) (w : World) (hl : a.length ≤ 1099511627776) (hr : ∀ r ∈ a, r.length ≤ 1099511627776) (h1 : Tn w ao a) (h2 : Tn w bo b) :
    Calls Tryd.prog 24 #[.slice ao a.length ca, .slice bo b.length cb] w fun e w' => e = .returned (.bool (decide (a = b))) ∧ Qt w w' := by
  obtain ⟨n, en⟩ : ∃ n, a.length = n := ⟨_, rfl⟩
  obtain ⟨m, em⟩ : ∃ m, b.length = m := ⟨_, rfl⟩
  by_cases hnm : n = m
  · subst hnm
    have HA : Hid (∀ k, k < n → ∃ g o ai ci x, ao = some ⟨g, o, none⟩ ∧ w.cell? ⟨g, o + k, none⟩ = some (.slice ai x.length ci) ∧ Nm w ai x ∧ a[k]? = some x ∧ x.length ≤ 1099511627776) := fun k hk => by
      obtain ⟨g, o, ai, ci, e, c, nm⟩ := h1.at (k := k) (by omega)
      exact ⟨g, o, ai, ci, _, e, c, nm, List.getElem?_eq_getElem (by omega), hr _ (List.getElem_mem _)⟩
    have HB : Hid (∀ k, k < n → ∃ g o ai ci x, bo = some ⟨g, o, none⟩ ∧ w.cell? ⟨g, o + k, none⟩ = some (.slice ai x.length ci) ∧ Nm w ai x ∧ b[k]? = some x) := fun k hk => by
      obtain ⟨g, o, ai, ci, e, c, nm⟩ := h2.at (k := k) (by omega)
      exact ⟨g, o, ai, ci, _, e, c, nm, List.getElem?_eq_getElem (by omega)⟩
    have HE : Hid (a.take n = b.take n → decide (a = b) = true) := fun h => decide_eq_true (take_all (by rw [en]; exact h) (by rw [en, em]))
    have HF : Hid (∀ (k : Nat) (x y : List Int), a[k]? = some x → b[k]? = some y → ¬ x = y → decide (a = b) = false) := fun k x y hx hy hne => decide_eq_false (fun e => hne (by subst e; exact Option.some.inj (hx.symm.trans hy)))
    rw [en] at hl ⊢
    rw [em]
    clear h1 h2 en em hr
    generalize decide (a = b) = D at *
    go_enter Tryd.func24, Tryd.ntmps24
    go_wp2_with fail
    go_loopw [5] (fun x wr => ∃ k : Nat, k ≤ n ∧ x = .int .i64 k ∧ Qt w wr ∧ Hid (a.take k = b.take k)) (fun x _ => n - (intOf x).toNat)
    case atStart => exact ⟨0, Nat.zero_le _, rfl, Qt.refl _, by simp [Hid]⟩
    case round =>
      obtain ⟨k, hk, rfl, hq, ht⟩ := hrel
      by_cases hlt : k < n
      · have hB := hq.below (Below.refl _ w)
        obtain ⟨g1, o1, a1, c1, x, rfl, d1, n1, x1, xl⟩ := HA.out k hlt
        obtain ⟨g2, o2, a2, c2, y, rfl, d2, n2, x2⟩ := HB.out k hlt
        replace d1 := hq.cell d1
        replace d2 := hq.cell d2
        have CT : Hid (∀ X, Qt wr X → Calls Tryd.prog 44 #[.slice a1 x.length c1, .slice a2 y.length c2] X fun e w' => e = .returned (.bool (decide (x = y))) ∧ ∃ n, w' = wr.drewN n) := fun X hX => by
          have hBX := hX.below hB
          refine (eqn_any a1 a2 x y c1 c2 X xl (n1.below hBX) (n2.below hBX)).mono ?_
          rintro e w' ⟨rfl, q', rfl⟩
          exact ⟨rfl, hX.drewN q'⟩
        have ik : (k : Int) < (n : Int) := by omega
        have ik0 : (0 : Int) ≤ (k : Int) := by omega
        have HT : Hid (∀ z, a[k]? = some z → b[k]? = some z → a.take (k + 1) = b.take (k + 1)) := fun z h1 h2 => take_ext ht.out h1 h2
        have hF := HF.out k x y x1 x2
        clear n1 n2 xl ht hB
        generalize x.length = l1 at *
        generalize y.length = l2 at *
        by_cases hxy : x = y
        · rw [decide_eq_true hxy] at CT
          subst hxy
          have HT2 : Hid (a.take (k + 1) = b.take (k + 1)) := HT.out x x1 x2
          clear x1 x2 hF HT
          go_wp2_with fail
          go_quiet ((go_at_call 44; exact CT.out _ ⟨_, by rfl⟩))
          go_wp2_with fail
          exact ⟨⟨k + 1, by omega, by go_num, hq.drewN _, HT2⟩, by simp [intOf]; omega⟩
        · rw [decide_eq_false hxy] at CT
          have hD := hF hxy
          clear x1 x2 hF HT hxy
          go_wp2_with fail
          go_quiet ((go_at_call 44; exact CT.out _ ⟨_, by rfl⟩))
          go_wp2_with fail
          go_ret
          exact ⟨by rw [hD]; rfl, hq.drewN _⟩
      · have hkN : k = n := by omega
        subst hkN
        have hD := HE.out ht.out
        clear ht
        go_wp2_with fail
        go_ret
        exact ⟨by rw [hD]; rfl, hq⟩
  · rw [decide_eq_false (show ¬ a = b by rintro rfl; omega), en, em]
    clear h1 h2 en em hr
    have hnm' : ¬ (n : Int) = (m : Int) := by omega
    go_enter Tryd.func24, Tryd.ntmps24
    go_wp2_with fail
    go_ret
    exact ⟨rfl, Qt.refl _⟩
/-- Places lie in memory. -/
def Rkm (w : World) (ao : Option Addr) (L : List (Int × Int)) : Prop := ∀ (j : Nat) (p : Int × Int), L[j]? = some p → ∃ g o, ao = some ⟨g, o, none⟩ ∧ w.cell? ⟨g, o + j * 2, none⟩ = some (.int .i64 p.1) ∧ w.cell? ⟨g, o + j * 2 + 1, none⟩ = some (.int .i64 p.2)
theorem Rkm.below {w w' : World} {ao : Option Addr} {L : List (Int × Int)} (h : Rkm w ao L) (hb : Below w.heap.size w w') : Rkm w' ao L := fun j x hj => by
  obtain ⟨g, o, e, c, d⟩ := h j x hj; exact ⟨g, o, e, keepc hb c, keepc hb d⟩
set_option maxHeartbeats 1600000 in
set_option maxRecDepth 100000 in
theorem eqr_any (ao bo : Option Addr) (a b : List (Int × Int)) (ca cb : Nat) (w : World) (hl : a.length ≤ 1099511627776) (h1 : Rkm w ao a) (h2 : Rkm w bo b) :
    Calls Tryd.prog 11 #[.slice ao a.length ca, .slice bo b.length cb] w fun e w' => e = .returned (.bool (decide (a = b))) ∧ Qt w w' := by
  obtain ⟨n, en⟩ : ∃ n, a.length = n := ⟨_, rfl⟩
  obtain ⟨m, em⟩ : ∃ m, b.length = m := ⟨_, rfl⟩
  by_cases hnm : n = m
  · subst hnm
    have HA : Hid (∀ k, k < n → ∃ g o p q, ao = some ⟨g, o, none⟩ ∧ w.cell? ⟨g, o + k * 2, none⟩ = some (.int .i64 p) ∧ w.cell? ⟨g, o + k * 2 + 1, none⟩ = some (.int .i64 q) ∧ a[k]? = some (p, q)) := fun k hk => by
      obtain ⟨g, o, e, c, d⟩ := h1 k (a[k]'(by omega)) (List.getElem?_eq_getElem (by omega))
      exact ⟨g, o, _, _, e, c, d, List.getElem?_eq_getElem (by omega)⟩
    have HB : Hid (∀ k, k < n → ∃ g o p q, bo = some ⟨g, o, none⟩ ∧ w.cell? ⟨g, o + k * 2, none⟩ = some (.int .i64 p) ∧ w.cell? ⟨g, o + k * 2 + 1, none⟩ = some (.int .i64 q) ∧ b[k]? = some (p, q)) := fun k hk => by
      obtain ⟨g, o, e, c, d⟩ := h2 k (b[k]'(by omega)) (List.getElem?_eq_getElem (by omega))
      exact ⟨g, o, _, _, e, c, d, List.getElem?_eq_getElem (by omega)⟩
    have HE : Hid (a.take n = b.take n → decide (a = b) = true) := fun h => decide_eq_true (take_all (by rw [en]; exact h) (by rw [en, em]))
    have HF : Hid (∀ (k : Nat) (x y : Int × Int), a[k]? = some x → b[k]? = some y → ¬ x = y → decide (a = b) = false) := fun k x y hx hy hne => decide_eq_false (fun e => hne (by subst e; exact Option.some.inj (hx.symm.trans hy)))
    rw [en] at hl ⊢
    rw [em]
    clear h1 h2 en em
    generalize decide (a = b) = D at *
    go_enter Tryd.func11, Tryd.ntmps11
    go_wp2_with fail
    go_loopw [5] (fun x wr => ∃ k : Nat, k ≤ n ∧ x = .int .i64 k ∧ Qt w wr ∧ Hid (a.take k = b.take k)) (fun x _ => n - (intOf x).toNat)
    case atStart => exact ⟨0, Nat.zero_le _, rfl, Qt.refl _, by simp [Hid]⟩
    case round =>
      obtain ⟨k, hk, rfl, hq, ht⟩ := hrel
      by_cases hlt : k < n
      · obtain ⟨g1, o1, p1, q1, rfl, d1, d2, x1⟩ := HA.out k hlt
        obtain ⟨g2, o2, p2, q2, rfl, d3, d4, x2⟩ := HB.out k hlt
        replace d1 := hq.cell d1
        replace d2 := hq.cell d2
        replace d3 := hq.cell d3
        replace d4 := hq.cell d4
        have ik : (k : Int) < (n : Int) := by omega
        have ik0 : (0 : Int) ≤ (k : Int) := by omega
        by_cases hxy : p1 = p2 ∧ q1 = q2
        · obtain ⟨rfl, rfl⟩ := hxy
          have HT : Hid (a.take (k + 1) = b.take (k + 1)) := take_ext ht.out x1 x2
          clear x1 x2 ht
          go_wp2_with fail
          go_quiet (fail)
          go_wp2_with fail
          exact ⟨⟨k + 1, by omega, by go_num, hq.drewN _, HT⟩, by simp [intOf]; omega⟩
        · by_cases hp : p1 = p2
          · subst hp
            have hq2 : ¬ q1 = q2 := fun e => hxy ⟨rfl, e⟩
            have hD := HF.out k _ _ x1 x2 (fun e => hxy (by injection e with e1 e2; exact ⟨e1, e2⟩))
            clear x1 x2 ht hxy
            go_wp2_with fail
            go_quiet (fail)
            go_wp2_with fail
            go_ret
            exact ⟨by rw [hD]; rfl, hq.drewN _⟩
          · have hz := hp
            have hD := HF.out k _ _ x1 x2 (fun e => hxy (by injection e with e1 e2; exact ⟨e1, e2⟩))
            clear x1 x2 ht hxy
            go_wp2_with fail
            go_quiet (fail)
            go_wp2_with fail
            go_ret
            exact ⟨by rw [hD]; rfl, hq.drewN _⟩
      · have hkN : k = n := by omega
        subst hkN
        have hD := HE.out ht.out
        clear ht
        go_wp2_with fail
        go_ret
        exact ⟨by rw [hD]; rfl, hq⟩
  · rw [decide_eq_false (show ¬ a = b by rintro rfl; omega), en, em]
    clear h1 h2 en em
    have hnm' : ¬ (n : Int) = (m : Int) := by omega
    go_enter Tryd.func11, Tryd.ntmps11
    go_wp2_with fail
    go_ret
    exact ⟨rfl, Qt.refl _⟩
end Go.Proofs.YtfdkjckoelmgeaaDoor
