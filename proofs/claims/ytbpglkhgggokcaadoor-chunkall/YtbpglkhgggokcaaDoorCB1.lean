/- CHUNKS: Same, Eq. -/
import Derived.Test.YtbpglkhgggokcaaDoorCW9
namespace Go.Proofs.YtbpglkhgggokcaaDoor
open Go.RowKit

theorem By.drewN {W : World} {ao : Option Addr} {l : List Nat} (h : By W ao l) (n : Nat) : By (W.drewN n) ao l := h.keep (bl_drewN (Below.refl _ _) n)
theorem take_eq_succ {l m : List Nat} {k : Nat} (h : l.take k = m.take k) (e : l[k]? = m[k]?) : l.take (k + 1) = m.take (k + 1) := by
  rw [List.take_add_one, List.take_add_one, h, e]
set_option maxHeartbeats 800000 in
set_option maxRecDepth 100000 in
theorem same_any (ao ap : Option Addr) (c d : Nat) (l m : List Nat) (w : World) (hm : m.length ≤ 9223372036854775807) (h1 : By w ao l) (h2 : By w ap m) :
    Calls Tryd.prog 10 #[.slice ao l.length c, .slice ap m.length d] w fun e w' => e = .returned (.bool (decide (l = m))) ∧ ∃ n, w' = w.drewN n := by
  have H1 := hid1 h1
  have H2 := hid1 h2
  clear h1 h2
  by_cases hlen : l.length = m.length
  · have i1 : (l.length : Int) = (m.length : Int) := by omega
    obtain ⟨L, eL⟩ : ∃ L, m.length = L := ⟨_, rfl⟩
    rw [eL] at hm hlen i1 ⊢
    have ML := hid1 eL
    have LL := hid1 hlen
    rw [hlen]
    clear eL hlen i1
    go_enter Tryd.func10, Tryd.ntmps10
    go_wp2_with fail
    go_loopw [5] (fun i wr => ∃ k n : Nat, k ≤ L ∧ i = .int .i64 k ∧ Hid (l.take k = m.take k) ∧ wr = w.drewN n) (fun i _ => L - (intOf i).toNat)
    case atStart => exact ⟨0, 0, Nat.zero_le _, rfl, hid1 rfl, rfl⟩
    case round =>
      obtain ⟨k, n, hk, rfl, HT, rfl⟩ := hrel
      have ik0 : (0 : Int) ≤ (k : Int) := by omega
      by_cases hlt : k < L
      · have ik : (k : Int) < (L : Int) := by omega
        obtain ⟨g1, o1, x, rfl, ex, cx, bx⟩ := H1.out.at (k := k) (by rw [LL.out]; exact hlt)
        obtain ⟨g2, o2, y, rfl, ey, cy, b2⟩ := H2.out.at (k := k) (by rw [ML.out]; exact hlt)
        by_cases hxy : x = y
        · subst hxy
          have HN : Hid (l.take (k + 1) = m.take (k + 1)) := hid1 (take_eq_succ HT.out (ex.trans ey.symm))
          clear ex ey
          go_wp2_with fail
          go_quiet (fail)
          go_wp2
          exact ⟨⟨k + 1, _, by omega, by go_num, HN, rfl⟩, by simp [intOf]; omega⟩
        · have hne : Hid (l ≠ m) := hid1 (by rintro rfl; rw [ex] at ey; injection ey with ey; exact hxy ey)
          have hxy1 : ¬ (x : Int) = (y : Int) := by omega
          clear ex ey
          go_wp2_with fail
          go_quiet (fail)
          go_wp2
          go_ret
          exact ⟨by rw [decide_eq_false hne.out]; rfl, n + nq, by rw [World.drewN_drewN]⟩
      · obtain rfl : k = L := by omega
        have he : Hid (l = m) := hid1 (by
          have := HT.out
          rwa [List.take_of_length_le (by rw [LL.out]; exact Nat.le_refl _), List.take_of_length_le (by rw [ML.out]; exact Nat.le_refl _)] at this)
        go_wp2
        go_ret
        exact ⟨by rw [decide_eq_true he.out]; rfl, _, rfl⟩
  · have i1 : ¬ (l.length : Int) = (m.length : Int) := by omega
    have hne : Hid (l ≠ m) := hid1 (by rintro rfl; exact hlen rfl)
    go_enter Tryd.func10, Tryd.ntmps10
    go_wp2_with fail
    go_ret
    exact ⟨by rw [decide_eq_false hne.out]; rfl, 0, rfl⟩
theorem Cs.len {W : World} {lo : Option Addr} {cs : List Ck} (h : Cs W lo cs) : ∀ c ∈ cs, c.2.length ≤ 281474976710656 := fun c hc => by
  obtain ⟨j, hj⟩ := List.getElem?_of_mem hc
  obtain ⟨_, _, _, _, _, _, _, _, _, r⟩ := h j c hj
  exact r
theorem takec_succ {l m : List Ck} {k : Nat} (h : l.take k = m.take k) (e : l[k]? = m[k]?) : l.take (k + 1) = m.take (k + 1) := by
  rw [List.take_add_one, List.take_add_one, h, e]
set_option maxHeartbeats 1600000 in
set_option maxRecDepth 100000 in
theorem eq_any (ao ap : Option Addr) (c d : Nat) (l m : List Ck) (w : World) (hm : m.length ≤ 9223372036854775807) (h1 : Cs w ao l) (h2 : Cs w ap m) :
    Calls Tryd.prog 18 #[.slice ao l.length c, .slice ap m.length d] w fun e w' => e = .returned (.bool (decide (l = m))) ∧ ∃ n, w' = w.drewN n := by
  have H1 := hid1 h1
  have H2 := hid1 h2
  clear h1 h2
  by_cases hlen : l.length = m.length
  · have i1 : (l.length : Int) = (m.length : Int) := by omega
    obtain ⟨L, eL⟩ : ∃ L, m.length = L := ⟨_, rfl⟩
    rw [eL] at hm hlen i1 ⊢
    have ML := hid1 eL
    have LL := hid1 hlen
    rw [hlen]
    clear eL hlen i1
    go_enter Tryd.func18, Tryd.ntmps18
    go_wp2_with fail
    go_loopw [5] (fun i wr => ∃ k n : Nat, k ≤ L ∧ i = .int .i64 k ∧ Hid (l.take k = m.take k) ∧ wr = w.drewN n) (fun i _ => L - (intOf i).toNat)
    case atStart => exact ⟨0, 0, Nat.zero_le _, rfl, hid1 rfl, rfl⟩
    case round =>
      obtain ⟨k, n, hk, rfl, HT, rfl⟩ := hrel
      have ik0 : (0 : Int) ≤ (k : Int) := by omega
      by_cases hlt : k < L
      · have ik : (k : Int) < (L : Int) := by omega
        obtain ⟨x, ex⟩ : ∃ x, l[k]? = some x := ⟨_, List.getElem?_eq_getElem (by rw [LL.out]; exact hlt)⟩
        obtain ⟨y, ey⟩ : ∃ y, m[k]? = some y := ⟨_, List.getElem?_eq_getElem (by rw [ML.out]; exact hlt)⟩
        obtain ⟨g1, o1, a1, p1, rfl, c1, d1, b1, r1, q1⟩ := H1.out k x ex
        obtain ⟨g2, o2, a2, p2, rfl, c2, d2, b2, r2, q2⟩ := H2.out k y ey
        have BX := hid1 b1
        have BY := hid1 b2
        have SA := hid1 (fun W (h1 : By W a1 x.2) (h2 : By W a2 y.2) => same_any a1 a2 p1 p2 x.2 y.2 W (by omega) h1 h2)
        clear b1 b2 q1 q2
        by_cases hxy : x.1 = y.1
        · have HX : Hid (x.2 = y.2 → l.take (k + 1) = m.take (k + 1)) := hid1 fun h => takec_succ HT.out (by rw [ex, ey, Prod.ext hxy h])
          have HY : Hid (x.2 ≠ y.2 → l ≠ m) := hid1 fun h => by rintro rfl; rw [ex] at ey; injection ey with ey; exact h (by rw [ey])
          rw [hxy] at c1
          obtain ⟨t, et⟩ : ∃ t, y.1 = t := ⟨_, rfl⟩
          rw [et] at c1 c2
          clear ex ey hxy r1 r2 et
          by_cases hq : x.2 = y.2
          · rw [decide_eq_true hq] at SA
            have HN := hid1 (HX.out hq)
            generalize x.2.length = lx at *
            generalize y.2.length = ly at *
            clear hq
            go_wp2_with fail
            go_quiet ((go_at_call 10; refine (SA.out _ (BX.out.keep (bl_drewN (Below.refl _ _) _)) (BY.out.keep (bl_drewN (Below.refl _ _) _))).mono ?_; rintro e w1 ⟨rfl, nq, rfl⟩; refine ⟨rfl, ?_⟩; rw [World.drewN_drewN, Nat.add_assoc]; exact ⟨_, rfl⟩))
            go_wp2
            exact ⟨⟨k + 1, _, by omega, by go_num, HN, rfl⟩, by simp [intOf]; omega⟩
          · rw [decide_eq_false hq] at SA
            have HN := hid1 (HY.out hq)
            generalize x.2.length = lx at *
            generalize y.2.length = ly at *
            clear hq
            go_wp2_with fail
            go_quiet ((go_at_call 10; refine (SA.out _ (BX.out.keep (bl_drewN (Below.refl _ _) _)) (BY.out.keep (bl_drewN (Below.refl _ _) _))).mono ?_; rintro e w1 ⟨rfl, nq, rfl⟩; refine ⟨rfl, ?_⟩; rw [World.drewN_drewN, Nat.add_assoc]; exact ⟨_, rfl⟩))
            go_wp2
            go_ret
            exact ⟨by rw [decide_eq_false HN.out]; rfl, _, by rw [World.drewN_drewN]⟩
        · have HN : Hid (l ≠ m) := hid1 (by rintro rfl; rw [ex] at ey; injection ey with ey; exact hxy (by rw [ey]))
          have hxy1 : ¬ (x.1 : Int) = (y.1 : Int) := by omega
          generalize x.1 = t1 at *
          generalize y.1 = t2 at *
          clear ex ey r1 r2 SA
          go_wp2_with fail
          go_quiet (fail)
          go_wp2
          go_ret
          exact ⟨by rw [decide_eq_false HN.out]; rfl, _, by rw [World.drewN_drewN]⟩
      · obtain rfl : k = L := by omega
        have he : Hid (l = m) := hid1 (by
          have := HT.out
          rwa [List.take_of_length_le (by rw [LL.out]; exact Nat.le_refl _), List.take_of_length_le (by rw [ML.out]; exact Nat.le_refl _)] at this)
        go_wp2
        go_ret
        exact ⟨by rw [decide_eq_true he.out]; rfl, _, rfl⟩
  · have i1 : ¬ (l.length : Int) = (m.length : Int) := by omega
    have hne : Hid (l ≠ m) := hid1 (by rintro rfl; exact hlen rfl)
    go_enter Tryd.func18, Tryd.ntmps18
    go_wp2_with fail
    go_ret
    exact ⟨by rw [decide_eq_false hne.out]; rfl, 0, rfl⟩
end Go.Proofs.YtbpglkhgggokcaaDoor
