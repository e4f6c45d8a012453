/- heddlelaw25: numbers, results, keys. -/
import Derived.Test.YtpjcpikafpnmpaaAK20
namespace Go.Proofs.Ytpjcpikafpnmpaa
open Go.RowKit

theorem tk_ext {α : Type} {a b : List α} {k : Nat} (h : a.take k = b.take k) {x : α} (ha : a[k]? = some x) (hb : b[k]? = some x) : a.take (k + 1) = b.take (k + 1) := by
  rw [List.take_add_one, List.take_add_one, h, ha, hb]
theorem tk_all {α : Type} {a b : List α} (h : a.take a.length = b.take a.length) (hl : a.length = b.length) : a = b := by
  rw [List.take_length] at h
  rw [h, hl, List.take_length]
set_option maxHeartbeats 1600000 in
set_option maxRecDepth 100000 in
theorem numbers_any (ao bo : Option Addr) (a b : List Int) (ca cb : Nat) (w : World) (hl : a.length ≤ 4611686018427387904) (h1 : Nm w ao a) (h2 : Nm w bo b) :
    Calls Try.prog 36 #[.slice ao a.length ca, .slice bo b.length cb] w fun e w' => e = .returned (.bool (decide (a = b))) ∧ Qt w w' := by
  obtain ⟨n, en⟩ : ∃ n, a.length = n := ⟨_, rfl⟩
  obtain ⟨m, em⟩ : ∃ m, b.length = m := ⟨_, rfl⟩
  by_cases hnm : n = m
  · subst hnm
    have HA : Hid (∀ k, k < n → ∃ g o x, ao = some ⟨g, o, none⟩ ∧ w.cell? ⟨g, o + k, none⟩ = some (.int .i64 x) ∧ a[k]? = some x) := fun k hk => by
      obtain ⟨g, o, e, c⟩ := h1.at (k := k) (by omega)
      exact ⟨g, o, _, e, c, List.getElem?_eq_getElem (by omega)⟩
    have HB : Hid (∀ k, k < n → ∃ g o x, bo = some ⟨g, o, none⟩ ∧ w.cell? ⟨g, o + k, none⟩ = some (.int .i64 x) ∧ b[k]? = some x) := fun k hk => by
      obtain ⟨g, o, e, c⟩ := h2.at (k := k) (by omega)
      exact ⟨g, o, _, e, c, List.getElem?_eq_getElem (by omega)⟩
    have HE : Hid (a.take n = b.take n → decide (a = b) = true) := fun h => decide_eq_true (tk_all (by rw [en]; exact h) (by rw [en, em]))
    have HF : Hid (∀ (k : Nat) (x y : Int), a[k]? = some x → b[k]? = some y → ¬ x = y → decide (a = b) = false) := fun k x y hx hy hne => decide_eq_false (fun e => hne (by subst e; exact Option.some.inj (hx.symm.trans hy)))
    rw [en] at hl ⊢
    rw [em]
    clear h1 h2 en em
    generalize decide (a = b) = D at *
    go_enter Try.func36, Try.ntmps36
    go_wp2_with fail
    go_loopw [5] (fun x wr => ∃ k : Nat, k ≤ n ∧ x = .int .i64 k ∧ Qt w wr ∧ Hid (a.take k = b.take k)) (fun x _ => n - (intOf x).toNat)
    case atStart => exact ⟨0, Nat.zero_le _, rfl, Qt.refl _, by simp [Hid]⟩
    case round =>
      obtain ⟨k, hk, rfl, hq, ht⟩ := hrel
      by_cases hlt : k < n
      · obtain ⟨g1, o1, x, rfl, d1, x1⟩ := HA.out k hlt
        obtain ⟨g2, o2, y, rfl, d2, x2⟩ := HB.out k hlt
        replace d1 := hq.cell d1
        replace d2 := hq.cell d2
        have ik : (k : Int) < (n : Int) := by omega
        have ik0 : (0 : Int) ≤ (k : Int) := by omega
        by_cases hxy : x = y
        · subst hxy
          have HT : Hid (a.take (k + 1) = b.take (k + 1)) := tk_ext ht.out x1 x2
          clear x1 x2 ht
          go_wp2_with fail
          go_quiet (fail)
          go_wp2_with fail
          exact ⟨⟨k + 1, by omega, by go_num, hq.drewN _, HT⟩, by simp [intOf]; omega⟩
        · have hD := HF.out k x y x1 x2 hxy
          clear x1 x2 ht
          go_wp2_with fail
          go_quiet (fail)
          go_wp2_with fail
          go_ret
          exact ⟨by rw [hD]; rfl, hq.drewN _⟩
      · have hkN : k = n := by omega
        subst hkN
        have hD := HE.out ht.out
        clear ht
        go_wp2_with fail
        go_ret
        exact ⟨by rw [hD]; rfl, hq⟩
  · rw [decide_eq_false (show ¬ a = b by rintro rfl; omega), en, em]
    clear h1 h2 en em
    have hnm' : ¬ (n : Int) = (m : Int) := by omega
    go_enter Try.func36, Try.ntmps36
    go_wp2_with fail
    go_ret
    exact ⟨rfl, Qt.refl _⟩
theorem Bs.qt {w w' : World} {ao : Option Addr} {s : ByteArray} (h : Bs w ao s) (q : Qt w w') : Bs w' ao s := by
  obtain ⟨n, rfl⟩ := q
  exact h.block fun _ _ _ => by rw [heap_drewN]
/-- A list of keys lies in memory. -/
def Kd (w : World) (ao : Option Addr) (ks : List ByteArray) : Prop := ∀ (i : Nat) (k : ByteArray), ks[i]? = some k → ∃ g o ai ci, ao = some ⟨g, o, none⟩ ∧ w.cell? ⟨g, o + i, none⟩ = some (.slice ai k.size ci) ∧ Bs w ai k
theorem Kd.at {w : World} {ao : Option Addr} {ks : List ByteArray} (h : Kd w ao ks) {k : Nat} (hk : k < ks.length) : ∃ g o ai ci, ao = some ⟨g, o, none⟩ ∧ w.cell? ⟨g, o + k, none⟩ = some (.slice ai ks[k].size ci) ∧ Bs w ai ks[k] := h k _ (List.getElem?_eq_getElem hk)
theorem Kl.kd {w : World} {M : Nat} {v : Value} {ks : List ByteArray} {ss : List Value} (h : Kl w M v ks ss) : ∃ ao cap, v = .slice ao ks.length cap ∧ Kd w ao ks := by
  rcases h.out.2 with ⟨rfl, h0⟩ | ⟨g, cap, cur, rfl, h1, h2, h3, h4, h5, h6⟩
  · refine ⟨none, 0, by rw [h0], fun i k hi => ?_⟩
    rw [List.length_eq_zero_iff.1 h0] at hi; simp at hi
  · refine ⟨_, cap, rfl, fun i k hi => ?_⟩
    have hil : i < ks.length := (List.getElem?_eq_some_iff.1 hi).1
    have hsl : i < ss.length := by rw [h.len]; exact hil
    obtain ⟨g', c', e, bs⟩ := (h.key i k ss[i] hi (List.getElem?_eq_getElem hsl)).bs
    refine ⟨g, 0, _, c', rfl, ?_, bs⟩
    have e1 : cur.toList[i]? = some ss[i] := by
      obtain ⟨u, hu⟩ : ∃ u, ss[i] = u := ⟨_, rfl⟩
      have : ss[i]? = some u := by rw [List.getElem?_eq_getElem hsl, hu]
      rw [hu]
      rw [← h6, Nat.mul_one, List.getElem?_take_of_lt hil] at this
      exact this
    rw [Nat.zero_add, ← e]
    have e2 : cur[i]? = some ss[i] := by rw [← Array.getElem?_toList]; exact e1
    simp [World.cell?, h2, e2]
set_option maxHeartbeats 1600000 in
set_option maxRecDepth 100000 in
theorem lkeys_any (ao bo : Option Addr) (a b : List ByteArray) (ca cb : Nat) (w : World) (hl : a.length ≤ 4611686018427387904) (h1 : Kd w ao a) (h2 : Kd w bo b) :
    Calls Try.prog 20 #[.slice ao a.length ca, .slice bo b.length cb] w fun e w' => e = .returned (.bool (decide (a = b))) ∧ Qt w w' := by
  obtain ⟨n, en⟩ : ∃ n, a.length = n := ⟨_, rfl⟩
  obtain ⟨m, em⟩ : ∃ m, b.length = m := ⟨_, rfl⟩
  by_cases hnm : n = m
  · subst hnm
    have HA : Hid (∀ k, k < n → ∃ g o x ai ci, ao = some ⟨g, o, none⟩ ∧ w.cell? ⟨g, o + k, none⟩ = some (.slice ai x.size ci) ∧ Bs w ai x ∧ a[k]? = some x) := fun k hk => by
      obtain ⟨g, o, ai, ci, e, c, bs⟩ := h1.at (k := k) (by omega)
      exact ⟨g, o, _, ai, ci, e, c, bs, List.getElem?_eq_getElem (by omega)⟩
    have HB : Hid (∀ k, k < n → ∃ g o x ai ci, bo = some ⟨g, o, none⟩ ∧ w.cell? ⟨g, o + k, none⟩ = some (.slice ai x.size ci) ∧ Bs w ai x ∧ b[k]? = some x) := fun k hk => by
      obtain ⟨g, o, ai, ci, e, c, bs⟩ := h2.at (k := k) (by omega)
      exact ⟨g, o, _, ai, ci, e, c, bs, List.getElem?_eq_getElem (by omega)⟩
    have HE : Hid (a.take n = b.take n → decide (a = b) = true) := fun h => decide_eq_true (tk_all (by rw [en]; exact h) (by rw [en, em]))
    have HF : Hid (∀ (k : Nat) (x y : ByteArray), a[k]? = some x → b[k]? = some y → ¬ x = y → decide (a = b) = false) := fun k x y hx hy hne => decide_eq_false (fun e => hne (by subst e; exact Option.some.inj (hx.symm.trans hy)))
    rw [en] at hl ⊢
    rw [em]
    clear h1 h2 en em
    generalize decide (a = b) = D at *
    go_enter Try.func20, Try.ntmps20
    go_wp2_with fail
    go_loopw [5] (fun x wr => ∃ k : Nat, k ≤ n ∧ x = .int .i64 k ∧ Qt w wr ∧ Hid (a.take k = b.take k)) (fun x _ => n - (intOf x).toNat)
    case atStart => exact ⟨0, Nat.zero_le _, rfl, Qt.refl _, by simp [Hid]⟩
    case round =>
      obtain ⟨k, hk, rfl, hq, ht⟩ := hrel
      by_cases hlt : k < n
      · obtain ⟨g1, o1, x, ai1, ci1, rfl, d1, bs1, x1⟩ := HA.out k hlt
        obtain ⟨g2, o2, y, ai2, ci2, rfl, d2, bs2, x2⟩ := HB.out k hlt
        replace d1 := hq.cell d1
        replace d2 := hq.cell d2
        have cv1 := conv_qt (cap := ci1) (bs1.qt hq)
        have cv2 := conv_qt (cap := ci2) (bs2.qt hq)
        clear bs1 bs2
        have ik : (k : Int) < (n : Int) := by omega
        have ik0 : (0 : Int) ≤ (k : Int) := by omega
        by_cases hxy : x = y
        · subst hxy
          have hb : (x.toList == x.toList) = true := by rw [str_eqb]; exact decide_eq_true rfl
          have HT : Hid (a.take (k + 1) = b.take (k + 1)) := tk_ext ht.out x1 x2
          clear x1 x2 ht
          go_wp2_with fail
          go_quiet (fail)
          go_wp2_with fail
          exact ⟨⟨k + 1, by omega, by go_num, hq.drewN _, HT⟩, by simp [intOf]; omega⟩
        · have hD := HF.out k x y x1 x2 hxy
          have hb : (x.toList == y.toList) = false := by rw [str_eqb]; exact decide_eq_false hxy
          clear x1 x2 ht
          go_wp2_with fail
          go_quiet (fail)
          go_wp2_with fail
          go_ret
          exact ⟨by rw [hD]; rfl, hq.drewN _⟩
      · have hkN : k = n := by omega
        subst hkN
        have hD := HE.out ht.out
        clear ht
        go_wp2_with fail
        go_ret
        exact ⟨by rw [hD]; rfl, hq⟩
  · rw [decide_eq_false (show ¬ a = b by rintro rfl; omega), en, em]
    clear h1 h2 en em
    have hnm' : ¬ (n : Int) = (m : Int) := by omega
    go_enter Try.func20, Try.ntmps20
    go_wp2_with fail
    go_ret
    exact ⟨rfl, Qt.refl _⟩
set_option maxHeartbeats 1600000 in
set_option maxRecDepth 100000 in
theorem results_any (ao bo : Option Addr) (a b : List Int) (ca cb : Nat) (x y : Int) (w : World) (hl : a.length ≤ 4611686018427387904) (h1 : Nm w ao a) (h2 : Nm w bo b) :
    Calls Try.prog 17 #[rsv (.slice ao a.length ca) x, rsv (.slice bo b.length cb) y] w fun e w' => e = .returned (.bool (decide (x = y) && decide (a = b))) ∧ Below w.heap.size w w' := by
  have HB : Below w.heap.size w ((w.alloc (.cells #[.slice ao a.length ca, .int .i64 x] 31)).alloc (.cells #[.slice bo b.length cb, .int .i64 y] 31)) := bl_alloc (bl_alloc (Below.refl _ _) _) _
  have HC := hid1 (numbers_any ao bo a b ca cb _ hl (h1.below HB) (h2.below HB))
  clear h1 h2
  generalize decide (a = b) = D at *
  generalize a.length = n at *
  generalize b.length = m at *
  by_cases hxy : x = y
  · subst hxy
    rw [decide_eq_true rfl]
    go_enter Try.func17, Try.ntmps17
    go_wp2_with (go_at_call 36; refine HC.out.mono ?_; rintro e w1 ⟨rfl, hq⟩)
    go_ret
    exact ⟨rfl, hq.below HB⟩
  · rw [decide_eq_false hxy]
    go_enter Try.func17, Try.ntmps17
    go_wp2_with fail
    go_ret
    exact ⟨rfl, HB⟩
end Go.Proofs.Ytpjcpikafpnmpaa
