/- PACKAGE rank: count, isOutput. -/
import Derived.Test.YtfdkjckoelmgeaaDoorRA2
namespace Go.Proofs.YtfdkjckoelmgeaaDoor
open Go.RowKit

/-- A table's value. -/
abbrev tbv (ao : Option Addr) (n cap : Nat) : Value := .agg #[.slice ao n cap]
/-- What count tells. -/
def cV (T : List (List Int)) : Int := (cnt T).getD 0
def cE (T : List (List Int)) : Int := if (cnt T).isSome then 0 else 1
theorem cnt_off {T : List (List Int)} (h : ¬ (1 ≤ T.length ∧ T.length ≤ 256)) : cnt T = none := by unfold cnt; rw [if_neg h]
theorem c1_step {l : List Int} {j : Nat} (h : j < l.length) (a : Int) : c1 a (l.drop j) = if l[j] < 0 ∨ 4611686018427387904 - a < l[j] then none else c1 (a + l[j]) (l.drop (j + 1)) := by
  rw [List.drop_eq_getElem_cons h]; rfl
theorem cR_step {T : List (List Int)} {i k : Nat} (h : i < T.length) (a : Int) : cR k a (T.drop i) = if (T[i]).length = k then (match c1 a T[i] with | none => none | some b => cR k b (T.drop (i + 1))) else none := by
  rw [List.drop_eq_getElem_cons h]; rfl
set_option maxHeartbeats 1600000 in
set_option maxRecDepth 100000 in
theorem count_ok (ao : Option Addr) (T : List (List Int)) (cap : Nat) (w : World) (h1 : 1 ≤ T.length) (h2 : T.length ≤ 256) (hr : ∀ r ∈ T, r.length ≤ 9223372036854775807) (h : Tn w ao T) :
    Calls Tryd.prog 27 #[tbv ao T.length cap] w fun e w' => e = .returned (.tuple #[.int .i64 (cV T), .int .i64 (cE T)]) ∧ Below w.heap.size w w' := by
  have HT := hid1 h
  have HR := hid1 hr
  clear h hr
  obtain ⟨n, hn⟩ : ∃ n, T.length = n := ⟨_, rfl⟩
  have hcn : cnt T = cR n 0 T := by unfold cnt; rw [if_pos ⟨h1, h2⟩, hn]
  have HN := hid1 hn
  rw [hn] at h1 h2 ⊢
  clear hn
  have HA : Hid (∀ k, (hk : k < n) → ∃ g o ai ci, ao = some ⟨g, o, none⟩ ∧ w.cell? ⟨g, o + k, none⟩ = some (.slice ai (T[k]'(by rw [HN.out]; exact hk)).length ci) ∧ Nm w ai (T[k]'(by rw [HN.out]; exact hk))) := fun k hk => HT.out.at (k := k) (by rw [HN.out]; exact hk)
  have HV : Hid (∀ o, cR n 0 T = o → cV T = o.getD 0 ∧ cE T = if o.isSome then 0 else 1) := fun o ho => by unfold cV cE; rw [hcn, ho]; exact ⟨rfl, rfl⟩
  generalize cV T = VV at HV ⊢
  generalize cE T = EE at HV ⊢
  clear hcn
  have n1 : (1 : Int) ≤ (n : Int) := by omega
  have n2 : (n : Int) ≤ 256 := by omega
  go_enter Tryd.func27, Tryd.ntmps27
  go_wp2_with fail
  obtain ⟨w1, hw1⟩ : ∃ w1, w1 = w.alloc (.cells #[.slice ao n cap] 36) := ⟨_, rfl⟩
  rw [← hw1]
  have HB := hid1 (show Below w.heap.size w w1 by rw [hw1]; exact bl_alloc (Below.refl _ _) _)
  clear hw1
  go_loopw [5, 22] (fun x y wr => ∃ (k : Nat) (a : Int), k ≤ n ∧ 0 ≤ a ∧ a ≤ 4611686018427387904 ∧ x = .int .i64 a ∧ y = .int .i64 k ∧ wr = w1 ∧ Hid (cR n 0 T = cR n a (T.drop k))) (fun _ y _ => n - (intOf y).toNat)
  case atStart => exact ⟨0, 0, Nat.zero_le _, by omega, by omega, rfl, rfl, rfl, by simp [Hid]⟩
  case round =>
    obtain ⟨k, a, hk, ha0, ha1, rfl, rfl, rfl, hc⟩ := hrel
    by_cases hlt : k < n
    · obtain ⟨g, o, ai, ci, rfl, d1, nm⟩ := HA.out k hlt
      have hTk : k < T.length := by rw [HN.out]; exact hlt
      have hs := cR_step hTk (k := n) a
      have hmem : T[k] ∈ T := List.getElem_mem hTk
      have hrl := HR.out _ hmem
      generalize T[k] = r at d1 nm hs hrl
      clear hmem
      replace d1 := keepc HB.out d1
      have HNM := hid1 (nm.below HB.out)
      clear nm
      have ik : (k : Int) < (n : Int) := by omega
      have ik0 : (0 : Int) ≤ (k : Int) := by omega
      by_cases hlen : r.length = n
      · rw [if_pos hlen] at hs
        have HS := hid1 hs
        have HC := hid1 hc
        clear hs hc hTk
        have HL := hid1 hlen
        rw [hlen] at d1 hrl
        clear hlen
        go_wp2_with fail
        go_loopw [5, 32] (fun x y wq => ∃ (j : Nat) (b : Int), j ≤ n ∧ 0 ≤ b ∧ b ≤ 4611686018427387904 ∧ x = .int .i64 b ∧ y = .int .i64 j ∧ wq = wr ∧ Hid (c1 a r = c1 b (r.drop j))) (fun _ y _ => n - (intOf y).toNat)
        case atStart => exact ⟨0, a, Nat.zero_le _, by omega, by omega, rfl, rfl, rfl, by simp [Hid]⟩
        case round =>
          obtain ⟨j, b, hj, hb0, hb1, rfl, rfl, rfl, hd⟩ := hrel
          by_cases hjt : j < n
          · have hjr : j < r.length := by rw [HL.out]; exact hjt
            obtain ⟨g2, o2, rfl, d2⟩ := HNM.out.at hjr
            have hs2 := c1_step hjr b
            generalize r[j] = x at d2 hs2
            have jk : (j : Int) < (n : Int) := by omega
            have jk0 : (0 : Int) ≤ (j : Int) := by omega
            by_cases hx0 : x < 0
            · rw [if_pos (.inl hx0)] at hs2
              have e1 : cR n 0 T = none := by rw [HC.out.out, HS.out, hd.out, hs2]
              clear hs2 hd hjr
              go_wp2_with fail
              go_ret2
              obtain ⟨rfl, rfl⟩ := HV.out _ e1
              exact ⟨rfl, HB.out⟩
            · by_cases hx1 : 4611686018427387904 - b < x
              · rw [if_pos (.inr hx1)] at hs2
                have e1 : cR n 0 T = none := by rw [HC.out.out, HS.out, hd.out, hs2]
                clear hs2 hd hjr
                go_wp2_with fail
                go_ret2
                obtain ⟨rfl, rfl⟩ := HV.out _ e1
                exact ⟨rfl, HB.out⟩
              · rw [if_neg (by omega)] at hs2
                have e1 : Hid (c1 a r = c1 (b + x) (r.drop (j + 1))) := hd.out.trans hs2
                clear hs2 hd hjr
                go_wp2_with fail
                exact ⟨⟨j + 1, b + x, by omega, by omega, by omega, rfl, by go_num, trivial, e1⟩, by simp [intOf]; omega⟩
          · have hjN : j = n := by omega
            subst hjN
            have e1 : c1 a r = some b := by rw [hd.out, List.drop_eq_nil_of_le (by rw [HL.out]; exact Nat.le_refl _)]; rfl
            have e2 : Hid (cR j 0 T = cR j b (T.drop (k + 1))) := by
              show _ = _
              rw [HC.out.out, HS.out, e1]
            clear e1 hd
            go_wp2_with fail
            exact ⟨⟨k + 1, b, by omega, by omega, by omega, rfl, by go_num, trivial, e2⟩, by simp [intOf]; omega⟩
      · rw [if_neg hlen] at hs
        have e1 : cR n 0 T = none := by rw [hc.out, hs]
        have hlen' : ¬ ((r.length : Int) = (n : Int)) := by omega
        clear hs hc hTk
        go_wp2_with fail
        go_ret2
        obtain ⟨rfl, rfl⟩ := HV.out _ e1
        exact ⟨rfl, HB.out⟩
    · have hkN : k = n := by omega
      subst hkN
      have e1 : cR k 0 T = some a := by rw [hc.out, List.drop_eq_nil_of_le (by rw [HN.out]; exact Nat.le_refl _)]; rfl
      go_wp2_with fail
      go_ret2
      obtain ⟨rfl, rfl⟩ := HV.out _ e1
      exact ⟨rfl, HB.out⟩
set_option maxRecDepth 100000 in
theorem count_any (ao : Option Addr) (T : List (List Int)) (cap : Nat) (w : World) (h2 : T.length ≤ 9223372036854775807) (hr : ∀ r ∈ T, r.length ≤ 9223372036854775807) (h : Tn w ao T) :
    Calls Tryd.prog 27 #[tbv ao T.length cap] w fun e w' => e = .returned (.tuple #[.int .i64 (cV T), .int .i64 (cE T)]) ∧ Below w.heap.size w w' := by
  by_cases hk : 1 ≤ T.length ∧ T.length ≤ 256
  · exact count_ok ao T cap w hk.1 hk.2 hr h
  · unfold cV cE
    rw [cnt_off hk]
    clear h hr
    generalize T.length = n at *
    have hk' : ((n : Int) < 1) ∨ ((256 : Int) < (n : Int)) := by omega
    rcases hk' with hn | hn
    · go_enter Tryd.func27, Tryd.ntmps27
      go_wp2_with fail
      go_ret2
      exact ⟨rfl, bl_alloc (Below.refl _ _) _⟩
    · have hn2 : ¬ ((n : Int) < 1) := by omega
      go_enter Tryd.func27, Tryd.ntmps27
      go_wp2_with fail
      go_ret2
      exact ⟨rfl, bl_alloc (Below.refl _ _) _⟩
set_option maxRecDepth 100000 in
theorem isOut_any (ao : Option Addr) (n cap : Nat) (x : Int) (w : World) :
    Calls Tryd.prog 28 #[tbv ao n cap, .int .i64 x] w fun e w' => e = .returned (.bool (decide (0 ≤ x ∧ x < (n : Int)))) ∧ w' = w.alloc (.cells #[.slice ao n cap] 36) := by
  by_cases h0 : 0 ≤ x
  · by_cases hx : x < (n : Int)
    · rw [decide_eq_true (⟨h0, hx⟩ : 0 ≤ x ∧ x < (n : Int))]
      go_enter Tryd.func28, Tryd.ntmps28
      go_wp2_with fail
      go_ret
      exact ⟨rfl, rfl⟩
    · rw [decide_eq_false (show ¬ (0 ≤ x ∧ x < (n : Int)) by omega)]
      go_enter Tryd.func28, Tryd.ntmps28
      go_wp2_with fail
      go_ret
      exact ⟨rfl, rfl⟩
  · rw [decide_eq_false (show ¬ (0 ≤ x ∧ x < (n : Int)) by omega)]
    go_enter Tryd.func28, Tryd.ntmps28
    go_wp2_with fail
    go_ret
    exact ⟨rfl, rfl⟩
end Go.Proofs.YtfdkjckoelmgeaaDoor
