import Derived.Test.YtcjglbejmlebhaaDoorW9
namespace Go.Proofs.YtcjglbejmlebhaaDoor
open Go.RowKit Go.Shelf

theorem take_snoc (s : ByteArray) (k : Nat) (h : k < s.size) : s.data.toList.take (k + 1) = s.data.toList.take k ++ [s[k]] := by
  rw [List.take_succ_eq_append_getElem (by simpa using h)]; rfl
theorem dig_at {s : ByteArray} (hd : ∀ c ∈ s.data.toList, isDig c = true) (k : Nat) (h : k < s.size) : 48 ≤ (s[k].toNat : Int) ∧ (s[k].toNat : Int) ≤ 57 := by
  have hm : s[k] ∈ s.data.toList := by
    have e : s[k] = s.data.toList[k]'(by simpa using h) := rfl
    rw [e]; exact List.getElem_mem _
  have := dig_bd (hd _ hm)
  omega
theorem word_bd {s : ByteArray} (hs : s.size ≤ 19) (hd : ∀ c ∈ s.data.toList, isDig c = true) (k : Nat) (h : k < s.size) : 0 ≤ valD 0 (s.data.toList.take k) ∧ valD 0 (s.data.toList.take k) < 1000000000000000000 := by
  obtain ⟨h1, h2⟩ := valD_bd (s.data.toList.take k) (fun c hc => hd c (List.mem_of_mem_take hc))
  have h3 : (s.data.toList.take k).length ≤ 18 := by simp; omega
  have h4 : 10 ^ (s.data.toList.take k).length ≤ 10 ^ 18 := Nat.pow_le_pow_right (by decide) h3
  omega
set_option maxRecDepth 100000 in
theorem word_any (s : ByteArray) (hs : s.size ≤ 19) (hd : ∀ c ∈ s.data.toList, isDig c = true) (w : World) :
    Calls Tryd.prog 73 #[.string s] w fun e w' => e = .returned (.int .u64 (valD 0 s.data.toList)) ∧ w' = w := by
  have HD := hid1 hd
  clear hd
  go_enter Tryd.func73, Tryd.ntmps73
  go_wp2
  go_loop [3, 7] (fun n i => ∃ k : Nat, k ≤ s.size ∧ i = .int .i64 k ∧ n = .int .u64 (valD 0 (s.data.toList.take k))) (fun _ i => s.size - (intOf i).toNat)
  case atStart => exact ⟨0, Nat.zero_le _, rfl, rfl⟩
  case round =>
    obtain ⟨k, hk, rfl, rfl⟩ := hrel
    by_cases hlt : k < s.size
    · obtain ⟨b1, b2⟩ := word_bd hs HD.out k hlt
      obtain ⟨d1, d2⟩ := dig_at HD.out k hlt
      have hsn : valD 0 (s.data.toList.take (k + 1)) = valD 0 (s.data.toList.take k) * 10 + ((s[k].toNat : Int) - 48) := by rw [take_snoc s k hlt, valD_append]; rfl
      have HS := hid1 hsn
      clear hsn
      obtain ⟨v, hv⟩ : ∃ v, valD 0 (s.data.toList.take k) = v := ⟨_, rfl⟩
      rw [hv] at b1 b2
      have HV := hid1 hv
      rw [hv]
      clear hv
      go_wp2
      exact ⟨⟨k + 1, by omega, by go_num, by rw [HS.out, HV.out]⟩, by simp [intOf]; omega⟩
    · go_wp2
      go_ret
      exact ⟨by rw [List.take_of_length_le (by simp; omega)]; rfl, rfl⟩
theorem blist (s : ByteArray) : s.toList = s.data.toList := Go.ByteArray.toList_eq s
theorem size_len (s : ByteArray) : s.size = s.data.toList.length := by simp
set_option maxRecDepth 100000 in
theorem isw_empty (s : ByteArray) (h : s.data.toList = []) (w : World) :
    Calls Tryd.prog 43 #[.string s] w fun e w' => e = .returned (.bool false) ∧ w' = w := by
  have e1 : s.toList = [] := by rw [blist]; exact h
  have e2 : s.toList.isEmpty = true := by rw [e1]; rfl
  clear h
  go_enter Tryd.func43, Tryd.ntmps43
  go_wp2
  go_ret
  exact ⟨rfl, rfl⟩
set_option maxRecDepth 100000 in
theorem isw_nought (s : ByteArray) (c : UInt8) (r : List UInt8) (h : s.data.toList = 48 :: c :: r) (w : World) :
    Calls Tryd.prog 43 #[.string s] w fun e w' => e = .returned (.bool false) ∧ w' = w := by
  have e0 : 0 < s.size := by rw [size_len, h]; simp
  have e1 : ¬ s.toList = [] := by rw [blist, h]; simp
  have e2 : s.toList.isEmpty = false := by rw [blist, h]; rfl
  have e3 : (s[0].toNat : Int) = 48 := by
    have e : s[0] = s.data.toList[0]'(by rw [h]; simp) := rfl
    rw [e]; simp only [h]; rfl
  have e4 : (s.toList == [48]) = false := by rw [blist, h]; simp
  clear h
  go_enter Tryd.func43, Tryd.ntmps43
  go_wp2
  go_ret
  exact ⟨rfl, rfl⟩
def allD (s : ByteArray) : Bool := s.data.toList.all isDig
theorem all_snoc (s : ByteArray) (k : Nat) (h : k < s.size) : (s.data.toList.take (k + 1)).all isDig = ((s.data.toList.take k).all isDig && isDig s[k]) := by
  rw [take_snoc s k h]; simp
theorem all_bad {s : ByteArray} {k : Nat} (h : k < s.size) (hb : isDig s[k] = false) : allD s = false := by
  unfold allD; rw [List.all_eq_false]
  refine ⟨s[k], ?_, by simp [hb]⟩
  have e : s[k] = s.data.toList[k]'(by simpa using h) := rfl
  rw [e]; exact List.getElem_mem _
set_option maxRecDepth 100000 in
theorem isw_loop (s : ByteArray) (hs : s.size ≤ maxLen) (h0 : 0 < s.size) (h1 : ¬ (s[0].toNat : Int) = 48 ∨ ((s[0].toNat : Int) = 48 ∧ (s.toList == [48]) = true)) (w : World) :
    Calls Tryd.prog 43 #[.string s] w fun e w' => e = .returned (.bool (allD s)) ∧ w' = w := by
  unfold maxLen at hs
  have e1 : ¬ s.toList = [] := by
    rw [blist]; intro e; rw [size_len, e] at h0; simp at h0
  have e2 : s.toList.isEmpty = false := by simpa using e1
  rcases h1 with h1 | ⟨h1, h2⟩
  all_goals
    go_enter Tryd.func43, Tryd.ntmps43
    go_wp2
    go_loop [17] (fun i => ∃ k : Nat, k ≤ s.size ∧ i = .int .i64 k ∧ (s.data.toList.take k).all isDig = true) (fun i => s.size - (intOf i).toNat)
    case atStart => exact ⟨0, Nat.zero_le _, rfl, rfl⟩
    case round =>
      obtain ⟨k, hk, rfl, hall⟩ := hrel
      have HA := hid1 hall
      clear hall
      by_cases hlt : k < s.size
      · by_cases hd : isDig s[k] = true
        · obtain ⟨d1, d2⟩ := dig_bd hd
          have d3 : ¬ (s[k].toNat : Int) < 48 := by omega
          have d4 : ¬ (57 : Int) < (s[k].toNat : Int) := by omega
          have HD := hid1 hd
          clear hd d1 d2
          go_wp2
          exact ⟨⟨k + 1, by omega, by go_num, by rw [all_snoc s k hlt, HA.out, HD.out]; rfl⟩, by simp [intOf]; omega⟩
        · have hb : isDig s[k] = false := by simpa using hd
          have HB := hid1 (all_bad hlt hb)
          have hd' : (s[k].toNat : Int) < 48 ∨ (57 : Int) < (s[k].toNat : Int) := by simp [isDig] at hb; omega
          clear hd hb
          rcases hd' with hd' | hd'
          · go_wp2
            go_ret
            exact ⟨by rw [HB.out]; rfl, rfl⟩
          · have d3 : ¬ (s[k].toNat : Int) < 48 := by omega
            go_wp2
            go_ret
            exact ⟨by rw [HB.out]; rfl, rfl⟩
      · go_wp2
        go_ret
        have e : (s.data.toList.take k) = s.data.toList := List.take_of_length_le (by simp; omega)
        have h : allD s = true := by unfold allD; rw [← e]; exact HA.out
        exact ⟨by rw [h]; rfl, rfl⟩
end Go.Proofs.YtcjglbejmlebhaaDoor
