import Derived.Test.YtffhbfdbahdhoabW9
namespace Go.Proofs.Ytffhbfdbahdhoab.Wd
open Go.RowKit Go.Shelf

theorem take_snoc (s : ByteArray) (k : Nat) (h : k < s.size) : s.data.toList.take (k + 1) = s.data.toList.take k ++ [s[k]] := by
  rw [List.take_succ_eq_append_getElem (by simpa using h)]; rfl
theorem dig_at {s : ByteArray} (hd : ∀ c ∈ s.data.toList, isDig c = true) (k : Nat) (h : k < s.size) : 48 ≤ (s[k].toNat : Int) ∧ (s[k].toNat : Int) ≤ 57 := by
  have hm : s[k] ∈ s.data.toList := by
    have e : s[k] = s.data.toList[k]'(by simpa using h) := rfl
    rw [e]; exact List.getElem_mem _
  have := dig_bd (hd _ hm)
  omega
theorem word_bd {s : ByteArray} (hs : s.size ≤ 19) (hd : ∀ c ∈ s.data.toList, isDig c = true) (k : Nat) (h : k < s.size) : 0 ≤ valD 0 (s.data.toList.take k) ∧ valD 0 (s.data.toList.take k) < 1000000000000000000 := by
  obtain ⟨h1, h2⟩ := valD_bd (s.data.toList.take k) (fun c hc => hd c (List.mem_of_mem_take hc))
  have h3 : (s.data.toList.take k).length ≤ 18 := by simp; omega
  have h4 : 10 ^ (s.data.toList.take k).length ≤ 10 ^ 18 := Nat.pow_le_pow_right (by decide) h3
  omega
theorem blist (s : ByteArray) : s.toList = s.data.toList := Go.ByteArray.toList_eq s
theorem size_len (s : ByteArray) : s.size = s.data.toList.length := by simp
def allD (s : ByteArray) : Bool := s.data.toList.all isDig
theorem all_snoc (s : ByteArray) (k : Nat) (h : k < s.size) : (s.data.toList.take (k + 1)).all isDig = ((s.data.toList.take k).all isDig && isDig s[k]) := by
  rw [take_snoc s k h]; simp
theorem all_bad {s : ByteArray} {k : Nat} (h : k < s.size) (hb : isDig s[k] = false) : allD s = false := by
  unfold allD; rw [List.all_eq_false]
  refine ⟨s[k], ?_, by simp [hb]⟩
  have e : s[k] = s.data.toList[k]'(by simpa using h) := rfl
  rw [e]; exact List.getElem_mem _
end Go.Proofs.Ytffhbfdbahdhoab.Wd
