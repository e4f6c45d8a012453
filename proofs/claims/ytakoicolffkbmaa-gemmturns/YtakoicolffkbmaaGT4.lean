/- heddlelaw11: times. -/
import Derived.Test.YtakoicolffkbmaaGT3
namespace Go.Proofs.Ytakoicolffkbmaa
open Go.RowKit

theorem ok_at {n : Nat} {s : ByteArray} (h : OkS n s) {i : Nat} (hi : i < n) : ch s i = 43 ∨ ch s i = 45 ∨ ch s i = 48 := by
  have hs : i < s.size := by rw [h.1]; exact hi
  have h2 : i < s.data.toList.length := by simpa using hs
  have hm := h.2 (s.data.toList[i]'h2) (List.getElem_mem h2)
  have e : ch s i = (s.data.toList[i]'h2).toNat := by rw [← ch_at hs]; rfl
  rcases hm with h | h | h
  · left; rw [e, h]; rfl
  · right; left; rw [e, h]; rfl
  · right; right; rw [e, h]; rfl
/-- As far as it is summed. -/
def lsp (n : Nat) (s t : ByteArray) (i : Nat) : Int := tq (bn (nz s) n &&& bn (nz t) n) (bn (pl s) n) (bn (pl t) n) i
theorem lsm_is (n : Nat) (s t : ByteArray) : lsm n s t = lsp n s t n := tq_above (and_lt' (bn_lt _ _)) _ _ (nw_le n)
theorem lsp_step {n i : Nat} (s t : ByteArray) (h : i < n) : lsp n s t (i + 1) = lsp n s t i + tm (decide (ch s i ≠ 48) && decide (ch t i ≠ 48)) (decide (ch s i = 43)) (decide (ch t i = 43)) := by
  unfold lsp
  simp only [tq]
  rw [Nat.testBit_and, bn_bit, bn_bit, bn_bit, bn_bit]
  simp [h, nz, pl]
theorem lsp_bd (n : Nat) (s t : ByteArray) (i : Nat) : -(i : Int) ≤ lsp n s t i ∧ lsp n s t i ≤ i := tq_bd _ _ _ _
set_option maxHeartbeats 1600000 in
set_option maxRecDepth 100000 in
theorem times_any (s t : ByteArray) (n : Nat) (w : World) (hn : n ≤ 16777216) (hs : OkS n s) (ht : OkS n t) :
    Calls Try.prog 15 #[.string s, .string t] w fun e w' => e = .returned (.int .i64 (lsm n s t)) ∧ Qt w w' := by
  rw [lsm_is]
  have HS := hid1 hs
  have HT := hid1 ht
  have HST := hid1 (fun i (h : i < n) => lsp_step s t h)
  have HBD := hid1 (lsp_bd n s t)
  obtain ⟨f, hf⟩ : ∃ f, lsp n s t = f := ⟨_, rfl⟩
  have H0 : Hid (f 0 = 0) := by rw [← hf]; exact rfl
  rw [hf] at HST HBD ⊢
  have e1 := hs.1
  have e2 := ht.1
  clear hs ht hf
  go_enter Try.func15, Try.ntmps15
  go_wp2_with fail
  go_loopw [5, 6] (fun v x wr => ∃ i : Nat, i ≤ n ∧ v = .int .i64 (f i) ∧ x = .int .i64 i ∧ Qt w wr) (fun _ x _ => n - (intOf x).toNat)
  case atStart => exact ⟨0, Nat.zero_le _, by rw [H0.out], rfl, Qt.refl _⟩
  case round =>
    obtain ⟨i, hi, rfl, rfl, hq⟩ := hrel
    by_cases hlt : i < n
    · have is1 : i < s.size := by rw [e1]; exact hlt
      have is2 : i < t.size := by rw [e2]; exact hlt
      have ii : (i : Int) < (n : Int) := by omega
      have ii0 : (0 : Int) ≤ (i : Int) := by omega
      have k1 := ok_at HS.out hlt
      have k2 := ok_at HT.out hlt
      have hst := HST.out i hlt
      have bd := HBD.out i
      have x1 := ch_at is1
      have x2 := ch_at is2
      generalize ch s i = x at *
      generalize ch t i = y at *
      obtain ⟨fi, efi⟩ : ∃ v, f i = v := ⟨_, rfl⟩
      rw [efi] at hst bd ⊢
      clear efi
      by_cases hx : x = 48
      · subst hx
        have HV : Hid (f (i + 1) = fi) := hid1 (by rw [hst]; simp [tm])
        clear hst k1 k2
        go_wp2_with fail
        exact ⟨⟨i + 1, by omega, by rw [HV.out], by go_num, hq⟩, by simp [intOf]; omega⟩
      · have hx' : ((x : Int) == 48) = false := by simp; omega
        by_cases hy : y = 48
        · subst hy
          have HV : Hid (f (i + 1) = fi) := hid1 (by rw [hst]; simp [tm])
          clear hst k1 k2 hx
          go_wp2_with fail
          exact ⟨⟨i + 1, by omega, by rw [HV.out], by go_num, hq⟩, by simp [intOf]; omega⟩
        · have hy' : ((y : Int) == 48) = false := by simp; omega
          by_cases hxy : x = y
          · subst hxy
            have HV : Hid (f (i + 1) = fi + 1) := hid1 (by rw [hst]; simp [tm, hx])
            clear hst k1 k2 hx hy
            go_wp2_with fail
            go_quiet (fail)
            go_wp2_with fail
            exact ⟨⟨i + 1, by omega, by rw [HV.out], by go_num, hq.drewN _⟩, by simp [intOf]; omega⟩
          · have hxy' : ((x : Int) == (y : Int)) = false := by simp; omega
            have HV : Hid (f (i + 1) = fi - 1) := by
              rw [hst]
              have : (decide (x = 43) == decide (y = 43)) = false := by
                rcases k1 with rfl | rfl | rfl <;> rcases k2 with rfl | rfl | rfl <;> simp_all
              unfold tm
              simp [hx, hy]
              rw [if_neg (by simpa using this)]
              exact hid1 (by omega)
            clear hst k1 k2 hx hy hxy
            go_wp2_with fail
            go_quiet (fail)
            go_wp2_with fail
            exact ⟨⟨i + 1, by omega, by rw [HV.out], by go_num, hq.drewN _⟩, by simp [intOf]; omega⟩
    · have hkN : i = n := by omega
      subst hkN
      go_wp2_with fail
      go_ret
      exact ⟨rfl, hq⟩
end Go.Proofs.Ytakoicolffkbmaa
