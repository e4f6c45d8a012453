/- NETWORKS: HOW FAR SUMS REACH. -/
import Derived.Test.YtlgjoepeibodkaaGreatNQ6
namespace Go.Proofs.YtlgjoepeibodkaaGreat.Nn
open Go.RowKit

def lef (L : Ly) (S : Sp) : Int := 2147483647 - fan L S.h S.v S.c * (if S.fs = true then 128 else 1)
def bok (l x : Int) : Prop := -l ≤ x ∧ x ≤ l
instance (l x : Int) : Decidable (bok l x) := by unfold bok; infer_instance
def reE (L : Ly) (S : Sp) : Int := if 0 ≤ lef L S ∧ ∀ j, j < L.mb → bok (lef L S) (L.bs j) then 0 else 55
theorem reE_low {L : Ly} {S : Sp} (h : lef L S < 0) : reE L S = 55 := if_neg fun k => by have := k.1; omega
theorem reE_no {L : Ly} {S : Sp} {k : Nat} (hk : k < L.mb) (h : ¬ bok (lef L S) (L.bs k)) : reE L S = 55 := if_neg fun x => h (x.2 k hk)
theorem reE_ok {L : Ly} {S : Sp} (h : 0 ≤ lef L S) (h2 : ∀ j, j < L.mb → bok (lef L S) (L.bs j)) : reE L S = 0 := if_pos ⟨h, h2⟩
set_option maxRecDepth 100000 in
theorem reach_two (L : Ly) (S : Sp) (hs : Sides S.h S.v S.c) (hf : Fok L) (w : World) (hL : Lst w L) (mm : Int) (hmm : (S.fs = true ∧ mm = 128) ∨ (S.fs = false ∧ mm = 1)) : Asks 69 L S (reE L S) w := by
  unfold Asks
  have HL := hid1 hL
  have hm := hL.2.2.2.2.2
  clear hL
  have hb := fan_b hs hf
  have cF := fanIn_any L S.h S.v S.c hs hf
  have hle : lef L S = 2147483647 - fan L S.h S.v S.c * mm := by
    unfold lef
    rcases hmm with ⟨h, rfl⟩ | ⟨h, rfl⟩ <;> rw [h] <;> simp
  have H0 := hid1 (fun h => reE_low (L := L) (S := S) h)
  have H1 := hid1 (fun k (hk : k < L.mb) h => reE_no (L := L) (S := S) hk h)
  have H2 := hid1 (fun h h2 => reE_ok (L := L) (S := S) h h2)
  rw [hle] at H0 H1 H2
  clear hs hle
  generalize fan L S.h S.v S.c = f at *
  obtain ⟨p, hp⟩ : ∃ p, p = f * mm := ⟨_, rfl⟩
  have hp2 : (S.fs = true ∧ p = f * 128) ∨ (S.fs = false ∧ p = f) := by
    rcases hmm with ⟨h, rfl⟩ | ⟨h, rfl⟩
    · exact .inl ⟨h, hp⟩
    · exact .inr ⟨h, by omega⟩
  rw [← hp] at H0 H1 H2
  clear hp hf hmm mm
  by_cases hlo : 2147483647 - p < 0
  · rcases hp2 with ⟨hfs, rfl⟩ | ⟨hfs, rfl⟩ <;>
    (go_enter Tryz.func69, Tryz.ntmps69
     go_wp2_with (go_at_call 75; refine (cF _).mono ?_; rintro e w1 ⟨rfl, rfl⟩)
     go_ret
     exact ⟨by rw [H0.out hlo]; first | rfl | simp [*], by repeat (first | (with_reducible exact Below.refl _ _) | (with_reducible refine bl_alloc ?_ _) | (with_reducible refine Below.drew ?_) | (with_reducible refine bl_drewN ?_ _) | (with_reducible refine bl_set ?_ (by omega) _) | (with_reducible refine bl_step ?_ (by assumption)))⟩)
  · have HZ := hid1 (H2.out (by omega))
    rcases hp2 with ⟨hfs, rfl⟩ | ⟨hfs, rfl⟩
    · skip
      go_enter Tryz.func69, Tryz.ntmps69
      go_wp2_with (go_at_call 75; refine (cF _).mono ?_; rintro e w1 ⟨rfl, rfl⟩)
      refine gen_world (fun X => Below w.heap.size w X) (by repeat (first | (with_reducible exact Below.refl _ _) | (with_reducible refine bl_alloc ?_ _) | (with_reducible refine Below.drew ?_) | (with_reducible refine bl_drewN ?_ _) | (with_reducible refine bl_set ?_ (by omega) _) | (with_reducible refine bl_step ?_ (by assumption)))) ?_
      rintro Z BZ
      have HW := hid1 (HL.out.2.2.1.keep BZ)
      have HB := hid1 BZ
      clear BZ
      go_loop [23] (fun i => ∃ k : Nat, k ≤ L.mb ∧ i = .int .i64 k ∧ Hid (∀ j, j < k → bok (2147483647 - f * 128) (L.bs j))) (fun i => L.mb - (intOf i).toNat)
      case atStart => exact ⟨0, Nat.zero_le _, rfl, hid1 fun j hj => absurd hj (by omega)⟩
      case round =>
        obtain ⟨k, hk, rfl, HA⟩ := hrel
        have ik0 : (0 : Int) ≤ (k : Int) := by omega
        by_cases hlt : k < L.mb
        · have ik : (k : Int) < (L.mb : Int) := by omega
          obtain ⟨g, o, ea, hc⟩ := HW.out k hlt
          have HN := hid1 (fun h => H1.out k hlt h)
          have HY := hid1 (fun (h : bok (2147483647 - f * 128) (L.bs k)) => (show ∀ j, j < k + 1 → bok (2147483647 - f * 128) (L.bs j) from fun j hj => by
            by_cases e : j = k
            · rw [e]; exact h
            · exact HA.out j (by omega)))
          generalize L.bs k = x at hc HN HY
          have hcs : x < -(2147483647 - f * 128) ∨ (¬ x < -(2147483647 - f * 128) ∧ 2147483647 - f * 128 < x) ∨ (¬ x < -(2147483647 - f * 128) ∧ ¬ 2147483647 - f * 128 < x) := by omega
          rcases hcs with h1 | ⟨h1, h2⟩ | ⟨h1, h2⟩
          · go_wp2_with fail
            go_ret
            exact ⟨by rw [HN.out (fun h => by have := h.1; omega)]; rfl, HB.out⟩
          · go_wp2_with fail
            go_ret
            exact ⟨by rw [HN.out (fun h => by have := h.2; omega)]; rfl, HB.out⟩
          · go_wp2_with fail
            go_round
            case rel => exact ⟨k + 1, by omega, by go_num, hid1 (HY.out ⟨by omega, by omega⟩)⟩
            case measure => simp [intOf]; omega
        · have : k = L.mb := by omega
          subst this
          go_wp2_with fail
          go_ret
          exact ⟨by rw [HZ.out HA.out]; rfl, HB.out⟩
    · skip
      go_enter Tryz.func69, Tryz.ntmps69
      go_wp2_with (go_at_call 75; refine (cF _).mono ?_; rintro e w1 ⟨rfl, rfl⟩)
      refine gen_world (fun X => Below w.heap.size w X) (by repeat (first | (with_reducible exact Below.refl _ _) | (with_reducible refine bl_alloc ?_ _) | (with_reducible refine Below.drew ?_) | (with_reducible refine bl_drewN ?_ _) | (with_reducible refine bl_set ?_ (by omega) _) | (with_reducible refine bl_step ?_ (by assumption)))) ?_
      rintro Z BZ
      have HW := hid1 (HL.out.2.2.1.keep BZ)
      have HB := hid1 BZ
      clear BZ
      go_loop [23] (fun i => ∃ k : Nat, k ≤ L.mb ∧ i = .int .i64 k ∧ Hid (∀ j, j < k → bok (2147483647 - p) (L.bs j))) (fun i => L.mb - (intOf i).toNat)
      case atStart => exact ⟨0, Nat.zero_le _, rfl, hid1 fun j hj => absurd hj (by omega)⟩
      case round =>
        obtain ⟨k, hk, rfl, HA⟩ := hrel
        have ik0 : (0 : Int) ≤ (k : Int) := by omega
        by_cases hlt : k < L.mb
        · have ik : (k : Int) < (L.mb : Int) := by omega
          obtain ⟨g, o, ea, hc⟩ := HW.out k hlt
          have HN := hid1 (fun h => H1.out k hlt h)
          have HY := hid1 (fun (h : bok (2147483647 - p) (L.bs k)) => (show ∀ j, j < k + 1 → bok (2147483647 - p) (L.bs j) from fun j hj => by
            by_cases e : j = k
            · rw [e]; exact h
            · exact HA.out j (by omega)))
          generalize L.bs k = x at hc HN HY
          have hcs : x < -(2147483647 - p) ∨ (¬ x < -(2147483647 - p) ∧ 2147483647 - p < x) ∨ (¬ x < -(2147483647 - p) ∧ ¬ 2147483647 - p < x) := by omega
          rcases hcs with h1 | ⟨h1, h2⟩ | ⟨h1, h2⟩
          · go_wp2_with fail
            go_ret
            exact ⟨by rw [HN.out (fun h => by have := h.1; omega)]; rfl, HB.out⟩
          · go_wp2_with fail
            go_ret
            exact ⟨by rw [HN.out (fun h => by have := h.2; omega)]; rfl, HB.out⟩
          · go_wp2_with fail
            go_round
            case rel => exact ⟨k + 1, by omega, by go_num, hid1 (HY.out ⟨by omega, by omega⟩)⟩
            case measure => simp [intOf]; omega
        · have : k = L.mb := by omega
          subst this
          go_wp2_with fail
          go_ret
          exact ⟨by rw [HZ.out HA.out]; rfl, HB.out⟩
theorem reach_any (L : Ly) (S : Sp) (hs : Sides S.h S.v S.c) (hf : Fok L) (w : World) (hL : Lst w L) : Asks 69 L S (reE L S) w := by
  by_cases h : S.fs = true
  · exact reach_two L S hs hf w hL 128 (.inl ⟨h, rfl⟩)
  · exact reach_two L S hs hf w hL 1 (.inr ⟨by simpa using h, rfl⟩)
end Go.Proofs.YtlgjoepeibodkaaGreat.Nn
