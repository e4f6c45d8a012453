/- NETWORKS: NORMS. -/
import Derived.Test.YtlgjoepeibodkaaGreatNQ6
namespace Go.Proofs.YtlgjoepeibodkaaGreat.Nn
open Go.RowKit

def nno (L : Ly) (j : Nat) : Int := noE (L.ns j 0) (L.ns j 1) (L.ns j 2) (L.ns j 3) (L.ns j 4) (L.ns j 5) (L.ns j 6) (L.ns j 7)
def nmE (L : Ly) : Int := if ((L.mn : Int) = L.k ∧ L.mb = 0) ∧ ∀ j, j < L.mn → nno L j = 0 then 0 else 53
theorem nmE_cnt {L : Ly} (h : ¬ ((L.mn : Int) = L.k ∧ L.mb = 0)) : nmE L = 53 := if_neg fun k => h k.1
theorem nmE_no {L : Ly} {k : Nat} (hk : k < L.mn) (h : ¬ nno L k = 0) : nmE L = 53 := if_neg fun x => h (x.2 k hk)
theorem nmE_ok {L : Ly} (h : (L.mn : Int) = L.k ∧ L.mb = 0) (h2 : ∀ j, j < L.mn → nno L j = 0) : nmE L = 0 := if_pos ⟨h, h2⟩
set_option maxRecDepth 100000 in
theorem norms_any (L : Ly) (S : Sp) (w : World) (hL : Lst w L) : Asks 68 L S (nmE L) w := by
  unfold Asks
  have HL := hid1 hL
  have hm := hL.2.2.2.2.1
  clear hL
  have HC := hid1 (fun h => nmE_cnt (L := L) h)
  have HK := hid1 (fun h h2 => nmE_ok (L := L) h h2)
  by_cases h1 : (L.mn : Int) = L.k
  · have e1 : ((L.mn : Int) != L.k) = false := by simp [h1]
    have H1 := hid1 h1
    clear h1
    by_cases h2 : L.mb = 0
    · have e2 : ((L.mb : Int) != 0) = false := by simp [h2]
      have H2 := hid1 h2
      clear h2
      go_enter Tryz.func68, Tryz.ntmps68
      go_wp2_with fail
      refine gen_world (fun X => Below w.heap.size w X) (by repeat (first | (with_reducible exact Below.refl _ _) | (with_reducible refine bl_alloc ?_ _) | (with_reducible refine Below.drew ?_) | (with_reducible refine bl_drewN ?_ _) | (with_reducible refine bl_set ?_ (by omega) _) | (with_reducible refine bl_step ?_ (by assumption)))) ?_
      rintro Z BZ
      go_loopw [22] (fun i wr => ∃ k : Nat, k ≤ L.mn ∧ i = .int .i64 k ∧ Hid (∀ j, j < k → nno L j = 0) ∧ Below w.heap.size w wr) (fun i _ => L.mn - (intOf i).toNat)
      case atStart => exact ⟨0, Nat.zero_le _, rfl, hid1 fun j hj => absurd hj (by omega), BZ⟩
      case round =>
        obtain ⟨k, hk, rfl, HA, hnx⟩ := hrel
        have ik0 : (0 : Int) ≤ (k : Int) := by omega
        by_cases hlt : k < L.mn
        · have ik : (k : Int) < (L.mn : Int) := by omega
          obtain ⟨g, o, ea, a0, a1, a2, a3, a4, a5, a6, a7⟩ := (HL.out.2.1.keep hnx) k hlt
          have HN := hid1 (fun h => nmE_no (L := L) hlt h)
          have HY := hid1 (fun (h : nno L k = 0) => (show ∀ j, j < k + 1 → nno L j = 0 from fun j hj => by
            by_cases e : j = k
            · rw [e]; exact h
            · exact HA.out j (by omega)))
          have HM := norm_any (L.ns k 0) (L.ns k 1) (L.ns k 2) (L.ns k 3) (L.ns k 4) (L.ns k 5) (L.ns k 6) (L.ns k 7)
          change ∀ w, Calls Tryz.prog 86 _ w fun e w' => e = .returned (.int .i64 (nno L k)) ∧ _ at HM
          generalize nno L k = x at HN HY HM
          by_cases hx : x = 0
          · subst hx
            go_wp2_with fail
            refine (HM _).mono ?_
            rintro e w1 ⟨rfl, hb⟩
            have B1 : Below w.heap.size w w1 := by repeat (first | (with_reducible exact Below.refl _ _) | (with_reducible refine bl_alloc ?_ _) | (with_reducible refine Below.drew ?_) | (with_reducible refine bl_drewN ?_ _) | (with_reducible refine bl_set ?_ (by omega) _) | (with_reducible refine bl_step ?_ (by assumption)))
            clear hb hnx a0 a1 a2 a3 a4 a5 a6 a7
            go_wp2_with fail
            go_roundw
            case rel =>
              rw [ea]
              exact ⟨_, _, _, _, _, _, _, _, _, _, ⟨k + 1, by omega, by go_num, hid1 (HY.out (by first | rfl | trivial)), B1⟩, rfl⟩
            case measure => simp [intOf]; omega
          · have hx2 : (x != 0) = true := by simpa using hx
            go_wp2_with fail
            refine (HM _).mono ?_
            rintro e w1 ⟨rfl, hb⟩
            have B1 : Below w.heap.size w w1 := by repeat (first | (with_reducible exact Below.refl _ _) | (with_reducible refine bl_alloc ?_ _) | (with_reducible refine Below.drew ?_) | (with_reducible refine bl_drewN ?_ _) | (with_reducible refine bl_set ?_ (by omega) _) | (with_reducible refine bl_step ?_ (by assumption)))
            clear hb hnx a0 a1 a2 a3 a4 a5 a6 a7
            go_wp2_with fail
            go_ret
            exact ⟨by rw [HN.out hx]; rfl, B1⟩
        · have : k = L.mn := by omega
          subst this
          go_wp2_with fail
          go_ret
          exact ⟨by rw [HK.out ⟨H1.out, H2.out⟩ HA.out]; rfl, hnx⟩
    · have e2 : ((L.mb : Int) != 0) = true := by simp; omega
      go_enter Tryz.func68, Tryz.ntmps68
      go_wp2_with fail
      go_ret
      exact ⟨by rw [HC.out (fun h => h2 h.2)]; rfl, by repeat (first | (with_reducible exact Below.refl _ _) | (with_reducible refine bl_alloc ?_ _) | (with_reducible refine Below.drew ?_) | (with_reducible refine bl_drewN ?_ _) | (with_reducible refine bl_set ?_ (by omega) _) | (with_reducible refine bl_step ?_ (by assumption)))⟩
  · have e1 : ((L.mn : Int) != L.k) = true := by simp [h1]
    go_enter Tryz.func68, Tryz.ntmps68
    go_wp2_with fail
    go_ret
    exact ⟨by rw [HC.out (fun h => h1 h.1)]; rfl, by repeat (first | (with_reducible exact Below.refl _ _) | (with_reducible refine bl_alloc ?_ _) | (with_reducible refine Below.drew ?_) | (with_reducible refine bl_drewN ?_ _) | (with_reducible refine bl_set ?_ (by omega) _) | (with_reducible refine bl_step ?_ (by assumption)))⟩
def enE (L : Ly) (S : Sp) : Int := if S.la = true then (if (L.mb : Int) = L.k ∧ L.mn = 0 then 0 else 54) else nmE L
set_option maxRecDepth 100000 in
theorem ending_any (L : Ly) (S : Sp) (w : World) (hL : Lst w L) : Asks 71 L S (enE L S) w := by
  obtain ⟨sh, sv, sc, sa, fs, la⟩ := S
  unfold Asks enE
  have HL := hid1 hL
  clear hL
  cases la
  case true =>
    rw [if_pos rfl]
    have hcs : (¬ (L.mb : Int) = L.k) ∨ ((L.mb : Int) = L.k ∧ ¬ L.mn = 0) ∨ ((L.mb : Int) = L.k ∧ L.mn = 0) := by omega
    rcases hcs with h1 | ⟨h1, h2⟩ | ⟨h1, h2⟩
    · rw [if_neg (fun h => h1 h.1)]
      have e1 : ((L.mb : Int) == L.k) = false := by simpa using h1
      clear h1
      go_enter Tryz.func71, Tryz.ntmps71
      go_wp2_with (go_at_call 83; refine (unless_any _ _ _).mono ?_; rintro e w2 ⟨rfl, rfl⟩)
      go_ret
      refine ⟨by first | rfl | simp [*], ?_⟩
      repeat (first | (with_reducible exact Below.refl _ _) | (with_reducible refine bl_alloc ?_ _) | (with_reducible refine Below.drew ?_) | (with_reducible refine bl_drewN ?_ _) | (with_reducible refine bl_set ?_ (by omega) _) | (with_reducible refine bl_step ?_ (by assumption)))
    · rw [if_neg (fun h => h2 h.2)]
      have e1 : ((L.mb : Int) == L.k) = true := by simpa using h1
      have e2 : ((L.mn : Int) == 0) = false := by simp; omega
      clear h1 h2
      go_enter Tryz.func71, Tryz.ntmps71
      go_wp2_with (go_at_call 83; refine (unless_any _ _ _).mono ?_; rintro e w2 ⟨rfl, rfl⟩)
      go_ret
      refine ⟨by first | rfl | simp [*], ?_⟩
      repeat (first | (with_reducible exact Below.refl _ _) | (with_reducible refine bl_alloc ?_ _) | (with_reducible refine Below.drew ?_) | (with_reducible refine bl_drewN ?_ _) | (with_reducible refine bl_set ?_ (by omega) _) | (with_reducible refine bl_step ?_ (by assumption)))
    · rw [if_pos ⟨h1, h2⟩]
      have e1 : ((L.mb : Int) == L.k) = true := by simpa using h1
      have e2 : ((L.mn : Int) == 0) = true := by simp; omega
      clear h1 h2
      go_enter Tryz.func71, Tryz.ntmps71
      go_wp2_with (go_at_call 83; refine (unless_any _ _ _).mono ?_; rintro e w2 ⟨rfl, rfl⟩)
      go_ret
      refine ⟨by first | rfl | simp [*], ?_⟩
      repeat (first | (with_reducible exact Below.refl _ _) | (with_reducible refine bl_alloc ?_ _) | (with_reducible refine Below.drew ?_) | (with_reducible refine bl_drewN ?_ _) | (with_reducible refine bl_set ?_ (by omega) _) | (with_reducible refine bl_step ?_ (by assumption)))
  case false =>
    rw [if_neg (by simp)]
    go_enter Tryz.func71, Tryz.ntmps71
    go_wp2_with fail
    refine gen_calls (fun X => Below w.heap.size w X) (by repeat (first | (with_reducible exact Below.refl _ _) | (with_reducible refine bl_alloc ?_ _) | (with_reducible refine Below.drew ?_) | (with_reducible refine bl_drewN ?_ _) | (with_reducible refine bl_set ?_ (by omega) _) | (with_reducible refine bl_step ?_ (by assumption)))) ?_
    rintro X BX
    have hN := norms_any L ⟨sh, sv, sc, sa, fs, false⟩ X (HL.out.keep BX)
    unfold Asks at hN
    refine hN.mono ?_
    rintro e w1 ⟨rfl, hb⟩
    replace BX := bl_step BX hb
    clear hb hN
    go_wp2_with fail
    go_ret
    exact ⟨by first | rfl | simp [*], BX⟩
end Go.Proofs.YtlgjoepeibodkaaGreat.Nn
