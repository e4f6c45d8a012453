/- PACKAGE cube: lay, pack, unpack. -/
import Derived.Test.YthjebjhepdclkaaKW2
import Derived.Test.YthjebjhepdclkaaBW15
namespace Go.Proofs.Ythjebjhepdclkaa
open Go.RowKit

set_option maxHeartbeats 1600000 in
set_option maxRecDepth 100000 in
theorem kpack_any (l : List Int) (N : Nat) (hN : l.length = N) (g cap : Nat) (ao : Option Addr) (ca : Nat) (w : World) (h1 : N ≤ 16777216) (h : R8 w ao l) (h0 : w.rowIs g 48 (nw N) (wf 0)) (hne : ∀ g' o, ao = some ⟨g', o, none⟩ → 0 < N → g' ≠ g) :
    Calls Try.prog 18 #[.slice (some ⟨g, 0, none⟩) (nw N) cap, .slice ao N ca] w fun e w' => e = .returned (.tuple #[]) ∧ w'.rowIs g 48 (nw N) (wf (pk l N)) ∧ But g w w' := by
  have HR := hid1 h
  have HNE := hid1 hne
  clear h hne
  have hb := nw_bd h1
  go_enter Try.func18, Try.ntmps18
  go_wp2_with fail
  go_loopw [8] (fun i wr => ∃ k : Nat, k ≤ N ∧ i = .int .i64 k ∧ wr.rowIs g 48 (nw N) (wf (pk l k)) ∧ But g w wr)
    (fun i _ => N - (intOf i).toNat)
  case atStart => exact ⟨0, Nat.zero_le _, rfl, h0, But.refl _ _⟩
  case round =>
    clear h0
    obtain ⟨k, hk, rfl, hrow, hnx⟩ := hrel
    by_cases hlt : k < N
    · obtain ⟨ga, oa, rfl, c8⟩ := HR.out k (by omega)
      replace c8 := hnx.cell (HNE.out ga oa rfl (by omega)) c8
      have ik : (k : Int) < (N : Int) := by omega
      have HP := hid1 (pk_wd l k)
      by_cases h0 : 0 < ia l k
      · obtain ⟨q, hq⟩ : ∃ q : Nat, k / 64 = q := ⟨_, rfl⟩
        obtain ⟨r, hr⟩ : ∃ r : Nat, k % 64 = r := ⟨_, rfl⟩
        have eq : (k : Int) / 64 = (q : Int) := by omega
        have er : (k : Int) % 64 = (r : Int) := by omega
        have er' : (k : Int).tmod 64 = (r : Int) := by rw [Int.tmod_eq_emod_of_nonneg (by omega)]; exact er
        have q1 : q < nw N := by unfold nw; omega
        have iq0 : (0 : Int) ≤ (q : Int) := by omega
        have iq1 : (q : Int) < (nw N : Nat) := by omega
        have ir0 : (0 : Int) ≤ (r : Int) := by omega
        have ir1 : (r : Int) ≤ 63 := by omega
        have wq : IntKind.i64.wrap (q : Int) = q := by rw [IntKind.wrap_i64]; omega
        have cw := hrow.cell q1
        have fw := hrow.frozen q
        unfold wf at cw
        have hx := wd_lt (pk l k) q
        rw [hq, hr] at HP
        have H64 : (2 : Nat) ^ r < 18446744073709551616 := by rw [two64]; exact Nat.pow_lt_pow_right (by decide) (by omega)
        have HO : Hid (bits .or .u64 (wd (pk l k) q : Nat) (IntKind.u64.wrap (2 ^ r)) = ((wd (pk l k) q ||| 2 ^ r : Nat) : Int)) := by
          have e : IntKind.u64.wrap (2 ^ r) = ((2 ^ r : Nat) : Int) := by
            rw [show ((2 : Int) ^ r) = ((2 ^ r : Nat) : Int) by simp, IntKind.wrap_u64]
            generalize 2 ^ r = y at *; omega
          rw [e]; exact or_u64 _ _ hx H64
        have HH := hid1 hrow
        clear hrow hx H64 hq hr
        go_wp2_with fail
        refine still_tail 10 (by kernel_rfl) ?_
        simp only [List.take_succ_cons, List.take_zero, List.drop_succ_cons, List.drop_zero]
        repeat still_step
        refine wpStill_nil ?_
        go_wp2
        refine ⟨⟨k + 1, by omega, by go_num, (HH.out.set q _).congr fun j _ => ?_, (hnx.set _).drew⟩, by simp [intOf]; omega⟩
        simp only [wf]
        rw [HP.out j, if_pos h0]
        by_cases e : j = q
        · subst e
          rw [if_pos rfl, if_pos rfl, HO.out]
        · rw [if_neg e, if_neg e]
      · have hp : pk l (k + 1) = pk l k := by simp only [pk]; rw [if_neg h0]; simp
        have HH := hid1 hrow
        have HE := hid1 hp
        clear hrow HP hp
        go_wp2_with fail
        exact ⟨⟨k + 1, by omega, by go_num, by rw [HE.out]; exact HH.out, hnx⟩, by simp [intOf]; omega⟩
    · have hkN : k = N := by omega
      subst hkN
      have HH := hid1 hrow
      clear hrow
      go_wp2_with fail
      refine bodyPost_end (v := .tuple #[]) (by simp [results, go_sem]) rfl ⟨rfl, HH.out, hnx⟩
/-- The signs of n bits, from p on. -/
def uf (f : Nat → Value) (N p n : Nat) : Nat → Value := fun j => if p ≤ j ∧ j < p + n then gf N (j - p) else f j
theorem uf_zero (f : Nat → Value) (N p : Nat) (j : Nat) : uf f N p 0 j = f j := by unfold uf; rw [if_neg (by omega)]
theorem uf_step (f : Nat → Value) (N p n j : Nat) : (if j = p + n then gf N n else uf f N p n j) = uf f N p (n + 1) j := by
  unfold uf
  by_cases h : j = p + n
  · subst h; rw [if_pos rfl, if_pos (by omega)]; congr 1; omega
  · rw [if_neg h]
    by_cases h2 : p ≤ j ∧ j < p + n
    · rw [if_pos h2, if_pos (by omega)]
    · rw [if_neg h2, if_neg (by omega)]
end Go.Proofs.Ythjebjhepdclkaa
