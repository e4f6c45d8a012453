/- PACKAGE cube: lay, pack, unpack. -/
import Derived.Test.YtfboegdibohciaaKW2
import Derived.Test.YtfboegdibohciaaBW15
namespace Go.Proofs.Ytfboegdibohciaa
open Go.RowKit

set_option maxHeartbeats 1600000 in
set_option maxRecDepth 100000 in
theorem klay_any (X N G q r n T cG ca : Nat) (ao : Option Addr) (w : World) (hr : r < 64) (hT : 64 * q + r + n ≤ T) (hT2 : T ≤ 16777216) (h : w.rowIs G 53 (nw T) (wf X)) (hN : N < 2 ^ n)
    (rd : Wr w ao (nw n) N) (hne : ∀ g o, ao = some ⟨g, o, none⟩ → 0 < nw n → g ≠ G) :
    Calls Try.prog 32 #[.slice (some ⟨G, 0, none⟩) (nw T) cG, .int .i64 (64 * q + r : Nat), .slice ao (nw n) ca] w fun e w' => e = .returned (.tuple #[]) ∧ w'.rowIs G 53 (nw T) (wf (X ||| N * 2 ^ (64 * q + r))) ∧ But G w w' := by
  have HR := hid1 rd
  have HF := hid1 (ly_full (a := 64 * q + r) rd.1)
  have HX := hid1 (fun i k => ly_wd X N q r i k hr)
  have HI := hid1 (fun i (hi : i < nw n) => in_reach hi hT)
  have HJ := hid1 (fun i (hh : wd N i / 2 ^ (64 - r) ≠ 0) => high_reach (q := q) hr hN hh hT)
  have HNE := hid1 hne
  have hb := nw_bd hT2
  have hbn : nw n ≤ 262144 := nw_bd (by omega)
  have e1 : ((64 * q + r : Nat) : Int) / 64 = q := by omega
  have e2 : ((64 * q + r : Nat) : Int).tmod 64 = r := by rw [Int.tmod_eq_emod_of_nonneg (by omega)]; omega
  have e2' : ((64 * q + r : Nat) : Int) % 64 = r := by omega
  have hq : q ≤ 262144 := by omega
  have e3 : IntKind.i64.wrap (q : Int) = q := by rw [IntKind.wrap_i64]; omega
  have iq0 : (0 : Int) ≤ (q : Int) := by omega
  have iq1 : (q : Int) ≤ 262144 := by omega
  have ir0 : (0 : Int) ≤ (r : Int) := by omega
  have ir1 : (r : Int) ≤ 63 := by omega
  have ip0 : (0 : Int) ≤ ((64 * q + r : Nat) : Int) := by omega
  have h0 : w.rowIs G 53 (nw T) (wf (X ||| ly N (64 * q + r) 0)) := by rw [ly_zero, Nat.or_zero]; exact h
  have H0 := hid1 h0
  clear rd hne hN hT h h0
  generalize hP : 64 * q + r = P at *
  clear hP
  go_enter Try.func32, Try.ntmps32
  go_wp2_with fail
  go_loopw [17] (fun i wr => ∃ k : Nat, k ≤ nw n ∧ i = .int .i64 k ∧ wr.rowIs G 53 (nw T) (wf (X ||| ly N P k)) ∧ But G w wr) (fun i _ => nw n - (intOf i).toNat)
  case atStart => exact ⟨0, Nat.zero_le _, rfl, H0.out, But.refl _ _⟩
  case round =>
    obtain ⟨k, hk, rfl, hrow, hnx⟩ := hrel
    have ik0 : (0 : Int) ≤ (k : Int) := by omega
    by_cases hlt : k < nw n
    · obtain ⟨ga, oa, rfl, hc⟩ := HR.out.2 k hlt
      have c8 := hnx.cell (HNE.out ga oa rfl (by omega)) hc
      unfold wf at c8
      have ik : (k : Int) < (nw n : Nat) := by omega
      have ik1 : (nw n : Int) ≤ 262144 := by omega
      have hin := HI.out k hlt
      have iin : (q : Int) + (k : Int) < (nw T : Nat) := by omega
      have cw := hrow.cell hin
      have fw := hrow.frozen (q + k)
      unfold wf at cw
      have wqk : IntKind.i64.wrap ((q : Int) + (k : Int)) = ((q + k : Nat) : Int) := by rw [IntKind.wrap_i64]; omega
      have iqk0 : (0 : Int) ≤ ((q + k : Nat) : Int) := by omega
      have iqk1 : ((q + k : Nat) : Int) < (nw T : Nat) := by omega
      have HO := hid1 (or_u64 (wd (X ||| ly N P k) (q + k)) (wd N k * 2 ^ r % 18446744073709551616) (wd_lt _ _) (shl_lt _ _))
      have HH := hid1 hrow
      clear hrow hc
      have HP1 := hid1 (fun j => HX.out k j)
      have HJ1 := hid1 (HJ.out k)
      generalize hpk : q + k = pk at *
      clear hpk
      obtain ⟨y, hy⟩ : ∃ y, wd N k / 2 ^ (64 - r) = y := ⟨_, rfl⟩
      rw [hy] at HP1 HJ1
      have hylt : y < 18446744073709551616 := by rw [← hy]; exact Nat.lt_of_le_of_lt (Nat.div_le_self _ _) (wd_lt _ _)
      have ey : (wd N k : Int) / 2 ^ (64 - r) = (y : Int) := by rw [shr_int, hy]
      clear hy
      go_wp2_with fail
      refine still_tail 11 (by kernel_rfl) ?_
      simp only [List.take_succ_cons, List.take_zero, List.drop_succ_cons, List.drop_zero]
      repeat still_step
      refine wpStill_nil ?_
      go_upto_region 5 with fail
      rw [shl_int, HO.out]
      refine gen_world (fun W => W.rowIs G 53 (nw T) (fun j => if j = pk then .int .u64 (wd (X ||| ly N P k) pk ||| wd N k * 2 ^ r % 18446744073709551616 : Nat) else wf (X ||| ly N P k) j) ∧ But G w W)
        ⟨(HH.out.set pk _).drew, (hnx.set _).drew⟩ ?_
      clear cw fw HH hnx c8
      rintro W ⟨hrow, hnx⟩
      by_cases hy0 : y = 0
      · subst hy0
        have HH := hid1 hrow
        clear hrow
        go_wp2_with fail
        refine ⟨⟨k + 1, by omega, by go_num, HH.out.congr fun j _ => ?_, hnx⟩, by simp [intOf]; omega⟩
        simp only [wf]
        rw [HP1.out j]
        by_cases h1 : j = pk
        · subst h1; simp
        · rw [if_neg h1, if_neg h1]
          split <;> simp
      · have hin2 := HJ1.out hy0
        have iy : ¬ (y : Int) = 0 := by omega
        have wqk2 : IntKind.i64.wrap ((pk : Int) + 1) = ((pk + 1 : Nat) : Int) := by rw [IntKind.wrap_i64]; omega
        have iqk2 : ((pk + 1 : Nat) : Int) < (nw T : Nat) := by omega
        have iqk3 : (pk : Int) + 1 < (nw T : Nat) := by omega
        have cw := hrow.cell hin2
        have fw := hrow.frozen (pk + 1)
        rw [if_neg (by omega)] at cw
        unfold wf at cw
        have HO2 := hid1 (or_u64 (wd (X ||| ly N P k) (pk + 1)) y (wd_lt _ _) hylt)
        have HH := hid1 hrow
        clear hrow
        go_wp2_with fail
        refine ⟨⟨k + 1, by omega, by go_num, (HH.out.set (pk + 1) _).congr fun j _ => ?_, hnx.set _⟩, by simp [intOf]; omega⟩
        simp only [wf]
        rw [HP1.out j, HO2.out]
        by_cases h2 : j = pk + 1
        · subst h2
          rw [if_pos rfl, if_neg (by omega), if_pos rfl]
        · rw [if_neg h2]
          by_cases h1 : j = pk
          · subst h1; rw [if_pos rfl, if_pos rfl]
          · rw [if_neg h1, if_neg h1, if_neg h2]
    · have hkN : k = nw n := by omega
      subst hkN
      rw [HF.out] at hrow
      have HH := hid1 hrow
      clear hrow
      go_wp2_with fail
      refine bodyPost_end (v := .tuple #[]) (by simp [results, go_sem]) rfl ⟨rfl, HH.out, hnx⟩
theorem klay_at (X N G p n T cG ca : Nat) (ao : Option Addr) (w : World) (hT : p + n ≤ T) (hT2 : T ≤ 16777216) (h : w.rowIs G 53 (nw T) (wf X)) (hN : N < 2 ^ n)
    (rd : Wr w ao (nw n) N) (hne : ∀ g o, ao = some ⟨g, o, none⟩ → 0 < nw n → g ≠ G) :
    Calls Try.prog 32 #[.slice (some ⟨G, 0, none⟩) (nw T) cG, .int .i64 p, .slice ao (nw n) ca] w fun e w' => e = .returned (.tuple #[]) ∧ w'.rowIs G 53 (nw T) (wf (X ||| N * 2 ^ p)) ∧ But G w w' := by
  obtain ⟨q, r, hr, rfl⟩ : ∃ q r, r < 64 ∧ p = 64 * q + r := ⟨p / 64, p % 64, by omega, by omega⟩
  exact klay_any X N G q r n T cG ca ao w hr hT hT2 h hN rd hne
set_option maxHeartbeats 1600000 in
set_option maxRecDepth 100000 in
theorem kpack_any (l : List Int) (N : Nat) (hN : l.length = N) (g cap : Nat) (ao : Option Addr) (ca : Nat) (w : World) (h1 : N ≤ 16777216) (h : R8 w ao l) (h0 : w.rowIs g 53 (nw N) (wf 0)) (hne : ∀ g' o, ao = some ⟨g', o, none⟩ → 0 < N → g' ≠ g) :
    Calls Try.prog 31 #[.slice (some ⟨g, 0, none⟩) (nw N) cap, .slice ao N ca] w fun e w' => e = .returned (.tuple #[]) ∧ w'.rowIs g 53 (nw N) (wf (pk l N)) ∧ But g w w' := by
  have HR := hid1 h
  have HNE := hid1 hne
  clear h hne
  have hb := nw_bd h1
  go_enter Try.func31, Try.ntmps31
  go_wp2_with fail
  go_loopw [8] (fun i wr => ∃ k : Nat, k ≤ N ∧ i = .int .i64 k ∧ wr.rowIs g 53 (nw N) (wf (pk l k)) ∧ But g w wr)
    (fun i _ => N - (intOf i).toNat)
  case atStart => exact ⟨0, Nat.zero_le _, rfl, h0, But.refl _ _⟩
  case round =>
    clear h0
    obtain ⟨k, hk, rfl, hrow, hnx⟩ := hrel
    by_cases hlt : k < N
    · obtain ⟨ga, oa, rfl, c8⟩ := HR.out k (by omega)
      replace c8 := hnx.cell (HNE.out ga oa rfl (by omega)) c8
      have ik : (k : Int) < (N : Int) := by omega
      have HP := hid1 (pk_wd l k)
      by_cases h0 : 0 < ia l k
      · obtain ⟨q, hq⟩ : ∃ q : Nat, k / 64 = q := ⟨_, rfl⟩
        obtain ⟨r, hr⟩ : ∃ r : Nat, k % 64 = r := ⟨_, rfl⟩
        have eq : (k : Int) / 64 = (q : Int) := by omega
        have er : (k : Int) % 64 = (r : Int) := by omega
        have er' : (k : Int).tmod 64 = (r : Int) := by rw [Int.tmod_eq_emod_of_nonneg (by omega)]; exact er
        have q1 : q < nw N := by unfold nw; omega
        have iq0 : (0 : Int) ≤ (q : Int) := by omega
        have iq1 : (q : Int) < (nw N : Nat) := by omega
        have ir0 : (0 : Int) ≤ (r : Int) := by omega
        have ir1 : (r : Int) ≤ 63 := by omega
        have wq : IntKind.i64.wrap (q : Int) = q := by rw [IntKind.wrap_i64]; omega
        have cw := hrow.cell q1
        have fw := hrow.frozen q
        unfold wf at cw
        have hx := wd_lt (pk l k) q
        rw [hq, hr] at HP
        have H64 : (2 : Nat) ^ r < 18446744073709551616 := by rw [two64]; exact Nat.pow_lt_pow_right (by decide) (by omega)
        have HO : Hid (bits .or .u64 (wd (pk l k) q : Nat) (IntKind.u64.wrap (2 ^ r)) = ((wd (pk l k) q ||| 2 ^ r : Nat) : Int)) := by
          have e : IntKind.u64.wrap (2 ^ r) = ((2 ^ r : Nat) : Int) := by
            rw [show ((2 : Int) ^ r) = ((2 ^ r : Nat) : Int) by simp, IntKind.wrap_u64]
            generalize 2 ^ r = y at *; omega
          rw [e]; exact or_u64 _ _ hx H64
        have HH := hid1 hrow
        clear hrow hx H64 hq hr
        go_wp2_with fail
        refine still_tail 10 (by kernel_rfl) ?_
        simp only [List.take_succ_cons, List.take_zero, List.drop_succ_cons, List.drop_zero]
        repeat still_step
        refine wpStill_nil ?_
        go_wp2
        refine ⟨⟨k + 1, by omega, by go_num, (HH.out.set q _).congr fun j _ => ?_, (hnx.set _).drew⟩, by simp [intOf]; omega⟩
        simp only [wf]
        rw [HP.out j, if_pos h0]
        by_cases e : j = q
        · subst e
          rw [if_pos rfl, if_pos rfl, HO.out]
        · rw [if_neg e, if_neg e]
      · have hp : pk l (k + 1) = pk l k := by simp only [pk]; rw [if_neg h0]; simp
        have HH := hid1 hrow
        have HE := hid1 hp
        clear hrow HP hp
        go_wp2_with fail
        exact ⟨⟨k + 1, by omega, by go_num, by rw [HE.out]; exact HH.out, hnx⟩, by simp [intOf]; omega⟩
    · have hkN : k = N := by omega
      subst hkN
      have HH := hid1 hrow
      clear hrow
      go_wp2_with fail
      refine bodyPost_end (v := .tuple #[]) (by simp [results, go_sem]) rfl ⟨rfl, HH.out, hnx⟩
/-- The signs of n bits, from p on. -/
def uf (f : Nat → Value) (N p n : Nat) : Nat → Value := fun j => if p ≤ j ∧ j < p + n then gf N (j - p) else f j
theorem uf_zero (f : Nat → Value) (N p : Nat) (j : Nat) : uf f N p 0 j = f j := by unfold uf; rw [if_neg (by omega)]
theorem uf_step (f : Nat → Value) (N p n j : Nat) : (if j = p + n then gf N n else uf f N p n j) = uf f N p (n + 1) j := by
  unfold uf
  by_cases h : j = p + n
  · subst h; rw [if_pos rfl, if_pos (by omega)]; congr 1; omega
  · rw [if_neg h]
    by_cases h2 : p ≤ j ∧ j < p + n
    · rw [if_pos h2, if_pos (by omega)]
    · rw [if_neg h2, if_neg (by omega)]
set_option maxHeartbeats 1600000 in
set_option maxRecDepth 100000 in
theorem kunpack_any (n N m G p T cv ca : Nat) (f : Nat → Value) (ao : Option Addr) (w : World) (hn : n ≤ 64 * m) (hm : m ≤ 1073741824) (hp : p + n ≤ T) (hT : T ≤ 16777216) (rd : Wr w ao m N) (h0 : w.rowIs G 47 T f) (hne : ∀ g o, ao = some ⟨g, o, none⟩ → g ≠ G) :
    Calls Try.prog 33 #[.slice (some ⟨G, p, none⟩) n cv, .slice ao m ca] w fun e w' => e = .returned (.tuple #[]) ∧ w'.rowIs G 47 T (uf f N p n) ∧ But G w w' := by
  have HR := hid1 rd
  have HNE := hid1 hne
  clear rd hne
  replace h0 : w.rowIs G 47 T (uf f N p 0) := h0.congr fun j _ => (uf_zero f N p j).symm
  go_enter Try.func33, Try.ntmps33
  go_wp2_with fail
  go_loopw [8] (fun i wr => ∃ k : Nat, k ≤ n ∧ i = .int .i64 k ∧ wr.rowIs G 47 T (uf f N p k) ∧ But G w wr)
    (fun i _ => n - (intOf i).toNat)
  case atStart => exact ⟨0, Nat.zero_le _, rfl, h0, But.refl _ _⟩
  case round =>
    clear h0
    obtain ⟨k, hk, rfl, hrow, hnx⟩ := hrel
    by_cases hlt : k < n
    · obtain ⟨q, r, hr, rfl⟩ : ∃ q r, r < 64 ∧ k = 64 * q + r := ⟨k / 64, k % 64, by omega, by omega⟩
      have q1 : q < m := by omega
      obtain ⟨ga, oa, rfl, hc⟩ := HR.out.2 q q1
      have c8 := hnx.cell (HNE.out ga oa rfl) hc
      unfold wf at c8
      have e1 : ((64 * q + r : Nat) : Int) / 64 = q := by omega
      have e2 : ((64 * q + r : Nat) : Int).tmod 64 = r := by rw [Int.tmod_eq_emod_of_nonneg (by omega)]; omega
      have e2' : ((64 * q + r : Nat) : Int) % 64 = r := by omega
      have e3 : IntKind.i64.wrap (q : Int) = q := by rw [IntKind.wrap_i64]; omega
      have iq0 : (0 : Int) ≤ (q : Int) := by omega
      have iq1 : (q : Int) < (m : Nat) := by omega
      have ir0 : (0 : Int) ≤ (r : Int) := by omega
      have ir1 : (r : Int) ≤ 63 := by omega
      have HX := hid1 (sg_int N q r hr)
      have HH := hid1 hrow
      have cw := hrow.cell (i := p + (64 * q + r)) (by omega)
      have fw := hrow.frozen (p + (64 * q + r))
      have ik0 : (0 : Int) ≤ ((64 * q + r : Nat) : Int) := by omega
      have ik : ((64 * q + r : Nat) : Int) < (n : Int) := by omega
      clear hrow hc hr q1
      generalize hkk : 64 * q + r = k at *
      clear hkk
      generalize uf f N p k (p + k) = old at cw
      go_wp2_with fail
      refine ⟨⟨k + 1, by omega, by go_num, (HH.out.set (p + k) _).congr fun j _ => ?_, hnx.set _⟩, by simp [intOf]; omega⟩
      rw [← uf_step, HX.out]; rfl
    · have hkN : k = n := by omega
      subst hkN
      have HH := hid1 hrow
      clear hrow
      go_wp2_with fail
      refine bodyPost_end (v := .tuple #[]) (by simp [results, go_sem]) rfl ⟨rfl, HH.out, hnx⟩
end Go.Proofs.Ytfboegdibohciaa
