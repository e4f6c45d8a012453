/- lay. -/
import Derived.Test.YtncmcldiodpnpaaBW14
import Derived.Test.YtncmcldiodpnpaaBM7
import Derived.Deep.DeepCutAuto
namespace Go.Proofs.Ytncmcldiodpnpaa
open Go.RowKit

theorem But.refl (g : Nat) (w : World) : But g w w := ⟨rfl, rfl, rfl, Nat.le_refl _, fun _ _ _ => rfl⟩
theorem But.drew {g : Nat} {w w' : World} (h : But g w w') : But g w w'.drew := ⟨h.os, h.tape, h.output, h.size, h.block⟩
theorem But.cell {g b o : Nat} {v : Value} {w w' : World} (h : But g w w') (hb : b ≠ g) (c : w.cell? ⟨b, o, none⟩ = some v) : w'.cell? ⟨b, o, none⟩ = some v :=
  (World.cell?_of_block (w := w) (w' := w') (a := ⟨b, o, none⟩) (h.block b (lt_of_cell c) hb)).trans c
theorem But.trans {g : Nat} {a b c : World} (h : But g a b) (k : But g b c) : But g a c :=
  ⟨k.os.trans h.os, k.tape.trans h.tape, k.output.trans h.output, Nat.le_trans h.size k.size, fun i hi hn => (k.block i (Nat.lt_of_lt_of_le hi h.size) hn).trans (h.block i hi hn)⟩
set_option maxHeartbeats 1600000 in
set_option maxRecDepth 100000 in
theorem lay_any (X N G q r n T cG ca : Nat) (ao : Option Addr) (w : World) (hr : r < 64) (hT : 64 * q + r + n ≤ T) (hT2 : T ≤ 16777216) (h : w.rowIs G 75 (nw T) (wf X)) (hN : N < 2 ^ n)
    (rd : Rd w ao (nw n) N) (hne : ∀ g, ao = some ⟨g, 0, none⟩ → 0 < nw n → g ≠ G) :
    Calls Try.prog 52 #[.slice (some ⟨G, 0, none⟩) (nw T) cG, .int .i64 (64 * q + r : Nat), .slice ao (nw n) ca] w fun e w' => e = .returned (.tuple #[]) ∧ w'.rowIs G 75 (nw T) (wf (X ||| N * 2 ^ (64 * q + r))) ∧ But G w w' := by
  have HR := hid1 rd
  have HF := hid1 (ly_full (a := 64 * q + r) rd.1)
  have HX := hid1 (fun i k => ly_wd X N q r i k hr)
  have HI := hid1 (fun i (hi : i < nw n) => in_reach hi hT)
  have HJ := hid1 (fun i (hh : wd N i / 2 ^ (64 - r) ≠ 0) => high_reach (q := q) hr hN hh hT)
  have HNE := hid1 hne
  have hb := nw_bd hT2
  have hbn : nw n ≤ 262144 := nw_bd (by omega)
  have e1 : ((64 * q + r : Nat) : Int) / 64 = q := by omega
  have e2 : ((64 * q + r : Nat) : Int).tmod 64 = r := by rw [Int.tmod_eq_emod_of_nonneg (by omega)]; omega
  have e2' : ((64 * q + r : Nat) : Int) % 64 = r := by omega
  have hq : q ≤ 262144 := by omega
  have e3 : IntKind.i64.wrap (q : Int) = q := by rw [IntKind.wrap_i64]; omega
  have iq0 : (0 : Int) ≤ (q : Int) := by omega
  have iq1 : (q : Int) ≤ 262144 := by omega
  have ir0 : (0 : Int) ≤ (r : Int) := by omega
  have ir1 : (r : Int) ≤ 63 := by omega
  have ip0 : (0 : Int) ≤ ((64 * q + r : Nat) : Int) := by omega
  have h0 : w.rowIs G 75 (nw T) (wf (X ||| ly N (64 * q + r) 0)) := by rw [ly_zero, Nat.or_zero]; exact h
  have H0 := hid1 h0
  clear rd hne hN hT h h0
  generalize hP : 64 * q + r = P at *
  clear hP
  go_enter Try.func52, Try.ntmps52
  go_wp2_with fail
  go_loopw [17] (fun i wr => ∃ k : Nat, k ≤ nw n ∧ i = .int .i64 k ∧ wr.rowIs G 75 (nw T) (wf (X ||| ly N P k)) ∧ But G w wr) (fun i _ => nw n - (intOf i).toNat)
  case atStart => exact ⟨0, Nat.zero_le _, rfl, H0.out, But.refl _ _⟩
  case round =>
    obtain ⟨k, hk, rfl, hrow, hnx⟩ := hrel
    have ik0 : (0 : Int) ≤ (k : Int) := by omega
    by_cases hlt : k < nw n
    · obtain ⟨ga, rfl, hc⟩ := HR.out.2 (by omega)
      have c8 := hnx.cell (HNE.out ga rfl (by omega)) (hc k hlt)
      unfold wf at c8
      have ik : (k : Int) < (nw n : Nat) := by omega
      have ik1 : (nw n : Int) ≤ 262144 := by omega
      have hin := HI.out k hlt
      have iin : (q : Int) + (k : Int) < (nw T : Nat) := by omega
      have cw := hrow.cell hin
      have fw := hrow.frozen (q + k)
      unfold wf at cw
      have wqk : IntKind.i64.wrap ((q : Int) + (k : Int)) = ((q + k : Nat) : Int) := by rw [IntKind.wrap_i64]; omega
      have iqk0 : (0 : Int) ≤ ((q + k : Nat) : Int) := by omega
      have iqk1 : ((q + k : Nat) : Int) < (nw T : Nat) := by omega
      have HO := hid1 (or_u64 (wd (X ||| ly N P k) (q + k)) (wd N k * 2 ^ r % 18446744073709551616) (wd_lt _ _) (shl_lt _ _))
      have HH := hid1 hrow
      clear hrow hc
      have HP1 := hid1 (fun j => HX.out k j)
      have HJ1 := hid1 (HJ.out k)
      generalize hpk : q + k = pk at *
      clear hpk
      obtain ⟨y, hy⟩ : ∃ y, wd N k / 2 ^ (64 - r) = y := ⟨_, rfl⟩
      rw [hy] at HP1 HJ1
      have hylt : y < 18446744073709551616 := by rw [← hy]; exact Nat.lt_of_le_of_lt (Nat.div_le_self _ _) (wd_lt _ _)
      have ey : (wd N k : Int) / 2 ^ (64 - r) = (y : Int) := by rw [shr_int, hy]
      clear hy
      go_wp2_with fail
      refine still_tail 11 (by kernel_rfl) ?_
      simp only [List.take_succ_cons, List.take_zero, List.drop_succ_cons, List.drop_zero]
      repeat still_step
      refine wpStill_nil ?_
      go_upto_region 5 with fail
      rw [shl_int, HO.out]
      refine gen_world (fun W => W.rowIs G 75 (nw T) (fun j => if j = pk then .int .u64 (wd (X ||| ly N P k) pk ||| wd N k * 2 ^ r % 18446744073709551616 : Nat) else wf (X ||| ly N P k) j) ∧ But G w W)
        ⟨(HH.out.set pk _).drew, (hnx.set _).drew⟩ ?_
      clear cw fw HH hnx c8
      rintro W ⟨hrow, hnx⟩
      by_cases hy0 : y = 0
      · subst hy0
        have HH := hid1 hrow
        clear hrow
        go_wp2_with fail
        refine ⟨⟨k + 1, by omega, by go_num, HH.out.congr fun j _ => ?_, hnx⟩, by simp [intOf]; omega⟩
        simp only [wf]
        rw [HP1.out j]
        by_cases h1 : j = pk
        · subst h1; simp
        · rw [if_neg h1, if_neg h1]
          split <;> simp
      · have hin2 := HJ1.out hy0
        have iy : ¬ (y : Int) = 0 := by omega
        have wqk2 : IntKind.i64.wrap ((pk : Int) + 1) = ((pk + 1 : Nat) : Int) := by rw [IntKind.wrap_i64]; omega
        have iqk2 : ((pk + 1 : Nat) : Int) < (nw T : Nat) := by omega
        have iqk3 : (pk : Int) + 1 < (nw T : Nat) := by omega
        have cw := hrow.cell hin2
        have fw := hrow.frozen (pk + 1)
        rw [if_neg (by omega)] at cw
        unfold wf at cw
        have HO2 := hid1 (or_u64 (wd (X ||| ly N P k) (pk + 1)) y (wd_lt _ _) hylt)
        have HH := hid1 hrow
        clear hrow
        go_wp2_with fail
        refine ⟨⟨k + 1, by omega, by go_num, (HH.out.set (pk + 1) _).congr fun j _ => ?_, hnx.set _⟩, by simp [intOf]; omega⟩
        simp only [wf]
        rw [HP1.out j, HO2.out]
        by_cases h2 : j = pk + 1
        · subst h2
          rw [if_pos rfl, if_neg (by omega), if_pos rfl]
        · rw [if_neg h2]
          by_cases h1 : j = pk
          · subst h1; rw [if_pos rfl, if_pos rfl]
          · rw [if_neg h1, if_neg h1, if_neg h2]
    · have hkN : k = nw n := by omega
      subst hkN
      rw [HF.out] at hrow
      have HH := hid1 hrow
      clear hrow
      go_wp2_with fail
      refine bodyPost_end (v := .tuple #[]) (by simp [results, go_sem]) rfl ⟨rfl, HH.out, hnx⟩
theorem lay_at (X N G p n T cG ca : Nat) (ao : Option Addr) (w : World) (hT : p + n ≤ T) (hT2 : T ≤ 16777216) (h : w.rowIs G 75 (nw T) (wf X)) (hN : N < 2 ^ n)
    (rd : Rd w ao (nw n) N) (hne : ∀ g, ao = some ⟨g, 0, none⟩ → 0 < nw n → g ≠ G) :
    Calls Try.prog 52 #[.slice (some ⟨G, 0, none⟩) (nw T) cG, .int .i64 p, .slice ao (nw n) ca] w fun e w' => e = .returned (.tuple #[]) ∧ w'.rowIs G 75 (nw T) (wf (X ||| N * 2 ^ p)) ∧ But G w w' := by
  obtain ⟨q, r, hr, rfl⟩ : ∃ q r, r < 64 ∧ p = 64 * q + r := ⟨p / 64, p % 64, by omega, by omega⟩
  exact lay_any X N G q r n T cG ca ao w hr hT hT2 h hN rd hne
end Go.Proofs.Ytncmcldiodpnpaa
