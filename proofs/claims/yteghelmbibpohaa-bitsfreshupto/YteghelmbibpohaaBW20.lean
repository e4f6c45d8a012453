/- The document's own answers: Bit, Check, Tail. -/
import Derived.Test.YteghelmbibpohaaBW18
import Derived.Test.YteghelmbibpohaaBM9
namespace Go.Proofs.Yteghelmbibpohaa
open Go.RowKit

/-- These m words, wherever they begin, read as the number N. -/
def Ro (w : World) (ao : Option Addr) (m N : Nat) : Prop := N < 2 ^ (64 * m) ∧ ∀ k, k < m → ∃ g o, ao = some ⟨g, o, none⟩ ∧ w.cell? ⟨g, o + k, none⟩ = some (wf N k)
theorem Ro.below {w w' : World} {ao : Option Addr} {m N : Nat} (h : Ro w ao m N) (hb : Below w.heap.size w w') : Ro w' ao m N :=
  ⟨h.1, fun k hk => by obtain ⟨g, o, e, c⟩ := h.2 k hk; exact ⟨g, o, e, keepc hb c⟩⟩
theorem gen_list' {P : Program} {ops : Array Oper} {Q : Exit → Act → World → Prop} {rest : List Oper} {a : Act} {W : World} (p : World → Prop) (hp : p W) (h : ∀ W', p W' → wpList P ops Q rest a W') : wpList P ops Q rest a W := h W hp
theorem ret_bool {a b : Bool} (h : a = b) : Ending.returned (.bool a) = .returned (.bool b) := by rw [h]
theorem Ro.of {w : World} {ao : Option Addr} {m N : Nat} (h : Rd w ao m N) : Ro w ao m N :=
  ⟨h.1, fun k hk => by obtain ⟨g, e, c⟩ := h.2 (by omega); exact ⟨g, 0, e, by rw [Nat.zero_add]; exact c k hk⟩⟩

set_option maxHeartbeats 800000 in
set_option maxRecDepth 100000 in
theorem rbit_any (n : Int) (ao : Option Addr) (m cap N i : Nat) (w : World) (hm : m ≤ 1048576) (h : Ro w ao m N) (hi : i < 64 * m) :
    Calls Try.prog 61 #[rv n ao m cap, .int .i64 i] w fun e w' => e = .returned (.bool (N.testBit i)) ∧ Below w.heap.size w w' := by
  obtain ⟨q, r, hr, rfl⟩ : ∃ q r, r < 64 ∧ i = 64 * q + r := ⟨i / 64, i % 64, by omega, by omega⟩
  have q1 : q < m := by omega
  obtain ⟨g, o, rfl, c⟩ := h.2 q q1
  unfold wf at c
  have lg := lt_of_cell c
  have e1 : ((64 * q + r : Nat) : Int) / 64 = q := by omega
  have e2 : ((64 * q + r : Nat) : Int).tmod 64 = r := by rw [Int.tmod_eq_emod_of_nonneg (by omega)]; omega
  have e2' : ((64 * q + r : Nat) : Int) % 64 = r := by omega
  have e3 : IntKind.i64.wrap (q : Int) = q := by rw [IntKind.wrap_i64]; omega
  have iq0 : (0 : Int) ≤ (q : Int) := by omega
  have iq1 : (q : Int) < (m : Int) := by omega
  have ir0 : (0 : Int) ≤ (r : Int) := by omega
  have ir1 : (r : Int) ≤ 63 := by omega
  have ip0 : (0 : Int) ≤ ((64 * q + r : Nat) : Int) := by omega
  have HB := hid1 (bit_mod N q r hr)
  clear h hi hr
  generalize hP : 64 * q + r = P at *
  clear hP
  go_enter Try.func61, Try.ntmps61
  go_wp2_with fail
  go_ret
  refine ⟨?_, bl_alloc (Below.refl _ _) _⟩
  have e4 : (((wd N q : Int) / 2 ^ r).tmod 2 == 1) = N.testBit P := by
    rw [shr_int, Int.tmod_eq_emod_of_nonneg (Int.natCast_nonneg _)]
    have e5 : ((wd N q / 2 ^ r : Nat) : Int) % 2 = ((N.testBit P).toNat : Nat) := by rw [← HB.out]; omega
    rw [e5]
    cases N.testBit P <;> rfl
  exact ret_bool e4

set_option maxHeartbeats 800000 in
set_option maxRecDepth 100000 in
theorem rcheck_any (n : Int) (ao : Option Addr) (m cap N : Nat) (w : World) (hm : m ≤ 1048576) (h : Ro w ao m N) :
    Calls Try.prog 46 #[rv n ao m cap] w fun e w' => e = .returned (.int .i64 (chk n m N)) ∧ Below w.heap.size w w' := by
  by_cases h1 : n < 0
  · have e : chk n m N = 1 := by unfold chk; rw [if_pos h1]
    rw [e]; clear e
    go_enter Try.func46, Try.ntmps46
    go_wp2
    go_ret
    exact ⟨rfl, bl_alloc (Below.refl _ _) _⟩
  by_cases h2 : 16777216 < n
  · have e : chk n m N = 2 := by unfold chk; rw [if_neg h1, if_pos h2]
    rw [e]; clear e
    go_enter Try.func46, Try.ntmps46
    go_wp2
    go_ret
    exact ⟨rfl, bl_alloc (Below.refl _ _) _⟩
  obtain ⟨n, rfl⟩ := Int.eq_ofNat_of_zero_le (Int.not_lt.1 h1)
  have h3 : n ≤ 16777216 := by omega
  have hb := nw_bd h3
  have en : ((n : Int) + 63) / 64 = (nw n : Nat) := by unfold nw; omega
  have in0 : (0 : Int) ≤ (n : Int) := by omega
  have in1 : (n : Int) ≤ 16777216 := by omega
  clear h1 h2
  by_cases h4 : m = nw n
  · have HR := hid1 h
    have hle := nw_le n
    have e0 : chk n m N = if N < 2 ^ n then 0 else 20 := by
      unfold chk
      rw [if_neg (by omega), if_neg (by omega), Int.toNat_natCast, if_neg (by simp [h4])]
    rw [← h4] at en hle hb
    have HN := hid1 h.1
    have HE := hid1 e0
    have im0 : (0 : Int) ≤ (m : Int) := by omega
    have im1 : (m : Int) ≤ 262144 := by omega
    clear h h4 e0
    go_enter Try.func46, Try.ntmps46
    go_wp2_with fail
    clear en
    go_loopw [3] (fun i wr => ∃ k : Nat, n ≤ k ∧ k ≤ 64 * m ∧ i = .int .i64 k ∧ (∀ j, n ≤ j → j < k → N.testBit j = false) ∧ wr.rowIs w.heap.size 27 2 (sf n ao m cap) ∧ Below w.heap.size w wr)
      (fun i _ => 64 * m - (intOf i).toNat)
    case atStart => exact ⟨n, Nat.le_refl _, hle, rfl, fun j h5 h6 => absurd h5 (by omega), row_new _ _ _ _ _ _, bl_alloc (Below.refl _ _) _⟩
    case round =>
      obtain ⟨k, hk1, hk2, rfl, hk3, r1, hnx⟩ := hrel
      have c0 := sf_len r1
      have c1 := sf_ws r1
      have ik0 : (0 : Int) ≤ (k : Int) := by omega
      have em : IntKind.i64.wrap (64 * (m : Int)) = ((64 * m : Nat) : Int) := by rw [IntKind.wrap_i64]; omega
      by_cases hlt : k < 64 * m
      · have ik : (k : Int) < ((64 * m : Nat) : Int) := by omega
        have ik' : (k : Int) < 64 * (m : Int) := by omega
        have HK := hid1 hk3
        have H1 := hid1 r1
        have ib : (k : Int) ≤ 16777216 := by omega
        clear hk3 r1
        go_wp2_with fail
        refine (rbit_any n ao m cap N k wr hm (HR.out.below hnx) hlt).mono ?_
        rintro e w1 ⟨rfl, hb1⟩
        cases hbit : N.testBit k
        · go_wp2_with fail
          exact ⟨⟨k + 1, by omega, by omega, by go_num, fun j h5 h6 => by
            by_cases e : j = k
            · rw [e]; exact hbit
            · exact HK.out j h5 (by omega), keepr hb1 H1.out, bl_step hnx hb1⟩, by simp [intOf]; omega⟩
        · have e5 := hid1 (show chk n m N = 20 by rw [HE.out, if_neg (not_lt_of_bit hk1 hbit)])
          go_wp2_with fail
          go_ret
          exact ⟨ret_int (by rw [e5.out]), bl_step hnx hb1⟩
      · have ik : ¬ (k : Int) < ((64 * m : Nat) : Int) := by omega
        have ik' : ¬ (k : Int) < 64 * (m : Int) := by omega
        have e5 := hid1 (show chk n m N = 0 by rw [HE.out, if_pos (lt_of_none HN.out (fun i h5 h6 => hk3 i h5 (by omega)))])
        clear r1 hk3
        go_wp2_with fail
        go_ret
        exact ⟨ret_int (by rw [e5.out]), hnx⟩
  · have e : chk n m N = 20 := by simp [chk, h4]; omega
    rw [e]
    clear e h
    have im : ¬ (m : Int) = (nw n : Nat) := by omega
    go_enter Try.func46, Try.ntmps46
    go_wp2
    go_ret
    exact ⟨rfl, bl_alloc (Below.refl _ _) _⟩

theorem two_mask (k : Nat) (h : k < 64) : IntKind.u64.wrap (IntKind.u64.wrap (2 * ((2 ^ k - 1 : Nat) : Int)) + 1) = ((2 ^ (k + 1) - 1 : Nat) : Int) := by
  have h1 : 2 ^ (k + 1) ≤ 2 ^ 64 := pow_mono (by omega)
  have h2 := zero_lt k
  rw [Nat.pow_succ] at h1 ⊢
  rw [← two64] at h1
  generalize 2 ^ k = y at *
  rw [IntKind.wrap_u64, IntKind.wrap_u64]
  omega
set_option maxHeartbeats 800000 in
set_option maxRecDepth 100000 in
theorem rtail_pos (n : Nat) (h0 : 0 < n) (h1 : n ≤ 9223372036854775807) (w : World) :
    Calls Try.prog 47 #[.int .i64 n] w fun e w' => e = .returned (.int .u64 (tl n : Nat)) ∧ w' = w := by
  obtain ⟨K, hK, hK1⟩ : ∃ K, K = (n - 1) % 64 + 1 ∧ K ≤ 64 := ⟨_, rfl, by omega⟩
  have HT : Hid (tl n = 2 ^ K - 1) := by show tl n = 2 ^ K - 1; unfold tl; rw [if_neg (by omega), hK]
  have in0 : (0 : Int) < (n : Int) := by omega
  have in1 : ¬ (n : Int) ≤ 0 := by omega
  have iK0 : (0 : Int) ≤ (K : Int) := by omega
  have iK1 : (K : Int) ≤ 64 := by omega
  have HK := hid1 hK
  clear hK
  go_enter Try.func47, Try.ntmps47
  go_upto_if 11 with fail
  go_cut [3] (fun s3 wx => s3 = .int .i64 K ∧ wx = w)
  case first =>
    by_cases hz : n % 64 = 0
    · have e1 : (n : Int) % 64 = 0 := by omega
      have e1' : (n : Int).tmod 64 = 0 := by rw [Int.tmod_eq_emod_of_nonneg (by omega)]; exact e1
      have e2 := hid1 (show K = 64 by have := HK.out; omega)
      go_wp2_with fail
      go_meet
      exact ⟨by rw [e2.out]; rfl, rfl⟩
    · have e1 : (n : Int) % 64 = (K : Int) := by have := HK.out; omega
      have e1' : (n : Int).tmod 64 = (K : Int) := by rw [Int.tmod_eq_emod_of_nonneg (by omega)]; exact e1
      have e2 : ¬ (K : Int) = 0 := by have := HK.out; omega
      have e3 : ¬ (n : Int) % 64 = 0 := by omega
      go_wp2_with fail
      go_meet
      exact ⟨by first | rfl | rw [e1], rfl⟩
  case rest =>
    obtain ⟨rfl, rfl⟩ := hcut
    go_wp2_with fail
    go_loop [4, 5] (fun s i => ∃ k : Nat, k ≤ K ∧ i = .int .i64 k ∧ s = .int .u64 (2 ^ k - 1 : Nat)) (fun _ i => K - (intOf i).toNat)
    case atStart => exact ⟨0, Nat.zero_le _, rfl, rfl⟩
    case round =>
      obtain ⟨k, hk, rfl, rfl⟩ := hrel
      have ik0 : (0 : Int) ≤ (k : Int) := by omega
      by_cases hlt : k < K
      · have ik : (k : Int) < (K : Int) := by omega
        have HM := hid1 (two_mask k (by omega))
        generalize 2 ^ k - 1 = y at *
        go_wp2_with fail
        exact ⟨⟨k + 1, by omega, by go_num, by rw [← HM.out]⟩, by simp [intOf]; omega⟩
      · have hkN : k = K := by omega
        subst hkN
        rw [← HT.out]
        go_wp2_with fail
        go_ret
        exact ⟨rfl, rfl⟩
theorem rtail_none (n : Int) (h0 : n ≤ 0) (w : World) :
    Calls Try.prog 47 #[.int .i64 n] w fun e w' => e = .returned (.int .u64 0) ∧ w' = w := by
  go_enter Try.func47, Try.ntmps47
  go_wp2
  go_ret
  exact ⟨rfl, rfl⟩
end Go.Proofs.Yteghelmbibpohaa
