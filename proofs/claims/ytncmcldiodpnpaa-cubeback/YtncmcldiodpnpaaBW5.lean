/- Pack. -/
import Derived.Test.YtncmcldiodpnpaaBW4
import Derived.Test.YtncmcldiodpnpaaBM3
namespace Go.Proofs.Ytncmcldiodpnpaa
open Go.RowKit

/-- The slice reads, in this world, as these small numbers. -/
def R8 (w : World) (ao : Option Addr) (l : List Int) : Prop := ∀ k, k < l.length → ∃ g o, ao = some ⟨g, o, none⟩ ∧ w.cell? ⟨g, o + k, none⟩ = some (.int .i8 (ia l k))
theorem R8.below {w w' : World} {ao : Option Addr} {l : List Int} (h : R8 w ao l) (hb : Below w.heap.size w w') : R8 w' ao l :=
  fun k hk => by obtain ⟨g, o, e, c⟩ := h k hk; exact ⟨g, o, e, keepc hb c⟩
theorem or_u64 (a b : Nat) (ha : a < 18446744073709551616) (hb : b < 18446744073709551616) : bits .or .u64 (a : Int) (b : Int) = ((a ||| b : Nat) : Int) := by
  have := u64_or (a : Int) (b : Int) (by omega) (by omega) (by omega) (by omega); simpa using this

set_option maxHeartbeats 800000 in
set_option maxRecDepth 100000 in
theorem pack_long (l : List Int) (ao : Option Addr) (cap : Nat) (w : World) (h1 : 16777216 < l.length) (h2 : l.length ≤ 9223372036854775807) :
    Calls Try.prog 10 #[.slice ao l.length cap] w fun e w' => e = .returned (.tuple #[rv 0 none 0 0, .int .i64 2]) ∧ Below w.heap.size w w' := by
  go_enter Try.func10, Try.ntmps10
  go_wp2
  refine bodyPost_ret (v := .tuple #[rv 0 none 0 0, .int .i64 2]) (by simp [results, Try.results10, go_sem]) rfl ⟨rfl, ?_⟩
  first | exact bl_alloc (Below.refl _ _) _ | exact bl_set (bl_set (bl_alloc (Below.refl _ _) _) (by omega) _) (by omega) _

set_option maxHeartbeats 1600000 in
set_option maxRecDepth 100000 in
theorem pack_any (l : List Int) (N : Nat) (hN : l.length = N) (ao : Option Addr) (cap : Nat) (w : World) (h1 : N ≤ 16777216) (h : R8 w ao l) :
    Calls Try.prog 10 #[.slice ao N cap] w fun e w' => ∃ g, e = .returned (.tuple #[rv N (some ⟨g, 0, none⟩) (nw N) (nw N), .int .i64 0]) ∧ w.heap.size ≤ g ∧ w'.rowIs g 75 (nw N) (wf (pk l N)) ∧ Below w.heap.size w w' := by
  have HR := hid1 h
  clear h
  have hb := nw_bd h1
  go_enter Try.func10, Try.ntmps10
  go_wp2_with fail
  refine (blank_any N h1 _).mono ?_
  rintro e w1 ⟨g, rfl, hg, hrow, hbl⟩
  have g0 : w.heap.size < g := by simp at hg; omega
  have g1 : g < w1.heap.size := hrow.lt
  have B1 : Below w.heap.size w w1 := bl_step (bl_alloc (Below.refl _ _) _) hbl
  have r2 := keepr hbl (row_new w 0 none 0 0 26)
  go_wp2_with fail
  go_loopw [16] (fun i wr => ∃ k : Nat, k ≤ N ∧ i = .int .i64 k ∧ wr.rowIs g 75 (nw N) (wf (pk l k)) ∧ wr.rowIs w.heap.size 26 2 (sf 0 none 0 0) ∧ wr.rowIs w1.heap.size 26 2 (sf N (some ⟨g, 0, none⟩) (nw N) (nw N)) ∧ Below w.heap.size w wr)
    (fun i _ => N - (intOf i).toNat)
  case atStart => exact ⟨0, Nat.zero_le _, rfl, hrow.alloc _, r2.alloc _, row_new _ _ _ _ _ _, bl_alloc B1 _⟩
  case round =>
    clear hrow r2 B1 hbl hg
    obtain ⟨k, hk, rfl, hrow, r2, r4, hnx⟩ := hrel
    by_cases hlt : k < N
    · obtain ⟨ga, oa, rfl, c8⟩ := HR.out k (by omega)
      replace c8 := keepc hnx c8
      have ik : (k : Int) < (N : Int) := by omega
      have HP := hid1 (pk_wd l k)
      by_cases h0 : 0 < ia l k
      · obtain ⟨q, hq⟩ : ∃ q : Nat, k / 64 = q := ⟨_, rfl⟩
        obtain ⟨r, hr⟩ : ∃ r : Nat, k % 64 = r := ⟨_, rfl⟩
        have eq : (k : Int) / 64 = (q : Int) := by omega
        have er : (k : Int) % 64 = (r : Int) := by omega
        have er' : (k : Int).tmod 64 = (r : Int) := by rw [Int.tmod_eq_emod_of_nonneg (by omega)]; exact er
        have q1 : q < nw N := by unfold nw; omega
        have iq0 : (0 : Int) ≤ (q : Int) := by omega
        have iq1 : (q : Int) < (nw N : Nat) := by omega
        have ir0 : (0 : Int) ≤ (r : Int) := by omega
        have ir1 : (r : Int) ≤ 63 := by omega
        have wq : IntKind.i64.wrap (q : Int) = q := by rw [IntKind.wrap_i64]; omega
        have cw := hrow.cell q1
        have fw := hrow.frozen q
        have c41 := sf_ws r4
        unfold wf at cw
        have hx := wd_lt (pk l k) q
        rw [hq, hr] at HP
        have H64 : (2 : Nat) ^ r < 18446744073709551616 := by rw [two64]; exact Nat.pow_lt_pow_right (by decide) (by omega)
        have HO : Hid (bits .or .u64 (wd (pk l k) q : Nat) (IntKind.u64.wrap (2 ^ r)) = ((wd (pk l k) q ||| 2 ^ r : Nat) : Int)) := by
          have e : IntKind.u64.wrap (2 ^ r) = ((2 ^ r : Nat) : Int) := by
            rw [show ((2 : Int) ^ r) = ((2 ^ r : Nat) : Int) by simp, IntKind.wrap_u64]
            generalize 2 ^ r = y at *; omega
          rw [e]; exact or_u64 _ _ hx H64
        have HH := hid1 hrow
        have H2 := hid1 r2
        have H4 := hid1 r4
        clear hrow r2 r4 hx H64 hq hr
        go_wp2_with fail
        refine still_tail 11 (by kernel_rfl) ?_
        simp only [List.take_succ_cons, List.take_zero, List.drop_succ_cons, List.drop_zero]
        repeat still_step
        refine wpStill_nil ?_
        go_wp2
        refine ⟨⟨k + 1, by omega, by go_num, (HH.out.set q _).congr fun j _ => ?_, H2.out.setOther (a := ⟨g, q, none⟩) (row_ne H2.out HH.out (by decide)) _, H4.out.setOther (a := ⟨g, q, none⟩) (row_ne H4.out HH.out (by decide)) _, (bl_set hnx (by omega) _).drew⟩, by simp [intOf]; omega⟩
        simp only [wf]
        rw [HP.out j, if_pos h0]
        by_cases e : j = q
        · subst e
          rw [if_pos rfl, if_pos rfl, HO.out]
        · rw [if_neg e, if_neg e]
      · have hp : pk l (k + 1) = pk l k := by simp only [pk]; rw [if_neg h0]; simp
        have HH := hid1 hrow
        have H2 := hid1 r2
        have H4 := hid1 r4
        have HE := hid1 hp
        clear hrow r2 r4 HP hp
        go_wp2_with fail
        exact ⟨⟨k + 1, by omega, by go_num, by rw [HE.out]; exact HH.out, H2.out, H4.out, hnx⟩, by simp [intOf]; omega⟩
    · have hkN : k = N := by omega
      subst hkN
      have c40 := sf_len r4
      have c41 := sf_ws r4
      have c20 := sf_len r2
      have c21 := sf_ws r2
      have f0 := r2.frozen 0
      have f1 := r2.frozen 1
      have HH := hid1 hrow
      have H2 := hid1 r2
      clear hrow r2 r4
      go_wp2_with fail
      have hne := row_ne HH.out H2.out (by decide)
      refine bodyPost_ret (v := .tuple #[rv k (some ⟨g, 0, none⟩) (nw k) (nw k), .int .i64 0]) (by simp [results, Try.results10, go_sem, c20, c21]) rfl ⟨g, rfl, by omega, (HH.out.setOther (a := ⟨w.heap.size, 0, none⟩) hne _).setOther (a := ⟨w.heap.size, 1, none⟩) hne _, bl_set (bl_set hnx (Nat.le_refl _) _) (Nat.le_refl _) _⟩
end Go.Proofs.Ytncmcldiodpnpaa
