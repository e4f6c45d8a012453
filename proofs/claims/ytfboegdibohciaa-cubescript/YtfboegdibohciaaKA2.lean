/- THE DOCUMENT'S OWN Turn. -/
import Derived.Test.YtfboegdibohciaaKA1
import Derived.Test.YtfboegdibohciaaSW5
namespace Go.Proofs.Ytfboegdibohciaa
open Go.RowKit Go.Shelf

set_option maxRecDepth 100000 in
theorem deep_any (n : Nat) (h1 : n ≤ 16777216) (w : World) :
    Calls Try.prog 46 #[.int .i64 n] w fun e w' => e = .returned (.int .i64 (nw n)) ∧ w' = w := by
  have e1 : ((n : Int) + 63) / 64 = (nw n : Nat) := by unfold nw; omega
  go_enter Try.func46, Try.ntmps46
  go_wp2
  go_ret
  exact ⟨ret_int (by rw [e1]), rfl⟩
/-- The last word, shifted down by what it holds, is 0 just if nothing is set behind. -/
theorem last_shr {n N : Nat} (h0 : 0 < n) (hr : n % 64 ≠ 0) (hN : N < 2 ^ (64 * nw n)) : wd N (nw n - 1) / 2 ^ (n % 64) = 0 ↔ N < 2 ^ n := by
  have hq : 64 * (nw n - 1) + n % 64 = n := by unfold nw; omega
  have hq2 : 64 * nw n = 64 * (nw n - 1) + 64 := by unfold nw; omega
  constructor
  · intro h
    refine Nat.lt_pow_two_of_testBit _ fun i hi => ?_
    by_cases hi2 : i < 64 * nw n
    · have hw : (wd N (nw n - 1)).testBit (i - 64 * (nw n - 1)) = false := by
        have hlt : wd N (nw n - 1) < 2 ^ (n % 64) := by
          rcases Nat.lt_or_ge (wd N (nw n - 1)) (2 ^ (n % 64)) with k | k
          · exact k
          · have := Nat.div_pos k (Nat.two_pow_pos _); omega
        exact bit_above hlt (by omega)
      rw [wd_bit] at hw
      have e1 : i - 64 * (nw n - 1) < 64 := by omega
      have e2 : 64 * (nw n - 1) + (i - 64 * (nw n - 1)) = i := by omega
      simpa [e1, e2] using hw
    · exact bit_above hN (by omega)
  · intro h
    refine Nat.div_eq_of_lt ?_
    refine Nat.lt_pow_two_of_testBit _ fun i hi => ?_
    rw [wd_bit, bit_above h (i := 64 * (nw n - 1) + i) (by omega)]
    simp
theorem chk_one_not {n : Int} (h : n < 1 ∨ 4096 < n) : Sg.chk 1 1 n ≠ 0 := by
  unfold Sg.chk
  rw [if_neg (fun k => by have := k.2.2; omega)]
  decide
set_option maxHeartbeats 1600000 in
set_option maxRecDepth 100000 in
theorem rturn_small (n : Int) (ao : Option Addr) (m cap : Nat) (w : World) (E : Int) (hE : (n < 0 ∧ E = 1) ∨ (16777216 < n ∧ E = 2)) :
    Calls Try.prog 27 #[rv n ao m cap] w fun e w' => e = .returned (.tuple #[cuv 0 0 0 none 0 0, .int .i64 E]) ∧ Below w.heap.size w w' := by
  obtain ⟨W, eW, z0, B0, q0, q1⟩ := turn_start w n ao m cap
  have e0 := sf_len q0
  have d0 := cf0 q1
  have d1 := cf1 q1
  have d2 := cf2 q1
  have d3 := cf3 q1
  have f0 := q1.frozen 0
  have f1 := q1.frozen 1
  have f2 := q1.frozen 2
  have f3 := q1.frozen 3
  have fin : ∀ x y z u, Below w.heap.size w ((((W.setCell ⟨w.heap.size + 1, 0, none⟩ x).setCell ⟨w.heap.size + 1, 1, none⟩ y).setCell ⟨w.heap.size + 1, 2, none⟩ z).setCell ⟨w.heap.size + 1, 3, none⟩ u) := fun x y z u => bl_set (bl_set (bl_set (bl_set B0 (by omega) _) (by omega) _) (by omega) _) (by omega) _
  clear q0 q1 B0
  rcases hE with ⟨h, rfl⟩ | ⟨h, rfl⟩
  · go_enter Try.func27, Try.ntmps27
    go_wp2_with fail
    exact bodyPost_ret (v := .tuple #[cuv 0 0 0 none 0 0, .int .i64 1]) (by simp [results, Try.results27, go_sem, d0, d1, d2, d3]) rfl ⟨rfl, fin _ _ _ _⟩
  · have h0 : ¬ n < 0 := by omega
    go_enter Try.func27, Try.ntmps27
    go_wp2_with fail
    exact bodyPost_ret (v := .tuple #[cuv 0 0 0 none 0 0, .int .i64 2]) (by simp [results, Try.results27, go_sem, d0, d1, d2, d3]) rfl ⟨rfl, fin _ _ _ _⟩
set_option maxHeartbeats 1600000 in
set_option maxRecDepth 100000 in
theorem rturn_len (n : Nat) (ao : Option Addr) (m cap : Nat) (w : World) (hn : n ≤ 16777216) (ne : m ≠ nw n) :
    Calls Try.prog 27 #[rv n ao m cap] w fun e w' => e = .returned (.tuple #[cuv 0 0 0 none 0 0, .int .i64 20]) ∧ Below w.heap.size w w' := by
  obtain ⟨W, eW, z0, B0, q0, q1⟩ := turn_start w n ao m cap
  have e0 := sf_len q0
  have e1 := sf_ws q0
  have HD := hid1 (deep_any n hn)
  obtain ⟨d, hd⟩ : ∃ d, nw n = d := ⟨_, rfl⟩
  rw [hd] at HD ne
  clear hd
  have ne' : ¬ (m : Int) = (d : Int) := by omega
  have t0 : ¬ (n : Int) < 0 := by omega
  have t1 : ¬ (n : Int) > 16777216 := by omega
  have fin : ∀ k x y z u, Below w.heap.size w (((((W.drewN k).setCell ⟨w.heap.size + 1, 0, none⟩ x).setCell ⟨w.heap.size + 1, 1, none⟩ y).setCell ⟨w.heap.size + 1, 2, none⟩ z).setCell ⟨w.heap.size + 1, 3, none⟩ u) := fun k x y z u => bl_set (bl_set (bl_set (bl_set (bl_drewN B0 k) (by omega) _) (by omega) _) (by omega) _) (by omega) _
  have HQ := hid1 q1
  clear q0 q1 B0
  go_enter Try.func27, Try.ntmps27
  go_wp2_with fail
  go_quiet ((go_at_call 46; exact Calls.quiet_of_same (HD.out _)))
  have R := row_drewN HQ.out nq
  have fin' := fin nq
  obtain ⟨X, eX⟩ : ∃ X, W.drewN nq = X := ⟨_, rfl⟩
  rw [eX] at R fin' ⊢
  have d0 := cf0 R
  have d1 := cf1 R
  have d2 := cf2 R
  have d3 := cf3 R
  have f0 := R.frozen 0
  have f1 := R.frozen 1
  have f2 := R.frozen 2
  have f3 := R.frozen 3
  clear R HQ fin eX eW e0 e1
  go_wp2_with fail
  exact bodyPost_ret (v := .tuple #[cuv 0 0 0 none 0 0, .int .i64 20]) (by simp [results, Try.results27, go_sem, d0, d1, d2, d3]) rfl ⟨rfl, fin' _ _ _ _⟩
set_option maxHeartbeats 3200000 in
set_option maxRecDepth 100000 in
theorem rturn_bit (n g o m cap N : Nat) (w : World) (hn : n ≤ 16777216) (h0 : 0 < n) (em : m = nw n) (hr : n % 64 ≠ 0) (hN : ¬ N < 2 ^ n) (rd : Wr w (some ⟨g, o, none⟩) m N) :
    Calls Try.prog 27 #[rv n (some ⟨g, o, none⟩) m cap] w fun e w' => e = .returned (.tuple #[cuv 0 0 0 none 0 0, .int .i64 20]) ∧ Below w.heap.size w w' := by
  obtain ⟨W, eW, z0, B0, q0, q1⟩ := turn_start w n (some ⟨g, o, none⟩) m cap
  have HD := hid1 (deep_any n hn)
  have hb := nw_bd hn
  rw [← em] at HD hb
  have hN' : N < 2 ^ (64 * nw n) := by rw [← em]; exact rd.1
  have hs : ¬ wd N (m - 1) / 2 ^ (n % 64) = 0 := by rw [em]; exact fun h => hN ((last_shr h0 hr hN').1 h)
  have hm0 : 0 < m := by rw [em]; unfold nw; omega
  obtain ⟨q, hq⟩ : ∃ q, m - 1 = q := ⟨_, rfl⟩
  obtain ⟨g', o', e, c8⟩ := (rd.below B0).2 q (by omega)
  cases e
  unfold wf at c8
  rw [hq] at hs
  obtain ⟨r, hrr⟩ : ∃ r, n % 64 = r := ⟨_, rfl⟩
  rw [hrr] at hs hr
  have e2 : ((n : Nat) : Int).tmod 64 = r := by rw [Int.tmod_eq_emod_of_nonneg (by omega)]; omega
  have e2' : ((n : Nat) : Int) % 64 = r := by omega
  have ir0 : (0 : Int) ≤ (r : Int) := by omega
  have ir1 : (r : Int) ≤ 63 := by omega
  have nr : ¬ (r : Int) = 0 := by omega
  have nr' : ¬ r = 0 := by omega
  have iq : IntKind.i64.wrap ((m : Int) - 1) = (q : Int) := by rw [IntKind.wrap_i64]; omega
  have iq0 : (0 : Int) ≤ (q : Int) := by omega
  have iq1 : (q : Int) < (m : Int) := by omega
  have hy : (wd N q : Int) / 2 ^ r = ((wd N q / 2 ^ r : Nat) : Int) := by rw [shr_int]
  obtain ⟨y, hyy⟩ : ∃ y, wd N q / 2 ^ r = y := ⟨_, rfl⟩
  rw [hyy] at hy hs
  have iy : ¬ (y : Int) = 0 := by omega
  generalize wd N q = x at *
  clear hyy hrr hq em hN hN' rd
  have t0 : ¬ (n : Int) < 0 := by omega
  have t1 : ¬ (n : Int) > 16777216 := by omega
  have fin : ∀ X, Below w.heap.size w X → ∀ x y z u, Below w.heap.size w ((((X.setCell ⟨w.heap.size + 1, 0, none⟩ x).setCell ⟨w.heap.size + 1, 1, none⟩ y).setCell ⟨w.heap.size + 1, 2, none⟩ z).setCell ⟨w.heap.size + 1, 3, none⟩ u) := fun X B x y z u => bl_set (bl_set (bl_set (bl_set B (by omega) _) (by omega) _) (by omega) _) (by omega) _
  have e0 := sf_len q0
  have e1 := sf_ws q0
  have HQ := hid1 q1
  have H0 := hid1 q0
  have HB := hid1 B0
  clear q0 q1 B0
  go_enter Try.func27, Try.ntmps27
  go_wp2_with fail
  go_quiet ((go_at_call 46; exact Calls.quiet_of_same (HD.out _)))
  have c8' : (W.drewN nq).cell? ⟨g, o + q, none⟩ = some (.int .u64 x) := c8
  have R0 := row_drewN H0.out nq
  have R1 := row_drewN HQ.out nq
  have BX := bl_drewN HB.out nq
  obtain ⟨X, eX⟩ : ∃ X, W.drewN nq = X := ⟨_, rfl⟩
  rw [eX] at R0 R1 BX c8' ⊢
  clear eX eW c8 HQ H0 HB e0 e1
  have e0 := sf_len R0
  have e1 := sf_ws R0
  have HQ := hid1 R1
  have HB := hid1 BX
  clear R0 R1 BX
  go_wp2_with fail
  go_quiet (fail)
  have R1 := row_drewN HQ.out nq
  have BX := fin _ (bl_drewN HB.out nq)
  obtain ⟨Y, eY⟩ : ∃ Y, X.drewN nq = Y := ⟨_, rfl⟩
  rw [eY] at R1 BX ⊢
  have d0 := cf0 R1
  have d1 := cf1 R1
  have d2 := cf2 R1
  have d3 := cf3 R1
  have f0 := R1.frozen 0
  have f1 := R1.frozen 1
  have f2 := R1.frozen 2
  have f3 := R1.frozen 3
  clear R1 HQ HB eY e0 e1 c8'
  have br : ((r : Int) != 0) = true := by simp [nr']
  have by' : ((y : Int) != 0) = true := by simp [hs]
  have hb2 : ((r : Int) != 0 && (y : Int) != 0) = true := by rw [br, by']; rfl
  rw [hb2]
  go_wp2_with fail
  exact bodyPost_ret (v := .tuple #[cuv 0 0 0 none 0 0, .int .i64 20]) (by simp [results, Try.results27, go_sem, d0, d1, d2, d3]) rfl ⟨rfl, BX _ _ _ _⟩
/-- What the last word says, where nothing is set behind. -/
def Lw (W : World) (ao : Option Addr) (m n : Nat) : Prop := n % 64 = 0 ∨ (n % 64 ≠ 0 ∧ ∃ g o q x : Nat, ao = some ⟨g, o, none⟩ ∧ m = q + 1 ∧ W.cell? ⟨g, o + q, none⟩ = some (.int .u64 x) ∧ x / 2 ^ (n % 64) = 0)
theorem lw_of {W : World} {ao : Option Addr} {m n N : Nat} (em : m = nw n) (hN : N < 2 ^ n) (rd : Wr W ao m N) : Lw W ao m n := by
  by_cases hr : n % 64 = 0
  · exact .inl hr
  · have h0 : 0 < n := by omega
    have hm0 : 0 < m := by rw [em]; unfold nw; omega
    obtain ⟨g, o, e, c⟩ := rd.2 (m - 1) (by omega)
    refine .inr ⟨hr, g, o, m - 1, wd N (m - 1), e, by omega, c, ?_⟩
    rw [em]
    exact (last_shr h0 hr (lt_nw hN)).2 hN
set_option maxHeartbeats 3200000 in
set_option maxRecDepth 100000 in
theorem rturn_shape (n : Nat) (ao : Option Addr) (m cap : Nat) (w : World) (hn : n ≤ 16777216) (em : m = nw n) (ho : n < 1 ∨ 4096 < n) (lw : ∀ W, Below w.heap.size w W → Lw W ao m n) :
    Calls Try.prog 27 #[rv n ao m cap] w fun e w' => e = .returned (.tuple #[cuv 0 0 0 none 0 0, .int .i64 30]) ∧ Below w.heap.size w w' := by
  obtain ⟨W, eW, z0, B0, q0, q1⟩ := turn_start w n ao m cap
  have HD := hid1 (deep_any n hn)
  have hb := nw_bd hn
  rw [← em] at HD hb
  have HC := hid1 (Sg.rcheck_any 1 1 n)
  have hne := chk_one_not (n := n) (by omega)
  generalize Sg.chk 1 1 n = E at HC hne
  clear em ho
  have t0 : ¬ (n : Int) < 0 := by omega
  have t1 : ¬ (n : Int) > 16777216 := by omega
  have fin : ∀ X, Below w.heap.size w X → ∀ x y z u, Below w.heap.size w ((((X.setCell ⟨w.heap.size + 1, 0, none⟩ x).setCell ⟨w.heap.size + 1, 1, none⟩ y).setCell ⟨w.heap.size + 1, 2, none⟩ z).setCell ⟨w.heap.size + 1, 3, none⟩ u) := fun X B x y z u => bl_set (bl_set (bl_set (bl_set B (by omega) _) (by omega) _) (by omega) _) (by omega) _
  have e0 := sf_len q0
  have e1 := sf_ws q0
  have HQ := hid1 q1
  have H0 := hid1 q0
  have HB := hid1 B0
  have HL := hid1 lw
  clear q0 q1 B0 lw
  obtain ⟨r, hrr⟩ : ∃ r, n % 64 = r := ⟨_, rfl⟩
  have e2 : ((n : Nat) : Int).tmod 64 = r := by rw [Int.tmod_eq_emod_of_nonneg (by omega)]; omega
  have e2' : ((n : Nat) : Int) % 64 = r := by omega
  have ir0 : (0 : Int) ≤ (r : Int) := by omega
  have ir1 : (r : Int) ≤ 63 := by omega
  have HRR := hid1 hrr
  clear hrr
  go_enter Try.func27, Try.ntmps27
  go_wp2_with fail
  go_quiet ((go_at_call 46; exact Calls.quiet_of_same (HD.out _)))
  have R0 := row_drewN H0.out nq
  have R1 := row_drewN HQ.out nq
  have BX := bl_drewN HB.out nq
  obtain ⟨X, eX⟩ : ∃ X, W.drewN nq = X := ⟨_, rfl⟩
  rw [eX] at R0 R1 BX ⊢
  clear eX eW HQ H0 HB e0 e1 nq
  have e0 := sf_len R0
  have e1 := sf_ws R0
  have H0 := hid1 R0
  have HQ := hid1 R1
  have HB := hid1 BX
  have HLX := hid1 (HL.out X BX)
  clear R0 R1 BX HL
  unfold Lw at HLX
  rw [HRR.out] at HLX
  rcases HLX.out with hr0 | ⟨hr, g, o, q, x, rfl, hqm, c8, hx⟩
  · subst hr0
    go_wp2_with fail
    go_quiet (fail)
    have R0 := row_drewN H0.out nq
    have R1 := row_drewN HQ.out nq
    have BY := bl_drewN HB.out nq
    obtain ⟨Y, eY⟩ : ∃ Y, X.drewN nq = Y := ⟨_, rfl⟩
    rw [eY] at R0 R1 BY ⊢
    clear eY HQ H0 HB e0 e1 HLX
    have e0 := sf_len R0
    go_wp2_with fail
    refine (HC.out _).mono ?_
    rintro e w3 ⟨rfl, hb⟩
    replace R1 := keepr hb (R1.alloc _)
    have B3 := fin _ (bl_step (bl_alloc BY _) hb)
    have d0 := cf0 R1
    have d1 := cf1 R1
    have d2 := cf2 R1
    have d3 := cf3 R1
    have f0 := R1.frozen 0
    have f1 := R1.frozen 1
    have f2 := R1.frozen 2
    have f3 := R1.frozen 3
    clear R0 R1 BY hb e0 fin HC HRR
    go_wp2_with fail
    exact bodyPost_ret (v := .tuple #[cuv 0 0 0 none 0 0, .int .i64 30]) (by simp [results, Try.results27, go_sem, d0, d1, d2, d3]) rfl ⟨rfl, B3 _ _ _ _⟩
  · have nr : ¬ (r : Int) = 0 := by omega
    have nr' : ¬ r = 0 := hr
    have iq : IntKind.i64.wrap ((m : Int) - 1) = (q : Int) := by rw [IntKind.wrap_i64]; omega
    have iq0 : (0 : Int) ≤ (q : Int) := by omega
    have iq1 : (q : Int) < (m : Int) := by omega
    have hy : (x : Int) / 2 ^ r = 0 := by rw [shr_int, hx]; rfl
    clear hx hqm HLX
    go_wp2_with fail
    go_quiet (fail)
    have hb2 : ∀ b : Bool, (b && false) = false := fun b => by cases b <;> rfl
    have R0 := row_drewN H0.out nq
    have R1 := row_drewN HQ.out nq
    have BY := bl_drewN HB.out nq
    obtain ⟨Y, eY⟩ : ∃ Y, X.drewN nq = Y := ⟨_, rfl⟩
    rw [eY] at R0 R1 BY ⊢
    clear eY HQ H0 HB e0 e1 c8
    have e0 := sf_len R0
    go_wp2_with fail
    refine (HC.out _).mono ?_
    rintro e w3 ⟨rfl, hb⟩
    replace R1 := keepr hb (R1.alloc _)
    have B3 := fin _ (bl_step (bl_alloc BY _) hb)
    have d0 := cf0 R1
    have d1 := cf1 R1
    have d2 := cf2 R1
    have d3 := cf3 R1
    have f0 := R1.frozen 0
    have f1 := R1.frozen 1
    have f2 := R1.frozen 2
    have f3 := R1.frozen 3
    clear R0 R1 BY hb e0 fin HC HRR
    go_wp2_with fail
    exact bodyPost_ret (v := .tuple #[cuv 0 0 0 none 0 0, .int .i64 30]) (by simp [results, Try.results27, go_sem, d0, d1, d2, d3]) rfl ⟨rfl, B3 _ _ _ _⟩
end Go.Proofs.Ytfboegdibohciaa
