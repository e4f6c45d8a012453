/- THE DOCUMENT'S OWN Bit. -/
import Derived.Test.YtgmildjfikgkmaaKC1
import Derived.Test.YtgmildjfikgkmaaKB2
namespace Go.Proofs.Ytgmildjfikgkmaa
open Go.RowKit Go.Shelf

theorem bit_at (N j r : Nat) (hr : r < 64) : (wd N j &&& 2 ^ r = 0) ↔ N.testBit (64 * j + r) = false := by
  have h := wd_bit N j r
  simp only [hr, decide_true, Bool.true_and] at h
  rw [← h]
  constructor
  · intro e
    have := congrArg (fun x => Nat.testBit x r) e
    simpa [Nat.testBit_and, Nat.testBit_two_pow_self] using this
  · intro e
    refine Nat.eq_of_testBit_eq fun i => ?_
    rw [Nat.testBit_and, Nat.testBit_two_pow]
    by_cases hi : r = i
    · subst hi; simp [e]
    · simp [hi]
set_option maxHeartbeats 1600000 in
set_option maxRecDepth 100000 in
theorem bit_any (H V C g o m cap N y x k : Nat) (w : World) (hV : V ≤ 4096) (hC : C ≤ 4096) (hy : y < 4096) (hx : x ≤ 4096) (hk : k < C) (hM : (y * V + x) * nw C + nw C ≤ m) (hM2 : m ≤ 1073741824) (rd : Wr w (some ⟨g, o, none⟩) m N) :
    Calls Try.prog 63 #[cuv H V C (some ⟨g, o, none⟩) m cap, .int .i64 y, .int .i64 x, .int .i64 k] w fun e w' => e = .returned (.bool (N.testBit (bp V C y x k))) ∧ Below w.heap.size w w' := by
  have HD := hid1 (deep_any C (by omega))
  have hd64 : nw C ≤ 64 := by unfold nw; omega
  have hkd : k / 64 < nw C := by unfold nw; omega
  have hbp : bp V C y x k = 64 * ((y * V + x) * nw C + k / 64) + k % 64 := by unfold bp; omega
  have b1 : y * V ≤ 4096 * 4096 := Nat.mul_le_mul (by omega) hV
  have b2 : (y * V + x) * nw C ≤ (4096 * 4096 + 4096) * 64 := Nat.mul_le_mul (by omega) hd64
  rw [hbp]
  clear hbp
  obtain ⟨d, hd⟩ : ∃ d, nw C = d := ⟨_, rfl⟩
  rw [hd] at HD hd64 hkd hM b2 ⊢
  clear hd
  obtain ⟨u, hu⟩ : ∃ u, y * V = u := ⟨_, rfl⟩
  have p1 : (y : Int) * (V : Int) = (u : Nat) := by rw [← hu]; push_cast; rfl
  rw [hu] at b1 b2 hM ⊢
  clear hu
  obtain ⟨v, hv⟩ : ∃ v, (u + x) * d = v := ⟨_, rfl⟩
  have p2 : ((u : Int) + (x : Int)) * (d : Int) = (v : Nat) := by rw [← hv]; push_cast; rfl
  rw [hv] at b2 hM ⊢
  clear hv
  obtain ⟨q, hq⟩ : ∃ q, k / 64 = q := ⟨_, rfl⟩
  obtain ⟨r, hr⟩ : ∃ r, k % 64 = r := ⟨_, rfl⟩
  rw [hq] at hkd ⊢
  rw [hr]
  have eq : (k : Int) / 64 = (q : Int) := by omega
  have eq' : (k : Int).tdiv 64 = (q : Int) := by rw [Int.tdiv_eq_ediv_of_nonneg (by omega)]; exact eq
  have er : (k : Int) % 64 = (r : Int) := by omega
  have er' : (k : Int).tmod 64 = (r : Int) := by rw [Int.tmod_eq_emod_of_nonneg (by omega)]; exact er
  have ir0 : (0 : Int) ≤ (r : Int) := by omega
  have ir1 : (r : Int) ≤ 63 := by omega
  have w1 : IntKind.i64.wrap (u : Int) = (u : Int) := by rw [IntKind.wrap_i64]; omega
  have w2 : IntKind.i64.wrap ((u : Int) + (x : Int)) = (u : Int) + (x : Int) := by rw [IntKind.wrap_i64]; omega
  have w3 : IntKind.i64.wrap (v : Int) = (v : Int) := by rw [IntKind.wrap_i64]; omega
  have w4 : IntKind.i64.wrap (q : Int) = (q : Int) := by rw [IntKind.wrap_i64]; omega
  have w5 : IntKind.i64.wrap ((v : Int) + (q : Int)) = ((v + q : Nat) : Int) := by rw [IntKind.wrap_i64]; omega
  have w5' : (v : Int) + (q : Int) = ((v + q : Nat) : Int) := by omega
  obtain ⟨g', o', e, c8⟩ := rd.2 (v + q) (by omega)
  cases e
  unfold wf at c8
  have HB := hid1 (bit_at N (v + q) r (by omega))
  have H64 : (2 : Nat) ^ r < 18446744073709551616 := by rw [two64]; exact Nat.pow_lt_pow_right (by decide) (by omega)
  have hE : IntKind.u64.wrap (2 ^ r) = ((2 ^ r : Nat) : Int) := by
    rw [show ((2 : Int) ^ r) = ((2 ^ r : Nat) : Int) by simp, IntKind.wrap_u64]
    generalize 2 ^ r = y at *; omega
  have HA : bits .and .u64 (wd N (v + q) : Nat) (IntKind.u64.wrap (2 ^ r)) = ((wd N (v + q) &&& 2 ^ r : Nat) : Int) := by rw [hE]; exact and_u64 _ _ (wd_lt _ _) H64
  obtain ⟨z, hz⟩ : ∃ z, wd N (v + q) &&& 2 ^ r = z := ⟨_, rfl⟩
  rw [hz] at HA HB
  clear hE H64 hz
  generalize N.testBit (64 * (v + q) + r) = bb at *
  generalize wd N (v + q) = xx at *
  generalize hpp : v + q = p at *
  have ip0 : (0 : Int) ≤ (p : Int) := by omega
  have ip1 : (p : Int) < (m : Int) := by omega
  have lg := lt_of_cell c8
  clear hq hr hpp rd
  go_enter Try.func63, Try.ntmps63
  go_wp2_with fail
  have c8' : (w.alloc (.cells #[.int .i64 H, .int .i64 V, .int .i64 C, .slice (some ⟨g, o, none⟩) m cap] 33)).cell? ⟨g, o + p, none⟩ = some (.int .u64 xx) := keepc (bl_alloc (Below.refl _ _) _) c8
  go_quiet ((go_at_call 53; exact Calls.quiet_of_same (HD.out _)))
  go_wp2_with fail
  go_ret
  refine ⟨?_, bl_drewN (bl_alloc (Below.refl _ _) _) _⟩
  have hb : ((z : Int) != 0) = bb := by
    cases bb
    · have : z = 0 := HB.out.2 rfl
      subst this; rfl
    · have : ¬ z = 0 := fun h => by have := HB.out.1 h; cases this
      simp [this]
  show Ending.returned (.bool ((z : Int) != 0)) = _
  rw [hb]
end Go.Proofs.Ytgmildjfikgkmaa
