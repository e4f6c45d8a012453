import Derived.Test.YtlghmojjcfjibaaQAPoolScript
/- THE DOCUMENT'S OWN Check. -/
namespace Go.Proofs.Ytlghmojjcfjibaa
open Go.RowKit Go.Shelf

theorem place_shr {N C p : Nat} (h0 : 0 < C) (hr : C % 64 ≠ 0) : wd N (p * nw C + (nw C - 1)) / 2 ^ (C % 64) = 0 ↔ pl N (nw C) p < 2 ^ C := by
  have hd : nw C - 1 < nw C := by unfold nw; omega
  rw [← pl_wd hd]
  exact last_shr h0 hr (pl_lt N (nw C) p)
theorem place_full {N C p : Nat} (hr : C % 64 = 0) : pl N (nw C) p < 2 ^ C := by
  have := pl_lt N (nw C) p
  rwa [show 64 * nw C = C by unfold nw; omega] at this
set_option maxHeartbeats 800000 in
set_option maxRecDepth 100000 in
theorem rccheck_shape (h v c : Int) (ao : Option Addr) (m cap : Nat) (w : World) (k : Sg.chk h v c ≠ 0) :
    Calls Try.prog 56 #[cuv h v c ao m cap] w fun e w' => e = .returned (.int .i64 (Sg.chk h v c)) ∧ Below w.heap.size w w' := by
  have HC := hid1 (Sg.rwords_any h v c)
  generalize Sg.chk h v c = q at *
  generalize Sg.woN h v c = u at *
  go_enter Try.func56, Try.ntmps56
  go_wp2_with fail
  refine gen_calls (fun W => Below w.heap.size w W) (bl_alloc (Below.refl _ _) _) ?_
  rintro W B0
  refine (HC.out W).mono ?_
  rintro e w1 ⟨rfl, hb⟩
  go_wp2_with fail
  go_ret
  exact ⟨rfl, bl_step B0 hb⟩
set_option maxHeartbeats 800000 in
set_option maxRecDepth 100000 in
theorem rccheck_len (H V C : Nat) (ao : Option Addr) (m cap : Nat) (w : World) (k : Sg.chk H V C = 0) (ne : m ≠ H * V * nw C) :
    Calls Try.prog 56 #[cuv H V C ao m cap] w fun e w' => e = .returned (.int .i64 20) ∧ Below w.heap.size w w' := by
  have HC := hid1 (Sg.rwords_any H V C)
  rw [k, woN_nat k] at HC
  generalize H * V * nw C = u at *
  have ne' : ¬ (m : Int) = (u : Nat) := by omega
  go_enter Try.func56, Try.ntmps56
  go_wp2_with fail
  refine gen_calls (fun W => Below w.heap.size w W ∧ W.rowIs w.heap.size 26 4 (cf H V C ao m cap)) ⟨bl_alloc (Below.refl _ _) _, cu_new w _ _ _ _ _ _ _⟩ ?_
  rintro W ⟨B0, r0⟩
  refine (HC.out W).mono ?_
  rintro e w1 ⟨rfl, hb⟩
  have c2 := cf3 (keepr hb r0)
  have B1 := bl_step B0 hb
  clear hb B0 r0
  go_wp2_with fail
  go_ret
  exact ⟨rfl, B1⟩
set_option maxHeartbeats 1600000 in
set_option maxRecDepth 100000 in
theorem rccheck_good (H V C g o m cap N : Nat) (w : World) (hH : 1 ≤ H ∧ H ≤ 4096) (hV : 1 ≤ V ∧ V ≤ 4096) (hC : 1 ≤ C ∧ C ≤ 4096) (k : Sg.chk H V C = 0) (hm : m = H * V * nw C) (rd : Wr w (some ⟨g, o, none⟩) m N) :
    Calls Try.prog 56 #[cuv H V C (some ⟨g, o, none⟩) m cap] w fun e w' => e = .returned (.int .i64 (if Pok (H * V) C N then 0 else 20)) ∧ Below w.heap.size w w' := by
  have HC := hid1 (Sg.rwords_any H V C)
  rw [k, woN_nat k, ← hm] at HC
  have HD := hid1 (deep_any C (by omega))
  have hb := (wo_bd hH.2 hV.2 hC.2).2
  rw [← hm] at hb
  obtain ⟨rr, hrr⟩ : ∃ rr : Int, (if Pok (H * V) C N then (0 : Int) else 20) = rr := ⟨_, rfl⟩
  rw [hrr]
  have HRR := hid1 hrr
  clear hrr
  have HSH := hid1 (fun p hr => place_shr (N := N) (C := C) (p := p) hC.1 hr)
  have HFL := hid1 (fun p hr => place_full (N := N) (C := C) (p := p) hr)
  have hd0 : 0 < nw C := by unfold nw; omega
  have hd64 : nw C ≤ 64 := by unfold nw; omega
  obtain ⟨ok, hok⟩ : ∃ ok : Nat → Prop, ok = fun i => pl N (nw C) i < 2 ^ C := ⟨_, rfl⟩
  have HE := hid1 (fun i => congrFun hok i)
  have HOK : Hid ((∀ i, i < H * V → ok i) → rr = 0) := hid1 fun h => by
    rw [← HRR.out, if_pos]
    intro i hi
    have := h i hi
    rwa [HE.out] at this
  have HBAD : Hid (∀ i, i < H * V → ¬ ok i → rr = 20) := hid1 fun i hi h => by
    rw [← HRR.out, if_neg]
    intro q
    rw [HE.out] at h
    exact h (q i hi)
  replace HSH : Hid (∀ p, C % 64 ≠ 0 → (wd N (p * nw C + (nw C - 1)) / 2 ^ (C % 64) = 0 ↔ ok p)) := hid1 fun p hr => (HSH.out p hr).trans (iff_of_eq (HE.out p).symm)
  replace HFL : Hid (∀ p, C % 64 = 0 → ok p) := hid1 fun p hr => by rw [HE.out]; exact HFL.out p hr
  clear hok HE HRR
  have hmd : ∀ p, p * nw C + (nw C - 1) < m → p < H * V := fun p hp => by
    rcases Nat.lt_or_ge p (H * V) with q | q
    · exact q
    · have := Nat.mul_le_mul_right (nw C) q; omega
  have hmd2 : ∀ p, ¬ p * nw C + (nw C - 1) < m → H * V ≤ p := fun p hp => by
    rcases Nat.lt_or_ge p (H * V) with q | q
    · have := Nat.mul_le_mul_right (nw C) q
      rw [Nat.succ_mul] at this
      omega
    · exact q
  have HM1 := hid1 hmd
  have HM2 := hid1 hmd2
  clear hm hmd hmd2
  obtain ⟨d, hd⟩ : ∃ d, nw C = d := ⟨_, rfl⟩
  rw [hd] at HD hd0 hd64 HSH HM1 HM2
  clear hd
  obtain ⟨r, hr⟩ : ∃ r, C % 64 = r := ⟨_, rfl⟩
  have er : (C : Int) % 64 = (r : Int) := by omega
  have er' : (C : Int).tmod 64 = (r : Int) := by rw [Int.tmod_eq_emod_of_nonneg (by omega)]; exact er
  have ir0 : (0 : Int) ≤ (r : Int) := by omega
  have ir1 : (r : Int) ≤ 63 := by omega
  rw [hr] at HSH HFL
  clear hr
  have id1 : IntKind.i64.wrap ((d : Int) - 1) = ((d - 1 : Nat) : Int) := by rw [IntKind.wrap_i64]; omega
  have id1' : (d : Int) - 1 = ((d - 1 : Nat) : Int) := by omega
  have RD := hid1 rd
  clear rd
  go_enter Try.func56, Try.ntmps56
  go_wp2_with fail
  refine gen_calls (fun W => Below w.heap.size w W ∧ W.rowIs w.heap.size 26 4 (cf H V C (some ⟨g, o, none⟩) m cap)) ⟨bl_alloc (Below.refl _ _) _, cu_new w _ _ _ _ _ _ _⟩ ?_
  rintro W ⟨B0, r0⟩
  refine (HC.out W).mono ?_
  rintro e w1 ⟨rfl, hb1⟩
  replace r0 := keepr hb1 r0
  have B1 := bl_step B0 hb1
  clear hb1 B0 HC
  have e2 := cf2 r0
  have e3 := cf3 r0
  have HR0 := hid1 r0
  clear r0
  go_wp2_with (go_at_call 65; refine (HD.out _).mono ?_; rintro e w2 ⟨rfl, rfl⟩)
  clear HD e2 e3
  go_loopw [7] (fun s7 wr => ∃ p i : Nat, i = p * d + (d - 1) ∧ s7 = .int .i64 i ∧ i ≤ m + 64 ∧ (∀ q, q < p → ok q) ∧ wr.rowIs w.heap.size 26 4 (cf H V C (some ⟨g, o, none⟩) m cap) ∧ Below w.heap.size w wr) (fun s7 _ => m + 64 - (intOf s7).toNat)
  case atStart => exact ⟨0, d - 1, by omega, rfl, by omega, fun q hq => absurd hq (by omega), HR0.out, B1⟩
  case round =>
    clear HR0 B1
    obtain ⟨p, i, hi, rfl, hiM, hall, r0, hnx⟩ := hrel
    have HALL := hid1 hall
    have HI := hid1 hi
    have e3 := cf3 r0
    have HR0 := hid1 r0
    clear hall hi r0
    by_cases hr0 : r = 0
    · subst hr0
      have hz : rr = 0 := HOK.out fun q _ => HFL.out q rfl
      subst hz
      go_wp2_with fail
      go_ret
      exact ⟨rfl, hnx⟩
    · have nr : ¬ (r : Int) = 0 := by omega
      have ii0 : (0 : Int) ≤ (i : Int) := by omega
      by_cases him : i < m
      · have iim : (i : Int) < (m : Nat) := by omega
        obtain ⟨g', o', e, c8⟩ := (RD.out.below hnx).2 i him
        cases e
        unfold wf at c8
        have HP := hid1 (HSH.out p hr0)
        rw [← HI.out] at HP
        have hpv := HM1.out p (by rw [← HI.out]; exact him)
        have hy : (wd N i : Int) / 2 ^ r = ((wd N i / 2 ^ r : Nat) : Int) := by rw [shr_int]
        obtain ⟨y, hyy⟩ : ∃ y, wd N i / 2 ^ r = y := ⟨_, rfl⟩
        rw [hyy] at hy HP
        generalize wd N i = x at *
        clear hyy
        have wi : IntKind.i64.wrap ((i : Int) + (d : Int)) = ((i + d : Nat) : Int) := by rw [IntKind.wrap_i64]; omega
        by_cases y0 : y = 0
        · subst y0
          have hokp := HP.out.1 rfl
          clear HP
          go_wp2_with fail
          refine ⟨⟨p + 1, i + d, by have := HI.out; rw [Nat.succ_mul]; omega, by go_num, by omega, fun q hq => ?_, HR0.out, hnx⟩, by simp [intOf]; omega⟩
          by_cases e : q = p
          · subst e; exact hokp
          · exact HALL.out q (by omega)
        · have iy : ¬ (y : Int) = 0 := by omega
          have hbad : rr = 20 := HBAD.out p hpv fun q => y0 (HP.out.2 q)
          subst hbad
          clear HP
          go_wp2_with fail
          go_ret
          exact ⟨rfl, hnx⟩
      · have iim : ¬ (i : Int) < (m : Nat) := by omega
        have hpv := HM2.out p (by rw [← HI.out]; exact him)
        have hz : rr = 0 := HOK.out fun q hq => HALL.out q (by omega)
        subst hz
        go_wp2_with fail
        go_ret
        exact ⟨rfl, hnx⟩
theorem rccheck_any (h v c : Int) (ao : Option Addr) (m cap N : Nat) (w : World) (rd : Wr w ao m N) :
    Calls Try.prog 56 #[cuv h v c ao m cap] w fun e w' => e = .returned (.int .i64 (cuk h v c m N)) ∧ Below w.heap.size w w' := by
  by_cases k : Sg.chk h v c = 0
  · obtain ⟨H, V, C, rfl, rfl, rfl, hH, hV, hC, hb⟩ := chk_nat k
    unfold cuk
    rw [if_pos k, Int.toNat_natCast, Int.toNat_natCast, Int.toNat_natCast]
    by_cases e : m = H * V * nw C
    · rw [if_pos e]
      have hpos : 0 < m := by
        rw [e]
        exact Nat.mul_pos (Nat.mul_pos (by omega) (by omega)) (by unfold nw; omega)
      obtain ⟨g, o, rfl, _⟩ := rd.2 0 hpos
      exact rccheck_good H V C g o m cap N w hH hV hC k e rd
    · rw [if_neg e]
      exact rccheck_len H V C ao m cap w k e
  · unfold cuk
    rw [if_neg k]
    exact rccheck_shape h v c ao m cap w k
end Go.Proofs.Ytlghmojjcfjibaa
