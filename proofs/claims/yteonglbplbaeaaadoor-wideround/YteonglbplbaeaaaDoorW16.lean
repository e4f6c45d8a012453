import Derived.Test.YteonglbplbaeaaaDoorW14
import Derived.Test.YteonglbplbaeaaaDoorM10
namespace Go.Proofs.YteonglbplbaeaaaDoor
open Go.RowKit Go.Shelf

theorem show_len (n : Int) (h : Rng n) : (showL n).length ≤ 41 := by
  have h0 : 0 ≤ absN n ∧ absN n ≤ 170141183460469231731687303715884105728 := by unfold Rng at h; unfold absN; split <;> omega
  have h1 : (Lib.decDigits (absN n).toNat).length ≤ 40 := dec_len (k := 39) (by
    have e : (10 : Nat) ^ (39 + 1) = 10000000000000000000000000000000000000000 := by decide
    rw [e]; omega)
  unfold showL; split
  · simp; omega
  · omega

set_option maxHeartbeats 2000000 in
set_option maxRecDepth 100000 in
theorem round_walk (a n : Int) (s : ByteArray) (ha : Rng a) (hn : I64 n) (hs : s.size ≤ maxLen) (w : World) (L : Laid w) :
    Calls Tryd.prog 3 #[wv a, .int .i64 n, .string s] w fun e w' => e = .returned (.bool true) ∧ Below w.heap.size w w' := by
  have HL := hid1 L
  have HS := hid1 hs
  clear L hs
  go_enter Tryd.func3, Tryd.ntmps3
  go_wp2_with fail
  refine gen_calls (fun W' => Below w.heap.size w W' ∧ W'.cell? ⟨w.heap.size, 0, none⟩ = some (.int .i64 (hiOf a)) ∧ W'.cell? ⟨w.heap.size, 1, none⟩ = some (.int .u64 (loOf a))) ⟨bl_alloc (Below.refl _ _) _, by simp [go_sem], by simp [go_sem]⟩ ?_
  rintro W0 ⟨B0, a0, a1⟩
  refine (begun_any _ (HL.out.on B0)).mono ?_
  rintro e w1 ⟨rfl, hb1⟩
  replace a0 := keepc hb1 a0; replace a1 := keepc hb1 a1
  have HL1 := hid1 ((HL.out.on B0).on hb1)
  go_wp2_with fail
  refine (show_any a ha _ HL1.out).mono ?_
  rintro e w2 ⟨rfl, hb2⟩
  replace a0 := keepc hb2 a0; replace a1 := keepc hb2 a1
  have HL2 := hid1 (HL1.out.on hb2)
  go_wp2_with fail
  refine (read_any ⟨(showL a).toArray⟩ (Nat.le_trans (by rw [size_len]; exact show_len a ha) (by decide)) _ HL2.out).mono ?_
  rintro e w3 ⟨rfl, hb3⟩
  have e1 : readV (⟨(showL a).toArray⟩ : ByteArray).data.toList = a := (read_show ha).1
  have e2 : readE (⟨(showL a).toArray⟩ : ByteArray).data.toList = 0 := (read_show ha).2
  rw [e1, e2]
  clear e1 e2
  replace a0 := keepc hb3 a0; replace a1 := keepc hb3 a1
  have HL3 := hid1 (HL2.out.on hb3)
  have za := lt_of_cell a0
  go_wp2_with fail
  refine gen_calls (fun W' => Below w3.heap.size w3 W' ∧ W'.cell? ⟨w3.heap.size, 0, none⟩ = some (.int .i64 (hiOf a)) ∧ W'.cell? ⟨w3.heap.size, 1, none⟩ = some (.int .u64 (loOf a))) ⟨bl_alloc (Below.refl _ _) _, new0' _ _ _ _, new1' _ _ _ _⟩ ?_
  rintro W3 ⟨B3, b0, b1⟩
  replace a0 := keepc B3 a0; replace a1 := keepc B3 a1
  refine (of_any n hn _).mono ?_
  rintro e w4 ⟨rfl, hb4⟩
  go_wp2_with fail
  refine (fit_ok n hn _).mono ?_
  rintro e w5 ⟨rfl, hb5⟩
  replace a0 := keepc hb5 (keepc hb4 a0); replace a1 := keepc hb5 (keepc hb4 a1); replace b0 := keepc hb5 (keepc hb4 b0); replace b1 := keepc hb5 (keepc hb4 b1)
  have HL5 := hid1 (((HL3.out.on B3).on hb4).on hb5)
  clear za
  go_wp2_with fail
  refine (read_any s HS.out _ HL5.out).mono ?_
  rintro e w6 ⟨rfl, hb6⟩
  obtain ⟨v, hv⟩ : ∃ v, readV s.data.toList = v := ⟨_, rfl⟩
  obtain ⟨q, hq⟩ : ∃ q, readE s.data.toList = q := ⟨_, rfl⟩
  rw [hv, hq]
  by_cases h0 : q = 0
  · subst h0
    obtain ⟨hR, hsh⟩ := show_read hq
    rw [hv] at hR hsh
    have HQ := hid1 hsh
    have HL6 := hid1 (HL5.out.on hb6)
    clear hv hq hsh
    go_wp2_with fail
    refine (show_any v hR _ (HL6.out.on (bl_alloc (Below.refl _ _) _))).mono ?_
    rintro e w7 ⟨rfl, hb7⟩
    rw [HQ.out]
    have hst : (s.data.toList == s.toList) = true := by rw [blist]; simp
    go_wp2
    go_ret
    refine ⟨?_, ?_⟩
    · first | rfl | simp [blist]
    · repeat (first | exact Below.refl _ _ | refine bl_alloc ?_ _ | refine Below.drew ?_ | refine bl_drewN ?_ _ | refine bl_set ?_ (by omega) _ | refine bl_step ?_ (by assumption))
  · obtain ⟨h1, h2⟩ := read_err (show readE s.data.toList ≠ 0 by rw [hq]; exact h0)
    rw [hq] at h1
    rw [hv] at h2
    subst h2
    clear hv hq
    have e1 := hi0; have e2 := lo0
    rcases h1 with rfl | rfl
    all_goals
      clear h0
      go_wp2_with fail
      go_ret
      refine ⟨rfl, ?_⟩
      repeat (first | exact Below.refl _ _ | refine bl_alloc ?_ _ | refine Below.drew ?_ | refine bl_drewN ?_ _ | refine bl_set ?_ (by omega) _ | refine bl_step ?_ (by assumption))
end Go.Proofs.YteonglbplbaeaaaDoor
