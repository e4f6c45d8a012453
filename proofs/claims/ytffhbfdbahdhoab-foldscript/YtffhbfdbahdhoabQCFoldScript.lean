import Derived.Test.YtffhbfdbahdhoabFW6
import Derived.Test.YtffhbfdbahdhoabQBFoldScript
import Derived.Deep.DeepCutAuto
/- BEGUN: THE CALLS WHOSE ANSWERS THE DOCUMENT FIXES. -/
namespace Go.Proofs.Ytffhbfdbahdhoab.Wd
open Go.RowKit Go.Shelf
attribute [local go_sem ↓] Go.wp_at_zero Go.wp_at_succ

theorem v_p1 : plV 1 3 (-1) 1 1 2 1 2 1 = false := by decide
theorem v_p2 : plV 1 3 (-1) 1 1 2 1 2 2 = true := by decide
theorem v_e1 : plE 1 3 (-1) 1 1 2 1 2 1 = 0 := by decide
theorem v_e2 : plE 1 3 (-1) 1 1 2 1 2 2 = 0 := by decide
theorem v_no : noE 1 3 (-1) 1 1 2 1 2 = 0 := by decide
theorem v_rn : rnV (-6) 4 = -3 := by decide
theorem v_rd : rdV (-6) 4 = 2 := by decide
theorem v_ch : chF (-6) 4 = 0 := by decide
theorem v_ch2 : chF 4 2 = 0 := by decide
theorem v_ch3 : chF 5 1 = 0 := by decide
theorem v_cm : cmF 1 2 2 4 = 0 := by decide
theorem v_ce : ceF 1 2 2 4 = 0 := by decide
theorem v_sh : (⟨(shV 4 2).toArray⟩ : ByteArray) = ⟨#[52, 47, 50]⟩ := by decide +kernel
/-- A fraction made of any. -/
def tmN (n : Int) : Int := n.tmod 2147483648
def tmD (d : Int) : Int := (if d.tmod 1048576 < 0 then -d.tmod 1048576 else d.tmod 1048576) + 1
theorem tmod_rng (n : Int) {k : Int} (hk : 0 < k) : -k < n.tmod k ∧ n.tmod k < k := by
  have h1 := Int.tmod_lt_of_pos n hk
  have h2 := Int.tmod_lt_of_pos (-n) hk
  rw [Int.neg_tmod] at h2
  omega
theorem tame_fr (n d : Int) : Fr (tmN n) (tmD d) := by
  have h1 := tmod_rng n (k := 2147483648) (by decide)
  have h2 := tmod_rng d (k := 1048576) (by decide)
  unfold Fr tmN tmD
  split <;> omega
end Go.Proofs.Ytffhbfdbahdhoab.Wd
/- THE DOCUMENT'S PRODUCTS: times. -/
namespace Go.Proofs.Ytffhbfdbahdhoab.Wd
open Go.RowKit Go.Shelf
attribute [local go_sem ↓] Go.wp_at_zero Go.wp_at_succ

def pr (f : Nat → Int) : Nat → Int
  | 0 => 1
  | k + 1 => pr f k * f k
/-- The two cells of a big number, and that they may be written. -/
def Bc (w : World) (b : Nat) (s : Bool) (ao : Option Addr) (l c : Nat) : Prop :=
  w.cell? ⟨b, 0, none⟩ = some (.bool s) ∧ w.cell? ⟨b, 1, none⟩ = some (.slice ao l c) ∧ w.frozen? ⟨b, 0, none⟩ = false ∧ w.frozen? ⟨b, 1, none⟩ = false
theorem Bc.keep {w w' : World} {b : Nat} {s : Bool} {ao : Option Addr} {l c : Nat} (h : Bc w b s ao l c) (hb : Below w.heap.size w w') : Bc w' b s ao l c := by
  have z := lt_of_cell h.1
  exact ⟨keepc hb h.1, keepc hb h.2.1, keepf hb z h.2.2.1, keepf hb z h.2.2.2⟩
set_option maxHeartbeats 1600000 in
set_option maxRecDepth 100000 in
theorem times_any4 (f : Nat → Int) (m g cap : Nat) (hm : m ≤ 4) (w : World) (hf : ∀ i, i < m → w.cell? ⟨g, i, none⟩ = some (.int .i64 (f i))) (hi : ∀ i, i < m → I64 (f i)) (hfB : ∀ i, i < m → ((f i).natAbs : Int) < 65536 ^ 16) (hp : ∀ k, k ≤ m → ((pr f k).natAbs : Int) < 65536 ^ 16) :
    Calls Try.prog 41 #[.slice (some ⟨g, 0, none⟩) m cap] w fun e w' => ∃ z, e = .returned z ∧ Bg w' z (pr f m) ∧ Below w.heap.size w w' := by
  have HF := hid1 hf
  have HI := hid1 hi
  have HQ := hid1 hfB
  have HP := hid1 hp
  clear hf hi hp hfB
  have i1 : I64 1 := by unfold I64; omega
  have HO := hid1 (rint_any 1 i1)
  clear i1
  go_enter Try.func41, Try.ntmps41
  go_wp2_with fail
  refine (HO.out _).mono ?_
  rintro e w1 ⟨z1, rfl, hz1, hb1⟩
  obtain ⟨s0, ao0, l0, c0, rfl⟩ := hz1.form
  have HZ := hid1 hz1
  clear hz1
  have HR : Hid (Bc w1 w.heap.size false none 0 0) := hid1 (Bc.keep (w := w.alloc _) ⟨by simp [go_sem], by simp [go_sem], by simp [go_sem], by simp [go_sem]⟩ hb1)
  have B1 : Below w.heap.size w w1 := by repeat (first | exact Below.refl _ _ | refine bl_alloc ?_ _ | refine Below.drew ?_ | refine bl_drewN ?_ _ | refine bl_set ?_ (by omega) _ | refine bl_step ?_ (by assumption))
  have z1 := lt_of_cell HR.out.1
  clear hb1
  go_wp2_with fail
  go_loopw [4] (fun i wr => ∃ (k : Nat) (s : Bool) (ao : Option Addr) (l c : Nat), k ≤ m ∧ i = .int .i64 k ∧ Hid (Bc wr w1.heap.size s ao l c) ∧ Hid (Bg wr (.agg #[.bool s, .slice ao l c]) (pr f k)) ∧ Hid (Bc wr w.heap.size false none 0 0) ∧ Below w.heap.size w wr) (fun i _ => m - (intOf i).toNat)
  case atStart =>
    refine ⟨0, s0, ao0, l0, c0, by omega, rfl, ?_, ?_, ?_, ?_⟩
    · exact hid1 ⟨by simp [go_sem], by simp [go_sem], by simp [go_sem], by simp [go_sem]⟩
    · exact hid1 (HZ.out.below (by repeat (first | exact Below.refl _ _ | refine bl_alloc ?_ _ | refine Below.drew ?_ | refine bl_drewN ?_ _ | refine bl_set ?_ (by omega) _ | refine bl_step ?_ (by assumption))))
    · exact hid1 (HR.out.keep (by repeat (first | exact Below.refl _ _ | refine bl_alloc ?_ _ | refine Below.drew ?_ | refine bl_drewN ?_ _ | refine bl_set ?_ (by omega) _ | refine bl_step ?_ (by assumption))))
    · repeat (first | exact Below.refl _ _ | refine bl_alloc ?_ _ | refine Below.drew ?_ | refine bl_drewN ?_ _ | refine bl_set ?_ (by omega) _ | refine bl_step ?_ (by assumption))
  case round =>
    obtain ⟨k, s, ao, l, c, hk, rfl, HC, HB, HR2, hB⟩ := hrel
    have nT : ¬ w.heap.size = w1.heap.size := by omega
    have nT' : ¬ w1.heap.size = w.heap.size := by omega
    by_cases hlt : k < m
    · have hlt' : (k : Int) < m := by omega
      have a0 := keepc hB (HF.out k hlt)
      obtain ⟨x0, x1, x2, x3⟩ := HC.out
      have zx := lt_of_cell x0
      go_wp2_with fail
      go_region_with (first
        | (go_at_call 42; refine (rint_any (f k) (HI.out k hlt) _).mono ?_; rintro e X1 ⟨i1, rfl, hi1, hbi⟩; obtain ⟨si, oi, li, ci, rfl⟩ := hi1.form; have HI1 := hid1 hi1; clear hi1; have x0 := keepc hbi x0; have x1 := keepc hbi x1; have BI : Hid (Below wr.heap.size wr X1) := hid1 (by repeat (first | exact Below.refl _ _ | refine bl_alloc ?_ _ | refine Below.drew ?_ | refine bl_drewN ?_ _ | refine bl_set ?_ (by omega) _ | refine bl_step ?_ (by assumption))))
        | (go_at_call 43; refine (rmul_any (pr f k) (f k) _ _ _ (HB.out.below BI.out) HI1.out (HP.out k hk) (HQ.out k hlt)).mono ?_; rintro e X2 ⟨i2, rfl, hi2, hbj⟩; obtain ⟨sj, oj, lj, cj, rfl⟩ := hi2.form; have HJ := hid1 hi2; clear hi2; have BJ : Hid (Below wr.heap.size wr X2) := hid1 (bl_step BI.out hbj); obtain ⟨x0, x1, x2, x3⟩ := HC.out.keep BJ.out; have zx := lt_of_cell x0))
      all_goals
        have bj := BJ.out
        have BX : Hid (Bg X2 (.agg #[.bool sj, .slice oj lj cj]) (pr f (k + 1))) := HJ
        obtain ⟨y0, y1, y2, y3⟩ := HR2.out.keep bj
        have zy := lt_of_cell y0
        go_wp2_with fail
        refine ⟨⟨k + 1, sj, oj, lj, cj, by omega, rfl, ?_, ?_, ?_, ?_⟩, by simp [intOf]; omega⟩
        · exact hid1 ⟨by simp [go_sem, *], by simp [go_sem, *], by simp [go_sem, *], by simp [go_sem, *]⟩
        · exact hid1 ((BX.out.set ⟨_, x0⟩).set ⟨sj, by simp [go_sem, x0]⟩)
        · exact hid1 ⟨by simp [go_sem, *], by simp [go_sem, *], by simp [go_sem, *], by simp [go_sem, *]⟩
        · repeat (first | (with_reducible exact Below.refl _ _) | (with_reducible refine bl_alloc ?_ _) | (with_reducible refine Below.drew ?_) | (with_reducible refine bl_drewN ?_ _) | (with_reducible refine bl_set ?_ (by omega) _) | (with_reducible refine bl_step ?_ (by assumption)))
    · have : k = m := by omega
      subst this
      obtain ⟨x0, x1, x2, x3⟩ := HC.out
      obtain ⟨y0, y1, y2, y3⟩ := HR2.out
      have zx := lt_of_cell x0
      have zy := lt_of_cell y0
      go_wp2
      simp [bodyPost, results, Try.results41, go_sem, y0, y1]
      exact big_ret HB.out hB (Nat.le_refl _) ⟨_, y0⟩ _ _
end Go.Proofs.Ytffhbfdbahdhoab.Wd
/- THE DOCUMENT'S CHECK AND NORM. -/
namespace Go.Proofs.Ytffhbfdbahdhoab.Wd
open Go.RowKit Go.Shelf
attribute [local go_sem ↓] Go.wp_at_zero Go.wp_at_succ

set_option maxRecDepth 100000 in
theorem r4check_any (n d : Int) (w : World) :
    Calls Try.prog 29 #[fr n d] w fun e w' => e = .returned (.int .i64 (chF n d)) ∧ Below w.heap.size w w' := by
  by_cases h1 : d < 1
  · rw [chF_no (fun h => by have := h.1; omega)]
    go_enter Try.func29, Try.ntmps29
    go_wp2
    go_ret
    exact ⟨rfl, bl_alloc (Below.refl _ _) _⟩
  · by_cases h2 : 1048576 < d
    · rw [chF_no (fun h => by have := h.2.1; omega)]
      go_enter Try.func29, Try.ntmps29
      go_wp2
      go_ret
      exact ⟨rfl, bl_alloc (Below.refl _ _) _⟩
    · by_cases h3 : n < -2147483647
      · rw [chF_no (fun h => by have := h.2.2.1; omega)]
        go_enter Try.func29, Try.ntmps29
        go_wp2
        go_ret
        exact ⟨rfl, bl_alloc (Below.refl _ _) _⟩
      · by_cases h4 : 2147483647 < n
        · rw [chF_no (fun h => by have := h.2.2.2; omega)]
          go_enter Try.func29, Try.ntmps29
          go_wp2
          go_ret
          exact ⟨rfl, bl_alloc (Below.refl _ _) _⟩
        · rw [chF_ok ⟨by omega, by omega, by omega, by omega⟩]
          go_enter Try.func29, Try.ntmps29
          go_wp2
          go_ret
          exact ⟨rfl, bl_alloc (Below.refl _ _) _⟩
set_option maxRecDepth 100000 in
theorem r4norm_no0 (gn gd bn bd mn md sn sd : Int) (h0 : chF gn gd = 40) (w : World) :
    Calls Try.prog 17 #[nm gn gd bn bd mn md sn sd] w fun e w' => e = .returned (.int .i64 40) ∧ Below w.heap.size w w' := by
  go_enter Try.func17, Try.ntmps17
  go_wp2_with fail
  refine gen_calls (fun W' => Below w.heap.size w W' ∧ Hid (Nm W' w.heap.size gn gd bn bd mn md sn sd)) ⟨by repeat (first | (with_reducible exact Below.refl _ _) | (with_reducible refine bl_alloc ?_ _) | (with_reducible refine Below.drew ?_) | (with_reducible refine bl_drewN ?_ _) | (with_reducible refine bl_set ?_ (by omega) _) | (with_reducible refine bl_step ?_ (by assumption))), hid1 ⟨by simp [go_sem], by simp [go_sem], by simp [go_sem], by simp [go_sem], by simp [go_sem], by simp [go_sem], by simp [go_sem], by simp [go_sem]⟩⟩ ?_
  rintro W0 ⟨B0, HM⟩
  obtain ⟨m0, m1, m2, m3, m4, m5, m6, m7⟩ := HM.out
  refine (r4check_any gn gd _).mono ?_
  rintro e w1 ⟨rfl, hb1⟩
  rw [h0]
  replace HM := hid1 (HM.out.keep hb1)
  have B1 : Below w.heap.size w w1 := by repeat (first | (with_reducible exact Below.refl _ _) | (with_reducible refine bl_alloc ?_ _) | (with_reducible refine Below.drew ?_) | (with_reducible refine bl_drewN ?_ _) | (with_reducible refine bl_set ?_ (by omega) _) | (with_reducible refine bl_step ?_ (by assumption)))
  clear hb1 m0 m1 m2 m3 m4 m5 m6 m7
  obtain ⟨m0, m1, m2, m3, m4, m5, m6, m7⟩ := HM.out
  go_wp2
  go_ret
  exact ⟨rfl, by repeat (first | (with_reducible exact Below.refl _ _) | (with_reducible refine bl_alloc ?_ _) | (with_reducible refine Below.drew ?_) | (with_reducible refine bl_drewN ?_ _) | (with_reducible refine bl_set ?_ (by omega) _) | (with_reducible refine bl_step ?_ (by assumption)))⟩
set_option maxRecDepth 100000 in
theorem r4norm_no1 (gn gd bn bd mn md sn sd : Int) (h0 : chF gn gd = 0) (h1 : chF bn bd = 40) (w : World) :
    Calls Try.prog 17 #[nm gn gd bn bd mn md sn sd] w fun e w' => e = .returned (.int .i64 40) ∧ Below w.heap.size w w' := by
  go_enter Try.func17, Try.ntmps17
  go_wp2_with fail
  refine gen_calls (fun W' => Below w.heap.size w W' ∧ Hid (Nm W' w.heap.size gn gd bn bd mn md sn sd)) ⟨by repeat (first | (with_reducible exact Below.refl _ _) | (with_reducible refine bl_alloc ?_ _) | (with_reducible refine Below.drew ?_) | (with_reducible refine bl_drewN ?_ _) | (with_reducible refine bl_set ?_ (by omega) _) | (with_reducible refine bl_step ?_ (by assumption))), hid1 ⟨by simp [go_sem], by simp [go_sem], by simp [go_sem], by simp [go_sem], by simp [go_sem], by simp [go_sem], by simp [go_sem], by simp [go_sem]⟩⟩ ?_
  rintro W0 ⟨B0, HM⟩
  obtain ⟨m0, m1, m2, m3, m4, m5, m6, m7⟩ := HM.out
  refine (r4check_any gn gd _).mono ?_
  rintro e w1 ⟨rfl, hb1⟩
  rw [h0]
  replace HM := hid1 (HM.out.keep hb1)
  have B1 : Below w.heap.size w w1 := by repeat (first | (with_reducible exact Below.refl _ _) | (with_reducible refine bl_alloc ?_ _) | (with_reducible refine Below.drew ?_) | (with_reducible refine bl_drewN ?_ _) | (with_reducible refine bl_set ?_ (by omega) _) | (with_reducible refine bl_step ?_ (by assumption)))
  clear hb1 m0 m1 m2 m3 m4 m5 m6 m7
  obtain ⟨m0, m1, m2, m3, m4, m5, m6, m7⟩ := HM.out
  go_wp2_with fail
  refine (r4check_any bn bd _).mono ?_
  rintro e w2 ⟨rfl, hb2⟩
  rw [h1]
  replace HM := hid1 (HM.out.keep hb2)
  have B2 : Below w.heap.size w w2 := by repeat (first | (with_reducible exact Below.refl _ _) | (with_reducible refine bl_alloc ?_ _) | (with_reducible refine Below.drew ?_) | (with_reducible refine bl_drewN ?_ _) | (with_reducible refine bl_set ?_ (by omega) _) | (with_reducible refine bl_step ?_ (by assumption)))
  clear hb2 B1 m0 m1 m2 m3 m4 m5 m6 m7
  obtain ⟨m0, m1, m2, m3, m4, m5, m6, m7⟩ := HM.out
  go_wp2
  go_ret
  exact ⟨rfl, by repeat (first | (with_reducible exact Below.refl _ _) | (with_reducible refine bl_alloc ?_ _) | (with_reducible refine Below.drew ?_) | (with_reducible refine bl_drewN ?_ _) | (with_reducible refine bl_set ?_ (by omega) _) | (with_reducible refine bl_step ?_ (by assumption)))⟩
set_option maxRecDepth 100000 in
theorem r4norm_no2 (gn gd bn bd mn md sn sd : Int) (h0 : chF gn gd = 0) (h1 : chF bn bd = 0) (h2 : chF mn md = 40) (w : World) :
    Calls Try.prog 17 #[nm gn gd bn bd mn md sn sd] w fun e w' => e = .returned (.int .i64 40) ∧ Below w.heap.size w w' := by
  go_enter Try.func17, Try.ntmps17
  go_wp2_with fail
  refine gen_calls (fun W' => Below w.heap.size w W' ∧ Hid (Nm W' w.heap.size gn gd bn bd mn md sn sd)) ⟨by repeat (first | (with_reducible exact Below.refl _ _) | (with_reducible refine bl_alloc ?_ _) | (with_reducible refine Below.drew ?_) | (with_reducible refine bl_drewN ?_ _) | (with_reducible refine bl_set ?_ (by omega) _) | (with_reducible refine bl_step ?_ (by assumption))), hid1 ⟨by simp [go_sem], by simp [go_sem], by simp [go_sem], by simp [go_sem], by simp [go_sem], by simp [go_sem], by simp [go_sem], by simp [go_sem]⟩⟩ ?_
  rintro W0 ⟨B0, HM⟩
  obtain ⟨m0, m1, m2, m3, m4, m5, m6, m7⟩ := HM.out
  refine (r4check_any gn gd _).mono ?_
  rintro e w1 ⟨rfl, hb1⟩
  rw [h0]
  replace HM := hid1 (HM.out.keep hb1)
  have B1 : Below w.heap.size w w1 := by repeat (first | (with_reducible exact Below.refl _ _) | (with_reducible refine bl_alloc ?_ _) | (with_reducible refine Below.drew ?_) | (with_reducible refine bl_drewN ?_ _) | (with_reducible refine bl_set ?_ (by omega) _) | (with_reducible refine bl_step ?_ (by assumption)))
  clear hb1 m0 m1 m2 m3 m4 m5 m6 m7
  obtain ⟨m0, m1, m2, m3, m4, m5, m6, m7⟩ := HM.out
  go_wp2_with fail
  refine (r4check_any bn bd _).mono ?_
  rintro e w2 ⟨rfl, hb2⟩
  rw [h1]
  replace HM := hid1 (HM.out.keep hb2)
  have B2 : Below w.heap.size w w2 := by repeat (first | (with_reducible exact Below.refl _ _) | (with_reducible refine bl_alloc ?_ _) | (with_reducible refine Below.drew ?_) | (with_reducible refine bl_drewN ?_ _) | (with_reducible refine bl_set ?_ (by omega) _) | (with_reducible refine bl_step ?_ (by assumption)))
  clear hb2 B1 m0 m1 m2 m3 m4 m5 m6 m7
  obtain ⟨m0, m1, m2, m3, m4, m5, m6, m7⟩ := HM.out
  go_wp2_with fail
  refine (r4check_any mn md _).mono ?_
  rintro e w3 ⟨rfl, hb3⟩
  rw [h2]
  replace HM := hid1 (HM.out.keep hb3)
  have B3 : Below w.heap.size w w3 := by repeat (first | (with_reducible exact Below.refl _ _) | (with_reducible refine bl_alloc ?_ _) | (with_reducible refine Below.drew ?_) | (with_reducible refine bl_drewN ?_ _) | (with_reducible refine bl_set ?_ (by omega) _) | (with_reducible refine bl_step ?_ (by assumption)))
  clear hb3 B2 m0 m1 m2 m3 m4 m5 m6 m7
  obtain ⟨m0, m1, m2, m3, m4, m5, m6, m7⟩ := HM.out
  go_wp2
  go_ret
  exact ⟨rfl, by repeat (first | (with_reducible exact Below.refl _ _) | (with_reducible refine bl_alloc ?_ _) | (with_reducible refine Below.drew ?_) | (with_reducible refine bl_drewN ?_ _) | (with_reducible refine bl_set ?_ (by omega) _) | (with_reducible refine bl_step ?_ (by assumption)))⟩
set_option maxRecDepth 100000 in
theorem r4norm_no3 (gn gd bn bd mn md sn sd : Int) (h0 : chF gn gd = 0) (h1 : chF bn bd = 0) (h2 : chF mn md = 0) (h3 : chF sn sd = 40) (w : World) :
    Calls Try.prog 17 #[nm gn gd bn bd mn md sn sd] w fun e w' => e = .returned (.int .i64 40) ∧ Below w.heap.size w w' := by
  go_enter Try.func17, Try.ntmps17
  go_wp2_with fail
  refine gen_calls (fun W' => Below w.heap.size w W' ∧ Hid (Nm W' w.heap.size gn gd bn bd mn md sn sd)) ⟨by repeat (first | (with_reducible exact Below.refl _ _) | (with_reducible refine bl_alloc ?_ _) | (with_reducible refine Below.drew ?_) | (with_reducible refine bl_drewN ?_ _) | (with_reducible refine bl_set ?_ (by omega) _) | (with_reducible refine bl_step ?_ (by assumption))), hid1 ⟨by simp [go_sem], by simp [go_sem], by simp [go_sem], by simp [go_sem], by simp [go_sem], by simp [go_sem], by simp [go_sem], by simp [go_sem]⟩⟩ ?_
  rintro W0 ⟨B0, HM⟩
  obtain ⟨m0, m1, m2, m3, m4, m5, m6, m7⟩ := HM.out
  refine (r4check_any gn gd _).mono ?_
  rintro e w1 ⟨rfl, hb1⟩
  rw [h0]
  replace HM := hid1 (HM.out.keep hb1)
  have B1 : Below w.heap.size w w1 := by repeat (first | (with_reducible exact Below.refl _ _) | (with_reducible refine bl_alloc ?_ _) | (with_reducible refine Below.drew ?_) | (with_reducible refine bl_drewN ?_ _) | (with_reducible refine bl_set ?_ (by omega) _) | (with_reducible refine bl_step ?_ (by assumption)))
  clear hb1 m0 m1 m2 m3 m4 m5 m6 m7
  obtain ⟨m0, m1, m2, m3, m4, m5, m6, m7⟩ := HM.out
  go_wp2_with fail
  refine (r4check_any bn bd _).mono ?_
  rintro e w2 ⟨rfl, hb2⟩
  rw [h1]
  replace HM := hid1 (HM.out.keep hb2)
  have B2 : Below w.heap.size w w2 := by repeat (first | (with_reducible exact Below.refl _ _) | (with_reducible refine bl_alloc ?_ _) | (with_reducible refine Below.drew ?_) | (with_reducible refine bl_drewN ?_ _) | (with_reducible refine bl_set ?_ (by omega) _) | (with_reducible refine bl_step ?_ (by assumption)))
  clear hb2 B1 m0 m1 m2 m3 m4 m5 m6 m7
  obtain ⟨m0, m1, m2, m3, m4, m5, m6, m7⟩ := HM.out
  go_wp2_with fail
  refine (r4check_any mn md _).mono ?_
  rintro e w3 ⟨rfl, hb3⟩
  rw [h2]
  replace HM := hid1 (HM.out.keep hb3)
  have B3 : Below w.heap.size w w3 := by repeat (first | (with_reducible exact Below.refl _ _) | (with_reducible refine bl_alloc ?_ _) | (with_reducible refine Below.drew ?_) | (with_reducible refine bl_drewN ?_ _) | (with_reducible refine bl_set ?_ (by omega) _) | (with_reducible refine bl_step ?_ (by assumption)))
  clear hb3 B2 m0 m1 m2 m3 m4 m5 m6 m7
  obtain ⟨m0, m1, m2, m3, m4, m5, m6, m7⟩ := HM.out
  go_wp2_with fail
  refine (r4check_any sn sd _).mono ?_
  rintro e w4 ⟨rfl, hb4⟩
  rw [h3]
  replace HM := hid1 (HM.out.keep hb4)
  have B4 : Below w.heap.size w w4 := by repeat (first | (with_reducible exact Below.refl _ _) | (with_reducible refine bl_alloc ?_ _) | (with_reducible refine Below.drew ?_) | (with_reducible refine bl_drewN ?_ _) | (with_reducible refine bl_set ?_ (by omega) _) | (with_reducible refine bl_step ?_ (by assumption)))
  clear hb4 B3 m0 m1 m2 m3 m4 m5 m6 m7
  obtain ⟨m0, m1, m2, m3, m4, m5, m6, m7⟩ := HM.out
  go_wp2
  go_ret
  exact ⟨rfl, by repeat (first | (with_reducible exact Below.refl _ _) | (with_reducible refine bl_alloc ?_ _) | (with_reducible refine Below.drew ?_) | (with_reducible refine bl_drewN ?_ _) | (with_reducible refine bl_set ?_ (by omega) _) | (with_reducible refine bl_step ?_ (by assumption)))⟩
set_option maxRecDepth 100000 in
theorem r4norm_small (gn gd bn bd mn md sn sd : Int) (h0 : chF gn gd = 0) (h1 : chF bn bd = 0) (h2 : chF mn md = 0) (h3 : chF sn sd = 0) (hs : sn < 1) (w : World) :
    Calls Try.prog 17 #[nm gn gd bn bd mn md sn sd] w fun e w' => e = .returned (.int .i64 53) ∧ Below w.heap.size w w' := by
  go_enter Try.func17, Try.ntmps17
  go_wp2_with fail
  refine gen_calls (fun W' => Below w.heap.size w W' ∧ Hid (Nm W' w.heap.size gn gd bn bd mn md sn sd)) ⟨by repeat (first | (with_reducible exact Below.refl _ _) | (with_reducible refine bl_alloc ?_ _) | (with_reducible refine Below.drew ?_) | (with_reducible refine bl_drewN ?_ _) | (with_reducible refine bl_set ?_ (by omega) _) | (with_reducible refine bl_step ?_ (by assumption))), hid1 ⟨by simp [go_sem], by simp [go_sem], by simp [go_sem], by simp [go_sem], by simp [go_sem], by simp [go_sem], by simp [go_sem], by simp [go_sem]⟩⟩ ?_
  rintro W0 ⟨B0, HM⟩
  obtain ⟨m0, m1, m2, m3, m4, m5, m6, m7⟩ := HM.out
  refine (r4check_any gn gd _).mono ?_
  rintro e w1 ⟨rfl, hb1⟩
  rw [h0]
  replace HM := hid1 (HM.out.keep hb1)
  have B1 : Below w.heap.size w w1 := by repeat (first | (with_reducible exact Below.refl _ _) | (with_reducible refine bl_alloc ?_ _) | (with_reducible refine Below.drew ?_) | (with_reducible refine bl_drewN ?_ _) | (with_reducible refine bl_set ?_ (by omega) _) | (with_reducible refine bl_step ?_ (by assumption)))
  clear hb1 m0 m1 m2 m3 m4 m5 m6 m7
  obtain ⟨m0, m1, m2, m3, m4, m5, m6, m7⟩ := HM.out
  go_wp2_with fail
  refine (r4check_any bn bd _).mono ?_
  rintro e w2 ⟨rfl, hb2⟩
  rw [h1]
  replace HM := hid1 (HM.out.keep hb2)
  have B2 : Below w.heap.size w w2 := by repeat (first | (with_reducible exact Below.refl _ _) | (with_reducible refine bl_alloc ?_ _) | (with_reducible refine Below.drew ?_) | (with_reducible refine bl_drewN ?_ _) | (with_reducible refine bl_set ?_ (by omega) _) | (with_reducible refine bl_step ?_ (by assumption)))
  clear hb2 B1 m0 m1 m2 m3 m4 m5 m6 m7
  obtain ⟨m0, m1, m2, m3, m4, m5, m6, m7⟩ := HM.out
  go_wp2_with fail
  refine (r4check_any mn md _).mono ?_
  rintro e w3 ⟨rfl, hb3⟩
  rw [h2]
  replace HM := hid1 (HM.out.keep hb3)
  have B3 : Below w.heap.size w w3 := by repeat (first | (with_reducible exact Below.refl _ _) | (with_reducible refine bl_alloc ?_ _) | (with_reducible refine Below.drew ?_) | (with_reducible refine bl_drewN ?_ _) | (with_reducible refine bl_set ?_ (by omega) _) | (with_reducible refine bl_step ?_ (by assumption)))
  clear hb3 B2 m0 m1 m2 m3 m4 m5 m6 m7
  obtain ⟨m0, m1, m2, m3, m4, m5, m6, m7⟩ := HM.out
  go_wp2_with fail
  refine (r4check_any sn sd _).mono ?_
  rintro e w4 ⟨rfl, hb4⟩
  rw [h3]
  replace HM := hid1 (HM.out.keep hb4)
  have B4 : Below w.heap.size w w4 := by repeat (first | (with_reducible exact Below.refl _ _) | (with_reducible refine bl_alloc ?_ _) | (with_reducible refine Below.drew ?_) | (with_reducible refine bl_drewN ?_ _) | (with_reducible refine bl_set ?_ (by omega) _) | (with_reducible refine bl_step ?_ (by assumption)))
  clear hb4 B3 m0 m1 m2 m3 m4 m5 m6 m7
  obtain ⟨m0, m1, m2, m3, m4, m5, m6, m7⟩ := HM.out
  go_wp2
  go_ret
  exact ⟨rfl, by repeat (first | (with_reducible exact Below.refl _ _) | (with_reducible refine bl_alloc ?_ _) | (with_reducible refine Below.drew ?_) | (with_reducible refine bl_drewN ?_ _) | (with_reducible refine bl_set ?_ (by omega) _) | (with_reducible refine bl_step ?_ (by assumption)))⟩
set_option maxRecDepth 100000 in
theorem r4norm_ok (gn gd bn bd mn md sn sd : Int) (h0 : chF gn gd = 0) (h1 : chF bn bd = 0) (h2 : chF mn md = 0) (h3 : chF sn sd = 0) (hs : ¬ sn < 1) (w : World) :
    Calls Try.prog 17 #[nm gn gd bn bd mn md sn sd] w fun e w' => e = .returned (.int .i64 0) ∧ Below w.heap.size w w' := by
  go_enter Try.func17, Try.ntmps17
  go_wp2_with fail
  refine gen_calls (fun W' => Below w.heap.size w W' ∧ Hid (Nm W' w.heap.size gn gd bn bd mn md sn sd)) ⟨by repeat (first | (with_reducible exact Below.refl _ _) | (with_reducible refine bl_alloc ?_ _) | (with_reducible refine Below.drew ?_) | (with_reducible refine bl_drewN ?_ _) | (with_reducible refine bl_set ?_ (by omega) _) | (with_reducible refine bl_step ?_ (by assumption))), hid1 ⟨by simp [go_sem], by simp [go_sem], by simp [go_sem], by simp [go_sem], by simp [go_sem], by simp [go_sem], by simp [go_sem], by simp [go_sem]⟩⟩ ?_
  rintro W0 ⟨B0, HM⟩
  obtain ⟨m0, m1, m2, m3, m4, m5, m6, m7⟩ := HM.out
  refine (r4check_any gn gd _).mono ?_
  rintro e w1 ⟨rfl, hb1⟩
  rw [h0]
  replace HM := hid1 (HM.out.keep hb1)
  have B1 : Below w.heap.size w w1 := by repeat (first | (with_reducible exact Below.refl _ _) | (with_reducible refine bl_alloc ?_ _) | (with_reducible refine Below.drew ?_) | (with_reducible refine bl_drewN ?_ _) | (with_reducible refine bl_set ?_ (by omega) _) | (with_reducible refine bl_step ?_ (by assumption)))
  clear hb1 m0 m1 m2 m3 m4 m5 m6 m7
  obtain ⟨m0, m1, m2, m3, m4, m5, m6, m7⟩ := HM.out
  go_wp2_with fail
  refine (r4check_any bn bd _).mono ?_
  rintro e w2 ⟨rfl, hb2⟩
  rw [h1]
  replace HM := hid1 (HM.out.keep hb2)
  have B2 : Below w.heap.size w w2 := by repeat (first | (with_reducible exact Below.refl _ _) | (with_reducible refine bl_alloc ?_ _) | (with_reducible refine Below.drew ?_) | (with_reducible refine bl_drewN ?_ _) | (with_reducible refine bl_set ?_ (by omega) _) | (with_reducible refine bl_step ?_ (by assumption)))
  clear hb2 B1 m0 m1 m2 m3 m4 m5 m6 m7
  obtain ⟨m0, m1, m2, m3, m4, m5, m6, m7⟩ := HM.out
  go_wp2_with fail
  refine (r4check_any mn md _).mono ?_
  rintro e w3 ⟨rfl, hb3⟩
  rw [h2]
  replace HM := hid1 (HM.out.keep hb3)
  have B3 : Below w.heap.size w w3 := by repeat (first | (with_reducible exact Below.refl _ _) | (with_reducible refine bl_alloc ?_ _) | (with_reducible refine Below.drew ?_) | (with_reducible refine bl_drewN ?_ _) | (with_reducible refine bl_set ?_ (by omega) _) | (with_reducible refine bl_step ?_ (by assumption)))
  clear hb3 B2 m0 m1 m2 m3 m4 m5 m6 m7
  obtain ⟨m0, m1, m2, m3, m4, m5, m6, m7⟩ := HM.out
  go_wp2_with fail
  refine (r4check_any sn sd _).mono ?_
  rintro e w4 ⟨rfl, hb4⟩
  rw [h3]
  replace HM := hid1 (HM.out.keep hb4)
  have B4 : Below w.heap.size w w4 := by repeat (first | (with_reducible exact Below.refl _ _) | (with_reducible refine bl_alloc ?_ _) | (with_reducible refine Below.drew ?_) | (with_reducible refine bl_drewN ?_ _) | (with_reducible refine bl_set ?_ (by omega) _) | (with_reducible refine bl_step ?_ (by assumption)))
  clear hb4 B3 m0 m1 m2 m3 m4 m5 m6 m7
  obtain ⟨m0, m1, m2, m3, m4, m5, m6, m7⟩ := HM.out
  go_wp2
  go_ret
  exact ⟨rfl, by repeat (first | (with_reducible exact Below.refl _ _) | (with_reducible refine bl_alloc ?_ _) | (with_reducible refine Below.drew ?_) | (with_reducible refine bl_drewN ?_ _) | (with_reducible refine bl_set ?_ (by omega) _) | (with_reducible refine bl_step ?_ (by assumption)))⟩
theorem r4norm_any (gn gd bn bd mn md sn sd : Int) (w : World) :
    Calls Try.prog 17 #[nm gn gd bn bd mn md sn sd] w fun e w' => e = .returned (.int .i64 (noE gn gd bn bd mn md sn sd)) ∧ Below w.heap.size w w' := by
  unfold noE
  by_cases h0 : Fr gn gd
  · by_cases h1 : Fr bn bd
    · by_cases h2 : Fr mn md
      · by_cases h3 : Fr sn sd
        · rw [if_pos ⟨h0, h1, h2, h3⟩]
          by_cases hs : sn < 1
          · rw [if_pos hs]; exact r4norm_small _ _ _ _ _ _ _ _ (chF_ok h0) (chF_ok h1) (chF_ok h2) (chF_ok h3) hs w
          · rw [if_neg hs]; exact r4norm_ok _ _ _ _ _ _ _ _ (chF_ok h0) (chF_ok h1) (chF_ok h2) (chF_ok h3) hs w
        · rw [if_neg (fun k => h3 k.2.2.2)]; exact r4norm_no3 _ _ _ _ _ _ _ _ (chF_ok h0) (chF_ok h1) (chF_ok h2) (chF_no h3) w
      · rw [if_neg (fun k => h2 k.2.2.1)]; exact r4norm_no2 _ _ _ _ _ _ _ _ (chF_ok h0) (chF_ok h1) (chF_no h2) w
    · rw [if_neg (fun k => h1 k.2.1)]; exact r4norm_no1 _ _ _ _ _ _ _ _ (chF_ok h0) (chF_no h1) w
  · rw [if_neg (fun k => h0 k.1)]; exact r4norm_no0 _ _ _ _ _ _ _ _ (chF_no h0) w
end Go.Proofs.Ytffhbfdbahdhoab.Wd
/- NORMS MADE OF FOUR FRACTIONS: what the regions that make them want; small. -/
namespace Go.Proofs.Ytffhbfdbahdhoab.Wd
open Go.RowKit Go.Shelf
attribute [local go_sem ↓] Go.wp_at_zero Go.wp_at_succ

/-- A norm's cells, which may be written. -/
def Ny (w : World) (b : Nat) (gn gd bn bd mn md sn sd : Int) : Prop := Nm w b gn gd bn bd mn md sn sd ∧ ∀ o, w.frozen? ⟨b, o, none⟩ = false
theorem Ny.keep {w w' : World} {b : Nat} {gn gd bn bd mn md sn sd : Int} (h : Ny w b gn gd bn bd mn md sn sd) (hb : Below w.heap.size w w') : Ny w' b gn gd bn bd mn md sn sd :=
  ⟨h.1.keep hb, fun o => keepf hb (lt_of_cell h.1.1) (h.2 o)⟩
theorem ny_new {W : World} {t : TypeId} {g : Nat} {gn gd bn bd mn md sn sd : Int} (hg : W.heap.size = g) : Ny (W.alloc (.cells #[.int .i64 gn, .int .i64 gd, .int .i64 bn, .int .i64 bd, .int .i64 mn, .int .i64 md, .int .i64 sn, .int .i64 sd] t)) g gn gd bn bd mn md sn sd := by
  subst hg
  exact ⟨⟨by simp [go_sem], by simp [go_sem], by simp [go_sem], by simp [go_sem], by simp [go_sem], by simp [go_sem], by simp [go_sem], by simp [go_sem]⟩, fun o => by simp [go_sem]⟩
theorem ny_n0 {W w' : World} {t : TypeId} (hb : Below (W.alloc (.cells #[.int .i64 0, .int .i64 0, .int .i64 0, .int .i64 0, .int .i64 0, .int .i64 0, .int .i64 0, .int .i64 0] t)).heap.size (W.alloc (.cells #[.int .i64 0, .int .i64 0, .int .i64 0, .int .i64 0, .int .i64 0, .int .i64 0, .int .i64 0, .int .i64 0] t)) w') : Ny w' W.heap.size 0 0 0 0 0 0 0 0 := Ny.keep (ny_new rfl) hb
theorem ny_n1 {W w' : World} {t : TypeId} (hb : Below (W.drew.alloc (.cells #[.int .i64 0, .int .i64 0, .int .i64 0, .int .i64 0, .int .i64 0, .int .i64 0, .int .i64 0, .int .i64 0] t)).heap.size (W.drew.alloc (.cells #[.int .i64 0, .int .i64 0, .int .i64 0, .int .i64 0, .int .i64 0, .int .i64 0, .int .i64 0, .int .i64 0] t)) w') : Ny w' W.heap.size 0 0 0 0 0 0 0 0 := Ny.keep (ny_new (W := W.drew) rfl) hb
theorem ny_n2 {W w' : World} {t : TypeId} (hb : Below (W.alloc (.cells #[.int .i64 0, .int .i64 0, .int .i64 0, .int .i64 0, .int .i64 0, .int .i64 0, .int .i64 0, .int .i64 0] t)).drew.heap.size (W.alloc (.cells #[.int .i64 0, .int .i64 0, .int .i64 0, .int .i64 0, .int .i64 0, .int .i64 0, .int .i64 0, .int .i64 0] t)).drew w') : Ny w' W.heap.size 0 0 0 0 0 0 0 0 :=
  Ny.keep (Ny.keep (ny_new rfl) (Below.drew (Below.refl _ _))) hb
set_option maxRecDepth 100000 in
theorem ny_set {W : World} {g : Nat} {gn gd bn bd mn md sn sd : Int} (h : Ny W g 0 0 0 0 0 0 0 0) : Ny ((((((((W.setCell ⟨g, 0, none⟩ (.int .i64 gn)).setCell ⟨g, 1, none⟩ (.int .i64 gd)).setCell ⟨g, 2, none⟩ (.int .i64 bn)).setCell ⟨g, 3, none⟩ (.int .i64 bd)).setCell ⟨g, 4, none⟩ (.int .i64 mn)).setCell ⟨g, 5, none⟩ (.int .i64 md)).setCell ⟨g, 6, none⟩ (.int .i64 sn)).setCell ⟨g, 7, none⟩ (.int .i64 sd)) g gn gd bn bd mn md sn sd := by
  obtain ⟨⟨n0, n1, n2, n3, n4, n5, n6, n7⟩, nf⟩ := h
  have z := lt_of_cell n0
  exact ⟨⟨by simp [go_sem, *], by simp [go_sem, *], by simp [go_sem, *], by simp [go_sem, *], by simp [go_sem, *], by simp [go_sem, *], by simp [go_sem, *], by simp [go_sem, *]⟩, fun o => by simp [go_sem, *]⟩
theorem ny_set6 {W : World} {g : Nat} {gn gd bn bd mn md sn sd v : Int} (h : Ny W g gn gd bn bd mn md sn sd) : Ny (W.setCell ⟨g, 6, none⟩ (.int .i64 v)) g gn gd bn bd mn md v sd := by
  obtain ⟨⟨n0, n1, n2, n3, n4, n5, n6, n7⟩, nf⟩ := h
  have z := lt_of_cell n0
  exact ⟨⟨by simp [go_sem, *], by simp [go_sem, *], by simp [go_sem, *], by simp [go_sem, *], by simp [go_sem, *], by simp [go_sem, *], by simp [go_sem, *], by simp [go_sem, *]⟩, fun o => by simp [go_sem, *]⟩
theorem nm8 {W X : World} {b : Nat} {gn gd bn bd mn md sn sd : Int} (h : Nm W b gn gd bn bd mn md sn sd) (hb : Below W.heap.size W X) : X.cell? ⟨b, 0, none⟩ = some (.int .i64 gn) ∧ X.cell? ⟨b, 1, none⟩ = some (.int .i64 gd) ∧ X.cell? ⟨b, 2, none⟩ = some (.int .i64 bn) ∧ X.cell? ⟨b, 3, none⟩ = some (.int .i64 bd) ∧ X.cell? ⟨b, 4, none⟩ = some (.int .i64 mn) ∧ X.cell? ⟨b, 5, none⟩ = some (.int .i64 md) ∧ X.cell? ⟨b, 6, none⟩ = some (.int .i64 sn) ∧ X.cell? ⟨b, 7, none⟩ = some (.int .i64 sd) := h.keep hb
/-- A small fraction made of any. -/
def smN (n : Int) : Int := n.tmod 1000
def smD (d : Int) : Int := (if d.tmod 30 < 0 then -d.tmod 30 else d.tmod 30) + 1
theorem small_bd (n d : Int) : -999 ≤ smN n ∧ smN n ≤ 999 ∧ 1 ≤ smD d ∧ smD d ≤ 30 := by
  have h1 := tmod_rng n (k := 1000) (by decide)
  have h2 := tmod_rng d (k := 30) (by decide)
  unfold smN smD
  split <;> omega
end Go.Proofs.Ytffhbfdbahdhoab.Wd
/- THE DOCUMENT'S PLUS: what its regions want. -/
namespace Go.Proofs.Ytffhbfdbahdhoab.Wd
open Go.RowKit Go.Shelf
attribute [local go_sem ↓] Go.wp_at_zero Go.wp_at_succ

def fn2 (a b : Int) : Nat → Int | 0 => a | _ => b
def fn3 (a b c : Int) : Nat → Int | 0 => a | 1 => b | _ => c
def fn4 (a b c d : Int) : Nat → Int | 0 => a | 1 => b | 2 => c | _ => d
theorem pow16 : (65536 : Int) ^ 16 = 115792089237316195423570985008687907853269984665640564039457584007913129639936 := by decide
theorem lt16 {n : Int} (h : -10000000000000000000000000000000000000 ≤ n ∧ n ≤ 10000000000000000000000000000000000000) : (n.natAbs : Int) < 65536 ^ 16 := by rw [pow16]; omega
theorem le1640 : (65536 : Int) ^ 16 ≤ 65536 ^ 40 := by decide +kernel
theorem lt40 {n : Int} (h : -10000000000000000000000000000000000000 ≤ n ∧ n ≤ 10000000000000000000000000000000000000) : (n.natAbs : Int) < 65536 ^ 40 := Int.lt_of_lt_of_le (lt16 h) le1640
def Md (n : Int) : Prop := -10000000000000000000000000000000000000 ≤ n ∧ n ≤ 10000000000000000000000000000000000000
theorem i64_md {n : Int} (h : I64 n) : Md n := by unfold I64 at h; unfold Md; omega
theorem times2 (a b : Int) (ha : I64 a) (hb : I64 b) (hab : Md (a * b)) (w : World) (g cap : Nat) (h0 : w.cell? ⟨g, 0, none⟩ = some (.int .i64 a)) (h1 : w.cell? ⟨g, 1, none⟩ = some (.int .i64 b)) :
    Calls Try.prog 41 #[.slice (some ⟨g, 0, none⟩) 2 cap] w fun e w' => ∃ z, e = .returned z ∧ Bg w' z (a * b) ∧ Below w.heap.size w w' := by
  have e1 : pr (fn2 a b) 1 = a := Int.one_mul a
  have e2 : pr (fn2 a b) 2 = a * b := by show pr (fn2 a b) 1 * b = a * b; rw [e1]
  rw [← e2]
  refine times_any4 (fn2 a b) 2 g cap (by decide) w (fun i hi => ?_) (fun i hi => ?_) (fun i hi => ?_) (fun k hk => ?_)
  · match i, hi with
    | 0, _ => exact h0
    | 1, _ => exact h1
  · match i, hi with
    | 0, _ => exact ha
    | 1, _ => exact hb
  · match i, hi with
    | 0, _ => exact lt16 (i64_md ha)
    | 1, _ => exact lt16 (i64_md hb)
  · match k, hk with
    | 0, _ => exact lt16 ⟨by show _ ≤ (1 : Int); omega, by show (1 : Int) ≤ _; omega⟩
    | 1, _ => rw [e1]; exact lt16 (i64_md ha)
    | 2, _ => rw [e2]; exact lt16 hab
theorem times3 (a b c : Int) (ha : I64 a) (hb : I64 b) (hc : I64 c) (hab : Md (a * b)) (habc : Md (a * b * c)) (w : World) (g cap : Nat) (h0 : w.cell? ⟨g, 0, none⟩ = some (.int .i64 a)) (h1 : w.cell? ⟨g, 1, none⟩ = some (.int .i64 b)) (h2 : w.cell? ⟨g, 2, none⟩ = some (.int .i64 c)) :
    Calls Try.prog 41 #[.slice (some ⟨g, 0, none⟩) 3 cap] w fun e w' => ∃ z, e = .returned z ∧ Bg w' z (a * b * c) ∧ Below w.heap.size w w' := by
  have e1 : pr (fn3 a b c) 1 = a := Int.one_mul a
  have e2 : pr (fn3 a b c) 2 = a * b := by show pr (fn3 a b c) 1 * b = a * b; rw [e1]
  have e3 : pr (fn3 a b c) 3 = a * b * c := by show pr (fn3 a b c) 2 * c = a * b * c; rw [e2]
  rw [← e3]
  refine times_any4 (fn3 a b c) 3 g cap (by decide) w (fun i hi => ?_) (fun i hi => ?_) (fun i hi => ?_) (fun k hk => ?_)
  · match i, hi with
    | 0, _ => exact h0
    | 1, _ => exact h1
    | 2, _ => exact h2
  · match i, hi with
    | 0, _ => exact ha
    | 1, _ => exact hb
    | 2, _ => exact hc
  · match i, hi with
    | 0, _ => exact lt16 (i64_md ha)
    | 1, _ => exact lt16 (i64_md hb)
    | 2, _ => exact lt16 (i64_md hc)
  · match k, hk with
    | 0, _ => exact lt16 ⟨by show _ ≤ (1 : Int); omega, by show (1 : Int) ≤ _; omega⟩
    | 1, _ => rw [e1]; exact lt16 (i64_md ha)
    | 2, _ => rw [e2]; exact lt16 hab
    | 3, _ => rw [e3]; exact lt16 habc
theorem times4 (a b c d : Int) (ha : I64 a) (hb : I64 b) (hc : I64 c) (hd : I64 d) (hab : Md (a * b)) (habc : Md (a * b * c)) (habcd : Md (a * b * c * d)) (w : World) (g cap : Nat) (h0 : w.cell? ⟨g, 0, none⟩ = some (.int .i64 a)) (h1 : w.cell? ⟨g, 1, none⟩ = some (.int .i64 b)) (h2 : w.cell? ⟨g, 2, none⟩ = some (.int .i64 c)) (h3 : w.cell? ⟨g, 3, none⟩ = some (.int .i64 d)) :
    Calls Try.prog 41 #[.slice (some ⟨g, 0, none⟩) 4 cap] w fun e w' => ∃ z, e = .returned z ∧ Bg w' z (a * b * c * d) ∧ Below w.heap.size w w' := by
  have e1 : pr (fn4 a b c d) 1 = a := Int.one_mul a
  have e2 : pr (fn4 a b c d) 2 = a * b := by show pr (fn4 a b c d) 1 * b = a * b; rw [e1]
  have e3 : pr (fn4 a b c d) 3 = a * b * c := by show pr (fn4 a b c d) 2 * c = a * b * c; rw [e2]
  have e4 : pr (fn4 a b c d) 4 = a * b * c * d := by show pr (fn4 a b c d) 3 * d = a * b * c * d; rw [e3]
  rw [← e4]
  refine times_any4 (fn4 a b c d) 4 g cap (by decide) w (fun i hi => ?_) (fun i hi => ?_) (fun i hi => ?_) (fun k hk => ?_)
  · match i, hi with
    | 0, _ => exact h0
    | 1, _ => exact h1
    | 2, _ => exact h2
    | 3, _ => exact h3
  · match i, hi with
    | 0, _ => exact ha
    | 1, _ => exact hb
    | 2, _ => exact hc
    | 3, _ => exact hd
  · match i, hi with
    | 0, _ => exact lt16 (i64_md ha)
    | 1, _ => exact lt16 (i64_md hb)
    | 2, _ => exact lt16 (i64_md hc)
    | 3, _ => exact lt16 (i64_md hd)
  · match k, hk with
    | 0, _ => exact lt16 ⟨by show _ ≤ (1 : Int); omega, by show (1 : Int) ≤ _; omega⟩
    | 1, _ => rw [e1]; exact lt16 (i64_md ha)
    | 2, _ => rw [e2]; exact lt16 hab
    | 3, _ => rw [e3]; exact lt16 habc
    | 4, _ => rw [e4]; exact lt16 habcd
theorem bc_new {W : World} {t : TypeId} {g : Nat} {s : Bool} {ao : Option Addr} {l c : Nat} (hg : W.heap.size = g) : Bc (W.alloc (.cells #[.bool s, .slice ao l c] t)) g s ao l c := by
  subst hg
  exact ⟨by simp [go_sem], by simp [go_sem], by simp [go_sem], by simp [go_sem]⟩
theorem bc_0 {W w' : World} {t : TypeId} (hb : Below (W.alloc (.cells #[.bool false, .slice none 0 0] t)).heap.size (W.alloc (.cells #[.bool false, .slice none 0 0] t)) w') : Bc w' W.heap.size false none 0 0 := Bc.keep (bc_new rfl) hb
theorem bc_B {W w' : World} {t : TypeId} {o : Obj} (hb : Below ((W.alloc (.cells #[.bool false, .slice none 0 0] t)).alloc o).drew.heap.size ((W.alloc (.cells #[.bool false, .slice none 0 0] t)).alloc o).drew w') : Bc w' W.heap.size false none 0 0 :=
  Bc.keep (Bc.keep (bc_new rfl) (Below.drew (bl_alloc (Below.refl _ _) o))) hb
theorem bc_C {W w' : World} {t : TypeId} {o : Obj} (hb : Below ((W.alloc o).alloc (.cells #[.bool false, .slice none 0 0] t)).drew.heap.size ((W.alloc o).alloc (.cells #[.bool false, .slice none 0 0] t)).drew w') : Bc w' (W.heap.size + 1) false none 0 0 :=
  Bc.keep (Bc.keep (bc_new (by simp)) (Below.drew (Below.refl _ _))) hb
end Go.Proofs.Ytffhbfdbahdhoab.Wd
/- THE DOCUMENT'S PLUS: its first two regions. -/
namespace Go.Proofs.Ytffhbfdbahdhoab.Wd
open Go.RowKit Go.Shelf
attribute [local go_sem ↓] Go.wp_at_zero Go.wp_at_succ

theorem nm10 {W X : World} {b M : Nat} {gn gd bn bd mn md sn sd : Int} {s : Bool} {ao : Option Addr} {l c : Nat} (h : Nm W b gn gd bn bd mn md sn sd) (h2 : Bc W M s ao l c) (hb : Below W.heap.size W X) : X.cell? ⟨b, 0, none⟩ = some (.int .i64 gn) ∧ X.cell? ⟨b, 1, none⟩ = some (.int .i64 gd) ∧ X.cell? ⟨b, 2, none⟩ = some (.int .i64 bn) ∧ X.cell? ⟨b, 3, none⟩ = some (.int .i64 bd) ∧ X.cell? ⟨b, 4, none⟩ = some (.int .i64 mn) ∧ X.cell? ⟨b, 5, none⟩ = some (.int .i64 md) ∧ X.cell? ⟨b, 6, none⟩ = some (.int .i64 sn) ∧ X.cell? ⟨b, 7, none⟩ = some (.int .i64 sd) ∧ X.cell? ⟨M, 0, none⟩ = some (.bool s) ∧ X.cell? ⟨M, 1, none⟩ = some (.slice ao l c) := by
  obtain ⟨a0, a1, a2, a3, a4, a5, a6, a7⟩ := h.keep hb
  obtain ⟨b0, b1, _, _⟩ := h2.keep hb
  exact ⟨a0, a1, a2, a3, a4, a5, a6, a7, b0, b1⟩
theorem bc_set {W : World} {g : Nat} {s s' : Bool} {ao ao' : Option Addr} {l c l' c' : Nat} (h : Bc W g s ao l c) : Bc ((W.setCell ⟨g, 0, none⟩ (.bool s')).setCell ⟨g, 1, none⟩ (.slice ao' l' c')) g s' ao' l' c' := by
  obtain ⟨x0, x1, x2, x3⟩ := h
  have z := lt_of_cell x0
  exact ⟨by simp [go_sem, *], by simp [go_sem, *], by simp [go_sem, *], by simp [go_sem, *]⟩
theorem bg_set {W : World} {g : Nat} {s s' : Bool} {ao : Option Addr} {l c : Nat} {v y : Value} {n : Int} (h : Bc W g s ao l c) (hb : Bg W y n) : Bg ((W.setCell ⟨g, 0, none⟩ (.bool s')).setCell ⟨g, 1, none⟩ v) y n :=
  (hb.set ⟨_, h.1⟩).set ⟨s', by simp [go_sem, h.1]⟩
theorem nm8' {W X : World} {b : Nat} {gn gd bn bd mn md sn sd : Int} (h : Nm W b gn gd bn bd mn md sn sd) (hb : Below W.heap.size W X) : Nm X b gn gd bn bd mn md sn sd := h.keep hb
set_option maxHeartbeats 1600000 in
set_option maxRecDepth 100000 in
theorem r4plus_core (gn gd bn bd mn md sn sd x a1 k l1 L R : Int) (p : Bool)
    (hN : ∀ w : World, Calls Try.prog 17 #[nm gn gd bn bd mn md sn sd] w fun e w' => e = .returned (.int .i64 0) ∧ Below w.heap.size w w')
    (x1 : ¬ x < -2147483647) (x2 : ¬ 2147483647 < x)
    (T1 : ∀ (w : World) (g cap : Nat), w.cell? ⟨g, 0, none⟩ = some (.int .i64 x) → w.cell? ⟨g, 1, none⟩ = some (.int .i64 md) → Calls Try.prog 41 #[.slice (some ⟨g, 0, none⟩) 2 cap] w fun e w' => ∃ z, e = .returned z ∧ Bg w' z a1 ∧ Below w.heap.size w w')
    (I1 : ∀ w : World, Calls Try.prog 42 #[.int .i64 mn] w fun e w' => ∃ z, e = .returned z ∧ Bg w' z mn ∧ Below w.heap.size w w')
    (S1 : ∀ (y z : Value) (w : World), Bg w y a1 → Bg w z mn → Calls Try.prog 40 #[y, z] w fun e w' => ∃ u, e = .returned u ∧ Bg w' u k ∧ Below w.heap.size w w')
    (T2 : ∀ (w : World) (g cap : Nat), w.cell? ⟨g, 0, none⟩ = some (.int .i64 gn) → w.cell? ⟨g, 1, none⟩ = some (.int .i64 sd) → w.cell? ⟨g, 2, none⟩ = some (.int .i64 bd) → Calls Try.prog 41 #[.slice (some ⟨g, 0, none⟩) 3 cap] w fun e w' => ∃ z, e = .returned z ∧ Bg w' z l1 ∧ Below w.heap.size w w')
    (M2 : ∀ (y z : Value) (w : World), Bg w y k → Bg w z l1 → Calls Try.prog 43 #[y, z] w fun e w' => ∃ u, e = .returned u ∧ Bg w' u L ∧ Below w.heap.size w w')
    (T3 : ∀ (w : World) (g cap : Nat), w.cell? ⟨g, 0, none⟩ = some (.int .i64 bn) → w.cell? ⟨g, 1, none⟩ = some (.int .i64 gd) → w.cell? ⟨g, 2, none⟩ = some (.int .i64 md) → w.cell? ⟨g, 3, none⟩ = some (.int .i64 sn) → Calls Try.prog 41 #[.slice (some ⟨g, 0, none⟩) 4 cap] w fun e w' => ∃ z, e = .returned z ∧ Bg w' z R ∧ Below w.heap.size w w')
    (A3 : ∀ (y z : Value) (w : World), Bg w y L → Bg w z R → Calls Try.prog 45 #[y, z] w fun e w' => ∃ u, e = .returned u ∧ Bg w' u (L + R) ∧ Below w.heap.size w w')
    (I0 : ∀ w : World, Calls Try.prog 42 #[.int .i64 0] w fun e w' => ∃ z, e = .returned z ∧ Bg w' z 0 ∧ Below w.heap.size w w')
    (C0 : ∀ (y z : Value) (w : World), Bg w y (L + R) → Bg w z 0 → Calls Try.prog 44 #[y, z] w fun e w' => ∃ v, e = .returned (.int .i64 v) ∧ decide (0 ≤ v) = p ∧ Below w.heap.size w w')
    (w : World) :
    Calls Try.prog 30 #[nm gn gd bn bd mn md sn sd, .int .i64 x] w fun e w' => e = .returned (.tuple #[.bool p, .int .i64 0]) ∧ Below w.heap.size w w' := by
  have HN := hid1 hN; have HT1 := hid1 T1; have HI1 := hid1 I1; have HS1 := hid1 S1; have HT2 := hid1 T2; have HM2 := hid1 M2; have HT3 := hid1 T3; have HA3 := hid1 A3; have HI0 := hid1 I0; have HC0 := hid1 C0
  clear hN T1 I1 S1 T2 M2 T3 A3 I0 C0
  go_enter Try.func30, Try.ntmps30
  go_wp2_with fail
  refine gen_calls (fun W' => Below w.heap.size w W' ∧ Hid (Nm W' w.heap.size gn gd bn bd mn md sn sd)) ⟨by repeat (first | (with_reducible exact Below.refl _ _) | (with_reducible refine bl_alloc ?_ _) | (with_reducible refine Below.drew ?_) | (with_reducible refine bl_drewN ?_ _) | (with_reducible refine bl_set ?_ (by omega) _) | (with_reducible refine bl_step ?_ (by assumption))), hid1 (ny_new rfl).1⟩ ?_
  rintro W ⟨B0, HM⟩
  refine (HN.out _).mono ?_
  rintro e w1 ⟨rfl, hb1⟩
  replace HM := hid1 (HM.out.keep hb1)
  have B1 : Below w.heap.size w w1 := by repeat (first | (with_reducible exact Below.refl _ _) | (with_reducible refine bl_alloc ?_ _) | (with_reducible refine Below.drew ?_) | (with_reducible refine bl_drewN ?_ _) | (with_reducible refine bl_set ?_ (by omega) _) | (with_reducible refine bl_step ?_ (by assumption)))
  have zB := B1.size
  clear hb1 B0 HN
  go_upto_region 6 with fail
  go_cut [7] (fun s7 wx => ∃ M s ao l c, w1.heap.size ≤ M ∧ s7 = .pointer (some ⟨M, 0, none⟩) ∧ Hid (Bc wx M s ao l c) ∧ Hid (Bg wx (.agg #[.bool s, .slice ao l c]) k) ∧ Hid (Nm wx w.heap.size gn gd bn bd mn md sn sd) ∧ Below w.heap.size w wx)
  case first =>
    obtain ⟨m0, m1, m2, m3, m4, m5, m6, m7⟩ := HM.out
    go_region_held3 (fun X => X.cell? ⟨w.heap.size, 0, none⟩ = some (.int .i64 gn) ∧ X.cell? ⟨w.heap.size, 1, none⟩ = some (.int .i64 gd) ∧ X.cell? ⟨w.heap.size, 2, none⟩ = some (.int .i64 bn) ∧ X.cell? ⟨w.heap.size, 3, none⟩ = some (.int .i64 bd) ∧ X.cell? ⟨w.heap.size, 4, none⟩ = some (.int .i64 mn) ∧ X.cell? ⟨w.heap.size, 5, none⟩ = some (.int .i64 md) ∧ X.cell? ⟨w.heap.size, 6, none⟩ = some (.int .i64 sn) ∧ X.cell? ⟨w.heap.size, 7, none⟩ = some (.int .i64 sd)) (((try dsimp only); (with_reducible refine nm8 HM.out ?_); repeat (first | (with_reducible exact Below.refl _ _) | (with_reducible refine bl_alloc ?_ _) | (with_reducible refine Below.drew ?_) | (with_reducible refine bl_drewN ?_ _) | (with_reducible refine bl_set ?_ (by omega) _) | (with_reducible refine bl_step ?_ (by assumption)))))
      (first
        | (go_at_call 41; (with_reducible refine (HT1.out _ _ _ (by simp [go_sem]) (by simp [go_sem])).mono ?_); rintro e X1 ⟨u1, rfl, h1, hb1⟩; obtain ⟨s1, o1, l1, c1, rfl⟩ := h1.form; have HB1 := hid1 h1; clear h1; have z1 : w1.heap.size ≤ X1.heap.size := Nat.le_trans (by first | exact Nat.le_refl _ | (simp; done) | (simp; omega)) hb1.size; (first | (with_reducible have NA := hid1 (bc_B (W := w1) hb1)) | (with_reducible have NA := hid1 (bc_C (W := w1) hb1)) | skip))
        | (go_at_call 42; (with_reducible refine (HI1.out _).mono ?_); rintro e X2 ⟨u2, rfl, h2, hb2⟩; obtain ⟨s2, o2, l2, c2, rfl⟩ := h2.form; have HB2 := hid1 h2; clear h2; have HB1 := hid1 (HB1.out.below (w' := X2) (by repeat (first | (with_reducible exact Below.refl _ _) | (with_reducible refine bl_alloc ?_ _) | (with_reducible refine Below.drew ?_) | (with_reducible refine bl_drewN ?_ _) | (with_reducible refine bl_set ?_ (by omega) _) | (with_reducible refine bl_step ?_ (by assumption))))); have z2 : X1.heap.size ≤ X2.heap.size := Nat.le_trans (by first | exact Nat.le_refl _ | (simp; done) | (simp; omega)) hb2.size; (first | (with_reducible have NB := hid1 (bc_0 (W := X1) hb2)) | (with_reducible have NB := hid1 (NA.out.keep hb2)) | skip))
        | (go_at_call 40; (with_reducible refine (HS1.out _ _ _ (HB1.out.below (by repeat (first | (with_reducible exact Below.refl _ _) | (with_reducible refine bl_alloc ?_ _) | (with_reducible refine Below.drew ?_) | (with_reducible refine bl_drewN ?_ _) | (with_reducible refine bl_set ?_ (by omega) _) | (with_reducible refine bl_step ?_ (by assumption))))) (HB2.out.below (by repeat (first | (with_reducible exact Below.refl _ _) | (with_reducible refine bl_alloc ?_ _) | (with_reducible refine Below.drew ?_) | (with_reducible refine bl_drewN ?_ _) | (with_reducible refine bl_set ?_ (by omega) _) | (with_reducible refine bl_step ?_ (by assumption)))))).mono ?_); rintro e X3 ⟨u3, rfl, h3, hb3⟩; obtain ⟨s3, o3, l3, c3, rfl⟩ := h3.form; have HB3 := hid1 h3; clear h3; have z3 : X2.heap.size ≤ X3.heap.size := Nat.le_trans (by first | exact Nat.le_refl _ | (simp; done) | (simp; omega)) hb3.size; (first | ((with_reducible have NC := hid1 (bc_0 (W := X2) hb3)); obtain ⟨n0, n1, n2, n3⟩ := NC.out; have zn := lt_of_cell n0) | ((with_reducible have NC := hid1 (NB.out.keep hb3)); obtain ⟨n0, n1, n2, n3⟩ := NC.out; have zn := lt_of_cell n0) | skip)))
    all_goals go_wp2_with fail
    all_goals go_meet
    · exact ⟨_, s3, o3, l3, c3, by omega, rfl, hid1 (bc_new rfl), hid1 (HB3.out.below (by repeat (first | (with_reducible exact Below.refl _ _) | (with_reducible refine bl_alloc ?_ _) | (with_reducible refine Below.drew ?_) | (with_reducible refine bl_drewN ?_ _) | (with_reducible refine bl_set ?_ (by omega) _) | (with_reducible refine bl_step ?_ (by assumption))))), hid1 (HM.out.keep (by repeat (first | (with_reducible exact Below.refl _ _) | (with_reducible refine bl_alloc ?_ _) | (with_reducible refine Below.drew ?_) | (with_reducible refine bl_drewN ?_ _) | (with_reducible refine bl_set ?_ (by omega) _) | (with_reducible refine bl_step ?_ (by assumption))))), by repeat (first | (with_reducible exact Below.refl _ _) | (with_reducible refine bl_alloc ?_ _) | (with_reducible refine Below.drew ?_) | (with_reducible refine bl_drewN ?_ _) | (with_reducible refine bl_set ?_ (by omega) _) | (with_reducible refine bl_step ?_ (by assumption)))⟩
    · exact ⟨_, s3, o3, l3, c3, by omega, rfl, hid1 (bc_set NC.out), hid1 (bg_set NC.out HB3.out), hid1 (HM.out.keep (by repeat (first | (with_reducible exact Below.refl _ _) | (with_reducible refine bl_alloc ?_ _) | (with_reducible refine Below.drew ?_) | (with_reducible refine bl_drewN ?_ _) | (with_reducible refine bl_set ?_ (by omega) _) | (with_reducible refine bl_step ?_ (by assumption))))), by repeat (first | (with_reducible exact Below.refl _ _) | (with_reducible refine bl_alloc ?_ _) | (with_reducible refine Below.drew ?_) | (with_reducible refine bl_drewN ?_ _) | (with_reducible refine bl_set ?_ (by omega) _) | (with_reducible refine bl_step ?_ (by assumption)))⟩
    · exact ⟨_, s3, o3, l3, c3, by omega, rfl, hid1 (bc_set NC.out), hid1 (bg_set NC.out HB3.out), hid1 (HM.out.keep (by repeat (first | (with_reducible exact Below.refl _ _) | (with_reducible refine bl_alloc ?_ _) | (with_reducible refine Below.drew ?_) | (with_reducible refine bl_drewN ?_ _) | (with_reducible refine bl_set ?_ (by omega) _) | (with_reducible refine bl_step ?_ (by assumption))))), by repeat (first | (with_reducible exact Below.refl _ _) | (with_reducible refine bl_alloc ?_ _) | (with_reducible refine Below.drew ?_) | (with_reducible refine bl_drewN ?_ _) | (with_reducible refine bl_set ?_ (by omega) _) | (with_reducible refine bl_step ?_ (by assumption)))⟩
    · exact ⟨_, s3, o3, l3, c3, by omega, rfl, hid1 (bc_set NC.out), hid1 (bg_set NC.out HB3.out), hid1 (HM.out.keep (by repeat (first | (with_reducible exact Below.refl _ _) | (with_reducible refine bl_alloc ?_ _) | (with_reducible refine Below.drew ?_) | (with_reducible refine bl_drewN ?_ _) | (with_reducible refine bl_set ?_ (by omega) _) | (with_reducible refine bl_step ?_ (by assumption))))), by repeat (first | (with_reducible exact Below.refl _ _) | (with_reducible refine bl_alloc ?_ _) | (with_reducible refine Below.drew ?_) | (with_reducible refine bl_drewN ?_ _) | (with_reducible refine bl_set ?_ (by omega) _) | (with_reducible refine bl_step ?_ (by assumption)))⟩
    · exact ⟨_, s3, o3, l3, c3, by omega, rfl, hid1 (bc_set NC.out), hid1 (bg_set NC.out HB3.out), hid1 (HM.out.keep (by repeat (first | (with_reducible exact Below.refl _ _) | (with_reducible refine bl_alloc ?_ _) | (with_reducible refine Below.drew ?_) | (with_reducible refine bl_drewN ?_ _) | (with_reducible refine bl_set ?_ (by omega) _) | (with_reducible refine bl_step ?_ (by assumption))))), by repeat (first | (with_reducible exact Below.refl _ _) | (with_reducible refine bl_alloc ?_ _) | (with_reducible refine Below.drew ?_) | (with_reducible refine bl_drewN ?_ _) | (with_reducible refine bl_set ?_ (by omega) _) | (with_reducible refine bl_step ?_ (by assumption)))⟩
  case rest =>
    clear HM
    obtain ⟨M, s, ao, l, c, zM, rfl, HC, HK, HM, BC⟩ := hcut
    rename World => V
    clear B1 HT1 HI1 HS1
    have zV := BC.size
    go_upto_region 7 with fail
    go_cut [8] (fun s8 wx => ∃ M' s' ao' l' c', V.heap.size ≤ M' ∧ s8 = .pointer (some ⟨M', 0, none⟩) ∧ Hid (Bc wx M' s' ao' l' c') ∧ Hid (Bg wx (.agg #[.bool s', .slice ao' l' c']) L) ∧ Hid (Nm wx w.heap.size gn gd bn bd mn md sn sd) ∧ Below w.heap.size w wx)
    case first =>
      obtain ⟨m0, m1, m2, m3, m4, m5, m6, m7⟩ := HM.out
      obtain ⟨y0, y1, _, _⟩ := HC.out
      go_region_held3 (fun X => X.cell? ⟨w.heap.size, 0, none⟩ = some (.int .i64 gn) ∧ X.cell? ⟨w.heap.size, 1, none⟩ = some (.int .i64 gd) ∧ X.cell? ⟨w.heap.size, 2, none⟩ = some (.int .i64 bn) ∧ X.cell? ⟨w.heap.size, 3, none⟩ = some (.int .i64 bd) ∧ X.cell? ⟨w.heap.size, 4, none⟩ = some (.int .i64 mn) ∧ X.cell? ⟨w.heap.size, 5, none⟩ = some (.int .i64 md) ∧ X.cell? ⟨w.heap.size, 6, none⟩ = some (.int .i64 sn) ∧ X.cell? ⟨w.heap.size, 7, none⟩ = some (.int .i64 sd) ∧ X.cell? ⟨M, 0, none⟩ = some (.bool s) ∧ X.cell? ⟨M, 1, none⟩ = some (.slice ao l c)) (((try dsimp only); (with_reducible refine nm10 HM.out HC.out ?_); repeat (first | (with_reducible exact Below.refl _ _) | (with_reducible refine bl_alloc ?_ _) | (with_reducible refine Below.drew ?_) | (with_reducible refine bl_drewN ?_ _) | (with_reducible refine bl_set ?_ (by omega) _) | (with_reducible refine bl_step ?_ (by assumption)))))
        (first
          | (go_at_call 41; (with_reducible refine (HT2.out _ _ _ (by simp [go_sem]) (by simp [go_sem]) (by simp [go_sem])).mono ?_); rintro e X1 ⟨u1, rfl, h1, hb1⟩; obtain ⟨s1, o1, l1, c1, rfl⟩ := h1.form; have HB1 := hid1 h1; clear h1; have z1 : V.heap.size ≤ X1.heap.size := Nat.le_trans (by first | exact Nat.le_refl _ | (simp; done) | (simp; omega)) hb1.size; (first | (with_reducible have NA := hid1 (bc_B (W := V) hb1)) | (with_reducible have NA := hid1 (bc_C (W := V) hb1)) | skip))
          | (go_at_call 43; (with_reducible refine (HM2.out _ _ _ (HK.out.below (by repeat (first | (with_reducible exact Below.refl _ _) | (with_reducible refine bl_alloc ?_ _) | (with_reducible refine Below.drew ?_) | (with_reducible refine bl_drewN ?_ _) | (with_reducible refine bl_set ?_ (by omega) _) | (with_reducible refine bl_step ?_ (by assumption))))) (HB1.out.below (by repeat (first | (with_reducible exact Below.refl _ _) | (with_reducible refine bl_alloc ?_ _) | (with_reducible refine Below.drew ?_) | (with_reducible refine bl_drewN ?_ _) | (with_reducible refine bl_set ?_ (by omega) _) | (with_reducible refine bl_step ?_ (by assumption)))))).mono ?_); rintro e X3 ⟨u3, rfl, h3, hb3⟩; obtain ⟨s3, o3, l3, c3, rfl⟩ := h3.form; have HB3 := hid1 h3; clear h3; have z3 : X1.heap.size ≤ X3.heap.size := Nat.le_trans (by first | exact Nat.le_refl _ | (simp; done) | (simp; omega)) hb3.size; (first | ((with_reducible have NC := hid1 (bc_0 (W := X1) hb3)); obtain ⟨n0, n1, n2, n3⟩ := NC.out; have zn := lt_of_cell n0) | ((with_reducible have NC := hid1 (NA.out.keep hb3)); obtain ⟨n0, n1, n2, n3⟩ := NC.out; have zn := lt_of_cell n0) | skip)))
      all_goals go_wp2_with fail
      all_goals go_meet
      · exact ⟨_, s3, o3, l3, c3, by omega, rfl, hid1 (bc_new rfl), hid1 (HB3.out.below (by repeat (first | (with_reducible exact Below.refl _ _) | (with_reducible refine bl_alloc ?_ _) | (with_reducible refine Below.drew ?_) | (with_reducible refine bl_drewN ?_ _) | (with_reducible refine bl_set ?_ (by omega) _) | (with_reducible refine bl_step ?_ (by assumption))))), hid1 (HM.out.keep (by repeat (first | (with_reducible exact Below.refl _ _) | (with_reducible refine bl_alloc ?_ _) | (with_reducible refine Below.drew ?_) | (with_reducible refine bl_drewN ?_ _) | (with_reducible refine bl_set ?_ (by omega) _) | (with_reducible refine bl_step ?_ (by assumption))))), by repeat (first | (with_reducible exact Below.refl _ _) | (with_reducible refine bl_alloc ?_ _) | (with_reducible refine Below.drew ?_) | (with_reducible refine bl_drewN ?_ _) | (with_reducible refine bl_set ?_ (by omega) _) | (with_reducible refine bl_step ?_ (by assumption)))⟩
      · exact ⟨_, s3, o3, l3, c3, by omega, rfl, hid1 (bc_set NC.out), hid1 (bg_set NC.out HB3.out), hid1 (HM.out.keep (by repeat (first | (with_reducible exact Below.refl _ _) | (with_reducible refine bl_alloc ?_ _) | (with_reducible refine Below.drew ?_) | (with_reducible refine bl_drewN ?_ _) | (with_reducible refine bl_set ?_ (by omega) _) | (with_reducible refine bl_step ?_ (by assumption))))), by repeat (first | (with_reducible exact Below.refl _ _) | (with_reducible refine bl_alloc ?_ _) | (with_reducible refine Below.drew ?_) | (with_reducible refine bl_drewN ?_ _) | (with_reducible refine bl_set ?_ (by omega) _) | (with_reducible refine bl_step ?_ (by assumption)))⟩
      · exact ⟨_, s3, o3, l3, c3, by omega, rfl, hid1 (bc_set NC.out), hid1 (bg_set NC.out HB3.out), hid1 (HM.out.keep (by repeat (first | (with_reducible exact Below.refl _ _) | (with_reducible refine bl_alloc ?_ _) | (with_reducible refine Below.drew ?_) | (with_reducible refine bl_drewN ?_ _) | (with_reducible refine bl_set ?_ (by omega) _) | (with_reducible refine bl_step ?_ (by assumption))))), by repeat (first | (with_reducible exact Below.refl _ _) | (with_reducible refine bl_alloc ?_ _) | (with_reducible refine Below.drew ?_) | (with_reducible refine bl_drewN ?_ _) | (with_reducible refine bl_set ?_ (by omega) _) | (with_reducible refine bl_step ?_ (by assumption)))⟩
      · exact ⟨_, s3, o3, l3, c3, by omega, rfl, hid1 (bc_set NC.out), hid1 (bg_set NC.out HB3.out), hid1 (HM.out.keep (by repeat (first | (with_reducible exact Below.refl _ _) | (with_reducible refine bl_alloc ?_ _) | (with_reducible refine Below.drew ?_) | (with_reducible refine bl_drewN ?_ _) | (with_reducible refine bl_set ?_ (by omega) _) | (with_reducible refine bl_step ?_ (by assumption))))), by repeat (first | (with_reducible exact Below.refl _ _) | (with_reducible refine bl_alloc ?_ _) | (with_reducible refine Below.drew ?_) | (with_reducible refine bl_drewN ?_ _) | (with_reducible refine bl_set ?_ (by omega) _) | (with_reducible refine bl_step ?_ (by assumption)))⟩
    case rest =>
      clear HM HC HK
      obtain ⟨M', s', ao', l', c', zM', rfl, HC, HK, HM, BC2⟩ := hcut
      rename World => V2
      clear BC HT2 HM2
      obtain ⟨m0, m1, m2, m3, m4, m5, m6, m7⟩ := HM.out
      have zm := lt_of_cell m0
      go_wp2_with fail
      refine (HT3.out _ _ _ (by simp [go_sem]) (by simp [go_sem]) (by simp [go_sem]) (by simp [go_sem])).mono ?_
      rintro e X1 ⟨u1, rfl, h1, hb1⟩
      obtain ⟨s1, o1, l1', c1, rfl⟩ := h1.form
      have HB1 := hid1 h1
      clear h1
      have b1 : Below V2.heap.size V2 X1 := by repeat (first | (with_reducible exact Below.refl _ _) | (with_reducible refine bl_alloc ?_ _) | (with_reducible refine Below.drew ?_) | (with_reducible refine bl_drewN ?_ _) | (with_reducible refine bl_set ?_ (by omega) _) | (with_reducible refine bl_step ?_ (by assumption)))
      replace HC := hid1 (HC.out.keep b1)
      replace HK := hid1 (HK.out.below b1)
      have B3 : Below w.heap.size w X1 := by repeat (first | (with_reducible exact Below.refl _ _) | (with_reducible refine bl_alloc ?_ _) | (with_reducible refine Below.drew ?_) | (with_reducible refine bl_drewN ?_ _) | (with_reducible refine bl_set ?_ (by omega) _) | (with_reducible refine bl_step ?_ (by assumption)))
      clear hb1 b1 BC2 m0 m1 m2 m3 m4 m5 m6 m7 zm HM HT3
      obtain ⟨y0, y1, _, _⟩ := HC.out
      have zy := lt_of_cell y0
      go_wp2_with fail
      refine (HA3.out _ _ _ (HK.out.below (by repeat (first | (with_reducible exact Below.refl _ _) | (with_reducible refine bl_alloc ?_ _) | (with_reducible refine Below.drew ?_) | (with_reducible refine bl_drewN ?_ _) | (with_reducible refine bl_set ?_ (by omega) _) | (with_reducible refine bl_step ?_ (by assumption))))) (HB1.out.below (by repeat (first | (with_reducible exact Below.refl _ _) | (with_reducible refine bl_alloc ?_ _) | (with_reducible refine Below.drew ?_) | (with_reducible refine bl_drewN ?_ _) | (with_reducible refine bl_set ?_ (by omega) _) | (with_reducible refine bl_step ?_ (by assumption)))))).mono ?_
      rintro e X2 ⟨u2, rfl, h2, hb2⟩
      obtain ⟨s2, o2, l2', c2, rfl⟩ := h2.form
      have HB2 := hid1 h2
      clear h2
      have B4 : Below w.heap.size w X2 := by repeat (first | (with_reducible exact Below.refl _ _) | (with_reducible refine bl_alloc ?_ _) | (with_reducible refine Below.drew ?_) | (with_reducible refine bl_drewN ?_ _) | (with_reducible refine bl_set ?_ (by omega) _) | (with_reducible refine bl_step ?_ (by assumption)))
      clear hb2 B3 y0 y1 zy HC HK HB1 HA3
      go_wp2_with fail
      refine (HI0.out _).mono ?_
      rintro e X3 ⟨u3, rfl, h3, hb3⟩
      obtain ⟨s3, o3, l3', c3, rfl⟩ := h3.form
      have HB3 := hid1 h3
      clear h3
      replace HB2 := hid1 (HB2.out.below hb3)
      have B5 : Below w.heap.size w X3 := by repeat (first | (with_reducible exact Below.refl _ _) | (with_reducible refine bl_alloc ?_ _) | (with_reducible refine Below.drew ?_) | (with_reducible refine bl_drewN ?_ _) | (with_reducible refine bl_set ?_ (by omega) _) | (with_reducible refine bl_step ?_ (by assumption)))
      clear hb3 B4
      go_wp2_with fail
      refine (HC0.out _ _ _ HB2.out HB3.out).mono ?_
      rintro e X4 ⟨v, rfl, hv, hb4⟩
      have HV := hid1 hv
      clear hv
      go_wp2
      go_ret2
      refine ⟨by rw [← HV.out]; rfl, ?_⟩
      repeat (first | (with_reducible exact Below.refl _ _) | (with_reducible refine bl_alloc ?_ _) | (with_reducible refine Below.drew ?_) | (with_reducible refine bl_drewN ?_ _) | (with_reducible refine bl_set ?_ (by omega) _) | (with_reducible refine bl_step ?_ (by assumption)))
end Go.Proofs.Ytffhbfdbahdhoab.Wd
/- THE DOCUMENT'S PLUS: THE WHOLE. -/
namespace Go.Proofs.Ytffhbfdbahdhoab.Wd
open Go.RowKit Go.Shelf
attribute [local go_sem ↓] Go.wp_at_zero Go.wp_at_succ

theorem sgn_zero (d : Int) : decide (0 ≤ sgnOf d) = decide (0 ≤ d) := by
  by_cases h : 0 ≤ d
  · rw [decide_eq_true h]; refine decide_eq_true ?_; unfold sgnOf; split <;> (try split) <;> omega
  · rw [decide_eq_false h]; refine decide_eq_false ?_; unfold sgnOf; split <;> (try split) <;> omega
set_option maxRecDepth 100000 in
theorem r4plus_no1 (gn gd bn bd mn md sn sd x : Int) (h : ¬ noE gn gd bn bd mn md sn sd = 0) (w : World) :
    Calls Try.prog 30 #[nm gn gd bn bd mn md sn sd, .int .i64 x] w fun e w' => e = .returned (.tuple #[.bool false, .int .i64 (noE gn gd bn bd mn md sn sd)]) ∧ Below w.heap.size w w' := by
  have HN := hid1 (r4norm_any gn gd bn bd mn md sn sd)
  obtain ⟨v, ev⟩ : ∃ v, noE gn gd bn bd mn md sn sd = v := ⟨_, rfl⟩
  rw [ev] at HN h ⊢
  clear ev
  go_enter Try.func30, Try.ntmps30
  go_wp2_with fail
  refine (HN.out _).mono ?_
  rintro e w1 ⟨rfl, hb1⟩
  go_wp2
  go_ret2
  refine ⟨rfl, ?_⟩
  repeat (first | exact Below.refl _ _ | refine bl_alloc ?_ _ | refine Below.drew ?_ | refine bl_drewN ?_ _ | refine bl_set ?_ (by omega) _ | refine bl_step ?_ (by assumption))
set_option maxRecDepth 100000 in
theorem r4plus_no2 (gn gd bn bd mn md sn sd x : Int) (h : noE gn gd bn bd mn md sn sd = 0) (h2 : ¬ Sm x) (w : World) :
    Calls Try.prog 30 #[nm gn gd bn bd mn md sn sd, .int .i64 x] w fun e w' => e = .returned (.tuple #[.bool false, .int .i64 1]) ∧ Below w.heap.size w w' := by
  have HN := hid1 (r4norm_any gn gd bn bd mn md sn sd)
  rw [h] at HN
  clear h
  by_cases x1 : x < -2147483647
  · go_enter Try.func30, Try.ntmps30
    go_wp2_with fail
    refine (HN.out _).mono ?_
    rintro e w1 ⟨rfl, hb1⟩
    go_wp2
    go_ret2
    refine ⟨rfl, ?_⟩
    repeat (first | exact Below.refl _ _ | refine bl_alloc ?_ _ | refine Below.drew ?_ | refine bl_drewN ?_ _ | refine bl_set ?_ (by omega) _ | refine bl_step ?_ (by assumption))
  · have x2 : 2147483647 < x := by
      by_cases k : 2147483647 < x
      · exact k
      · exact absurd ⟨by omega, by omega⟩ h2
    go_enter Try.func30, Try.ntmps30
    go_wp2_with fail
    refine (HN.out _).mono ?_
    rintro e w1 ⟨rfl, hb1⟩
    go_wp2
    go_ret2
    refine ⟨rfl, ?_⟩
    repeat (first | exact Below.refl _ _ | refine bl_alloc ?_ _ | refine Below.drew ?_ | refine bl_drewN ?_ _ | refine bl_set ?_ (by omega) _ | refine bl_step ?_ (by assumption))
theorem r4plus_ok (gn gd bn bd mn md sn sd x : Int) (h : noE gn gd bn bd mn md sn sd = 0) (hx : Sm x) (w : World) :
    Calls Try.prog 30 #[nm gn gd bn bd mn md sn sd, .int .i64 x] w fun e w' => e = .returned (.tuple #[.bool (decide (0 ≤ nv gn gd bn bd mn md sn sd x)), .int .i64 0]) ∧ Below w.heap.size w w' := by
  obtain ⟨hg, hb, hm, hs, s1⟩ := noE_ok h
  have HN := r4norm_any gn gd bn bd mn md sn sd
  rw [h] at HN
  have km := mid_bd hm hx
  have xm := bd_mul (A := 2147483647) (B := 1048576) (a := x) (b := md) hx ⟨by have := hm.1; omega, hm.2.1⟩
  obtain ⟨l1, l2, l3⟩ := left_bd hg hb hm hs hx
  obtain ⟨r1, r2, r3⟩ := right_bd hg hb hm hs
  have g1 : I64 gn := ⟨by have := hg.2.2.1; omega, by have := hg.2.2.2; omega⟩
  have g2 : I64 gd := ⟨by have := hg.1; omega, by have := hg.2.1; omega⟩
  have b1 : I64 bn := ⟨by have := hb.2.2.1; omega, by have := hb.2.2.2; omega⟩
  have b2 : I64 bd := ⟨by have := hb.1; omega, by have := hb.2.1; omega⟩
  have m1 : I64 mn := ⟨by have := hm.2.2.1; omega, by have := hm.2.2.2; omega⟩
  have m2 : I64 md := ⟨by have := hm.1; omega, by have := hm.2.1; omega⟩
  have t1 : I64 sn := ⟨by have := hs.2.2.1; omega, by have := hs.2.2.2; omega⟩
  have t2 : I64 sd := ⟨by have := hs.1; omega, by have := hs.2.1; omega⟩
  have xI : I64 x := ⟨by have := hx.1; omega, by have := hx.2; omega⟩
  have i0 : I64 0 := ⟨by omega, by omega⟩
  have q1 := bd_mul (A := 2147483647) (B := 1048576) (a := gn) (b := sd) hg.2.2 ⟨by have := hs.1; omega, hs.2.1⟩
  have q2 := bd_mul q1 (B := 1048576) (b := bd) ⟨by have := hb.1; omega, hb.2.1⟩
  have eL : (x * md - mn) * (gn * sd * bd) = gn * (x * md - mn) * sd * bd := by ac_rfl
  have e0 : gn * (x * md - mn) * sd * bd + bn * gd * md * sn - 0 = gn * (x * md - mn) * sd * bd + bn * gd * md * sn := by omega
  refine r4plus_core gn gd bn bd mn md sn sd x (x * md) (x * md - mn) (gn * sd * bd) (gn * (x * md - mn) * sd * bd) (bn * gd * md * sn) _ HN (by have := hx.1; omega) (by have := hx.2; omega)
    (fun w g cap h0 h1 => times2 x md xI m2 ⟨by omega, by omega⟩ w g cap h0 h1) (rint_any mn m1)
    (fun y z w hy hz => rsub_any _ _ y z w hy hz (lt40 ⟨by omega, by omega⟩) (lt40 (i64_md m1)))
    (fun w g cap h0 h1 h2 => times3 gn sd bd g1 t2 b2 ⟨by omega, by omega⟩ ⟨by omega, by omega⟩ w g cap h0 h1 h2)
    (fun y z w hy hz => eL ▸ rmul_any _ _ y z w hy hz (lt16 ⟨by omega, by omega⟩) (lt16 ⟨by omega, by omega⟩))
    (fun w g cap h0 h1 h2 h3 => times4 bn gd md sn b1 g2 m2 t1 ⟨by omega, by omega⟩ ⟨by omega, by omega⟩ ⟨by omega, by omega⟩ w g cap h0 h1 h2 h3)
    (fun y z w hy hz => radd_any _ _ y z w hy hz (lt40 ⟨by omega, by omega⟩) (lt40 ⟨by omega, by omega⟩)) (rint_any 0 i0)
    (fun y z w hy hz => (rcmp_any _ _ y z w hy hz (lt40 ⟨by omega, by omega⟩) (lt40 ⟨by omega, by omega⟩) _ e0).mono ?_) w
  rintro e w' ⟨rfl, hb'⟩
  exact ⟨_, rfl, sgn_zero _, hb'⟩
theorem r4plus_any (gn gd bn bd mn md sn sd x : Int) (w : World) :
    Calls Try.prog 30 #[nm gn gd bn bd mn md sn sd, .int .i64 x] w fun e w' => e = .returned (.tuple #[.bool (plV gn gd bn bd mn md sn sd x), .int .i64 (plE gn gd bn bd mn md sn sd x)]) ∧ Below w.heap.size w w' := by
  unfold plV plE
  by_cases h : noE gn gd bn bd mn md sn sd = 0
  · by_cases h2 : Sm x
    · rw [decide_eq_true h, decide_eq_true h2, if_pos h, if_pos h2]
      exact r4plus_ok gn gd bn bd mn md sn sd x h h2 w
    · rw [decide_eq_true h, decide_eq_false h2, if_pos h, if_neg h2]
      exact r4plus_no2 gn gd bn bd mn md sn sd x h h2 w
  · rw [decide_eq_false h, if_neg h]
    exact r4plus_no1 gn gd bn bd mn md sn sd x h w
end Go.Proofs.Ytffhbfdbahdhoab.Wd
