import Derived.Test.YtboabgjgcnkelaaDoorFW7
import Derived.Deep.DeepCutAuto
import Derived.Test.YtboabgjgcnkelaaDoorW33
import Derived.ProofKit
import Derived.LaidMore
import Derived.LaidSub
import Derived.MakeChecks
import Derived.OpenShut
import Derived.ShutString
import Derived.ChangeOld
import Derived.Stop.Joined
import Derived.Lib.SmallJoins
import Derived.SizedLaws
import Derived.Deep.Slices
import Derived.ChangeSame
import Derived.Test.YtboabgjgcnkelaaDoorCards
import Derived.Test.YtboabgjgcnkelaaDoorTie
import Derived.SevenTiedAt
/- NORMS MADE OF FOUR FRACTIONS: what the regions that make them want; small. -/
namespace Go.Proofs.YtboabgjgcnkelaaDoor
open Go.RowKit Go.Shelf
attribute [local go_sem ↓] Go.wp_at_zero Go.wp_at_succ

/-- A norm's cells, which may be written. -/
def Ny (w : World) (b : Nat) (gn gd bn bd mn md sn sd : Int) : Prop := Nm w b gn gd bn bd mn md sn sd ∧ ∀ o, w.frozen? ⟨b, o, none⟩ = false
theorem Ny.keep {w w' : World} {b : Nat} {gn gd bn bd mn md sn sd : Int} (h : Ny w b gn gd bn bd mn md sn sd) (hb : Below w.heap.size w w') : Ny w' b gn gd bn bd mn md sn sd :=
  ⟨h.1.keep hb, fun o => keepf hb (lt_of_cell h.1.1) (h.2 o)⟩
theorem ny_new {W : World} {t : TypeId} {g : Nat} {gn gd bn bd mn md sn sd : Int} (hg : W.heap.size = g) : Ny (W.alloc (.cells #[.int .i64 gn, .int .i64 gd, .int .i64 bn, .int .i64 bd, .int .i64 mn, .int .i64 md, .int .i64 sn, .int .i64 sd] t)) g gn gd bn bd mn md sn sd := by
  subst hg
  exact ⟨⟨by simp [go_sem], by simp [go_sem], by simp [go_sem], by simp [go_sem], by simp [go_sem], by simp [go_sem], by simp [go_sem], by simp [go_sem]⟩, fun o => by simp [go_sem]⟩
theorem ny_n0 {W w' : World} {t : TypeId} (hb : Below (W.alloc (.cells #[.int .i64 0, .int .i64 0, .int .i64 0, .int .i64 0, .int .i64 0, .int .i64 0, .int .i64 0, .int .i64 0] t)).heap.size (W.alloc (.cells #[.int .i64 0, .int .i64 0, .int .i64 0, .int .i64 0, .int .i64 0, .int .i64 0, .int .i64 0, .int .i64 0] t)) w') : Ny w' W.heap.size 0 0 0 0 0 0 0 0 := Ny.keep (ny_new rfl) hb
theorem ny_n1 {W w' : World} {t : TypeId} (hb : Below (W.drew.alloc (.cells #[.int .i64 0, .int .i64 0, .int .i64 0, .int .i64 0, .int .i64 0, .int .i64 0, .int .i64 0, .int .i64 0] t)).heap.size (W.drew.alloc (.cells #[.int .i64 0, .int .i64 0, .int .i64 0, .int .i64 0, .int .i64 0, .int .i64 0, .int .i64 0, .int .i64 0] t)) w') : Ny w' W.heap.size 0 0 0 0 0 0 0 0 := Ny.keep (ny_new (W := W.drew) rfl) hb
theorem ny_n2 {W w' : World} {t : TypeId} (hb : Below (W.alloc (.cells #[.int .i64 0, .int .i64 0, .int .i64 0, .int .i64 0, .int .i64 0, .int .i64 0, .int .i64 0, .int .i64 0] t)).drew.heap.size (W.alloc (.cells #[.int .i64 0, .int .i64 0, .int .i64 0, .int .i64 0, .int .i64 0, .int .i64 0, .int .i64 0, .int .i64 0] t)).drew w') : Ny w' W.heap.size 0 0 0 0 0 0 0 0 :=
  Ny.keep (Ny.keep (ny_new rfl) (Below.drew (Below.refl _ _))) hb
set_option maxRecDepth 100000 in
theorem ny_set {W : World} {g : Nat} {gn gd bn bd mn md sn sd : Int} (h : Ny W g 0 0 0 0 0 0 0 0) : Ny ((((((((W.setCell ⟨g, 0, none⟩ (.int .i64 gn)).setCell ⟨g, 1, none⟩ (.int .i64 gd)).setCell ⟨g, 2, none⟩ (.int .i64 bn)).setCell ⟨g, 3, none⟩ (.int .i64 bd)).setCell ⟨g, 4, none⟩ (.int .i64 mn)).setCell ⟨g, 5, none⟩ (.int .i64 md)).setCell ⟨g, 6, none⟩ (.int .i64 sn)).setCell ⟨g, 7, none⟩ (.int .i64 sd)) g gn gd bn bd mn md sn sd := by
  obtain ⟨⟨n0, n1, n2, n3, n4, n5, n6, n7⟩, nf⟩ := h
  have z := lt_of_cell n0
  exact ⟨⟨by simp [go_sem, *], by simp [go_sem, *], by simp [go_sem, *], by simp [go_sem, *], by simp [go_sem, *], by simp [go_sem, *], by simp [go_sem, *], by simp [go_sem, *]⟩, fun o => by simp [go_sem, *]⟩
theorem ny_set6 {W : World} {g : Nat} {gn gd bn bd mn md sn sd v : Int} (h : Ny W g gn gd bn bd mn md sn sd) : Ny (W.setCell ⟨g, 6, none⟩ (.int .i64 v)) g gn gd bn bd mn md v sd := by
  obtain ⟨⟨n0, n1, n2, n3, n4, n5, n6, n7⟩, nf⟩ := h
  have z := lt_of_cell n0
  exact ⟨⟨by simp [go_sem, *], by simp [go_sem, *], by simp [go_sem, *], by simp [go_sem, *], by simp [go_sem, *], by simp [go_sem, *], by simp [go_sem, *], by simp [go_sem, *]⟩, fun o => by simp [go_sem, *]⟩
theorem nm8 {W X : World} {b : Nat} {gn gd bn bd mn md sn sd : Int} (h : Nm W b gn gd bn bd mn md sn sd) (hb : Below W.heap.size W X) : X.cell? ⟨b, 0, none⟩ = some (.int .i64 gn) ∧ X.cell? ⟨b, 1, none⟩ = some (.int .i64 gd) ∧ X.cell? ⟨b, 2, none⟩ = some (.int .i64 bn) ∧ X.cell? ⟨b, 3, none⟩ = some (.int .i64 bd) ∧ X.cell? ⟨b, 4, none⟩ = some (.int .i64 mn) ∧ X.cell? ⟨b, 5, none⟩ = some (.int .i64 md) ∧ X.cell? ⟨b, 6, none⟩ = some (.int .i64 sn) ∧ X.cell? ⟨b, 7, none⟩ = some (.int .i64 sd) := h.keep hb
/-- A small fraction made of any. -/
def smN (n : Int) : Int := n.tmod 1000
def smD (d : Int) : Int := (if d.tmod 30 < 0 then -d.tmod 30 else d.tmod 30) + 1
theorem small_bd (n d : Int) : -999 ≤ smN n ∧ smN n ≤ 999 ∧ 1 ≤ smD d ∧ smD d ≤ 30 := by
  have h1 := tmod_rng n (k := 1000) (by decide)
  have h2 := tmod_rng d (k := 30) (by decide)
  unfold smN smD
  split <;> omega
set_option maxRecDepth 100000 in
theorem small_any (n d : Int) (w : World) :
    Calls Tryd.prog 12 #[fr n d] w fun e w' => e = .returned (fr (smN n) (smD d)) ∧ Below w.heap.size w w' := by
  have h1 := tmod_rng n (k := 1000) (by decide)
  have h2 := tmod_rng d (k := 30) (by decide)
  unfold smN smD
  obtain ⟨a, ea⟩ : ∃ a, n.tmod 1000 = a := ⟨_, rfl⟩
  obtain ⟨b, eb⟩ : ∃ b, d.tmod 30 = b := ⟨_, rfl⟩
  rw [ea] at h1 ⊢
  rw [eb] at h2 ⊢
  obtain ⟨h1a, h1b⟩ := h1
  obtain ⟨h2a, h2b⟩ := h2
  by_cases h : b < 0
  · rw [if_pos h]
    go_enter Tryd.func12, Tryd.ntmps12
    go_wp2
    simp [bodyPost, results, Tryd.results12, go_sem, *]
    repeat (first | exact Below.refl _ _ | refine bl_alloc ?_ _ | refine Below.drew ?_ | refine bl_drewN ?_ _ | refine bl_set ?_ (by omega) _ | refine bl_step ?_ (by assumption))
  · rw [if_neg h]
    go_enter Tryd.func12, Tryd.ntmps12
    go_wp2
    simp [bodyPost, results, Tryd.results12, go_sem, *]
    repeat (first | exact Below.refl _ _ | refine bl_alloc ?_ _ | refine Below.drew ?_ | refine bl_drewN ?_ _ | refine bl_set ?_ (by omega) _ | refine bl_step ?_ (by assumption))
end Go.Proofs.YtboabgjgcnkelaaDoor
/- THE DOCUMENT'S PRODUCTS: times. -/
namespace Go.Proofs.YtboabgjgcnkelaaDoor
open Go.RowKit Go.Shelf
attribute [local go_sem ↓] Go.wp_at_zero Go.wp_at_succ

def pr (f : Nat → Int) : Nat → Int
  | 0 => 1
  | k + 1 => pr f k * f k
/-- The two cells of a big number, and that they may be written. -/
def Bc (w : World) (b : Nat) (s : Bool) (ao : Option Addr) (l c : Nat) : Prop :=
  w.cell? ⟨b, 0, none⟩ = some (.bool s) ∧ w.cell? ⟨b, 1, none⟩ = some (.slice ao l c) ∧ w.frozen? ⟨b, 0, none⟩ = false ∧ w.frozen? ⟨b, 1, none⟩ = false
theorem Bc.keep {w w' : World} {b : Nat} {s : Bool} {ao : Option Addr} {l c : Nat} (h : Bc w b s ao l c) (hb : Below w.heap.size w w') : Bc w' b s ao l c := by
  have z := lt_of_cell h.1
  exact ⟨keepc hb h.1, keepc hb h.2.1, keepf hb z h.2.2.1, keepf hb z h.2.2.2⟩
set_option maxHeartbeats 1600000 in
set_option maxRecDepth 100000 in
theorem times_any4 (f : Nat → Int) (m g cap : Nat) (hm : m ≤ 4) (w : World) (hf : ∀ i, i < m → w.cell? ⟨g, i, none⟩ = some (.int .i64 (f i))) (hi : ∀ i, i < m → I64 (f i)) (hfB : ∀ i, i < m → ((f i).natAbs : Int) < 65536 ^ 16) (hp : ∀ k, k ≤ m → ((pr f k).natAbs : Int) < 65536 ^ 16) :
    Calls Tryd.prog 36 #[.slice (some ⟨g, 0, none⟩) m cap] w fun e w' => ∃ z, e = .returned z ∧ Bg w' z (pr f m) ∧ Below w.heap.size w w' := by
  have HF := hid1 hf
  have HI := hid1 hi
  have HQ := hid1 hfB
  have HP := hid1 hp
  clear hf hi hp hfB
  have i1 : I64 1 := by unfold I64; omega
  have HO := hid1 (rint_any 1 i1)
  clear i1
  go_enter Tryd.func36, Tryd.ntmps36
  go_wp2_with fail
  refine (HO.out _).mono ?_
  rintro e w1 ⟨z1, rfl, hz1, hb1⟩
  obtain ⟨s0, ao0, l0, c0, rfl⟩ := hz1.form
  have HZ := hid1 hz1
  clear hz1
  have HR : Hid (Bc w1 w.heap.size false none 0 0) := hid1 (Bc.keep (w := w.alloc _) ⟨by simp [go_sem], by simp [go_sem], by simp [go_sem], by simp [go_sem]⟩ hb1)
  have B1 : Below w.heap.size w w1 := by repeat (first | exact Below.refl _ _ | refine bl_alloc ?_ _ | refine Below.drew ?_ | refine bl_drewN ?_ _ | refine bl_set ?_ (by omega) _ | refine bl_step ?_ (by assumption))
  have z1 := lt_of_cell HR.out.1
  clear hb1
  go_wp2_with fail
  go_loopw [4] (fun i wr => ∃ (k : Nat) (s : Bool) (ao : Option Addr) (l c : Nat), k ≤ m ∧ i = .int .i64 k ∧ Hid (Bc wr w1.heap.size s ao l c) ∧ Hid (Bg wr (.agg #[.bool s, .slice ao l c]) (pr f k)) ∧ Hid (Bc wr w.heap.size false none 0 0) ∧ Below w.heap.size w wr) (fun i _ => m - (intOf i).toNat)
  case atStart =>
    refine ⟨0, s0, ao0, l0, c0, by omega, rfl, ?_, ?_, ?_, ?_⟩
    · exact hid1 ⟨by simp [go_sem], by simp [go_sem], by simp [go_sem], by simp [go_sem]⟩
    · exact hid1 (HZ.out.below (by repeat (first | exact Below.refl _ _ | refine bl_alloc ?_ _ | refine Below.drew ?_ | refine bl_drewN ?_ _ | refine bl_set ?_ (by omega) _ | refine bl_step ?_ (by assumption))))
    · exact hid1 (HR.out.keep (by repeat (first | exact Below.refl _ _ | refine bl_alloc ?_ _ | refine Below.drew ?_ | refine bl_drewN ?_ _ | refine bl_set ?_ (by omega) _ | refine bl_step ?_ (by assumption))))
    · repeat (first | exact Below.refl _ _ | refine bl_alloc ?_ _ | refine Below.drew ?_ | refine bl_drewN ?_ _ | refine bl_set ?_ (by omega) _ | refine bl_step ?_ (by assumption))
  case round =>
    obtain ⟨k, s, ao, l, c, hk, rfl, HC, HB, HR2, hB⟩ := hrel
    have nT : ¬ w.heap.size = w1.heap.size := by omega
    have nT' : ¬ w1.heap.size = w.heap.size := by omega
    by_cases hlt : k < m
    · have hlt' : (k : Int) < m := by omega
      have a0 := keepc hB (HF.out k hlt)
      obtain ⟨x0, x1, x2, x3⟩ := HC.out
      have zx := lt_of_cell x0
      go_wp2_with fail
      go_region_with (first
        | (go_at_call 37; refine (rint_any (f k) (HI.out k hlt) _).mono ?_; rintro e X1 ⟨i1, rfl, hi1, hbi⟩; obtain ⟨si, oi, li, ci, rfl⟩ := hi1.form; have HI1 := hid1 hi1; clear hi1; have x0 := keepc hbi x0; have x1 := keepc hbi x1; have BI : Hid (Below wr.heap.size wr X1) := hid1 (by repeat (first | exact Below.refl _ _ | refine bl_alloc ?_ _ | refine Below.drew ?_ | refine bl_drewN ?_ _ | refine bl_set ?_ (by omega) _ | refine bl_step ?_ (by assumption))))
        | (go_at_call 38; refine (rmul_any (pr f k) (f k) _ _ _ (HB.out.below BI.out) HI1.out (HP.out k hk) (HQ.out k hlt)).mono ?_; rintro e X2 ⟨i2, rfl, hi2, hbj⟩; obtain ⟨sj, oj, lj, cj, rfl⟩ := hi2.form; have HJ := hid1 hi2; clear hi2; have BJ : Hid (Below wr.heap.size wr X2) := hid1 (bl_step BI.out hbj); obtain ⟨x0, x1, x2, x3⟩ := HC.out.keep BJ.out; have zx := lt_of_cell x0))
      all_goals
        have bj := BJ.out
        have BX : Hid (Bg X2 (.agg #[.bool sj, .slice oj lj cj]) (pr f (k + 1))) := HJ
        obtain ⟨y0, y1, y2, y3⟩ := HR2.out.keep bj
        have zy := lt_of_cell y0
        go_wp2_with fail
        refine ⟨⟨k + 1, sj, oj, lj, cj, by omega, rfl, ?_, ?_, ?_, ?_⟩, by simp [intOf]; omega⟩
        · exact hid1 ⟨by simp [go_sem, *], by simp [go_sem, *], by simp [go_sem, *], by simp [go_sem, *]⟩
        · exact hid1 ((BX.out.set ⟨_, x0⟩).set ⟨sj, by simp [go_sem, x0]⟩)
        · exact hid1 ⟨by simp [go_sem, *], by simp [go_sem, *], by simp [go_sem, *], by simp [go_sem, *]⟩
        · repeat (first | (with_reducible exact Below.refl _ _) | (with_reducible refine bl_alloc ?_ _) | (with_reducible refine Below.drew ?_) | (with_reducible refine bl_drewN ?_ _) | (with_reducible refine bl_set ?_ (by omega) _) | (with_reducible refine bl_step ?_ (by assumption)))
    · have : k = m := by omega
      subst this
      obtain ⟨x0, x1, x2, x3⟩ := HC.out
      obtain ⟨y0, y1, y2, y3⟩ := HR2.out
      have zx := lt_of_cell x0
      have zy := lt_of_cell y0
      go_wp2
      simp [bodyPost, results, Tryd.results36, go_sem, y0, y1]
      exact big_ret HB.out hB (Nat.le_refl _) ⟨_, y0⟩ _ _
end Go.Proofs.YtboabgjgcnkelaaDoor
/- THE DOCUMENT'S CHECK AND NORM. -/
namespace Go.Proofs.YtboabgjgcnkelaaDoor
open Go.RowKit Go.Shelf
attribute [local go_sem ↓] Go.wp_at_zero Go.wp_at_succ

set_option maxRecDepth 100000 in
theorem r4check_any (n d : Int) (w : World) :
    Calls Tryd.prog 23 #[fr n d] w fun e w' => e = .returned (.int .i64 (chF n d)) ∧ Below w.heap.size w w' := by
  by_cases h1 : d < 1
  · rw [chF_no (fun h => by have := h.1; omega)]
    go_enter Tryd.func23, Tryd.ntmps23
    go_wp2
    go_ret
    exact ⟨rfl, bl_alloc (Below.refl _ _) _⟩
  · by_cases h2 : 1048576 < d
    · rw [chF_no (fun h => by have := h.2.1; omega)]
      go_enter Tryd.func23, Tryd.ntmps23
      go_wp2
      go_ret
      exact ⟨rfl, bl_alloc (Below.refl _ _) _⟩
    · by_cases h3 : n < -2147483647
      · rw [chF_no (fun h => by have := h.2.2.1; omega)]
        go_enter Tryd.func23, Tryd.ntmps23
        go_wp2
        go_ret
        exact ⟨rfl, bl_alloc (Below.refl _ _) _⟩
      · by_cases h4 : 2147483647 < n
        · rw [chF_no (fun h => by have := h.2.2.2; omega)]
          go_enter Tryd.func23, Tryd.ntmps23
          go_wp2
          go_ret
          exact ⟨rfl, bl_alloc (Below.refl _ _) _⟩
        · rw [chF_ok ⟨by omega, by omega, by omega, by omega⟩]
          go_enter Tryd.func23, Tryd.ntmps23
          go_wp2
          go_ret
          exact ⟨rfl, bl_alloc (Below.refl _ _) _⟩
theorem divides_any (d n : Int) (hd : 2 ≤ d) (hd2 : d ≤ 2147483647) (w : World) :
    Calls Tryd.prog 41 #[.int .i64 d, .int .i64 n] w fun e w' => e = .returned (.bool (decide (d ∣ n))) ∧ w' = w := by
  have e := tmod_dvd (n := n) (d := d)
  have t := tmod_rng n (k := d) (by omega)
  have d0 : ¬ d = 0 := by omega
  obtain ⟨b, eb⟩ : ∃ b, decide (d ∣ n) = b := ⟨_, rfl⟩
  rw [eb] at e ⊢
  clear eb
  obtain ⟨r, er⟩ : ∃ r, n.tmod d = r := ⟨_, rfl⟩
  rw [er] at e t
  obtain ⟨t1, t2⟩ := t
  go_enter Tryd.func41, Tryd.ntmps41
  go_wp2
  go_ret
  refine ⟨by first | rfl | (simp [*]; done) | (rw [← e]; rfl), rfl⟩
set_option maxRecDepth 100000 in
theorem r4norm_no0 (gn gd bn bd mn md sn sd : Int) (h0 : chF gn gd = 40) (w : World) :
    Calls Tryd.prog 20 #[nm gn gd bn bd mn md sn sd] w fun e w' => e = .returned (.int .i64 40) ∧ Below w.heap.size w w' := by
  go_enter Tryd.func20, Tryd.ntmps20
  go_wp2_with fail
  refine gen_calls (fun W' => Below w.heap.size w W' ∧ Hid (Nm W' w.heap.size gn gd bn bd mn md sn sd)) ⟨by repeat (first | (with_reducible exact Below.refl _ _) | (with_reducible refine bl_alloc ?_ _) | (with_reducible refine Below.drew ?_) | (with_reducible refine bl_drewN ?_ _) | (with_reducible refine bl_set ?_ (by omega) _) | (with_reducible refine bl_step ?_ (by assumption))), hid1 ⟨by simp [go_sem], by simp [go_sem], by simp [go_sem], by simp [go_sem], by simp [go_sem], by simp [go_sem], by simp [go_sem], by simp [go_sem]⟩⟩ ?_
  rintro W0 ⟨B0, HM⟩
  obtain ⟨m0, m1, m2, m3, m4, m5, m6, m7⟩ := HM.out
  refine (r4check_any gn gd _).mono ?_
  rintro e w1 ⟨rfl, hb1⟩
  rw [h0]
  replace HM := hid1 (HM.out.keep hb1)
  have B1 : Below w.heap.size w w1 := by repeat (first | (with_reducible exact Below.refl _ _) | (with_reducible refine bl_alloc ?_ _) | (with_reducible refine Below.drew ?_) | (with_reducible refine bl_drewN ?_ _) | (with_reducible refine bl_set ?_ (by omega) _) | (with_reducible refine bl_step ?_ (by assumption)))
  clear hb1 m0 m1 m2 m3 m4 m5 m6 m7
  obtain ⟨m0, m1, m2, m3, m4, m5, m6, m7⟩ := HM.out
  go_wp2
  go_ret
  exact ⟨rfl, by repeat (first | (with_reducible exact Below.refl _ _) | (with_reducible refine bl_alloc ?_ _) | (with_reducible refine Below.drew ?_) | (with_reducible refine bl_drewN ?_ _) | (with_reducible refine bl_set ?_ (by omega) _) | (with_reducible refine bl_step ?_ (by assumption)))⟩
set_option maxRecDepth 100000 in
theorem r4norm_no1 (gn gd bn bd mn md sn sd : Int) (h0 : chF gn gd = 0) (h1 : chF bn bd = 40) (w : World) :
    Calls Tryd.prog 20 #[nm gn gd bn bd mn md sn sd] w fun e w' => e = .returned (.int .i64 40) ∧ Below w.heap.size w w' := by
  go_enter Tryd.func20, Tryd.ntmps20
  go_wp2_with fail
  refine gen_calls (fun W' => Below w.heap.size w W' ∧ Hid (Nm W' w.heap.size gn gd bn bd mn md sn sd)) ⟨by repeat (first | (with_reducible exact Below.refl _ _) | (with_reducible refine bl_alloc ?_ _) | (with_reducible refine Below.drew ?_) | (with_reducible refine bl_drewN ?_ _) | (with_reducible refine bl_set ?_ (by omega) _) | (with_reducible refine bl_step ?_ (by assumption))), hid1 ⟨by simp [go_sem], by simp [go_sem], by simp [go_sem], by simp [go_sem], by simp [go_sem], by simp [go_sem], by simp [go_sem], by simp [go_sem]⟩⟩ ?_
  rintro W0 ⟨B0, HM⟩
  obtain ⟨m0, m1, m2, m3, m4, m5, m6, m7⟩ := HM.out
  refine (r4check_any gn gd _).mono ?_
  rintro e w1 ⟨rfl, hb1⟩
  rw [h0]
  replace HM := hid1 (HM.out.keep hb1)
  have B1 : Below w.heap.size w w1 := by repeat (first | (with_reducible exact Below.refl _ _) | (with_reducible refine bl_alloc ?_ _) | (with_reducible refine Below.drew ?_) | (with_reducible refine bl_drewN ?_ _) | (with_reducible refine bl_set ?_ (by omega) _) | (with_reducible refine bl_step ?_ (by assumption)))
  clear hb1 m0 m1 m2 m3 m4 m5 m6 m7
  obtain ⟨m0, m1, m2, m3, m4, m5, m6, m7⟩ := HM.out
  go_wp2_with fail
  refine (r4check_any bn bd _).mono ?_
  rintro e w2 ⟨rfl, hb2⟩
  rw [h1]
  replace HM := hid1 (HM.out.keep hb2)
  have B2 : Below w.heap.size w w2 := by repeat (first | (with_reducible exact Below.refl _ _) | (with_reducible refine bl_alloc ?_ _) | (with_reducible refine Below.drew ?_) | (with_reducible refine bl_drewN ?_ _) | (with_reducible refine bl_set ?_ (by omega) _) | (with_reducible refine bl_step ?_ (by assumption)))
  clear hb2 B1 m0 m1 m2 m3 m4 m5 m6 m7
  obtain ⟨m0, m1, m2, m3, m4, m5, m6, m7⟩ := HM.out
  go_wp2
  go_ret
  exact ⟨rfl, by repeat (first | (with_reducible exact Below.refl _ _) | (with_reducible refine bl_alloc ?_ _) | (with_reducible refine Below.drew ?_) | (with_reducible refine bl_drewN ?_ _) | (with_reducible refine bl_set ?_ (by omega) _) | (with_reducible refine bl_step ?_ (by assumption)))⟩
set_option maxRecDepth 100000 in
theorem r4norm_no2 (gn gd bn bd mn md sn sd : Int) (h0 : chF gn gd = 0) (h1 : chF bn bd = 0) (h2 : chF mn md = 40) (w : World) :
    Calls Tryd.prog 20 #[nm gn gd bn bd mn md sn sd] w fun e w' => e = .returned (.int .i64 40) ∧ Below w.heap.size w w' := by
  go_enter Tryd.func20, Tryd.ntmps20
  go_wp2_with fail
  refine gen_calls (fun W' => Below w.heap.size w W' ∧ Hid (Nm W' w.heap.size gn gd bn bd mn md sn sd)) ⟨by repeat (first | (with_reducible exact Below.refl _ _) | (with_reducible refine bl_alloc ?_ _) | (with_reducible refine Below.drew ?_) | (with_reducible refine bl_drewN ?_ _) | (with_reducible refine bl_set ?_ (by omega) _) | (with_reducible refine bl_step ?_ (by assumption))), hid1 ⟨by simp [go_sem], by simp [go_sem], by simp [go_sem], by simp [go_sem], by simp [go_sem], by simp [go_sem], by simp [go_sem], by simp [go_sem]⟩⟩ ?_
  rintro W0 ⟨B0, HM⟩
  obtain ⟨m0, m1, m2, m3, m4, m5, m6, m7⟩ := HM.out
  refine (r4check_any gn gd _).mono ?_
  rintro e w1 ⟨rfl, hb1⟩
  rw [h0]
  replace HM := hid1 (HM.out.keep hb1)
  have B1 : Below w.heap.size w w1 := by repeat (first | (with_reducible exact Below.refl _ _) | (with_reducible refine bl_alloc ?_ _) | (with_reducible refine Below.drew ?_) | (with_reducible refine bl_drewN ?_ _) | (with_reducible refine bl_set ?_ (by omega) _) | (with_reducible refine bl_step ?_ (by assumption)))
  clear hb1 m0 m1 m2 m3 m4 m5 m6 m7
  obtain ⟨m0, m1, m2, m3, m4, m5, m6, m7⟩ := HM.out
  go_wp2_with fail
  refine (r4check_any bn bd _).mono ?_
  rintro e w2 ⟨rfl, hb2⟩
  rw [h1]
  replace HM := hid1 (HM.out.keep hb2)
  have B2 : Below w.heap.size w w2 := by repeat (first | (with_reducible exact Below.refl _ _) | (with_reducible refine bl_alloc ?_ _) | (with_reducible refine Below.drew ?_) | (with_reducible refine bl_drewN ?_ _) | (with_reducible refine bl_set ?_ (by omega) _) | (with_reducible refine bl_step ?_ (by assumption)))
  clear hb2 B1 m0 m1 m2 m3 m4 m5 m6 m7
  obtain ⟨m0, m1, m2, m3, m4, m5, m6, m7⟩ := HM.out
  go_wp2_with fail
  refine (r4check_any mn md _).mono ?_
  rintro e w3 ⟨rfl, hb3⟩
  rw [h2]
  replace HM := hid1 (HM.out.keep hb3)
  have B3 : Below w.heap.size w w3 := by repeat (first | (with_reducible exact Below.refl _ _) | (with_reducible refine bl_alloc ?_ _) | (with_reducible refine Below.drew ?_) | (with_reducible refine bl_drewN ?_ _) | (with_reducible refine bl_set ?_ (by omega) _) | (with_reducible refine bl_step ?_ (by assumption)))
  clear hb3 B2 m0 m1 m2 m3 m4 m5 m6 m7
  obtain ⟨m0, m1, m2, m3, m4, m5, m6, m7⟩ := HM.out
  go_wp2
  go_ret
  exact ⟨rfl, by repeat (first | (with_reducible exact Below.refl _ _) | (with_reducible refine bl_alloc ?_ _) | (with_reducible refine Below.drew ?_) | (with_reducible refine bl_drewN ?_ _) | (with_reducible refine bl_set ?_ (by omega) _) | (with_reducible refine bl_step ?_ (by assumption)))⟩
set_option maxRecDepth 100000 in
theorem r4norm_no3 (gn gd bn bd mn md sn sd : Int) (h0 : chF gn gd = 0) (h1 : chF bn bd = 0) (h2 : chF mn md = 0) (h3 : chF sn sd = 40) (w : World) :
    Calls Tryd.prog 20 #[nm gn gd bn bd mn md sn sd] w fun e w' => e = .returned (.int .i64 40) ∧ Below w.heap.size w w' := by
  go_enter Tryd.func20, Tryd.ntmps20
  go_wp2_with fail
  refine gen_calls (fun W' => Below w.heap.size w W' ∧ Hid (Nm W' w.heap.size gn gd bn bd mn md sn sd)) ⟨by repeat (first | (with_reducible exact Below.refl _ _) | (with_reducible refine bl_alloc ?_ _) | (with_reducible refine Below.drew ?_) | (with_reducible refine bl_drewN ?_ _) | (with_reducible refine bl_set ?_ (by omega) _) | (with_reducible refine bl_step ?_ (by assumption))), hid1 ⟨by simp [go_sem], by simp [go_sem], by simp [go_sem], by simp [go_sem], by simp [go_sem], by simp [go_sem], by simp [go_sem], by simp [go_sem]⟩⟩ ?_
  rintro W0 ⟨B0, HM⟩
  obtain ⟨m0, m1, m2, m3, m4, m5, m6, m7⟩ := HM.out
  refine (r4check_any gn gd _).mono ?_
  rintro e w1 ⟨rfl, hb1⟩
  rw [h0]
  replace HM := hid1 (HM.out.keep hb1)
  have B1 : Below w.heap.size w w1 := by repeat (first | (with_reducible exact Below.refl _ _) | (with_reducible refine bl_alloc ?_ _) | (with_reducible refine Below.drew ?_) | (with_reducible refine bl_drewN ?_ _) | (with_reducible refine bl_set ?_ (by omega) _) | (with_reducible refine bl_step ?_ (by assumption)))
  clear hb1 m0 m1 m2 m3 m4 m5 m6 m7
  obtain ⟨m0, m1, m2, m3, m4, m5, m6, m7⟩ := HM.out
  go_wp2_with fail
  refine (r4check_any bn bd _).mono ?_
  rintro e w2 ⟨rfl, hb2⟩
  rw [h1]
  replace HM := hid1 (HM.out.keep hb2)
  have B2 : Below w.heap.size w w2 := by repeat (first | (with_reducible exact Below.refl _ _) | (with_reducible refine bl_alloc ?_ _) | (with_reducible refine Below.drew ?_) | (with_reducible refine bl_drewN ?_ _) | (with_reducible refine bl_set ?_ (by omega) _) | (with_reducible refine bl_step ?_ (by assumption)))
  clear hb2 B1 m0 m1 m2 m3 m4 m5 m6 m7
  obtain ⟨m0, m1, m2, m3, m4, m5, m6, m7⟩ := HM.out
  go_wp2_with fail
  refine (r4check_any mn md _).mono ?_
  rintro e w3 ⟨rfl, hb3⟩
  rw [h2]
  replace HM := hid1 (HM.out.keep hb3)
  have B3 : Below w.heap.size w w3 := by repeat (first | (with_reducible exact Below.refl _ _) | (with_reducible refine bl_alloc ?_ _) | (with_reducible refine Below.drew ?_) | (with_reducible refine bl_drewN ?_ _) | (with_reducible refine bl_set ?_ (by omega) _) | (with_reducible refine bl_step ?_ (by assumption)))
  clear hb3 B2 m0 m1 m2 m3 m4 m5 m6 m7
  obtain ⟨m0, m1, m2, m3, m4, m5, m6, m7⟩ := HM.out
  go_wp2_with fail
  refine (r4check_any sn sd _).mono ?_
  rintro e w4 ⟨rfl, hb4⟩
  rw [h3]
  replace HM := hid1 (HM.out.keep hb4)
  have B4 : Below w.heap.size w w4 := by repeat (first | (with_reducible exact Below.refl _ _) | (with_reducible refine bl_alloc ?_ _) | (with_reducible refine Below.drew ?_) | (with_reducible refine bl_drewN ?_ _) | (with_reducible refine bl_set ?_ (by omega) _) | (with_reducible refine bl_step ?_ (by assumption)))
  clear hb4 B3 m0 m1 m2 m3 m4 m5 m6 m7
  obtain ⟨m0, m1, m2, m3, m4, m5, m6, m7⟩ := HM.out
  go_wp2
  go_ret
  exact ⟨rfl, by repeat (first | (with_reducible exact Below.refl _ _) | (with_reducible refine bl_alloc ?_ _) | (with_reducible refine Below.drew ?_) | (with_reducible refine bl_drewN ?_ _) | (with_reducible refine bl_set ?_ (by omega) _) | (with_reducible refine bl_step ?_ (by assumption)))⟩
set_option maxRecDepth 100000 in
theorem r4norm_small (gn gd bn bd mn md sn sd : Int) (h0 : chF gn gd = 0) (h1 : chF bn bd = 0) (h2 : chF mn md = 0) (h3 : chF sn sd = 0) (hs : sn < 1) (w : World) :
    Calls Tryd.prog 20 #[nm gn gd bn bd mn md sn sd] w fun e w' => e = .returned (.int .i64 53) ∧ Below w.heap.size w w' := by
  go_enter Tryd.func20, Tryd.ntmps20
  go_wp2_with fail
  refine gen_calls (fun W' => Below w.heap.size w W' ∧ Hid (Nm W' w.heap.size gn gd bn bd mn md sn sd)) ⟨by repeat (first | (with_reducible exact Below.refl _ _) | (with_reducible refine bl_alloc ?_ _) | (with_reducible refine Below.drew ?_) | (with_reducible refine bl_drewN ?_ _) | (with_reducible refine bl_set ?_ (by omega) _) | (with_reducible refine bl_step ?_ (by assumption))), hid1 ⟨by simp [go_sem], by simp [go_sem], by simp [go_sem], by simp [go_sem], by simp [go_sem], by simp [go_sem], by simp [go_sem], by simp [go_sem]⟩⟩ ?_
  rintro W0 ⟨B0, HM⟩
  obtain ⟨m0, m1, m2, m3, m4, m5, m6, m7⟩ := HM.out
  refine (r4check_any gn gd _).mono ?_
  rintro e w1 ⟨rfl, hb1⟩
  rw [h0]
  replace HM := hid1 (HM.out.keep hb1)
  have B1 : Below w.heap.size w w1 := by repeat (first | (with_reducible exact Below.refl _ _) | (with_reducible refine bl_alloc ?_ _) | (with_reducible refine Below.drew ?_) | (with_reducible refine bl_drewN ?_ _) | (with_reducible refine bl_set ?_ (by omega) _) | (with_reducible refine bl_step ?_ (by assumption)))
  clear hb1 m0 m1 m2 m3 m4 m5 m6 m7
  obtain ⟨m0, m1, m2, m3, m4, m5, m6, m7⟩ := HM.out
  go_wp2_with fail
  refine (r4check_any bn bd _).mono ?_
  rintro e w2 ⟨rfl, hb2⟩
  rw [h1]
  replace HM := hid1 (HM.out.keep hb2)
  have B2 : Below w.heap.size w w2 := by repeat (first | (with_reducible exact Below.refl _ _) | (with_reducible refine bl_alloc ?_ _) | (with_reducible refine Below.drew ?_) | (with_reducible refine bl_drewN ?_ _) | (with_reducible refine bl_set ?_ (by omega) _) | (with_reducible refine bl_step ?_ (by assumption)))
  clear hb2 B1 m0 m1 m2 m3 m4 m5 m6 m7
  obtain ⟨m0, m1, m2, m3, m4, m5, m6, m7⟩ := HM.out
  go_wp2_with fail
  refine (r4check_any mn md _).mono ?_
  rintro e w3 ⟨rfl, hb3⟩
  rw [h2]
  replace HM := hid1 (HM.out.keep hb3)
  have B3 : Below w.heap.size w w3 := by repeat (first | (with_reducible exact Below.refl _ _) | (with_reducible refine bl_alloc ?_ _) | (with_reducible refine Below.drew ?_) | (with_reducible refine bl_drewN ?_ _) | (with_reducible refine bl_set ?_ (by omega) _) | (with_reducible refine bl_step ?_ (by assumption)))
  clear hb3 B2 m0 m1 m2 m3 m4 m5 m6 m7
  obtain ⟨m0, m1, m2, m3, m4, m5, m6, m7⟩ := HM.out
  go_wp2_with fail
  refine (r4check_any sn sd _).mono ?_
  rintro e w4 ⟨rfl, hb4⟩
  rw [h3]
  replace HM := hid1 (HM.out.keep hb4)
  have B4 : Below w.heap.size w w4 := by repeat (first | (with_reducible exact Below.refl _ _) | (with_reducible refine bl_alloc ?_ _) | (with_reducible refine Below.drew ?_) | (with_reducible refine bl_drewN ?_ _) | (with_reducible refine bl_set ?_ (by omega) _) | (with_reducible refine bl_step ?_ (by assumption)))
  clear hb4 B3 m0 m1 m2 m3 m4 m5 m6 m7
  obtain ⟨m0, m1, m2, m3, m4, m5, m6, m7⟩ := HM.out
  go_wp2
  go_ret
  exact ⟨rfl, by repeat (first | (with_reducible exact Below.refl _ _) | (with_reducible refine bl_alloc ?_ _) | (with_reducible refine Below.drew ?_) | (with_reducible refine bl_drewN ?_ _) | (with_reducible refine bl_set ?_ (by omega) _) | (with_reducible refine bl_step ?_ (by assumption)))⟩
set_option maxRecDepth 100000 in
theorem r4norm_ok (gn gd bn bd mn md sn sd : Int) (h0 : chF gn gd = 0) (h1 : chF bn bd = 0) (h2 : chF mn md = 0) (h3 : chF sn sd = 0) (hs : ¬ sn < 1) (w : World) :
    Calls Tryd.prog 20 #[nm gn gd bn bd mn md sn sd] w fun e w' => e = .returned (.int .i64 0) ∧ Below w.heap.size w w' := by
  go_enter Tryd.func20, Tryd.ntmps20
  go_wp2_with fail
  refine gen_calls (fun W' => Below w.heap.size w W' ∧ Hid (Nm W' w.heap.size gn gd bn bd mn md sn sd)) ⟨by repeat (first | (with_reducible exact Below.refl _ _) | (with_reducible refine bl_alloc ?_ _) | (with_reducible refine Below.drew ?_) | (with_reducible refine bl_drewN ?_ _) | (with_reducible refine bl_set ?_ (by omega) _) | (with_reducible refine bl_step ?_ (by assumption))), hid1 ⟨by simp [go_sem], by simp [go_sem], by simp [go_sem], by simp [go_sem], by simp [go_sem], by simp [go_sem], by simp [go_sem], by simp [go_sem]⟩⟩ ?_
  rintro W0 ⟨B0, HM⟩
  obtain ⟨m0, m1, m2, m3, m4, m5, m6, m7⟩ := HM.out
  refine (r4check_any gn gd _).mono ?_
  rintro e w1 ⟨rfl, hb1⟩
  rw [h0]
  replace HM := hid1 (HM.out.keep hb1)
  have B1 : Below w.heap.size w w1 := by repeat (first | (with_reducible exact Below.refl _ _) | (with_reducible refine bl_alloc ?_ _) | (with_reducible refine Below.drew ?_) | (with_reducible refine bl_drewN ?_ _) | (with_reducible refine bl_set ?_ (by omega) _) | (with_reducible refine bl_step ?_ (by assumption)))
  clear hb1 m0 m1 m2 m3 m4 m5 m6 m7
  obtain ⟨m0, m1, m2, m3, m4, m5, m6, m7⟩ := HM.out
  go_wp2_with fail
  refine (r4check_any bn bd _).mono ?_
  rintro e w2 ⟨rfl, hb2⟩
  rw [h1]
  replace HM := hid1 (HM.out.keep hb2)
  have B2 : Below w.heap.size w w2 := by repeat (first | (with_reducible exact Below.refl _ _) | (with_reducible refine bl_alloc ?_ _) | (with_reducible refine Below.drew ?_) | (with_reducible refine bl_drewN ?_ _) | (with_reducible refine bl_set ?_ (by omega) _) | (with_reducible refine bl_step ?_ (by assumption)))
  clear hb2 B1 m0 m1 m2 m3 m4 m5 m6 m7
  obtain ⟨m0, m1, m2, m3, m4, m5, m6, m7⟩ := HM.out
  go_wp2_with fail
  refine (r4check_any mn md _).mono ?_
  rintro e w3 ⟨rfl, hb3⟩
  rw [h2]
  replace HM := hid1 (HM.out.keep hb3)
  have B3 : Below w.heap.size w w3 := by repeat (first | (with_reducible exact Below.refl _ _) | (with_reducible refine bl_alloc ?_ _) | (with_reducible refine Below.drew ?_) | (with_reducible refine bl_drewN ?_ _) | (with_reducible refine bl_set ?_ (by omega) _) | (with_reducible refine bl_step ?_ (by assumption)))
  clear hb3 B2 m0 m1 m2 m3 m4 m5 m6 m7
  obtain ⟨m0, m1, m2, m3, m4, m5, m6, m7⟩ := HM.out
  go_wp2_with fail
  refine (r4check_any sn sd _).mono ?_
  rintro e w4 ⟨rfl, hb4⟩
  rw [h3]
  replace HM := hid1 (HM.out.keep hb4)
  have B4 : Below w.heap.size w w4 := by repeat (first | (with_reducible exact Below.refl _ _) | (with_reducible refine bl_alloc ?_ _) | (with_reducible refine Below.drew ?_) | (with_reducible refine bl_drewN ?_ _) | (with_reducible refine bl_set ?_ (by omega) _) | (with_reducible refine bl_step ?_ (by assumption)))
  clear hb4 B3 m0 m1 m2 m3 m4 m5 m6 m7
  obtain ⟨m0, m1, m2, m3, m4, m5, m6, m7⟩ := HM.out
  go_wp2
  go_ret
  exact ⟨rfl, by repeat (first | (with_reducible exact Below.refl _ _) | (with_reducible refine bl_alloc ?_ _) | (with_reducible refine Below.drew ?_) | (with_reducible refine bl_drewN ?_ _) | (with_reducible refine bl_set ?_ (by omega) _) | (with_reducible refine bl_step ?_ (by assumption)))⟩
theorem r4norm_any (gn gd bn bd mn md sn sd : Int) (w : World) :
    Calls Tryd.prog 20 #[nm gn gd bn bd mn md sn sd] w fun e w' => e = .returned (.int .i64 (noE gn gd bn bd mn md sn sd)) ∧ Below w.heap.size w w' := by
  unfold noE
  by_cases h0 : Fr gn gd
  · by_cases h1 : Fr bn bd
    · by_cases h2 : Fr mn md
      · by_cases h3 : Fr sn sd
        · rw [if_pos ⟨h0, h1, h2, h3⟩]
          by_cases hs : sn < 1
          · rw [if_pos hs]; exact r4norm_small _ _ _ _ _ _ _ _ (chF_ok h0) (chF_ok h1) (chF_ok h2) (chF_ok h3) hs w
          · rw [if_neg hs]; exact r4norm_ok _ _ _ _ _ _ _ _ (chF_ok h0) (chF_ok h1) (chF_ok h2) (chF_ok h3) hs w
        · rw [if_neg (fun k => h3 k.2.2.2)]; exact r4norm_no3 _ _ _ _ _ _ _ _ (chF_ok h0) (chF_ok h1) (chF_ok h2) (chF_no h3) w
      · rw [if_neg (fun k => h2 k.2.2.1)]; exact r4norm_no2 _ _ _ _ _ _ _ _ (chF_ok h0) (chF_ok h1) (chF_no h2) w
    · rw [if_neg (fun k => h1 k.2.1)]; exact r4norm_no1 _ _ _ _ _ _ _ _ (chF_ok h0) (chF_no h1) w
  · rw [if_neg (fun k => h0 k.1)]; exact r4norm_no0 _ _ _ _ _ _ _ _ (chF_no h0) w
end Go.Proofs.YtboabgjgcnkelaaDoor
/- THE DOCUMENT'S PLUS: what its regions want. -/
namespace Go.Proofs.YtboabgjgcnkelaaDoor
open Go.RowKit Go.Shelf
attribute [local go_sem ↓] Go.wp_at_zero Go.wp_at_succ

def fn2 (a b : Int) : Nat → Int | 0 => a | _ => b
def fn3 (a b c : Int) : Nat → Int | 0 => a | 1 => b | _ => c
def fn4 (a b c d : Int) : Nat → Int | 0 => a | 1 => b | 2 => c | _ => d
theorem pow16 : (65536 : Int) ^ 16 = 115792089237316195423570985008687907853269984665640564039457584007913129639936 := by decide
theorem lt16 {n : Int} (h : -10000000000000000000000000000000000000 ≤ n ∧ n ≤ 10000000000000000000000000000000000000) : (n.natAbs : Int) < 65536 ^ 16 := by rw [pow16]; omega
theorem le1640 : (65536 : Int) ^ 16 ≤ 65536 ^ 40 := by decide +kernel
theorem lt40 {n : Int} (h : -10000000000000000000000000000000000000 ≤ n ∧ n ≤ 10000000000000000000000000000000000000) : (n.natAbs : Int) < 65536 ^ 40 := Int.lt_of_lt_of_le (lt16 h) le1640
def Md (n : Int) : Prop := -10000000000000000000000000000000000000 ≤ n ∧ n ≤ 10000000000000000000000000000000000000
theorem i64_md {n : Int} (h : I64 n) : Md n := by unfold I64 at h; unfold Md; omega
theorem times2 (a b : Int) (ha : I64 a) (hb : I64 b) (hab : Md (a * b)) (w : World) (g cap : Nat) (h0 : w.cell? ⟨g, 0, none⟩ = some (.int .i64 a)) (h1 : w.cell? ⟨g, 1, none⟩ = some (.int .i64 b)) :
    Calls Tryd.prog 36 #[.slice (some ⟨g, 0, none⟩) 2 cap] w fun e w' => ∃ z, e = .returned z ∧ Bg w' z (a * b) ∧ Below w.heap.size w w' := by
  have e1 : pr (fn2 a b) 1 = a := Int.one_mul a
  have e2 : pr (fn2 a b) 2 = a * b := by show pr (fn2 a b) 1 * b = a * b; rw [e1]
  rw [← e2]
  refine times_any4 (fn2 a b) 2 g cap (by decide) w (fun i hi => ?_) (fun i hi => ?_) (fun i hi => ?_) (fun k hk => ?_)
  · match i, hi with
    | 0, _ => exact h0
    | 1, _ => exact h1
  · match i, hi with
    | 0, _ => exact ha
    | 1, _ => exact hb
  · match i, hi with
    | 0, _ => exact lt16 (i64_md ha)
    | 1, _ => exact lt16 (i64_md hb)
  · match k, hk with
    | 0, _ => exact lt16 ⟨by show _ ≤ (1 : Int); omega, by show (1 : Int) ≤ _; omega⟩
    | 1, _ => rw [e1]; exact lt16 (i64_md ha)
    | 2, _ => rw [e2]; exact lt16 hab
theorem times3 (a b c : Int) (ha : I64 a) (hb : I64 b) (hc : I64 c) (hab : Md (a * b)) (habc : Md (a * b * c)) (w : World) (g cap : Nat) (h0 : w.cell? ⟨g, 0, none⟩ = some (.int .i64 a)) (h1 : w.cell? ⟨g, 1, none⟩ = some (.int .i64 b)) (h2 : w.cell? ⟨g, 2, none⟩ = some (.int .i64 c)) :
    Calls Tryd.prog 36 #[.slice (some ⟨g, 0, none⟩) 3 cap] w fun e w' => ∃ z, e = .returned z ∧ Bg w' z (a * b * c) ∧ Below w.heap.size w w' := by
  have e1 : pr (fn3 a b c) 1 = a := Int.one_mul a
  have e2 : pr (fn3 a b c) 2 = a * b := by show pr (fn3 a b c) 1 * b = a * b; rw [e1]
  have e3 : pr (fn3 a b c) 3 = a * b * c := by show pr (fn3 a b c) 2 * c = a * b * c; rw [e2]
  rw [← e3]
  refine times_any4 (fn3 a b c) 3 g cap (by decide) w (fun i hi => ?_) (fun i hi => ?_) (fun i hi => ?_) (fun k hk => ?_)
  · match i, hi with
    | 0, _ => exact h0
    | 1, _ => exact h1
    | 2, _ => exact h2
  · match i, hi with
    | 0, _ => exact ha
    | 1, _ => exact hb
    | 2, _ => exact hc
  · match i, hi with
    | 0, _ => exact lt16 (i64_md ha)
    | 1, _ => exact lt16 (i64_md hb)
    | 2, _ => exact lt16 (i64_md hc)
  · match k, hk with
    | 0, _ => exact lt16 ⟨by show _ ≤ (1 : Int); omega, by show (1 : Int) ≤ _; omega⟩
    | 1, _ => rw [e1]; exact lt16 (i64_md ha)
    | 2, _ => rw [e2]; exact lt16 hab
    | 3, _ => rw [e3]; exact lt16 habc
theorem times4 (a b c d : Int) (ha : I64 a) (hb : I64 b) (hc : I64 c) (hd : I64 d) (hab : Md (a * b)) (habc : Md (a * b * c)) (habcd : Md (a * b * c * d)) (w : World) (g cap : Nat) (h0 : w.cell? ⟨g, 0, none⟩ = some (.int .i64 a)) (h1 : w.cell? ⟨g, 1, none⟩ = some (.int .i64 b)) (h2 : w.cell? ⟨g, 2, none⟩ = some (.int .i64 c)) (h3 : w.cell? ⟨g, 3, none⟩ = some (.int .i64 d)) :
    Calls Tryd.prog 36 #[.slice (some ⟨g, 0, none⟩) 4 cap] w fun e w' => ∃ z, e = .returned z ∧ Bg w' z (a * b * c * d) ∧ Below w.heap.size w w' := by
  have e1 : pr (fn4 a b c d) 1 = a := Int.one_mul a
  have e2 : pr (fn4 a b c d) 2 = a * b := by show pr (fn4 a b c d) 1 * b = a * b; rw [e1]
  have e3 : pr (fn4 a b c d) 3 = a * b * c := by show pr (fn4 a b c d) 2 * c = a * b * c; rw [e2]
  have e4 : pr (fn4 a b c d) 4 = a * b * c * d := by show pr (fn4 a b c d) 3 * d = a * b * c * d; rw [e3]
  rw [← e4]
  refine times_any4 (fn4 a b c d) 4 g cap (by decide) w (fun i hi => ?_) (fun i hi => ?_) (fun i hi => ?_) (fun k hk => ?_)
  · match i, hi with
    | 0, _ => exact h0
    | 1, _ => exact h1
    | 2, _ => exact h2
    | 3, _ => exact h3
  · match i, hi with
    | 0, _ => exact ha
    | 1, _ => exact hb
    | 2, _ => exact hc
    | 3, _ => exact hd
  · match i, hi with
    | 0, _ => exact lt16 (i64_md ha)
    | 1, _ => exact lt16 (i64_md hb)
    | 2, _ => exact lt16 (i64_md hc)
    | 3, _ => exact lt16 (i64_md hd)
  · match k, hk with
    | 0, _ => exact lt16 ⟨by show _ ≤ (1 : Int); omega, by show (1 : Int) ≤ _; omega⟩
    | 1, _ => rw [e1]; exact lt16 (i64_md ha)
    | 2, _ => rw [e2]; exact lt16 hab
    | 3, _ => rw [e3]; exact lt16 habc
    | 4, _ => rw [e4]; exact lt16 habcd
theorem bc_new {W : World} {t : TypeId} {g : Nat} {s : Bool} {ao : Option Addr} {l c : Nat} (hg : W.heap.size = g) : Bc (W.alloc (.cells #[.bool s, .slice ao l c] t)) g s ao l c := by
  subst hg
  exact ⟨by simp [go_sem], by simp [go_sem], by simp [go_sem], by simp [go_sem]⟩
theorem bc_0 {W w' : World} {t : TypeId} (hb : Below (W.alloc (.cells #[.bool false, .slice none 0 0] t)).heap.size (W.alloc (.cells #[.bool false, .slice none 0 0] t)) w') : Bc w' W.heap.size false none 0 0 := Bc.keep (bc_new rfl) hb
theorem bc_B {W w' : World} {t : TypeId} {o : Obj} (hb : Below ((W.alloc (.cells #[.bool false, .slice none 0 0] t)).alloc o).drew.heap.size ((W.alloc (.cells #[.bool false, .slice none 0 0] t)).alloc o).drew w') : Bc w' W.heap.size false none 0 0 :=
  Bc.keep (Bc.keep (bc_new rfl) (Below.drew (bl_alloc (Below.refl _ _) o))) hb
theorem bc_C {W w' : World} {t : TypeId} {o : Obj} (hb : Below ((W.alloc o).alloc (.cells #[.bool false, .slice none 0 0] t)).drew.heap.size ((W.alloc o).alloc (.cells #[.bool false, .slice none 0 0] t)).drew w') : Bc w' (W.heap.size + 1) false none 0 0 :=
  Bc.keep (Bc.keep (bc_new (by simp)) (Below.drew (Below.refl _ _))) hb
end Go.Proofs.YtboabgjgcnkelaaDoor
/- THE DOCUMENT'S PLUS: its first two regions. -/
namespace Go.Proofs.YtboabgjgcnkelaaDoor
open Go.RowKit Go.Shelf
attribute [local go_sem ↓] Go.wp_at_zero Go.wp_at_succ

theorem nm10 {W X : World} {b M : Nat} {gn gd bn bd mn md sn sd : Int} {s : Bool} {ao : Option Addr} {l c : Nat} (h : Nm W b gn gd bn bd mn md sn sd) (h2 : Bc W M s ao l c) (hb : Below W.heap.size W X) : X.cell? ⟨b, 0, none⟩ = some (.int .i64 gn) ∧ X.cell? ⟨b, 1, none⟩ = some (.int .i64 gd) ∧ X.cell? ⟨b, 2, none⟩ = some (.int .i64 bn) ∧ X.cell? ⟨b, 3, none⟩ = some (.int .i64 bd) ∧ X.cell? ⟨b, 4, none⟩ = some (.int .i64 mn) ∧ X.cell? ⟨b, 5, none⟩ = some (.int .i64 md) ∧ X.cell? ⟨b, 6, none⟩ = some (.int .i64 sn) ∧ X.cell? ⟨b, 7, none⟩ = some (.int .i64 sd) ∧ X.cell? ⟨M, 0, none⟩ = some (.bool s) ∧ X.cell? ⟨M, 1, none⟩ = some (.slice ao l c) := by
  obtain ⟨a0, a1, a2, a3, a4, a5, a6, a7⟩ := h.keep hb
  obtain ⟨b0, b1, _, _⟩ := h2.keep hb
  exact ⟨a0, a1, a2, a3, a4, a5, a6, a7, b0, b1⟩
theorem bc_set {W : World} {g : Nat} {s s' : Bool} {ao ao' : Option Addr} {l c l' c' : Nat} (h : Bc W g s ao l c) : Bc ((W.setCell ⟨g, 0, none⟩ (.bool s')).setCell ⟨g, 1, none⟩ (.slice ao' l' c')) g s' ao' l' c' := by
  obtain ⟨x0, x1, x2, x3⟩ := h
  have z := lt_of_cell x0
  exact ⟨by simp [go_sem, *], by simp [go_sem, *], by simp [go_sem, *], by simp [go_sem, *]⟩
theorem bg_set {W : World} {g : Nat} {s s' : Bool} {ao : Option Addr} {l c : Nat} {v y : Value} {n : Int} (h : Bc W g s ao l c) (hb : Bg W y n) : Bg ((W.setCell ⟨g, 0, none⟩ (.bool s')).setCell ⟨g, 1, none⟩ v) y n :=
  (hb.set ⟨_, h.1⟩).set ⟨s', by simp [go_sem, h.1]⟩
theorem nm8' {W X : World} {b : Nat} {gn gd bn bd mn md sn sd : Int} (h : Nm W b gn gd bn bd mn md sn sd) (hb : Below W.heap.size W X) : Nm X b gn gd bn bd mn md sn sd := h.keep hb
set_option maxHeartbeats 1600000 in
set_option maxRecDepth 100000 in
theorem r4plus_core (gn gd bn bd mn md sn sd x a1 k l1 L R : Int) (p : Bool)
    (hN : ∀ w : World, Calls Tryd.prog 20 #[nm gn gd bn bd mn md sn sd] w fun e w' => e = .returned (.int .i64 0) ∧ Below w.heap.size w w')
    (x1 : ¬ x < -2147483647) (x2 : ¬ 2147483647 < x)
    (T1 : ∀ (w : World) (g cap : Nat), w.cell? ⟨g, 0, none⟩ = some (.int .i64 x) → w.cell? ⟨g, 1, none⟩ = some (.int .i64 md) → Calls Tryd.prog 36 #[.slice (some ⟨g, 0, none⟩) 2 cap] w fun e w' => ∃ z, e = .returned z ∧ Bg w' z a1 ∧ Below w.heap.size w w')
    (I1 : ∀ w : World, Calls Tryd.prog 37 #[.int .i64 mn] w fun e w' => ∃ z, e = .returned z ∧ Bg w' z mn ∧ Below w.heap.size w w')
    (S1 : ∀ (y z : Value) (w : World), Bg w y a1 → Bg w z mn → Calls Tryd.prog 35 #[y, z] w fun e w' => ∃ u, e = .returned u ∧ Bg w' u k ∧ Below w.heap.size w w')
    (T2 : ∀ (w : World) (g cap : Nat), w.cell? ⟨g, 0, none⟩ = some (.int .i64 gn) → w.cell? ⟨g, 1, none⟩ = some (.int .i64 sd) → w.cell? ⟨g, 2, none⟩ = some (.int .i64 bd) → Calls Tryd.prog 36 #[.slice (some ⟨g, 0, none⟩) 3 cap] w fun e w' => ∃ z, e = .returned z ∧ Bg w' z l1 ∧ Below w.heap.size w w')
    (M2 : ∀ (y z : Value) (w : World), Bg w y k → Bg w z l1 → Calls Tryd.prog 38 #[y, z] w fun e w' => ∃ u, e = .returned u ∧ Bg w' u L ∧ Below w.heap.size w w')
    (T3 : ∀ (w : World) (g cap : Nat), w.cell? ⟨g, 0, none⟩ = some (.int .i64 bn) → w.cell? ⟨g, 1, none⟩ = some (.int .i64 gd) → w.cell? ⟨g, 2, none⟩ = some (.int .i64 md) → w.cell? ⟨g, 3, none⟩ = some (.int .i64 sn) → Calls Tryd.prog 36 #[.slice (some ⟨g, 0, none⟩) 4 cap] w fun e w' => ∃ z, e = .returned z ∧ Bg w' z R ∧ Below w.heap.size w w')
    (A3 : ∀ (y z : Value) (w : World), Bg w y L → Bg w z R → Calls Tryd.prog 40 #[y, z] w fun e w' => ∃ u, e = .returned u ∧ Bg w' u (L + R) ∧ Below w.heap.size w w')
    (I0 : ∀ w : World, Calls Tryd.prog 37 #[.int .i64 0] w fun e w' => ∃ z, e = .returned z ∧ Bg w' z 0 ∧ Below w.heap.size w w')
    (C0 : ∀ (y z : Value) (w : World), Bg w y (L + R) → Bg w z 0 → Calls Tryd.prog 39 #[y, z] w fun e w' => ∃ v, e = .returned (.int .i64 v) ∧ decide (0 ≤ v) = p ∧ Below w.heap.size w w')
    (w : World) :
    Calls Tryd.prog 21 #[nm gn gd bn bd mn md sn sd, .int .i64 x] w fun e w' => e = .returned (.tuple #[.bool p, .int .i64 0]) ∧ Below w.heap.size w w' := by
  have HN := hid1 hN; have HT1 := hid1 T1; have HI1 := hid1 I1; have HS1 := hid1 S1; have HT2 := hid1 T2; have HM2 := hid1 M2; have HT3 := hid1 T3; have HA3 := hid1 A3; have HI0 := hid1 I0; have HC0 := hid1 C0
  clear hN T1 I1 S1 T2 M2 T3 A3 I0 C0
  go_enter Tryd.func21, Tryd.ntmps21
  go_wp2_with fail
  refine gen_calls (fun W' => Below w.heap.size w W' ∧ Hid (Nm W' w.heap.size gn gd bn bd mn md sn sd)) ⟨by repeat (first | (with_reducible exact Below.refl _ _) | (with_reducible refine bl_alloc ?_ _) | (with_reducible refine Below.drew ?_) | (with_reducible refine bl_drewN ?_ _) | (with_reducible refine bl_set ?_ (by omega) _) | (with_reducible refine bl_step ?_ (by assumption))), hid1 (ny_new rfl).1⟩ ?_
  rintro W ⟨B0, HM⟩
  refine (HN.out _).mono ?_
  rintro e w1 ⟨rfl, hb1⟩
  replace HM := hid1 (HM.out.keep hb1)
  have B1 : Below w.heap.size w w1 := by repeat (first | (with_reducible exact Below.refl _ _) | (with_reducible refine bl_alloc ?_ _) | (with_reducible refine Below.drew ?_) | (with_reducible refine bl_drewN ?_ _) | (with_reducible refine bl_set ?_ (by omega) _) | (with_reducible refine bl_step ?_ (by assumption)))
  have zB := B1.size
  clear hb1 B0 HN
  go_upto_region 6 with fail
  go_cut [7] (fun s7 wx => ∃ M s ao l c, w1.heap.size ≤ M ∧ s7 = .pointer (some ⟨M, 0, none⟩) ∧ Hid (Bc wx M s ao l c) ∧ Hid (Bg wx (.agg #[.bool s, .slice ao l c]) k) ∧ Hid (Nm wx w.heap.size gn gd bn bd mn md sn sd) ∧ Below w.heap.size w wx)
  case first =>
    obtain ⟨m0, m1, m2, m3, m4, m5, m6, m7⟩ := HM.out
    go_region_held3 (fun X => X.cell? ⟨w.heap.size, 0, none⟩ = some (.int .i64 gn) ∧ X.cell? ⟨w.heap.size, 1, none⟩ = some (.int .i64 gd) ∧ X.cell? ⟨w.heap.size, 2, none⟩ = some (.int .i64 bn) ∧ X.cell? ⟨w.heap.size, 3, none⟩ = some (.int .i64 bd) ∧ X.cell? ⟨w.heap.size, 4, none⟩ = some (.int .i64 mn) ∧ X.cell? ⟨w.heap.size, 5, none⟩ = some (.int .i64 md) ∧ X.cell? ⟨w.heap.size, 6, none⟩ = some (.int .i64 sn) ∧ X.cell? ⟨w.heap.size, 7, none⟩ = some (.int .i64 sd)) (((try dsimp only); (with_reducible refine nm8 HM.out ?_); repeat (first | (with_reducible exact Below.refl _ _) | (with_reducible refine bl_alloc ?_ _) | (with_reducible refine Below.drew ?_) | (with_reducible refine bl_drewN ?_ _) | (with_reducible refine bl_set ?_ (by omega) _) | (with_reducible refine bl_step ?_ (by assumption)))))
      (first
        | (go_at_call 36; (with_reducible refine (HT1.out _ _ _ (by simp [go_sem]) (by simp [go_sem])).mono ?_); rintro e X1 ⟨u1, rfl, h1, hb1⟩; obtain ⟨s1, o1, l1, c1, rfl⟩ := h1.form; have HB1 := hid1 h1; clear h1; have z1 : w1.heap.size ≤ X1.heap.size := Nat.le_trans (by first | exact Nat.le_refl _ | (simp; done) | (simp; omega)) hb1.size; (first | (with_reducible have NA := hid1 (bc_B (W := w1) hb1)) | (with_reducible have NA := hid1 (bc_C (W := w1) hb1)) | skip))
        | (go_at_call 37; (with_reducible refine (HI1.out _).mono ?_); rintro e X2 ⟨u2, rfl, h2, hb2⟩; obtain ⟨s2, o2, l2, c2, rfl⟩ := h2.form; have HB2 := hid1 h2; clear h2; have HB1 := hid1 (HB1.out.below (w' := X2) (by repeat (first | (with_reducible exact Below.refl _ _) | (with_reducible refine bl_alloc ?_ _) | (with_reducible refine Below.drew ?_) | (with_reducible refine bl_drewN ?_ _) | (with_reducible refine bl_set ?_ (by omega) _) | (with_reducible refine bl_step ?_ (by assumption))))); have z2 : X1.heap.size ≤ X2.heap.size := Nat.le_trans (by first | exact Nat.le_refl _ | (simp; done) | (simp; omega)) hb2.size; (first | (with_reducible have NB := hid1 (bc_0 (W := X1) hb2)) | (with_reducible have NB := hid1 (NA.out.keep hb2)) | skip))
        | (go_at_call 35; (with_reducible refine (HS1.out _ _ _ (HB1.out.below (by repeat (first | (with_reducible exact Below.refl _ _) | (with_reducible refine bl_alloc ?_ _) | (with_reducible refine Below.drew ?_) | (with_reducible refine bl_drewN ?_ _) | (with_reducible refine bl_set ?_ (by omega) _) | (with_reducible refine bl_step ?_ (by assumption))))) (HB2.out.below (by repeat (first | (with_reducible exact Below.refl _ _) | (with_reducible refine bl_alloc ?_ _) | (with_reducible refine Below.drew ?_) | (with_reducible refine bl_drewN ?_ _) | (with_reducible refine bl_set ?_ (by omega) _) | (with_reducible refine bl_step ?_ (by assumption)))))).mono ?_); rintro e X3 ⟨u3, rfl, h3, hb3⟩; obtain ⟨s3, o3, l3, c3, rfl⟩ := h3.form; have HB3 := hid1 h3; clear h3; have z3 : X2.heap.size ≤ X3.heap.size := Nat.le_trans (by first | exact Nat.le_refl _ | (simp; done) | (simp; omega)) hb3.size; (first | ((with_reducible have NC := hid1 (bc_0 (W := X2) hb3)); obtain ⟨n0, n1, n2, n3⟩ := NC.out; have zn := lt_of_cell n0) | ((with_reducible have NC := hid1 (NB.out.keep hb3)); obtain ⟨n0, n1, n2, n3⟩ := NC.out; have zn := lt_of_cell n0) | skip)))
    all_goals go_wp2_with fail
    all_goals go_meet
    · exact ⟨_, s3, o3, l3, c3, by omega, rfl, hid1 (bc_new rfl), hid1 (HB3.out.below (by repeat (first | (with_reducible exact Below.refl _ _) | (with_reducible refine bl_alloc ?_ _) | (with_reducible refine Below.drew ?_) | (with_reducible refine bl_drewN ?_ _) | (with_reducible refine bl_set ?_ (by omega) _) | (with_reducible refine bl_step ?_ (by assumption))))), hid1 (HM.out.keep (by repeat (first | (with_reducible exact Below.refl _ _) | (with_reducible refine bl_alloc ?_ _) | (with_reducible refine Below.drew ?_) | (with_reducible refine bl_drewN ?_ _) | (with_reducible refine bl_set ?_ (by omega) _) | (with_reducible refine bl_step ?_ (by assumption))))), by repeat (first | (with_reducible exact Below.refl _ _) | (with_reducible refine bl_alloc ?_ _) | (with_reducible refine Below.drew ?_) | (with_reducible refine bl_drewN ?_ _) | (with_reducible refine bl_set ?_ (by omega) _) | (with_reducible refine bl_step ?_ (by assumption)))⟩
    · exact ⟨_, s3, o3, l3, c3, by omega, rfl, hid1 (bc_set NC.out), hid1 (bg_set NC.out HB3.out), hid1 (HM.out.keep (by repeat (first | (with_reducible exact Below.refl _ _) | (with_reducible refine bl_alloc ?_ _) | (with_reducible refine Below.drew ?_) | (with_reducible refine bl_drewN ?_ _) | (with_reducible refine bl_set ?_ (by omega) _) | (with_reducible refine bl_step ?_ (by assumption))))), by repeat (first | (with_reducible exact Below.refl _ _) | (with_reducible refine bl_alloc ?_ _) | (with_reducible refine Below.drew ?_) | (with_reducible refine bl_drewN ?_ _) | (with_reducible refine bl_set ?_ (by omega) _) | (with_reducible refine bl_step ?_ (by assumption)))⟩
    · exact ⟨_, s3, o3, l3, c3, by omega, rfl, hid1 (bc_set NC.out), hid1 (bg_set NC.out HB3.out), hid1 (HM.out.keep (by repeat (first | (with_reducible exact Below.refl _ _) | (with_reducible refine bl_alloc ?_ _) | (with_reducible refine Below.drew ?_) | (with_reducible refine bl_drewN ?_ _) | (with_reducible refine bl_set ?_ (by omega) _) | (with_reducible refine bl_step ?_ (by assumption))))), by repeat (first | (with_reducible exact Below.refl _ _) | (with_reducible refine bl_alloc ?_ _) | (with_reducible refine Below.drew ?_) | (with_reducible refine bl_drewN ?_ _) | (with_reducible refine bl_set ?_ (by omega) _) | (with_reducible refine bl_step ?_ (by assumption)))⟩
    · exact ⟨_, s3, o3, l3, c3, by omega, rfl, hid1 (bc_set NC.out), hid1 (bg_set NC.out HB3.out), hid1 (HM.out.keep (by repeat (first | (with_reducible exact Below.refl _ _) | (with_reducible refine bl_alloc ?_ _) | (with_reducible refine Below.drew ?_) | (with_reducible refine bl_drewN ?_ _) | (with_reducible refine bl_set ?_ (by omega) _) | (with_reducible refine bl_step ?_ (by assumption))))), by repeat (first | (with_reducible exact Below.refl _ _) | (with_reducible refine bl_alloc ?_ _) | (with_reducible refine Below.drew ?_) | (with_reducible refine bl_drewN ?_ _) | (with_reducible refine bl_set ?_ (by omega) _) | (with_reducible refine bl_step ?_ (by assumption)))⟩
    · exact ⟨_, s3, o3, l3, c3, by omega, rfl, hid1 (bc_set NC.out), hid1 (bg_set NC.out HB3.out), hid1 (HM.out.keep (by repeat (first | (with_reducible exact Below.refl _ _) | (with_reducible refine bl_alloc ?_ _) | (with_reducible refine Below.drew ?_) | (with_reducible refine bl_drewN ?_ _) | (with_reducible refine bl_set ?_ (by omega) _) | (with_reducible refine bl_step ?_ (by assumption))))), by repeat (first | (with_reducible exact Below.refl _ _) | (with_reducible refine bl_alloc ?_ _) | (with_reducible refine Below.drew ?_) | (with_reducible refine bl_drewN ?_ _) | (with_reducible refine bl_set ?_ (by omega) _) | (with_reducible refine bl_step ?_ (by assumption)))⟩
  case rest =>
    clear HM
    obtain ⟨M, s, ao, l, c, zM, rfl, HC, HK, HM, BC⟩ := hcut
    rename World => V
    clear B1 HT1 HI1 HS1
    have zV := BC.size
    go_upto_region 7 with fail
    go_cut [8] (fun s8 wx => ∃ M' s' ao' l' c', V.heap.size ≤ M' ∧ s8 = .pointer (some ⟨M', 0, none⟩) ∧ Hid (Bc wx M' s' ao' l' c') ∧ Hid (Bg wx (.agg #[.bool s', .slice ao' l' c']) L) ∧ Hid (Nm wx w.heap.size gn gd bn bd mn md sn sd) ∧ Below w.heap.size w wx)
    case first =>
      obtain ⟨m0, m1, m2, m3, m4, m5, m6, m7⟩ := HM.out
      obtain ⟨y0, y1, _, _⟩ := HC.out
      go_region_held3 (fun X => X.cell? ⟨w.heap.size, 0, none⟩ = some (.int .i64 gn) ∧ X.cell? ⟨w.heap.size, 1, none⟩ = some (.int .i64 gd) ∧ X.cell? ⟨w.heap.size, 2, none⟩ = some (.int .i64 bn) ∧ X.cell? ⟨w.heap.size, 3, none⟩ = some (.int .i64 bd) ∧ X.cell? ⟨w.heap.size, 4, none⟩ = some (.int .i64 mn) ∧ X.cell? ⟨w.heap.size, 5, none⟩ = some (.int .i64 md) ∧ X.cell? ⟨w.heap.size, 6, none⟩ = some (.int .i64 sn) ∧ X.cell? ⟨w.heap.size, 7, none⟩ = some (.int .i64 sd) ∧ X.cell? ⟨M, 0, none⟩ = some (.bool s) ∧ X.cell? ⟨M, 1, none⟩ = some (.slice ao l c)) (((try dsimp only); (with_reducible refine nm10 HM.out HC.out ?_); repeat (first | (with_reducible exact Below.refl _ _) | (with_reducible refine bl_alloc ?_ _) | (with_reducible refine Below.drew ?_) | (with_reducible refine bl_drewN ?_ _) | (with_reducible refine bl_set ?_ (by omega) _) | (with_reducible refine bl_step ?_ (by assumption)))))
        (first
          | (go_at_call 36; (with_reducible refine (HT2.out _ _ _ (by simp [go_sem]) (by simp [go_sem]) (by simp [go_sem])).mono ?_); rintro e X1 ⟨u1, rfl, h1, hb1⟩; obtain ⟨s1, o1, l1, c1, rfl⟩ := h1.form; have HB1 := hid1 h1; clear h1; have z1 : V.heap.size ≤ X1.heap.size := Nat.le_trans (by first | exact Nat.le_refl _ | (simp; done) | (simp; omega)) hb1.size; (first | (with_reducible have NA := hid1 (bc_B (W := V) hb1)) | (with_reducible have NA := hid1 (bc_C (W := V) hb1)) | skip))
          | (go_at_call 38; (with_reducible refine (HM2.out _ _ _ (HK.out.below (by repeat (first | (with_reducible exact Below.refl _ _) | (with_reducible refine bl_alloc ?_ _) | (with_reducible refine Below.drew ?_) | (with_reducible refine bl_drewN ?_ _) | (with_reducible refine bl_set ?_ (by omega) _) | (with_reducible refine bl_step ?_ (by assumption))))) (HB1.out.below (by repeat (first | (with_reducible exact Below.refl _ _) | (with_reducible refine bl_alloc ?_ _) | (with_reducible refine Below.drew ?_) | (with_reducible refine bl_drewN ?_ _) | (with_reducible refine bl_set ?_ (by omega) _) | (with_reducible refine bl_step ?_ (by assumption)))))).mono ?_); rintro e X3 ⟨u3, rfl, h3, hb3⟩; obtain ⟨s3, o3, l3, c3, rfl⟩ := h3.form; have HB3 := hid1 h3; clear h3; have z3 : X1.heap.size ≤ X3.heap.size := Nat.le_trans (by first | exact Nat.le_refl _ | (simp; done) | (simp; omega)) hb3.size; (first | ((with_reducible have NC := hid1 (bc_0 (W := X1) hb3)); obtain ⟨n0, n1, n2, n3⟩ := NC.out; have zn := lt_of_cell n0) | ((with_reducible have NC := hid1 (NA.out.keep hb3)); obtain ⟨n0, n1, n2, n3⟩ := NC.out; have zn := lt_of_cell n0) | skip)))
      all_goals go_wp2_with fail
      all_goals go_meet
      · exact ⟨_, s3, o3, l3, c3, by omega, rfl, hid1 (bc_new rfl), hid1 (HB3.out.below (by repeat (first | (with_reducible exact Below.refl _ _) | (with_reducible refine bl_alloc ?_ _) | (with_reducible refine Below.drew ?_) | (with_reducible refine bl_drewN ?_ _) | (with_reducible refine bl_set ?_ (by omega) _) | (with_reducible refine bl_step ?_ (by assumption))))), hid1 (HM.out.keep (by repeat (first | (with_reducible exact Below.refl _ _) | (with_reducible refine bl_alloc ?_ _) | (with_reducible refine Below.drew ?_) | (with_reducible refine bl_drewN ?_ _) | (with_reducible refine bl_set ?_ (by omega) _) | (with_reducible refine bl_step ?_ (by assumption))))), by repeat (first | (with_reducible exact Below.refl _ _) | (with_reducible refine bl_alloc ?_ _) | (with_reducible refine Below.drew ?_) | (with_reducible refine bl_drewN ?_ _) | (with_reducible refine bl_set ?_ (by omega) _) | (with_reducible refine bl_step ?_ (by assumption)))⟩
      · exact ⟨_, s3, o3, l3, c3, by omega, rfl, hid1 (bc_set NC.out), hid1 (bg_set NC.out HB3.out), hid1 (HM.out.keep (by repeat (first | (with_reducible exact Below.refl _ _) | (with_reducible refine bl_alloc ?_ _) | (with_reducible refine Below.drew ?_) | (with_reducible refine bl_drewN ?_ _) | (with_reducible refine bl_set ?_ (by omega) _) | (with_reducible refine bl_step ?_ (by assumption))))), by repeat (first | (with_reducible exact Below.refl _ _) | (with_reducible refine bl_alloc ?_ _) | (with_reducible refine Below.drew ?_) | (with_reducible refine bl_drewN ?_ _) | (with_reducible refine bl_set ?_ (by omega) _) | (with_reducible refine bl_step ?_ (by assumption)))⟩
      · exact ⟨_, s3, o3, l3, c3, by omega, rfl, hid1 (bc_set NC.out), hid1 (bg_set NC.out HB3.out), hid1 (HM.out.keep (by repeat (first | (with_reducible exact Below.refl _ _) | (with_reducible refine bl_alloc ?_ _) | (with_reducible refine Below.drew ?_) | (with_reducible refine bl_drewN ?_ _) | (with_reducible refine bl_set ?_ (by omega) _) | (with_reducible refine bl_step ?_ (by assumption))))), by repeat (first | (with_reducible exact Below.refl _ _) | (with_reducible refine bl_alloc ?_ _) | (with_reducible refine Below.drew ?_) | (with_reducible refine bl_drewN ?_ _) | (with_reducible refine bl_set ?_ (by omega) _) | (with_reducible refine bl_step ?_ (by assumption)))⟩
      · exact ⟨_, s3, o3, l3, c3, by omega, rfl, hid1 (bc_set NC.out), hid1 (bg_set NC.out HB3.out), hid1 (HM.out.keep (by repeat (first | (with_reducible exact Below.refl _ _) | (with_reducible refine bl_alloc ?_ _) | (with_reducible refine Below.drew ?_) | (with_reducible refine bl_drewN ?_ _) | (with_reducible refine bl_set ?_ (by omega) _) | (with_reducible refine bl_step ?_ (by assumption))))), by repeat (first | (with_reducible exact Below.refl _ _) | (with_reducible refine bl_alloc ?_ _) | (with_reducible refine Below.drew ?_) | (with_reducible refine bl_drewN ?_ _) | (with_reducible refine bl_set ?_ (by omega) _) | (with_reducible refine bl_step ?_ (by assumption)))⟩
    case rest =>
      clear HM HC HK
      obtain ⟨M', s', ao', l', c', zM', rfl, HC, HK, HM, BC2⟩ := hcut
      rename World => V2
      clear BC HT2 HM2
      obtain ⟨m0, m1, m2, m3, m4, m5, m6, m7⟩ := HM.out
      have zm := lt_of_cell m0
      go_wp2_with fail
      refine (HT3.out _ _ _ (by simp [go_sem]) (by simp [go_sem]) (by simp [go_sem]) (by simp [go_sem])).mono ?_
      rintro e X1 ⟨u1, rfl, h1, hb1⟩
      obtain ⟨s1, o1, l1', c1, rfl⟩ := h1.form
      have HB1 := hid1 h1
      clear h1
      have b1 : Below V2.heap.size V2 X1 := by repeat (first | (with_reducible exact Below.refl _ _) | (with_reducible refine bl_alloc ?_ _) | (with_reducible refine Below.drew ?_) | (with_reducible refine bl_drewN ?_ _) | (with_reducible refine bl_set ?_ (by omega) _) | (with_reducible refine bl_step ?_ (by assumption)))
      replace HC := hid1 (HC.out.keep b1)
      replace HK := hid1 (HK.out.below b1)
      have B3 : Below w.heap.size w X1 := by repeat (first | (with_reducible exact Below.refl _ _) | (with_reducible refine bl_alloc ?_ _) | (with_reducible refine Below.drew ?_) | (with_reducible refine bl_drewN ?_ _) | (with_reducible refine bl_set ?_ (by omega) _) | (with_reducible refine bl_step ?_ (by assumption)))
      clear hb1 b1 BC2 m0 m1 m2 m3 m4 m5 m6 m7 zm HM HT3
      obtain ⟨y0, y1, _, _⟩ := HC.out
      have zy := lt_of_cell y0
      go_wp2_with fail
      refine (HA3.out _ _ _ (HK.out.below (by repeat (first | (with_reducible exact Below.refl _ _) | (with_reducible refine bl_alloc ?_ _) | (with_reducible refine Below.drew ?_) | (with_reducible refine bl_drewN ?_ _) | (with_reducible refine bl_set ?_ (by omega) _) | (with_reducible refine bl_step ?_ (by assumption))))) (HB1.out.below (by repeat (first | (with_reducible exact Below.refl _ _) | (with_reducible refine bl_alloc ?_ _) | (with_reducible refine Below.drew ?_) | (with_reducible refine bl_drewN ?_ _) | (with_reducible refine bl_set ?_ (by omega) _) | (with_reducible refine bl_step ?_ (by assumption)))))).mono ?_
      rintro e X2 ⟨u2, rfl, h2, hb2⟩
      obtain ⟨s2, o2, l2', c2, rfl⟩ := h2.form
      have HB2 := hid1 h2
      clear h2
      have B4 : Below w.heap.size w X2 := by repeat (first | (with_reducible exact Below.refl _ _) | (with_reducible refine bl_alloc ?_ _) | (with_reducible refine Below.drew ?_) | (with_reducible refine bl_drewN ?_ _) | (with_reducible refine bl_set ?_ (by omega) _) | (with_reducible refine bl_step ?_ (by assumption)))
      clear hb2 B3 y0 y1 zy HC HK HB1 HA3
      go_wp2_with fail
      refine (HI0.out _).mono ?_
      rintro e X3 ⟨u3, rfl, h3, hb3⟩
      obtain ⟨s3, o3, l3', c3, rfl⟩ := h3.form
      have HB3 := hid1 h3
      clear h3
      replace HB2 := hid1 (HB2.out.below hb3)
      have B5 : Below w.heap.size w X3 := by repeat (first | (with_reducible exact Below.refl _ _) | (with_reducible refine bl_alloc ?_ _) | (with_reducible refine Below.drew ?_) | (with_reducible refine bl_drewN ?_ _) | (with_reducible refine bl_set ?_ (by omega) _) | (with_reducible refine bl_step ?_ (by assumption)))
      clear hb3 B4
      go_wp2_with fail
      refine (HC0.out _ _ _ HB2.out HB3.out).mono ?_
      rintro e X4 ⟨v, rfl, hv, hb4⟩
      have HV := hid1 hv
      clear hv
      go_wp2
      go_ret2
      refine ⟨by rw [← HV.out]; rfl, ?_⟩
      repeat (first | (with_reducible exact Below.refl _ _) | (with_reducible refine bl_alloc ?_ _) | (with_reducible refine Below.drew ?_) | (with_reducible refine bl_drewN ?_ _) | (with_reducible refine bl_set ?_ (by omega) _) | (with_reducible refine bl_step ?_ (by assumption)))
end Go.Proofs.YtboabgjgcnkelaaDoor
/- THE DOCUMENT'S PLUS: THE WHOLE. -/
namespace Go.Proofs.YtboabgjgcnkelaaDoor
open Go.RowKit Go.Shelf
attribute [local go_sem ↓] Go.wp_at_zero Go.wp_at_succ

theorem sgn_zero (d : Int) : decide (0 ≤ sgnOf d) = decide (0 ≤ d) := by
  by_cases h : 0 ≤ d
  · rw [decide_eq_true h]; refine decide_eq_true ?_; unfold sgnOf; split <;> (try split) <;> omega
  · rw [decide_eq_false h]; refine decide_eq_false ?_; unfold sgnOf; split <;> (try split) <;> omega
set_option maxRecDepth 100000 in
theorem r4plus_no1 (gn gd bn bd mn md sn sd x : Int) (h : ¬ noE gn gd bn bd mn md sn sd = 0) (w : World) :
    Calls Tryd.prog 21 #[nm gn gd bn bd mn md sn sd, .int .i64 x] w fun e w' => e = .returned (.tuple #[.bool false, .int .i64 (noE gn gd bn bd mn md sn sd)]) ∧ Below w.heap.size w w' := by
  have HN := hid1 (r4norm_any gn gd bn bd mn md sn sd)
  obtain ⟨v, ev⟩ : ∃ v, noE gn gd bn bd mn md sn sd = v := ⟨_, rfl⟩
  rw [ev] at HN h ⊢
  clear ev
  go_enter Tryd.func21, Tryd.ntmps21
  go_wp2_with fail
  refine (HN.out _).mono ?_
  rintro e w1 ⟨rfl, hb1⟩
  go_wp2
  go_ret2
  refine ⟨rfl, ?_⟩
  repeat (first | exact Below.refl _ _ | refine bl_alloc ?_ _ | refine Below.drew ?_ | refine bl_drewN ?_ _ | refine bl_set ?_ (by omega) _ | refine bl_step ?_ (by assumption))
set_option maxRecDepth 100000 in
theorem r4plus_no2 (gn gd bn bd mn md sn sd x : Int) (h : noE gn gd bn bd mn md sn sd = 0) (h2 : ¬ Sm x) (w : World) :
    Calls Tryd.prog 21 #[nm gn gd bn bd mn md sn sd, .int .i64 x] w fun e w' => e = .returned (.tuple #[.bool false, .int .i64 1]) ∧ Below w.heap.size w w' := by
  have HN := hid1 (r4norm_any gn gd bn bd mn md sn sd)
  rw [h] at HN
  clear h
  by_cases x1 : x < -2147483647
  · go_enter Tryd.func21, Tryd.ntmps21
    go_wp2_with fail
    refine (HN.out _).mono ?_
    rintro e w1 ⟨rfl, hb1⟩
    go_wp2
    go_ret2
    refine ⟨rfl, ?_⟩
    repeat (first | exact Below.refl _ _ | refine bl_alloc ?_ _ | refine Below.drew ?_ | refine bl_drewN ?_ _ | refine bl_set ?_ (by omega) _ | refine bl_step ?_ (by assumption))
  · have x2 : 2147483647 < x := by
      by_cases k : 2147483647 < x
      · exact k
      · exact absurd ⟨by omega, by omega⟩ h2
    go_enter Tryd.func21, Tryd.ntmps21
    go_wp2_with fail
    refine (HN.out _).mono ?_
    rintro e w1 ⟨rfl, hb1⟩
    go_wp2
    go_ret2
    refine ⟨rfl, ?_⟩
    repeat (first | exact Below.refl _ _ | refine bl_alloc ?_ _ | refine Below.drew ?_ | refine bl_drewN ?_ _ | refine bl_set ?_ (by omega) _ | refine bl_step ?_ (by assumption))
theorem r4plus_ok (gn gd bn bd mn md sn sd x : Int) (h : noE gn gd bn bd mn md sn sd = 0) (hx : Sm x) (w : World) :
    Calls Tryd.prog 21 #[nm gn gd bn bd mn md sn sd, .int .i64 x] w fun e w' => e = .returned (.tuple #[.bool (decide (0 ≤ nv gn gd bn bd mn md sn sd x)), .int .i64 0]) ∧ Below w.heap.size w w' := by
  obtain ⟨hg, hb, hm, hs, s1⟩ := noE_ok h
  have HN := r4norm_any gn gd bn bd mn md sn sd
  rw [h] at HN
  have km := mid_bd hm hx
  have xm := bd_mul (A := 2147483647) (B := 1048576) (a := x) (b := md) hx ⟨by have := hm.1; omega, hm.2.1⟩
  obtain ⟨l1, l2, l3⟩ := left_bd hg hb hm hs hx
  obtain ⟨r1, r2, r3⟩ := right_bd hg hb hm hs
  have g1 : I64 gn := ⟨by have := hg.2.2.1; omega, by have := hg.2.2.2; omega⟩
  have g2 : I64 gd := ⟨by have := hg.1; omega, by have := hg.2.1; omega⟩
  have b1 : I64 bn := ⟨by have := hb.2.2.1; omega, by have := hb.2.2.2; omega⟩
  have b2 : I64 bd := ⟨by have := hb.1; omega, by have := hb.2.1; omega⟩
  have m1 : I64 mn := ⟨by have := hm.2.2.1; omega, by have := hm.2.2.2; omega⟩
  have m2 : I64 md := ⟨by have := hm.1; omega, by have := hm.2.1; omega⟩
  have t1 : I64 sn := ⟨by have := hs.2.2.1; omega, by have := hs.2.2.2; omega⟩
  have t2 : I64 sd := ⟨by have := hs.1; omega, by have := hs.2.1; omega⟩
  have xI : I64 x := ⟨by have := hx.1; omega, by have := hx.2; omega⟩
  have i0 : I64 0 := ⟨by omega, by omega⟩
  have q1 := bd_mul (A := 2147483647) (B := 1048576) (a := gn) (b := sd) hg.2.2 ⟨by have := hs.1; omega, hs.2.1⟩
  have q2 := bd_mul q1 (B := 1048576) (b := bd) ⟨by have := hb.1; omega, hb.2.1⟩
  have eL : (x * md - mn) * (gn * sd * bd) = gn * (x * md - mn) * sd * bd := by ac_rfl
  have e0 : gn * (x * md - mn) * sd * bd + bn * gd * md * sn - 0 = gn * (x * md - mn) * sd * bd + bn * gd * md * sn := by omega
  refine r4plus_core gn gd bn bd mn md sn sd x (x * md) (x * md - mn) (gn * sd * bd) (gn * (x * md - mn) * sd * bd) (bn * gd * md * sn) _ HN (by have := hx.1; omega) (by have := hx.2; omega)
    (fun w g cap h0 h1 => times2 x md xI m2 ⟨by omega, by omega⟩ w g cap h0 h1) (rint_any mn m1)
    (fun y z w hy hz => rsub_any _ _ y z w hy hz (lt40 ⟨by omega, by omega⟩) (lt40 (i64_md m1)))
    (fun w g cap h0 h1 h2 => times3 gn sd bd g1 t2 b2 ⟨by omega, by omega⟩ ⟨by omega, by omega⟩ w g cap h0 h1 h2)
    (fun y z w hy hz => eL ▸ rmul_any _ _ y z w hy hz (lt16 ⟨by omega, by omega⟩) (lt16 ⟨by omega, by omega⟩))
    (fun w g cap h0 h1 h2 h3 => times4 bn gd md sn b1 g2 m2 t1 ⟨by omega, by omega⟩ ⟨by omega, by omega⟩ ⟨by omega, by omega⟩ w g cap h0 h1 h2 h3)
    (fun y z w hy hz => radd_any _ _ y z w hy hz (lt40 ⟨by omega, by omega⟩) (lt40 ⟨by omega, by omega⟩)) (rint_any 0 i0)
    (fun y z w hy hz => (rcmp_any _ _ y z w hy hz (lt40 ⟨by omega, by omega⟩) (lt40 ⟨by omega, by omega⟩) _ e0).mono ?_) w
  rintro e w' ⟨rfl, hb'⟩
  exact ⟨_, rfl, sgn_zero _, hb'⟩
theorem r4plus_any (gn gd bn bd mn md sn sd x : Int) (w : World) :
    Calls Tryd.prog 21 #[nm gn gd bn bd mn md sn sd, .int .i64 x] w fun e w' => e = .returned (.tuple #[.bool (plV gn gd bn bd mn md sn sd x), .int .i64 (plE gn gd bn bd mn md sn sd x)]) ∧ Below w.heap.size w w' := by
  unfold plV plE
  by_cases h : noE gn gd bn bd mn md sn sd = 0
  · by_cases h2 : Sm x
    · rw [decide_eq_true h, decide_eq_true h2, if_pos h, if_pos h2]
      exact r4plus_ok gn gd bn bd mn md sn sd x h h2 w
    · rw [decide_eq_true h, decide_eq_false h2, if_pos h, if_neg h2]
      exact r4plus_no2 gn gd bn bd mn md sn sd x h h2 w
  · rw [decide_eq_false h, if_neg h]
    exact r4plus_no1 gn gd bn bd mn md sn sd x h w
end Go.Proofs.YtboabgjgcnkelaaDoor
/- LISTS OF FRACTIONS AND NORMS. -/
namespace Go.Proofs.YtboabgjgcnkelaaDoor
open Go.RowKit Go.Shelf

/-- A norm's cells from a place on. -/
def No (w : World) (g o : Nat) (gn gd bn bd mn md sn sd : Int) : Prop := w.cell? ⟨g, o, none⟩ = some (.int .i64 gn) ∧ w.cell? ⟨g, o + 1, none⟩ = some (.int .i64 gd) ∧ w.cell? ⟨g, o + 2, none⟩ = some (.int .i64 bn) ∧ w.cell? ⟨g, o + 3, none⟩ = some (.int .i64 bd) ∧ w.cell? ⟨g, o + 4, none⟩ = some (.int .i64 mn) ∧ w.cell? ⟨g, o + 5, none⟩ = some (.int .i64 md) ∧ w.cell? ⟨g, o + 6, none⟩ = some (.int .i64 sn) ∧ w.cell? ⟨g, o + 7, none⟩ = some (.int .i64 sd)
theorem No.keep {w w' : World} {g o : Nat} {gn gd bn bd mn md sn sd : Int} (h : No w g o gn gd bn bd mn md sn sd) (hb : Below w.heap.size w w') : No w' g o gn gd bn bd mn md sn sd := by
  obtain ⟨a, c, d, e, f, h, i, j⟩ := h
  exact ⟨keepc hb a, keepc hb c, keepc hb d, keepc hb e, keepc hb f, keepc hb h, keepc hb i, keepc hb j⟩
theorem kp9 {W X : World} {g o gx ox : Nat} {gn gd bn bd mn md sn sd x : Int} (h : No W g o gn gd bn bd mn md sn sd) (hx : W.cell? ⟨gx, ox, none⟩ = some (.int .i64 x)) (hb : Below W.heap.size W X) :
    X.cell? ⟨g, o, none⟩ = some (.int .i64 gn) ∧ X.cell? ⟨g, o + 1, none⟩ = some (.int .i64 gd) ∧ X.cell? ⟨g, o + 2, none⟩ = some (.int .i64 bn) ∧ X.cell? ⟨g, o + 3, none⟩ = some (.int .i64 bd) ∧ X.cell? ⟨g, o + 4, none⟩ = some (.int .i64 mn) ∧ X.cell? ⟨g, o + 5, none⟩ = some (.int .i64 md) ∧ X.cell? ⟨g, o + 6, none⟩ = some (.int .i64 sn) ∧ X.cell? ⟨g, o + 7, none⟩ = some (.int .i64 sd) ∧ X.cell? ⟨gx, ox, none⟩ = some (.int .i64 x) := by
  obtain ⟨a, c, d, e, f, h, i, j⟩ := h
  exact ⟨keepc hb a, keepc hb c, keepc hb d, keepc hb e, keepc hb f, keepc hb h, keepc hb i, keepc hb j, keepc hb hx⟩
theorem kp4 {W X : World} {g o h p : Nat} {a b c d : Int} (a0 : W.cell? ⟨g, o, none⟩ = some (.int .i64 a)) (a1 : W.cell? ⟨g, o + 1, none⟩ = some (.int .i64 b)) (b0 : W.cell? ⟨h, p, none⟩ = some (.int .i64 c)) (b1 : W.cell? ⟨h, p + 1, none⟩ = some (.int .i64 d)) (hb : Below W.heap.size W X) :
    X.cell? ⟨g, o, none⟩ = some (.int .i64 a) ∧ X.cell? ⟨g, o + 1, none⟩ = some (.int .i64 b) ∧ X.cell? ⟨h, p, none⟩ = some (.int .i64 c) ∧ X.cell? ⟨h, p + 1, none⟩ = some (.int .i64 d) :=
  ⟨keepc hb a0, keepc hb a1, keepc hb b0, keepc hb b1⟩
def Lno (W : World) (ao : Option Addr) (m : Nat) : Prop := ∀ k, k < m → ∃ (g o : Nat) (gn gd bn bd mn md sn sd : Int), ao = some ⟨g, o, none⟩ ∧ No W g (o + k * 8) gn gd bn bd mn md sn sd
def Lfr (W : World) (ao : Option Addr) (m : Nat) : Prop := ∀ k, k < m → ∃ (g o : Nat) (n d : Int), ao = some ⟨g, o, none⟩ ∧ W.cell? ⟨g, o + k * 2, none⟩ = some (.int .i64 n) ∧ W.cell? ⟨g, o + k * 2 + 1, none⟩ = some (.int .i64 d)
def Lin (W : World) (ao : Option Addr) (m : Nat) : Prop := ∀ k, k < m → ∃ (g o : Nat) (x : Int), ao = some ⟨g, o, none⟩ ∧ W.cell? ⟨g, o + k, none⟩ = some (.int .i64 x)
theorem Lno.keep {W w' : World} {ao : Option Addr} {m : Nat} (h : Lno W ao m) (hb : Below W.heap.size W w') : Lno w' ao m := fun k hk => by
  obtain ⟨g, o, r, s, sy, sx, t, l, b, q, e, a⟩ := h k hk
  exact ⟨g, o, r, s, sy, sx, t, l, b, q, e, a.keep hb⟩
theorem Lfr.keep {W w' : World} {ao : Option Addr} {m : Nat} (h : Lfr W ao m) (hb : Below W.heap.size W w') : Lfr w' ao m := fun k hk => by
  obtain ⟨g, o, x, y, e, a, b⟩ := h k hk
  exact ⟨g, o, x, y, e, keepc hb a, keepc hb b⟩
theorem Lin.keep {W w' : World} {ao : Option Addr} {m : Nat} (h : Lin W ao m) (hb : Below W.heap.size W w') : Lin w' ao m := fun k hk => by
  obtain ⟨g, o, x, e, a⟩ := h k hk
  exact ⟨g, o, x, e, keepc hb a⟩
end Go.Proofs.YtboabgjgcnkelaaDoor
/- THE DOCUMENT'S CMP. -/
namespace Go.Proofs.YtboabgjgcnkelaaDoor
open Go.RowKit Go.Shelf
attribute [local go_sem ↓] Go.wp_at_zero Go.wp_at_succ

theorem sgn_cmp (a b : Int) : sgnOf (a - b) = cmpN a b := by
  unfold sgnOf cmpN
  split <;> split <;> (try split) <;> (try split) <;> omega
theorem k2_C {W w' : World} {a b : Value} {t : TypeId} {o : Obj} (hb : Below ((W.alloc o).alloc (.cells #[a, b] t)).drew.heap.size ((W.alloc o).alloc (.cells #[a, b] t)).drew w') : w'.cell? ⟨W.heap.size + 1, 0, none⟩ = some a ∧ w'.cell? ⟨W.heap.size + 1, 1, none⟩ = some b :=
  ⟨keepc hb (by simp [go_sem]), keepc hb (by simp [go_sem])⟩
theorem k2_B {W w' : World} {a b : Value} {t : TypeId} {o : Obj} (hb : Below ((W.alloc (.cells #[a, b] t)).alloc o).drew.heap.size ((W.alloc (.cells #[a, b] t)).alloc o).drew w') : w'.cell? ⟨W.heap.size, 0, none⟩ = some a ∧ w'.cell? ⟨W.heap.size, 1, none⟩ = some b :=
  ⟨keepc hb (by simp [go_sem]), keepc hb (by simp [go_sem])⟩
set_option maxHeartbeats 1600000 in
set_option maxRecDepth 100000 in
theorem r4cmp_core (n d p q a b v : Int)
    (hA : ∀ w : World, Calls Tryd.prog 23 #[fr n d] w fun e w' => e = .returned (.int .i64 0) ∧ Below w.heap.size w w')
    (hB : ∀ w : World, Calls Tryd.prog 23 #[fr p q] w fun e w' => e = .returned (.int .i64 0) ∧ Below w.heap.size w w')
    (T1 : ∀ (w : World) (g cap : Nat), w.cell? ⟨g, 0, none⟩ = some (.int .i64 n) → w.cell? ⟨g, 1, none⟩ = some (.int .i64 q) → Calls Tryd.prog 36 #[.slice (some ⟨g, 0, none⟩) 2 cap] w fun e w' => ∃ z, e = .returned z ∧ Bg w' z a ∧ Below w.heap.size w w')
    (T2 : ∀ (w : World) (g cap : Nat), w.cell? ⟨g, 0, none⟩ = some (.int .i64 p) → w.cell? ⟨g, 1, none⟩ = some (.int .i64 d) → Calls Tryd.prog 36 #[.slice (some ⟨g, 0, none⟩) 2 cap] w fun e w' => ∃ z, e = .returned z ∧ Bg w' z b ∧ Below w.heap.size w w')
    (C0 : ∀ (y z : Value) (w : World), Bg w y a → Bg w z b → Calls Tryd.prog 39 #[y, z] w fun e w' => e = .returned (.int .i64 v) ∧ Below w.heap.size w w')
    (w : World) :
    Calls Tryd.prog 25 #[fr n d, fr p q] w fun e w' => e = .returned (.tuple #[.int .i64 v, .int .i64 0]) ∧ Below w.heap.size w w' := by
  have HA := hid1 hA; have HB := hid1 hB; have HT1 := hid1 T1; have HT2 := hid1 T2; have HC0 := hid1 C0
  clear hA hB T1 T2 C0
  go_enter Tryd.func25, Tryd.ntmps25
  go_wp2_with fail
  refine gen_calls (fun W' => Below w.heap.size w W' ∧ W'.cell? ⟨w.heap.size, 0, none⟩ = some (.int .i64 n) ∧ W'.cell? ⟨w.heap.size, 1, none⟩ = some (.int .i64 d) ∧ W'.cell? ⟨w.heap.size + 1, 0, none⟩ = some (.int .i64 p) ∧ W'.cell? ⟨w.heap.size + 1, 1, none⟩ = some (.int .i64 q)) ⟨by repeat (first | (with_reducible exact Below.refl _ _) | (with_reducible refine bl_alloc ?_ _) | (with_reducible refine Below.drew ?_) | (with_reducible refine bl_drewN ?_ _) | (with_reducible refine bl_set ?_ (by omega) _) | (with_reducible refine bl_step ?_ (by assumption))), by simp [go_sem], by simp [go_sem], by simp [go_sem], by simp [go_sem]⟩ ?_
  rintro W ⟨B0, a0, a1, b0, b1⟩
  refine (HA.out _).mono ?_
  rintro e w1 ⟨rfl, hb1⟩
  replace a0 := keepc hb1 a0; replace a1 := keepc hb1 a1; replace b0 := keepc hb1 b0; replace b1 := keepc hb1 b1
  have B1 : Below w.heap.size w w1 := by repeat (first | (with_reducible exact Below.refl _ _) | (with_reducible refine bl_alloc ?_ _) | (with_reducible refine Below.drew ?_) | (with_reducible refine bl_drewN ?_ _) | (with_reducible refine bl_set ?_ (by omega) _) | (with_reducible refine bl_step ?_ (by assumption)))
  clear hb1 B0 HA
  go_wp2_with fail
  refine (HB.out _).mono ?_
  rintro e w2 ⟨rfl, hb2⟩
  replace a0 := keepc hb2 a0; replace a1 := keepc hb2 a1; replace b0 := keepc hb2 b0; replace b1 := keepc hb2 b1
  have B2 : Below w.heap.size w w2 := by repeat (first | (with_reducible exact Below.refl _ _) | (with_reducible refine bl_alloc ?_ _) | (with_reducible refine Below.drew ?_) | (with_reducible refine bl_drewN ?_ _) | (with_reducible refine bl_set ?_ (by omega) _) | (with_reducible refine bl_step ?_ (by assumption)))
  clear hb2 B1 HB
  go_upto_region 3 with fail
  go_region_held3 (fun X => X.cell? ⟨w.heap.size, 0, none⟩ = some (.int .i64 n) ∧ X.cell? ⟨w.heap.size, 1, none⟩ = some (.int .i64 d) ∧ X.cell? ⟨w.heap.size + 1, 0, none⟩ = some (.int .i64 p) ∧ X.cell? ⟨w.heap.size + 1, 1, none⟩ = some (.int .i64 q)) (((try dsimp only); (with_reducible refine kp4 (W := w2) a0 a1 b0 b1 ?_); repeat (first | (with_reducible exact Below.refl _ _) | (with_reducible refine bl_alloc ?_ _) | (with_reducible refine Below.drew ?_) | (with_reducible refine bl_drewN ?_ _) | (with_reducible refine bl_set ?_ (by omega) _) | (with_reducible refine bl_step ?_ (by assumption)))))
    (first
      | (go_at_call 36; have tst := HB1; clear tst; (with_reducible refine (HT2.out _ _ _ (by first | assumption | (simp [go_sem]; done) | (simp [go_sem, *]; done)) (by first | assumption | (simp [go_sem]; done) | (simp [go_sem, *]; done))).mono ?_); rintro e X2 ⟨u2, rfl, h2, hc2⟩; obtain ⟨s2, o2, l2, c2, rfl⟩ := h2.form; have HB2 := hid1 h2; clear h2)
      | (go_at_call 36; (with_reducible refine (HT1.out _ _ _ (by first | assumption | (simp [go_sem]; done) | (simp [go_sem, *]; done)) (by first | assumption | (simp [go_sem]; done) | (simp [go_sem, *]; done))).mono ?_); rintro e X1 ⟨u1, rfl, h1, hc1⟩; obtain ⟨s1, o1, l1, c1, rfl⟩ := h1.form; have HB1 := hid1 h1; clear h1; (first | ((with_reducible have E := k2_C (W := w2) hc1); (with_reducible have F := k2_B (W := w2) hc1); obtain ⟨e0, e1⟩ := E; obtain ⟨f0, f1⟩ := F) | skip))
      | (go_at_call 39; (with_reducible refine (HC0.out _ _ _ (HB1.out.below (by repeat (first | (with_reducible exact Below.refl _ _) | (with_reducible refine bl_alloc ?_ _) | (with_reducible refine Below.drew ?_) | (with_reducible refine bl_drewN ?_ _) | (with_reducible refine bl_set ?_ (by omega) _) | (with_reducible refine bl_step ?_ (by assumption))))) HB2.out).mono ?_); rintro e X3 ⟨rfl, hc3⟩))
  all_goals go_wp2_with fail
  all_goals go_ret2
  all_goals refine ⟨rfl, ?_⟩
  all_goals repeat (first | (with_reducible exact Below.refl _ _) | (with_reducible refine bl_alloc ?_ _) | (with_reducible refine Below.drew ?_) | (with_reducible refine bl_drewN ?_ _) | (with_reducible refine bl_set ?_ (by omega) _) | (with_reducible refine bl_step ?_ (by assumption)))
end Go.Proofs.YtboabgjgcnkelaaDoor
/- THE DOCUMENT'S REDUCE: its first loops. -/
namespace Go.Proofs.YtboabgjgcnkelaaDoor
open Go.RowKit Go.Shelf
attribute [local go_sem ↓] Go.wp_at_zero Go.wp_at_succ

theorem sq_small {p : Int} (h1 : 2 ≤ p) (h2 : p ≤ 1100) : 4 ≤ p * p ∧ p * p ≤ 1210000 := by
  have a := Int.mul_le_mul h1 h1 (by decide) (by omega)
  have b := Int.mul_le_mul h2 h2 (by omega) (by decide)
  omega
theorem root_small {p d : Int} (h2 : p * p ≤ d) (hd : d ≤ 1048576) : p ≤ 1024 := by
  rcases Int.lt_or_le 1024 p with k | k
  · have := Int.mul_le_mul (show 1025 ≤ p by omega) (show 1025 ≤ p by omega) (by decide) (by omega)
    omega
  · exact k
theorem quo_ex {n p : Int} (hp : 2 ≤ p) (h : p ∣ n) (A : Int) (h1 : -A ≤ n) (h2 : n ≤ A) : n.tdiv p = n / p ∧ -A ≤ n / p ∧ n / p ≤ A := by
  refine ⟨Int.tdiv_eq_ediv_of_dvd h, ?_⟩
  obtain ⟨a, rfl⟩ := h
  rw [Int.mul_ediv_cancel_left _ (by omega)]
  rcases Int.lt_or_le a 0 with k | k
  · have := Int.mul_le_mul_of_nonneg_right (a := 2) (b := p) (c := -a) hp (by omega)
    simp only [Int.mul_neg] at this
    omega
  · have := Int.mul_le_mul_of_nonneg_right (a := 2) (b := p) (c := a) hp k
    omega
theorem rest_keep2 {n d p x r : Int} (hd : 0 < d) (h : NC n d p) (hp : d < p * p) (hp0 : 0 ≤ p) (hx : 2 ≤ x) (hxr : x ∣ r) (hxx : x * x ≤ d)
    (hg : 2 ≤ gd n d → gd n d ∣ r) : 2 ≤ gd n d → gd n d ∣ r / x := by
  intro g2
  obtain ⟨t, e⟩ := hg g2
  have gs := nc_sq h hp hp0 g2 (gd_dvd_n n d) (gd_dvd_d n d)
  have xl : x < gd n d := by
    rcases Int.lt_or_le x (gd n d) with k | k
    · exact k
    · have := sq_le (by omega) k; omega
  have cop : Int.gcd x (gd n d) = 1 := by
    have d1 : (Int.gcd x (gd n d) : Int) ∣ gd n d := Int.gcd_dvd_right _ _
    have d2 : (Int.gcd x (gd n d) : Int) ∣ x := Int.gcd_dvd_left _ _
    have pos := Int.gcd_pos_of_ne_zero_left (a := x) (gd n d) (by omega)
    rcases Nat.lt_or_ge (Int.gcd x (gd n d)) 2 with k | k
    · omega
    · have := gd_prime hd h hp hp0 d1 (by omega)
      have := Int.le_of_dvd (by omega) d2
      omega
  obtain ⟨s, es⟩ := cop_dvd cop (show x ∣ gd n d * t by rw [← e]; exact hxr)
  refine ⟨s, ?_⟩
  rw [e, es, Int.mul_left_comm, Int.mul_ediv_cancel_left _ (by omega)]
/-- What holds at the first loops' heads. -/
def R1 (n0 d0 n d p : Int) : Prop := 0 < d ∧ d ≤ 1048576 ∧ -2147483647 ≤ n ∧ n ≤ 2147483647 ∧ n * d0 = n0 * d ∧ 2 ≤ p ∧ p ≤ 1025 ∧ NC n d p
/-- And at the second ones'. -/
def R2 (n d r p : Int) : Prop := 0 < r ∧ r ≤ d ∧ 2 ≤ p ∧ p ≤ 1025 ∧ ND r p ∧ (2 ≤ gd n d → gd n d ∣ r)
theorem divides_yes {d n : Int} (hd : 2 ≤ d) (hd2 : d ≤ 2147483647) (h : d ∣ n) (w : World) :
    Calls Tryd.prog 41 #[.int .i64 d, .int .i64 n] w fun e w' => e = .returned (.bool true) ∧ w = w' := by
  refine (divides_any d n hd hd2 w).mono ?_
  rintro e w' ⟨rfl, rfl⟩
  exact ⟨by rw [decide_eq_true h], rfl⟩
theorem divides_no {d n : Int} (hd : 2 ≤ d) (hd2 : d ≤ 2147483647) (h : ¬ d ∣ n) (w : World) :
    Calls Tryd.prog 41 #[.int .i64 d, .int .i64 n] w fun e w' => e = .returned (.bool false) ∧ w = w' := by
  refine (divides_any d n hd hd2 w).mono ?_
  rintro e w' ⟨rfl, rfl⟩
  exact ⟨by rw [decide_eq_false h], rfl⟩
def Wy (w : World) (b : Nat) (n d : Int) : Prop := w.cell? ⟨b, 0, none⟩ = some (.int .i64 n) ∧ w.cell? ⟨b, 1, none⟩ = some (.int .i64 d) ∧ w.frozen? ⟨b, 0, none⟩ = false ∧ w.frozen? ⟨b, 1, none⟩ = false
theorem Wy.keep {w w' : World} {b : Nat} {n d : Int} (h : Wy w b n d) (hb : Below w.heap.size w w') : Wy w' b n d := by
  have z := lt_of_cell h.1
  exact ⟨keepc hb h.1, keepc hb h.2.1, keepf hb z h.2.2.1, keepf hb z h.2.2.2⟩
theorem wy_new {W : World} {t : TypeId} {g : Nat} {n d : Int} (hg : W.heap.size = g) : Wy (W.alloc (.cells #[.int .i64 n, .int .i64 d] t)) g n d := by
  subst hg
  exact ⟨by simp [go_sem], by simp [go_sem], by simp [go_sem], by simp [go_sem]⟩
set_option maxHeartbeats 3200000 in
set_option maxRecDepth 100000 in
theorem r4reduce_core (n0 d0 : Int) (hf : Fr n0 d0) (hn0 : ¬ n0 = 0) (w : World) :
    Calls Tryd.prog 24 #[fr n0 d0] w fun e w' => e = .returned (.tuple #[fr (rn n0 d0) (rd n0 d0), .int .i64 0]) ∧ Below w.heap.size w w' := by
  have HC := hid1 (r4check_any n0 d0)
  rw [chF_ok hf] at HC
  have f0 : 0 < d0 := by have := hf.1; omega
  have HR : Hid (R1 n0 d0 n0 d0 2) := hid1 ⟨f0, hf.2.1, hf.2.2.1, hf.2.2.2, rfl, by omega, by omega, nc_two _ _⟩
  have hn0b : (n0 == 0) = false := by simpa using hn0
  clear hf
  go_enter Tryd.func24, Tryd.ntmps24
  go_wp2_with fail
  refine (HC.out _).mono ?_
  rintro e w1 ⟨rfl, hb1⟩
  have HY : Hid (Wy w1 (w.heap.size + 1) 0 0) := hid1 (Wy.keep (w := (w.alloc _).alloc _) (wy_new (by simp)) hb1)
  have x0 := keepc hb1 (b := w.heap.size) (o := 0) (v := .int .i64 n0) (by simp [go_sem])
  have x1 := keepc hb1 (b := w.heap.size) (o := 1) (v := .int .i64 d0) (by simp [go_sem])
  have B1 : Below w.heap.size w w1 := by repeat (first | (with_reducible exact Below.refl _ _) | (with_reducible refine bl_alloc ?_ _) | (with_reducible refine Below.drew ?_) | (with_reducible refine bl_drewN ?_ _) | (with_reducible refine bl_set ?_ (by omega) _) | (with_reducible refine bl_step ?_ (by assumption)))
  clear hb1 HC
  go_wp2_with fail
  clear x0 x1
  go_loopw [4, 5, 6] (fun a b c wr => ∃ n d p : Int, a = .int .i64 n ∧ b = .int .i64 d ∧ c = .int .i64 p ∧ Hid (R1 n0 d0 n d p) ∧ Hid (w1 = wr)) (fun _ _ c _ => (1100 - intOf c).toNat)
  case atStart => exact ⟨n0, d0, 2, rfl, rfl, rfl, HR, hid1 (by first | rfl | trivial)⟩
  case round =>
    clear HR
    obtain ⟨n, d, p, rfl, rfl, rfl, HR1, HW1⟩ := hrel
    obtain rfl := HW1.out
    clear HW1
    obtain ⟨d1, d2, m1, m2, _, p1, p2, _⟩ := HR1.out
    obtain ⟨s1, s2⟩ := sq_small p1 (by omega)
    have e1 : wrap64 (p * p) = p * p := by unfold wrap64; omega
    obtain ⟨P, eP⟩ : ∃ P, p * p = P := ⟨_, rfl⟩
    by_cases hpp : P ≤ d
    · have HP := hid1 (root_small (p := p) (by rw [eP]; exact hpp) d2)
      rw [eP] at e1 s1 s2
      go_wp2_with fail
      clear hpp e1 s1 s2 eP
      go_loopw [4, 5] (fun a b wr => ∃ n d : Int, a = .int .i64 n ∧ b = .int .i64 d ∧ Hid (R1 n0 d0 n d p) ∧ Hid (w1 = wr)) (fun _ b _ => (intOf b).toNat)
      case atStart => exact ⟨n, d, rfl, rfl, HR1, hid1 (by first | rfl | trivial)⟩
      case round =>
        clear HR1 d1 d2 m1 m2
        obtain ⟨n, d, rfl, rfl, HR1, HW1⟩ := hrel
        obtain rfl := HW1.out
        clear HW1
        obtain ⟨d1, d2, m1, m2, hw, _, _, hnc⟩ := HR1.out
        have HW := hid1 hw
        have HNC := hid1 hnc
        clear hw hnc
        by_cases c1 : p ∣ d
        · by_cases c2 : p ∣ n
          · have V1 := hid1 (divides_yes (d := p) (n := d) p1 (by omega) c1)
            have V2 := hid1 (divides_yes (d := p) (n := n) p1 (by omega) c2)
            obtain ⟨q1, q2, q3⟩ := quo_ex p1 c2 2147483647 m1 m2
            obtain ⟨q4, q5, q6⟩ := quo_ex (A := 1048576) p1 c1 (by omega) d2
            obtain ⟨t1, t2⟩ := div_bd d1 p1 c1
            have HX : Hid (R1 n0 d0 (n / p) (d / p) p) := hid1 ⟨t1, by omega, q2, q3, worth_div (by omega) c2 c1 HW.out, p1, p2, nc_div HNC.out c2 c1⟩
            have r0 : ¬ p = 0 := by omega
            obtain ⟨N1, eN⟩ : ∃ N1, n / p = N1 := ⟨_, rfl⟩
            obtain ⟨D1, eD⟩ : ∃ D1, d / p = D1 := ⟨_, rfl⟩
            rw [eN, eD] at HX
            rw [eN] at q1 q2 q3
            rw [eD] at q4 q5 q6 t1 t2
            go_wp2_with fail
            refine (V1.out _).mono ?_
            rintro e wz ⟨rfl, rfl⟩
            go_wp2_with fail
            refine (V2.out _).mono ?_
            rintro e wz ⟨rfl, rfl⟩
            go_wp2_with fail
            exact ⟨⟨N1, D1, by first | rfl | (simp [*]; done), by first | rfl | (simp [*]; done), HX, hid1 (by first | rfl | trivial)⟩, by simp [intOf, *]; omega⟩
          · have V1 := hid1 (divides_yes (d := p) (n := d) p1 (by omega) c1)
            have V2 := hid1 (divides_no (d := p) (n := n) p1 (by omega) c2)
            have HX : Hid (R1 n0 d0 n d (p + 1)) := hid1 ⟨d1, d2, m1, m2, HW.out, by omega, by have := HP.out; omega, nc_next HNC.out (fun k => c2 k.2)⟩
            go_wp2_with fail
            refine (V1.out _).mono ?_
            rintro e wz ⟨rfl, rfl⟩
            go_wp2_with fail
            refine (V2.out _).mono ?_
            rintro e wz ⟨rfl, rfl⟩
            go_wp2_with fail
            exact ⟨⟨n, d, p + 1, rfl, rfl, rfl, HX, hid1 (by first | rfl | trivial)⟩, by simp [intOf]; omega⟩
        · have V1 := hid1 (divides_no (d := p) (n := d) p1 (by omega) c1)
          have HX : Hid (R1 n0 d0 n d (p + 1)) := hid1 ⟨d1, d2, m1, m2, HW.out, by omega, by have := HP.out; omega, nc_next HNC.out (fun k => c1 k.1)⟩
          go_wp2_with fail
          refine (V1.out _).mono ?_
          rintro e wz ⟨rfl, rfl⟩
          go_wp2_with fail
          exact ⟨⟨n, d, p + 1, rfl, rfl, rfl, HX, hid1 (by first | rfl | trivial)⟩, by simp [intOf]; omega⟩
    · have HPP : Hid (d < p * p) := hid1 (by rw [eP]; omega)
      rw [eP] at e1 s1 s2
      go_wp2_with fail
      clear hpp e1 s1 s2 eP
      have HR0 : Hid (R2 n d d 2) := hid1 ⟨d1, by omega, by omega, by omega, nd_two _, fun _ => gd_dvd_d n d⟩
      go_loopw [7, 8] (fun a c wr => ∃ r k : Int, a = .int .i64 r ∧ c = .int .i64 k ∧ Hid (R2 n d r k) ∧ Hid (w1 = wr)) (fun _ c _ => (1100 - intOf c).toNat)
      case atStart => exact ⟨d, 2, rfl, rfl, HR0, hid1 (by first | rfl | trivial)⟩
      case round =>
        clear HR0
        obtain ⟨r, k, rfl, rfl, HR2, HW1⟩ := hrel
        obtain rfl := HW1.out
        clear HW1
        obtain ⟨r1, r2, k1, k2, _, _⟩ := HR2.out
        obtain ⟨s1, s2⟩ := sq_small k1 (by omega)
        have e1 : wrap64 (k * k) = k * k := by unfold wrap64; omega
        obtain ⟨P, eP⟩ : ∃ P, k * k = P := ⟨_, rfl⟩
        by_cases hpp : P ≤ r
        · have HP := hid1 (root_small (p := k) (by rw [eP]; exact hpp) (by omega))
          have HKD : Hid (k * k ≤ d) := hid1 (by rw [eP]; omega)
          rw [eP] at e1 s1 s2
          go_wp2_with fail
          clear hpp e1 s1 s2 eP
          go_loopw [7] (fun a wr => ∃ r : Int, a = .int .i64 r ∧ Hid (R2 n d r k) ∧ Hid (w1 = wr)) (fun a _ => (intOf a).toNat)
          case atStart => exact ⟨r, rfl, HR2, hid1 (by first | rfl | trivial)⟩
          case round =>
            clear HR2 r1 r2
            obtain ⟨r, rfl, HR2, HW1⟩ := hrel
            obtain rfl := HW1.out
            clear HW1
            obtain ⟨r1, r2, _, _, hnd, hg⟩ := HR2.out
            have HND := hid1 hnd
            have HGG := hid1 hg
            clear hnd hg
            by_cases c1 : k ∣ r
            · have V1 := hid1 (divides_yes (d := k) (n := r) k1 (by omega) c1)
              obtain ⟨q4, q5, q6⟩ := quo_ex (A := 1048576) k1 c1 (by omega) (by omega)
              obtain ⟨t1, t2⟩ := div_bd r1 k1 c1
              have hx : 2 ≤ gd n d → gd n d ∣ r / k := rest_keep2 d1 HR1.out.2.2.2.2.2.2.2 HPP.out (by have := HR1.out.2.2.2.2.2.1; omega) k1 c1 HKD.out HGG.out
              have HX : Hid (R2 n d (r / k) k) := hid1 ⟨t1, by omega, k1, k2, nd_div HND.out c1, hx⟩
              have r0 : ¬ k = 0 := by omega
              obtain ⟨D1, eD⟩ : ∃ D1, r / k = D1 := ⟨_, rfl⟩
              rw [eD] at HX q4 q5 q6 t1 t2
              go_wp2_with fail
              refine (V1.out _).mono ?_
              rintro e wz ⟨rfl, rfl⟩
              go_wp2_with fail
              exact ⟨⟨D1, by first | rfl | (simp [*]; done), HX, hid1 (by first | rfl | trivial)⟩, by simp [intOf, *]; omega⟩
            · have V1 := hid1 (divides_no (d := k) (n := r) k1 (by omega) c1)
              have HX : Hid (R2 n d r (k + 1)) := hid1 ⟨r1, r2, by omega, by have := HP.out; omega, nd_next HND.out c1, HGG.out⟩
              go_wp2_with fail
              refine (V1.out _).mono ?_
              rintro e wz ⟨rfl, rfl⟩
              go_wp2_with fail
              exact ⟨⟨r, k + 1, rfl, rfl, HX, hid1 (by first | rfl | trivial)⟩, by simp [intOf]; omega⟩
        · rw [eP] at e1 s1 s2
          have hkk : r < k * k := by rw [eP]; omega
          have HKK := hid1 hkk
          clear hkk
          obtain ⟨r1, r2, _, _, _, _⟩ := HR2.out
          obtain ⟨d1, d2, m1, m2, _, _, _, _⟩ := HR1.out
          have HE := hid1 (ref_red (n := n) (d := d) (r := r) (k := k) (n0 := n0) (d0 := d0) f0 d1 HR1.out.2.2.2.2.1 r1 HKK.out HR2.out.2.2.1 HR2.out.2.2.2.2.1 HR2.out.2.2.2.2.2)
          obtain ⟨y0, y1, y2, y3⟩ := HY.out
          have zy := lt_of_cell y0
          by_cases hr : 1 < r
          · by_cases c1 : r ∣ n
            · by_cases c2 : r ∣ d
              · have V1 := hid1 (divides_yes (d := r) (n := n) (by omega) (by omega) c1)
                have V2 := hid1 (divides_yes (d := r) (n := d) (by omega) (by omega) c2)
                obtain ⟨q1, q2, q3⟩ := quo_ex (by omega) c1 2147483647 m1 m2
                obtain ⟨q4, q5, q6⟩ := quo_ex (A := 1048576) (by omega) c2 (by omega) d2
                have r0 : ¬ r = 0 := by omega
                have HG := hid1 (HE.out.1 ⟨hr, c1, c2⟩)
                have g1 := HG.out.1.symm
                have g2 := HG.out.2.symm
                obtain ⟨N1, eN⟩ : ∃ N1, n / r = N1 := ⟨_, rfl⟩
                obtain ⟨D1, eD⟩ : ∃ D1, d / r = D1 := ⟨_, rfl⟩
                rw [eN] at q1 q2 q3 g1
                rw [eD] at q4 q5 q6 g2
                go_wp2_with fail
                refine (V1.out _).mono ?_
                rintro e wz ⟨rfl, rfl⟩
                go_wp2_with fail
                refine (V2.out _).mono ?_
                rintro e wz ⟨rfl, rfl⟩
                go_wp2_with fail
                simp [bodyPost, results, Tryd.results24, go_sem, *]
                repeat (first | (with_reducible exact Below.refl _ _) | (with_reducible refine bl_alloc ?_ _) | (with_reducible refine Below.drew ?_) | (with_reducible refine bl_drewN ?_ _) | (with_reducible refine bl_set ?_ (by omega) _) | (with_reducible refine bl_step ?_ (by assumption)))
              · have V1 := hid1 (divides_yes (d := r) (n := n) (by omega) (by omega) c1)
                have V2 := hid1 (divides_no (d := r) (n := d) (by omega) (by omega) c2)
                have HG := hid1 (HE.out.2 (fun k => c2 k.2.2))
                have g1 := HG.out.1.symm
                have g2 := HG.out.2.symm
                go_wp2_with fail
                refine (V1.out _).mono ?_
                rintro e wz ⟨rfl, rfl⟩
                go_wp2_with fail
                refine (V2.out _).mono ?_
                rintro e wz ⟨rfl, rfl⟩
                go_wp2_with fail
                simp [bodyPost, results, Tryd.results24, go_sem, *]
                repeat (first | (with_reducible exact Below.refl _ _) | (with_reducible refine bl_alloc ?_ _) | (with_reducible refine Below.drew ?_) | (with_reducible refine bl_drewN ?_ _) | (with_reducible refine bl_set ?_ (by omega) _) | (with_reducible refine bl_step ?_ (by assumption)))
            · have V1 := hid1 (divides_no (d := r) (n := n) (by omega) (by omega) c1)
              have HG := hid1 (HE.out.2 (fun k => c1 k.2.1))
              have g1 := HG.out.1.symm
              have g2 := HG.out.2.symm
              go_wp2_with fail
              refine (V1.out _).mono ?_
              rintro e wz ⟨rfl, rfl⟩
              go_wp2_with fail
              simp [bodyPost, results, Tryd.results24, go_sem, *]
              repeat (first | (with_reducible exact Below.refl _ _) | (with_reducible refine bl_alloc ?_ _) | (with_reducible refine Below.drew ?_) | (with_reducible refine bl_drewN ?_ _) | (with_reducible refine bl_set ?_ (by omega) _) | (with_reducible refine bl_step ?_ (by assumption)))
          · have HG := hid1 (HE.out.2 (fun k => hr k.1))
            have g1 := HG.out.1.symm
            have g2 := HG.out.2.symm
            go_wp2
            simp [bodyPost, results, Tryd.results24, go_sem, *]
            repeat (first | (with_reducible exact Below.refl _ _) | (with_reducible refine bl_alloc ?_ _) | (with_reducible refine Below.drew ?_) | (with_reducible refine bl_drewN ?_ _) | (with_reducible refine bl_set ?_ (by omega) _) | (with_reducible refine bl_step ?_ (by assumption)))
end Go.Proofs.YtboabgjgcnkelaaDoor
/- THE DOCUMENT'S REDUCE AND CMP: THE WHOLE. -/
namespace Go.Proofs.YtboabgjgcnkelaaDoor
open Go.RowKit Go.Shelf
attribute [local go_sem ↓] Go.wp_at_zero Go.wp_at_succ

theorem cross_bd' {n d p q : Int} (h1 : Fr n d) (h2 : Fr p q) : -2251799812636672 ≤ n * q ∧ n * q ≤ 2251799812636672 :=
  bd_mul (A := 2147483647) (B := 1048576) h1.2.2 ⟨by have := h2.1; omega, h2.2.1⟩
theorem rn_zero (d : Int) : rn 0 d = 0 := by unfold rn; exact Int.zero_ediv _
theorem rd_zero {d : Int} (h : 0 < d) : rd 0 d = 1 := by
  unfold rd
  rw [gd_zero (by omega)]
  exact Int.ediv_self (by omega)
set_option maxRecDepth 100000 in
theorem r4reduce_zero (d0 : Int) (hf : Fr 0 d0) (w : World) :
    Calls Tryd.prog 24 #[fr 0 d0] w fun e w' => e = .returned (.tuple #[fr 0 1, .int .i64 0]) ∧ Below w.heap.size w w' := by
  have HC := hid1 (r4check_any 0 d0)
  rw [chF_ok hf] at HC
  clear hf
  go_enter Tryd.func24, Tryd.ntmps24
  go_wp2_with fail
  refine (HC.out _).mono ?_
  rintro e w1 ⟨rfl, hb1⟩
  have HY : Hid (Wy w1 (w.heap.size + 1) 0 0) := hid1 (Wy.keep (w := (w.alloc _).alloc _) (wy_new (by simp)) hb1)
  have x0 := keepc hb1 (b := w.heap.size) (o := 0) (v := .int .i64 0) (by simp [go_sem])
  have B1 : Below w.heap.size w w1 := by repeat (first | (with_reducible exact Below.refl _ _) | (with_reducible refine bl_alloc ?_ _) | (with_reducible refine Below.drew ?_) | (with_reducible refine bl_drewN ?_ _) | (with_reducible refine bl_set ?_ (by omega) _) | (with_reducible refine bl_step ?_ (by assumption)))
  clear hb1 HC
  obtain ⟨y0, y1, y2, y3⟩ := HY.out
  have zy := lt_of_cell y0
  go_wp2
  simp [bodyPost, results, Tryd.results24, go_sem, *]
  repeat (first | (with_reducible exact Below.refl _ _) | (with_reducible refine bl_alloc ?_ _) | (with_reducible refine Below.drew ?_) | (with_reducible refine bl_drewN ?_ _) | (with_reducible refine bl_set ?_ (by omega) _) | (with_reducible refine bl_step ?_ (by assumption)))
set_option maxRecDepth 100000 in
theorem r4reduce_no (n0 d0 : Int) (hf : ¬ Fr n0 d0) (w : World) :
    Calls Tryd.prog 24 #[fr n0 d0] w fun e w' => e = .returned (.tuple #[fr 0 0, .int .i64 40]) ∧ Below w.heap.size w w' := by
  have HC := hid1 (r4check_any n0 d0)
  rw [chF_no hf] at HC
  clear hf
  go_enter Tryd.func24, Tryd.ntmps24
  go_wp2_with fail
  refine (HC.out _).mono ?_
  rintro e w1 ⟨rfl, hb1⟩
  have HY : Hid (Wy w1 (w.heap.size + 1) 0 0) := hid1 (Wy.keep (w := (w.alloc _).alloc _) (wy_new (by simp)) hb1)
  have B1 : Below w.heap.size w w1 := by repeat (first | (with_reducible exact Below.refl _ _) | (with_reducible refine bl_alloc ?_ _) | (with_reducible refine Below.drew ?_) | (with_reducible refine bl_drewN ?_ _) | (with_reducible refine bl_set ?_ (by omega) _) | (with_reducible refine bl_step ?_ (by assumption)))
  clear hb1 HC
  obtain ⟨y0, y1, y2, y3⟩ := HY.out
  have zy := lt_of_cell y0
  go_wp2
  simp [bodyPost, results, Tryd.results24, go_sem, *]
  repeat (first | (with_reducible exact Below.refl _ _) | (with_reducible refine bl_alloc ?_ _) | (with_reducible refine Below.drew ?_) | (with_reducible refine bl_drewN ?_ _) | (with_reducible refine bl_set ?_ (by omega) _) | (with_reducible refine bl_step ?_ (by assumption)))
theorem r4reduce_any (n d : Int) (w : World) :
    Calls Tryd.prog 24 #[fr n d] w fun e w' => e = .returned (.tuple #[fr (rnV n d) (rdV n d), .int .i64 (chF n d)]) ∧ Below w.heap.size w w' := by
  unfold rnV rdV chF
  by_cases h : Fr n d
  · simp only [if_pos h]
    by_cases h0 : n = 0
    · subst h0
      have p : 0 < d := by have := h.1; omega
      rw [rn_zero, rd_zero p]
      exact r4reduce_zero d h w
    · exact r4reduce_core n d h h0 w
  · simp only [if_neg h]; exact r4reduce_no n d h w
set_option maxRecDepth 100000 in
theorem r4cmp_no1 (n d p q : Int) (h : ¬ Fr n d) (w : World) :
    Calls Tryd.prog 25 #[fr n d, fr p q] w fun e w' => e = .returned (.tuple #[.int .i64 0, .int .i64 40]) ∧ Below w.heap.size w w' := by
  have HC := hid1 (r4check_any n d)
  rw [chF_no h] at HC
  go_enter Tryd.func25, Tryd.ntmps25
  go_wp2_with fail
  refine (HC.out _).mono ?_
  rintro e w1 ⟨rfl, hb1⟩
  go_wp2
  go_ret2
  refine ⟨rfl, ?_⟩
  repeat (first | (with_reducible exact Below.refl _ _) | (with_reducible refine bl_alloc ?_ _) | (with_reducible refine Below.drew ?_) | (with_reducible refine bl_drewN ?_ _) | (with_reducible refine bl_set ?_ (by omega) _) | (with_reducible refine bl_step ?_ (by assumption)))
set_option maxRecDepth 100000 in
theorem r4cmp_no2 (n d p q : Int) (h : Fr n d) (h2 : ¬ Fr p q) (w : World) :
    Calls Tryd.prog 25 #[fr n d, fr p q] w fun e w' => e = .returned (.tuple #[.int .i64 0, .int .i64 40]) ∧ Below w.heap.size w w' := by
  have HC := hid1 (r4check_any n d)
  have HD := hid1 (r4check_any p q)
  rw [chF_ok h] at HC
  rw [chF_no h2] at HD
  go_enter Tryd.func25, Tryd.ntmps25
  go_wp2_with fail
  refine (HC.out _).mono ?_
  rintro e w1 ⟨rfl, hb1⟩
  have x0 := keepc hb1 (b := w.heap.size + 1) (o := 0) (v := .int .i64 p) (by simp [go_sem])
  have x1 := keepc hb1 (b := w.heap.size + 1) (o := 1) (v := .int .i64 q) (by simp [go_sem])
  go_wp2_with fail
  refine (HD.out _).mono ?_
  rintro e w2 ⟨rfl, hb2⟩
  go_wp2
  go_ret2
  refine ⟨rfl, ?_⟩
  repeat (first | (with_reducible exact Below.refl _ _) | (with_reducible refine bl_alloc ?_ _) | (with_reducible refine Below.drew ?_) | (with_reducible refine bl_drewN ?_ _) | (with_reducible refine bl_set ?_ (by omega) _) | (with_reducible refine bl_step ?_ (by assumption)))
theorem r4cmp_any (n d p q : Int) (w : World) :
    Calls Tryd.prog 25 #[fr n d, fr p q] w fun e w' => e = .returned (.tuple #[.int .i64 (cmF n d p q), .int .i64 (ceF n d p q)]) ∧ Below w.heap.size w w' := by
  unfold cmF ceF
  by_cases h : Fr n d
  · by_cases h2 : Fr p q
    · simp only [if_pos (show Fr n d ∧ Fr p q from ⟨h, h2⟩)]
      have HA := r4check_any n d
      have HB := r4check_any p q
      rw [chF_ok h] at HA
      rw [chF_ok h2] at HB
      obtain ⟨i1, i2⟩ := fr_i64 h
      obtain ⟨i3, i4⟩ := fr_i64 h2
      have m1 := cross_bd' h h2
      have m2 := cross_bd' h2 h
      exact r4cmp_core n d p q (n * q) (p * d) (cmpN (n * q) (p * d)) HA HB
        (fun w g cap h0 h1 => times2 n q i1 i4 ⟨by omega, by omega⟩ w g cap h0 h1) (fun w g cap h0 h1 => times2 p d i3 i2 ⟨by omega, by omega⟩ w g cap h0 h1)
        (fun y z w hy hz => sgn_cmp (n * q) (p * d) ▸ rcmp_any _ _ y z w hy hz (lt40 ⟨by omega, by omega⟩) (lt40 ⟨by omega, by omega⟩) _ rfl) w
    · simp only [if_neg (show ¬ (Fr n d ∧ Fr p q) from fun k => h2 k.2)]; exact r4cmp_no2 n d p q h h2 w
  · simp only [if_neg (show ¬ (Fr n d ∧ Fr p q) from fun k => h k.1)]; exact r4cmp_no1 n d p q h w
end Go.Proofs.YtboabgjgcnkelaaDoor
/- FRACALL, WALKED. -/
namespace Go.Proofs.YtboabgjgcnkelaaDoor
open Go.RowKit Go.Shelf
attribute [local go_sem ↓] Go.wp_at_zero Go.wp_at_succ

set_option maxHeartbeats 3200000 in
set_option maxRecDepth 100000 in
theorem fall_walk (ao : Option Addr) (m cm : Nat) (hm : m ≤ 9223372036854775807) (w : World) (L : LaidP w) (L1 : Lfr w ao m) :
    Calls Tryd.prog 8 #[.slice ao m cm] w fun e w' => e = .returned (.bool true) ∧ Below w.heap.size w w' := by
  have H1 := hid1 L1
  have HL := hid1 L
  clear L1 L
  go_enter Tryd.func8, Tryd.ntmps8
  go_wp2_with fail
  refine (fbegun_any _ HL.out).mono ?_
  rintro e w1 ⟨rfl, hb1⟩
  go_wp2_with fail
  go_loopw [4] (fun i wr => ∃ k : Nat, k ≤ m ∧ i = .int .i64 k ∧ Below w.heap.size w wr) (fun i _ => m - (intOf i).toNat)
  case atStart => exact ⟨0, Nat.zero_le _, rfl, hb1⟩
  case round =>
    obtain ⟨i, hi, rfl, hnx⟩ := hrel
    have ii0 : (0 : Int) ≤ (i : Int) := by omega
    by_cases hli : i < m
    · have ii : (i : Int) < (m : Int) := by omega
      obtain ⟨g, o, n, d, rfl, a0, a1⟩ := (H1.out.keep hnx) i hli
      go_wp2_with fail
      refine (fcheck_any n d _).mono ?_
      rintro e x1 ⟨rfl, hx⟩
      replace a0 := keepc hx a0; replace a1 := keepc hx a1
      replace hnx := bl_step hnx hx
      clear hx
      go_wp2_with fail
      refine (r4check_any n d _).mono ?_
      rintro e x2 ⟨rfl, hx⟩
      replace a0 := keepc hx a0; replace a1 := keepc hx a1
      replace hnx := bl_step hnx hx
      clear hx
      go_wp2_with fail
      refine (reduce_any n d _).mono ?_
      rintro e x3 ⟨rfl, hx⟩
      replace a0 := keepc hx a0; replace a1 := keepc hx a1
      replace hnx := bl_step hnx hx
      clear hx
      have za := lt_of_cell a0
      go_wp2_with fail
      refine gen_calls (fun W' => Below w.heap.size w W' ∧ Below x3.heap.size x3 W' ∧ Hid (Wy W' x3.heap.size (rnV n d) (rdV n d))) ⟨by repeat (first | (with_reducible exact Below.refl _ _) | (with_reducible refine bl_alloc ?_ _) | (with_reducible refine Below.drew ?_) | (with_reducible refine bl_drewN ?_ _) | (with_reducible refine bl_set ?_ (by omega) _) | (with_reducible refine bl_step ?_ (by assumption))), by repeat (first | (with_reducible exact Below.refl _ _) | (with_reducible refine bl_alloc ?_ _) | (with_reducible refine Below.drew ?_) | (with_reducible refine bl_drewN ?_ _) | (with_reducible refine bl_set ?_ (by omega) _) | (with_reducible refine bl_step ?_ (by assumption))), hid1 (wy_new rfl)⟩ ?_
      rintro x4 ⟨B4, b4, HR⟩
      replace a0 := keepc b4 a0; replace a1 := keepc b4 a1
      clear b4 hnx za
      refine (r4reduce_any n d _).mono ?_
      rintro e x5 ⟨rfl, hx⟩
      replace a0 := keepc hx a0; replace a1 := keepc hx a1
      replace HR := hid1 (HR.out.keep hx)
      have hnx : Below w.heap.size w x5 := by repeat (first | (with_reducible exact Below.refl _ _) | (with_reducible refine bl_alloc ?_ _) | (with_reducible refine Below.drew ?_) | (with_reducible refine bl_drewN ?_ _) | (with_reducible refine bl_set ?_ (by omega) _) | (with_reducible refine bl_step ?_ (by assumption)))
      clear hx B4
      obtain ⟨r0, r1, _, _⟩ := HR.out
      have zr := lt_of_cell r0
      have za := lt_of_cell a0
      go_upto_region 14 with fail
      refine gen_world (fun W' => Below w.heap.size w W' ∧ W'.cell? ⟨g, o + i * 2, none⟩ = some (.int .i64 n) ∧ W'.cell? ⟨g, o + i * 2 + 1, none⟩ = some (.int .i64 d)) ⟨by repeat (first | (with_reducible exact Below.refl _ _) | (with_reducible refine bl_alloc ?_ _) | (with_reducible refine Below.drew ?_) | (with_reducible refine bl_drewN ?_ _) | (with_reducible refine bl_set ?_ (by omega) _) | (with_reducible refine bl_step ?_ (by assumption))), by simp [go_sem, *], by simp [go_sem, *]⟩ ?_
      rintro x6 ⟨B6, c0, c1⟩
      clear a0 a1 r0 r1 zr za HR hnx
      go_loopw [11] (fun q wr => ∃ k : Nat, k ≤ m ∧ q = .int .i64 k ∧ wr.cell? ⟨g, o + i * 2, none⟩ = some (.int .i64 n) ∧ wr.cell? ⟨g, o + i * 2 + 1, none⟩ = some (.int .i64 d) ∧ Below w.heap.size w wr) (fun q _ => m - (intOf q).toNat)
      case atStart => exact ⟨0, Nat.zero_le _, rfl, c0, c1, B6⟩
      case round =>
        clear c0 c1 B6
        obtain ⟨k, hk, rfl, a0, a1, hnx⟩ := hrel
        rename World => V
        have ik0 : (0 : Int) ≤ (k : Int) := by omega
        by_cases l1 : k < m
        · have j1 : (k : Int) < (m : Int) := by omega
          obtain ⟨g', o', p, q, eg, b0, b1⟩ := (H1.out.keep hnx) k l1
          obtain ⟨rfl, rfl⟩ : g = g' ∧ o = o' := by
            injection eg with eg
            injection eg with e1 e2
            exact ⟨e1, e2⟩
          clear eg
          · go_wp2_with fail
            go_region_held3 (fun X => X.cell? ⟨g, o + i * 2, none⟩ = some (.int .i64 n) ∧ X.cell? ⟨g, o + i * 2 + 1, none⟩ = some (.int .i64 d) ∧ X.cell? ⟨g, o + k * 2, none⟩ = some (.int .i64 p) ∧ X.cell? ⟨g, o + k * 2 + 1, none⟩ = some (.int .i64 q)) (((try dsimp only); (with_reducible refine kp4 (W := V) a0 a1 b0 b1 ?_); repeat (first | (with_reducible exact Below.refl _ _) | (with_reducible refine bl_alloc ?_ _) | (with_reducible refine Below.drew ?_) | (with_reducible refine bl_drewN ?_ _) | (with_reducible refine bl_set ?_ (by omega) _) | (with_reducible refine bl_step ?_ (by assumption)))))
              (first | (go_at_call 11; (with_reducible refine (fcmp_any n d p q _).mono ?_); rintro e y1 ⟨rfl, hx⟩))
            have hy : Below V.heap.size V y1 := by repeat (first | (with_reducible exact Below.refl _ _) | (with_reducible refine bl_alloc ?_ _) | (with_reducible refine Below.drew ?_) | (with_reducible refine bl_drewN ?_ _) | (with_reducible refine bl_set ?_ (by omega) _) | (with_reducible refine bl_step ?_ (by assumption)))
            replace a0 := keepc hy a0; replace a1 := keepc hy a1; replace b0 := keepc hy b0; replace b1 := keepc hy b1
            replace hnx : Below w.heap.size w y1 := by repeat (first | (with_reducible exact Below.refl _ _) | (with_reducible refine bl_alloc ?_ _) | (with_reducible refine Below.drew ?_) | (with_reducible refine bl_drewN ?_ _) | (with_reducible refine bl_set ?_ (by omega) _) | (with_reducible refine bl_step ?_ (by assumption)))
            clear hx hy
            go_wp2_with fail
            go_region_held3 (fun X => X.cell? ⟨g, o + i * 2, none⟩ = some (.int .i64 n) ∧ X.cell? ⟨g, o + i * 2 + 1, none⟩ = some (.int .i64 d) ∧ X.cell? ⟨g, o + k * 2, none⟩ = some (.int .i64 p) ∧ X.cell? ⟨g, o + k * 2 + 1, none⟩ = some (.int .i64 q)) (((try dsimp only); (with_reducible refine kp4 (W := y1) a0 a1 b0 b1 ?_); repeat (first | (with_reducible exact Below.refl _ _) | (with_reducible refine bl_alloc ?_ _) | (with_reducible refine Below.drew ?_) | (with_reducible refine bl_drewN ?_ _) | (with_reducible refine bl_set ?_ (by omega) _) | (with_reducible refine bl_step ?_ (by assumption)))))
              (first | (go_at_call 25; (with_reducible refine (r4cmp_any n d p q _).mono ?_); rintro e y2 ⟨rfl, hx⟩))
            have hy : Below y1.heap.size y1 y2 := by repeat (first | (with_reducible exact Below.refl _ _) | (with_reducible refine bl_alloc ?_ _) | (with_reducible refine Below.drew ?_) | (with_reducible refine bl_drewN ?_ _) | (with_reducible refine bl_set ?_ (by omega) _) | (with_reducible refine bl_step ?_ (by assumption)))
            replace a0 := keepc hy a0; replace a1 := keepc hy a1; replace b0 := keepc hy b0; replace b1 := keepc hy b1
            replace hnx : Below w.heap.size w y2 := by repeat (first | (with_reducible exact Below.refl _ _) | (with_reducible refine bl_alloc ?_ _) | (with_reducible refine Below.drew ?_) | (with_reducible refine bl_drewN ?_ _) | (with_reducible refine bl_set ?_ (by omega) _) | (with_reducible refine bl_step ?_ (by assumption)))
            clear hx hy
            go_wp2_with fail
            exact ⟨⟨k + 1, by omega, by go_num, a0, a1, hnx⟩, by simp [intOf]; omega⟩
        · have : k = m := by omega
          subst this
          go_wp2_with fail
          exact ⟨⟨i + 1, by omega, by go_num, hnx⟩, by simp [intOf]; omega⟩
    · have : i = m := by omega
      subst this
      go_wp2
      go_ret
      exact ⟨rfl, hnx⟩
end Go.Proofs.YtboabgjgcnkelaaDoor
/-
  WHAT EVERY ROW OF THIS SEAT WANTS: the listed variables, the start that fits, fractions and norms as parameters.
-/
namespace Go.Proofs.YtboabgjgcnkelaaDoor
open Go.ChangeShapes Go.WideShapes Go.ChangeAt Go.RowKit

theorem own : ownKnob Tryd.prog.godebug = none := by kernel_rfl
theorem laidOut : laidOutB Tryd.prog = true := by kernel_rfl
def laidL : List (String × DataW Unit) := [("math/bits.deBruijn32tab", Rows.laid_math_bits_deBruijn32tab), ("math/bits.deBruijn64tab", Rows.laid_math_bits_deBruijn64tab), ("internal/strconv.uint64pow10", Rows.laid_internal_strconv_uint64pow10)]
theorem door_met (os : Os) (args : Array Value) : laidMetH Tryd.prog laidL ((World.doorLaid Tryd.prog 400 os).forCall (fun _ _ => 0) ⟨#[], args, []⟩).memory :=
  laidMetH_of_parts3 (fuel := 8) (laidMet_of_run' 8 (by kernel_rfl) (by kernel_rfl)) (by kernel_rfl) (by kernel_rfl)
theorem only_pow : laidL.filter (fun x => x.1 == "internal/strconv.uint64pow10") = [("internal/strconv.uint64pow10", Lib.tabData .u64 Lib.pow10Tab)] := by kernel_rfl
theorem tyPow : (Tryd.prog.globals[0]?).map (·.type) = some 100 := by kernel_rfl
theorem cells_u64 : Tryd.prog.cellsOf 56 = 1 := by kernel_rfl
theorem cells_tab : Tryd.prog.cellsOf 100 = 20 := by kernel_rfl
theorem pow_laid {W : World} (h : laidMetH Tryd.prog laidL W) : LaidP W := by
  rw [MakeChecks.laidMetH_plain _ _ _ (by kernel_rfl)] at h
  have h1 := h.filter (fun x => x.1 == "internal/strconv.uint64pow10")
  rw [only_pow] at h1
  exact Lib.tabIs_of_head hgPow tyPow Tryd.underlying100 Tryd.underlying56 cells_u64 cells_tab h1
theorem fld {H : Type} {enc : TypeId × Value → H} {P : Program} {w : World} {base : Nat} {sp : Nat → Bool} {held : Bool} {t : TypeId} {fs : Array Field} {fuel : Nat} {cs : List Value} {x : DataW H × List MemPlace}
    (ht : P.underlying t = some (.struct fs)) (h : DataW.trod enc P w base sp held fuel t cs = some x) (i : Nat) (f : Field) (hi : fs[i]? = some f) :
    ∃ n y, DataW.trod enc P w base sp held n f.type ((cs.drop f.offset).take (P.cellsOf f.type)) = some y := by
  obtain ⟨xs, n, _, _, _, hxl, hf⟩ := DataW.trod_struct ht h
  have g := hf i f hi
  have hlt : i < xs.length := by
    rw [hxl]
    exact (Array.getElem?_eq_some_iff.1 hi).1
  rw [List.getElem?_eq_getElem hlt] at g
  exact ⟨n, _, g⟩
theorem fldI {H : Type} {enc : TypeId × Value → H} {P : Program} {w : World} {base : Nat} {sp : Nat → Bool} {held : Bool} {t : TypeId} {fs : Array Field} {fuel : Nat} {cs : List Value} {x : DataW H × List MemPlace}
    (ht : P.underlying t = some (.struct fs)) (h : DataW.trod enc P w base sp held fuel t cs = some x) (i : Nat) (f : Field) (hi : fs[i]? = some f) (hu : P.underlying f.type = some (.int .i64)) (hc : P.cellsOf f.type = 1) :
    ∃ z : Int, (cs.drop f.offset).take 1 = [.int .i64 z] := by
  obtain ⟨n, y, g⟩ := fld ht h i f hi
  rw [hc] at g
  obtain ⟨z, e, _⟩ := DataW.trod_int hu g
  exact ⟨z, e⟩
theorem cells_i64 : Tryd.prog.cellsOf 2 = 1 := by kernel_rfl
theorem cells_frac : Tryd.prog.cellsOf 23 = 2 := by kernel_rfl
theorem cells_norm : Tryd.prog.cellsOf 31 = 8 := by kernel_rfl
theorem len2 {l : List Value} (h : l.length = 2) : ∃ a b, l = [a, b] := by
  match l, h with
  | [a, b], _ => exact ⟨a, b, rfl⟩
theorem len8 {l : List Value} (h : l.length = 8) : ∃ a b c d e f g i, l = [a, b, c, d, e, f, g, i] := by
  match l, h with
  | [a, b, c, d, e, f, g, i], _ => exact ⟨a, b, c, d, e, f, g, i, rfl⟩
set_option maxRecDepth 100000 in
theorem frac_cells {H : Type} {enc : TypeId × Value → H} {w : World} {base : Nat} {sp : Nat → Bool} {held : Bool} {fuel : Nat} {cs : List Value} {x : DataW H × List MemPlace}
    (h : DataW.trod enc Tryd.prog w base sp held fuel 23 cs = some x) : ∃ a b : Int, cs = [.int .i64 a, .int .i64 b] := by
  have hl : cs.length = 2 := by
    obtain ⟨_, _, _, _, hlen, _, _⟩ := DataW.trod_struct Tryd.underlying23 h
    exact hlen.trans cells_frac
  obtain ⟨z0, e0⟩ := fldI Tryd.underlying23 h 0 _ rfl Tryd.underlying2 cells_i64
  obtain ⟨z1, e1⟩ := fldI Tryd.underlying23 h 1 _ rfl Tryd.underlying2 cells_i64
  obtain ⟨a, b, rfl⟩ := len2 hl
  simp at e0 e1
  subst e0 e1
  exact ⟨z0, z1, rfl⟩
theorem fldF {H : Type} {enc : TypeId × Value → H} {w : World} {base : Nat} {sp : Nat → Bool} {held : Bool} {t : TypeId} {fs : Array Field} {fuel : Nat} {cs : List Value} {x : DataW H × List MemPlace}
    (ht : Tryd.prog.underlying t = some (.struct fs)) (h : DataW.trod enc Tryd.prog w base sp held fuel t cs = some x) (i : Nat) (f : Field) (hi : fs[i]? = some f) (hu : f.type = 23) :
    ∃ a b : Int, (cs.drop f.offset).take 2 = [.int .i64 a, .int .i64 b] := by
  obtain ⟨n, y, g⟩ := fld ht h i f hi
  rw [hu, cells_frac] at g
  exact frac_cells g
set_option maxRecDepth 100000 in
theorem norm_cells {H : Type} {enc : TypeId × Value → H} {w : World} {base : Nat} {sp : Nat → Bool} {held : Bool} {fuel : Nat} {cs : List Value} {x : DataW H × List MemPlace}
    (h : DataW.trod enc Tryd.prog w base sp held fuel 31 cs = some x) :
    ∃ gn gd bn bd mn md sn sd : Int, cs = [.int .i64 gn, .int .i64 gd, .int .i64 bn, .int .i64 bd, .int .i64 mn, .int .i64 md, .int .i64 sn, .int .i64 sd] := by
  have hl : cs.length = 8 := by
    obtain ⟨_, _, _, _, hlen, _, _⟩ := DataW.trod_struct Tryd.underlying31 h
    exact hlen.trans cells_norm
  obtain ⟨a0, b0, e0⟩ := fldF Tryd.underlying31 h 0 _ rfl rfl
  obtain ⟨a1, b1, e1⟩ := fldF Tryd.underlying31 h 1 _ rfl rfl
  obtain ⟨a2, b2, e2⟩ := fldF Tryd.underlying31 h 2 _ rfl rfl
  obtain ⟨a3, b3, e3⟩ := fldF Tryd.underlying31 h 3 _ rfl rfl
  obtain ⟨a, b, c, d, e, f, g, i, rfl⟩ := len8 hl
  simp at e0 e1 e2 e3
  obtain ⟨rfl, rfl⟩ := e0
  obtain ⟨rfl, rfl⟩ := e1
  obtain ⟨rfl, rfl⟩ := e2
  obtain ⟨rfl, rfl⟩ := e3
  exact ⟨_, _, _, _, _, _, _, _, rfl⟩
set_option maxRecDepth 100000 in
theorem open_frac {H : Type} {enc : TypeId × Value → H} {W : World} {base : Nat} {v : Value} {d : DataW H} {p : List MemPlace}
    (hv : Value.okWide Tryd.prog W .any base 23 v) (h : DataW.Trod enc Tryd.prog W 0 (fun _ => true) true 23 v d p) : ∃ a b : Int, v = fr a b := by
  obtain ⟨cs, rfl, _⟩ := okWide_struct Tryd.underlying23 hv
  obtain ⟨fuel, hf⟩ := h
  obtain ⟨a, b, e⟩ := frac_cells hf
  refine ⟨a, b, ?_⟩
  simp [Value.cells] at e
  obtain ⟨l⟩ := cs
  simp at e
  subst e
  rfl
set_option maxRecDepth 100000 in
theorem open_norm {H : Type} {enc : TypeId × Value → H} {W : World} {base : Nat} {v : Value} {d : DataW H} {p : List MemPlace}
    (hv : Value.okWide Tryd.prog W .any base 31 v) (h : DataW.Trod enc Tryd.prog W 0 (fun _ => true) true 31 v d p) : ∃ gn gd bn bd mn md sn sd : Int, v = nm gn gd bn bd mn md sn sd := by
  obtain ⟨cs, rfl, _⟩ := okWide_struct Tryd.underlying31 hv
  obtain ⟨fuel, hf⟩ := h
  obtain ⟨gn, gd, bn, bd, mn, md, sn, sd, e⟩ := norm_cells hf
  refine ⟨gn, gd, bn, bd, mn, md, sn, sd, ?_⟩
  simp [Value.cells] at e
  obtain ⟨l⟩ := cs
  simp at e
  subst e
  rfl
end Go.Proofs.YtboabgjgcnkelaaDoor
/- PARAMETERS THAT ARE LISTS. -/
namespace Go.Proofs.YtboabgjgcnkelaaDoor
open Go.ChangeShapes Go.WideShapes Go.ChangeAt Go.RowKit
set_option maxRecDepth 100000

theorem add_at (b o n : Nat) : Addr.add ⟨b, o, none⟩ n = ⟨b, o + n, none⟩ := by
  unfold Addr.add
  by_cases h : n = 0
  · subst h; rfl
  · rw [if_neg h]
theorem und_fracs : Tryd.prog.underlying 48 = some (.slice 23) := by kernel_rfl
theorem und_norms : Tryd.prog.underlying 44 = some (.slice 31) := by kernel_rfl
theorem und_i64s : Tryd.prog.underlying 45 = some (.slice 2) := by kernel_rfl
theorem max_is : maxLen = 9223372036854775807 := by decide
/-- A list at the cells of each element. -/
theorem open_list {H : Type} {enc : TypeId × Value → H} {W : World} {base : Nat} {t e : TypeId} {N : Nat} {v : Value} {d : DataW H} {p : List MemPlace} (ht : Tryd.prog.underlying t = some (.slice e)) (hN : Tryd.prog.cellsOf e = N) (hpos : 0 < N)
    (hv : Value.okWide Tryd.prog W .any base t v) (h : DataW.Trod enc Tryd.prog W 0 (fun _ => true) true t v d p) :
    ∃ (ao : Option Addr) (m cap : Nat), v = .slice ao m cap ∧ m ≤ 9223372036854775807 ∧ ∀ k, k < m → ∃ (g o n : Nat) (cs : List Value) (y : DataW H × List MemPlace), ao = some ⟨g, o, none⟩ ∧ DataW.trod enc Tryd.prog W 0 (fun _ => true) true n e cs = some y ∧ cs.length = N ∧
      ∀ j, j < N → W.cell? ⟨g, o + k * N + j, none⟩ = cs[j]? := by
  obtain ⟨a0, len, cap, rfl⟩ := okWide_slice ht hv
  obtain ⟨fuel, hf⟩ := h
  rcases Deep.open_slice ht hf with ⟨hc, hx⟩ | ⟨a, len', cap', mm, n, D, Pl, hc, _, hl, hm, hmm, hx, hcell⟩
  · simp [Value.cells] at hc
    obtain ⟨rfl, rfl, rfl⟩ := hc
    exact ⟨none, 0, 0, rfl, by omega, fun k hk => absurd hk (by omega)⟩
  · simp [Value.cells] at hc
    obtain ⟨rfl, rfl, rfl⟩ := hc
    simp only [if_true] at hmm
    refine ⟨some a, len, cap, rfl, by have := max_is; omega, fun k hk => ?_⟩
    obtain ⟨b, o, s⟩ := a
    obtain rfl : s = none := by
      obtain ⟨cs0, h0, _⟩ := hcell 0 (by omega)
      rw [hN] at h0
      obtain ⟨_, hlen, hc0⟩ := World.cells?_some h0
      have e0 := hc0 0 hpos
      rw [Deep.add_add, List.getElem?_eq_getElem (by omega)] at e0
      have := World.cell?_spot e0
      simpa [Addr.add] using this
    obtain ⟨cs, h1, h2⟩ := hcell k (by omega)
    rw [hN] at h1
    obtain ⟨_, hlen, hc1⟩ := World.cells?_some h1
    refine ⟨b, o, n, cs, _, rfl, h2, hlen, fun j hj => ?_⟩
    have := hc1 j hj
    rw [Deep.add_add, add_at, ← Nat.add_assoc] at this
    exact this
theorem open_fracs {H : Type} {enc : TypeId × Value → H} {W : World} {base : Nat} {v : Value} {d : DataW H} {p : List MemPlace}
    (hv : Value.okWide Tryd.prog W .any base 48 v) (h : DataW.Trod enc Tryd.prog W 0 (fun _ => true) true 48 v d p) :
    ∃ (ao : Option Addr) (m cap : Nat), v = .slice ao m cap ∧ m ≤ 9223372036854775807 ∧ Lfr W ao m := by
  obtain ⟨ao, m, cap, rfl, hm, hf⟩ := open_list und_fracs cells_frac (by decide) hv h
  refine ⟨ao, m, cap, rfl, hm, fun k hk => ?_⟩
  obtain ⟨g, o, n, cs, y, rfl, ht, _, hc⟩ := hf k hk
  obtain ⟨a, b, rfl⟩ := frac_cells ht
  exact ⟨g, o, a, b, rfl, hc 0 (by decide), hc 1 (by decide)⟩
theorem open_norms {H : Type} {enc : TypeId × Value → H} {W : World} {base : Nat} {v : Value} {d : DataW H} {p : List MemPlace}
    (hv : Value.okWide Tryd.prog W .any base 44 v) (h : DataW.Trod enc Tryd.prog W 0 (fun _ => true) true 44 v d p) :
    ∃ (ao : Option Addr) (m cap : Nat), v = .slice ao m cap ∧ m ≤ 9223372036854775807 ∧ Lno W ao m := by
  obtain ⟨ao, m, cap, rfl, hm, hf⟩ := open_list und_norms cells_norm (by decide) hv h
  refine ⟨ao, m, cap, rfl, hm, fun k hk => ?_⟩
  obtain ⟨g, o, n, cs, y, rfl, ht, _, hc⟩ := hf k hk
  obtain ⟨r, s, sy, sx, t, l, b, q, rfl⟩ := norm_cells ht
  exact ⟨g, o, r, s, sy, sx, t, l, b, q, rfl, hc 0 (by decide), hc 1 (by decide), hc 2 (by decide), hc 3 (by decide), hc 4 (by decide), hc 5 (by decide), hc 6 (by decide), hc 7 (by decide)⟩
theorem open_i64s {H : Type} {enc : TypeId × Value → H} {W : World} {base : Nat} {v : Value} {d : DataW H} {p : List MemPlace}
    (hv : Value.okWide Tryd.prog W .any base 45 v) (h : DataW.Trod enc Tryd.prog W 0 (fun _ => true) true 45 v d p) :
    ∃ (ao : Option Addr) (m cap : Nat), v = .slice ao m cap ∧ m ≤ 9223372036854775807 ∧ Lin W ao m := by
  obtain ⟨ao, m, cap, rfl, hm, hf⟩ := open_list und_i64s cells_i64 (by decide) hv h
  refine ⟨ao, m, cap, rfl, hm, fun k hk => ?_⟩
  obtain ⟨g, o, n, cs, y, rfl, ht, _, hc⟩ := hf k hk
  obtain ⟨x, rfl, _, _⟩ := DataW.trod_int Tryd.underlying2 ht
  have c := hc 0 (by decide)
  rw [Nat.mul_one] at c
  exact ⟨g, o, x, rfl, c⟩
end Go.Proofs.YtboabgjgcnkelaaDoor
namespace Go.Proofs.YtboabgjgcnkelaaDoor
open Go.ChangeShapes Go.WideShapes Go.ChangeAt Go.RowKit
open Go.ChangeMaps (open_string shut_string)

set_option maxRecDepth 100000 in
theorem fracAll_lifted (os : Os) (started : os.Started) (H : Type) (enc : TypeId × Value → H) :
    ReturnsInHanded {} Tryd.checked os 8 .any (fun w args => (Rows.fracAllSpec.pre enc Tryd.prog Tryd.f8 [] false w args ∧ laidMetH Tryd.prog laidL w) ∧ sizedMet enc Tryd.prog Tryd.f8 (OpenSpec.ofChange Rows.fracAllSpec) false w args)
      (Rows.fracAllSpec.post enc Tryd.prog Tryd.f8 false true false false) := by
  refine returnsInHanded_of_change_and (C := Tryd.checked) (X := fun w _ => laidMetH Tryd.prog laidL w) (fun _ _ _ hh h => h.of_heap hh) own started (by kernel_rfl) Tryd.func8
    (ChangeSpec.witness_shaped (enc := enc) (C := Tryd.checked) (os := os) (X := fun w _ => laidMetH Tryd.prog laidL w) false (World.doorLaid Tryd.prog 400 os) #[.slice none 0 0] 8 rfl (World.shaped_of_RefB (by kernel_rfl) (by kernel_rfl)) (by kernel_rfl) (by kernel_rfl) (by kernel_rfl) (door_met os _)) ?_
  intro W base args ds gs before hval0 hW _ _ hL _
  have hval : ∀ (j : Nat) t v, Tryd.f8.params[j]? = some t → args[j]? = some v → Value.okWide Tryd.prog W .any base t v := hval0
  have hW' := hW
  obtain ⟨p, q, hA0, hV, rfl, hfz, hnd⟩ := hW
  have hA : DataW.TrodAll enc Tryd.prog W 0 (fun _ => true) true Tryd.f8.params.toList args.toList ds p := hA0
  rw [Tryd.params8] at hA hval
  obtain ⟨v0, vs0, d0, ds0, p0, q0, hargs, rfl, rfl, h0, r0⟩ := trodAll_cons hA
  obtain ⟨rfl, rfl, rfl⟩ := trodAll_nil r0
  obtain rfl : args = #[v0] := by cases args; simp_all
  obtain ⟨rfl, rfl⟩ := trodVars_none hV
  have lt0 : ∀ x ∈ p0, x.block < W.heap.size := by obtain ⟨m, hm⟩ := h0; exact DataW.trod_lt m _ _ _ hm
  have k0 := h0
  obtain ⟨ao0, m0, c0, rfl, hm0, f0⟩ := open_fracs (hval 0 48 v0 rfl rfl) h0
  clear hA0 hval0
  refine (fall_walk ao0 m0 c0 hm0 W (pow_laid hL) f0).mono fun e W' ⟨he, bel⟩ => ?_
  subst he
  exact ⟨_, rfl, _, _, _, [], _, [], hW', trodAll_mk1 (shut_bool Tryd.underlying4 _), (trodAll_cons_mk (Below.trod laidOut (by kernel_rfl) (of_decide_eq_true (by kernel_rfl)) k0 bel lt0) trodAll_mk0), rfl, bel.frame _, fun h => by cases h⟩

theorem fracAll_row : Rows.FracAllSaid :=
  OpenClaim.holds_of_wide 8 Tryd.f8 rfl rfl rfl rfl rfl rfl rfl ⟨rfl, rfl, rfl, rfl, rfl⟩ rfl rfl rfl rfl rfl (by kernel_rfl) Tryd.func8 (by kernel_rfl)
    (of_decide_eq_true (by kernel_rfl)) (by unfold Func.isWrapper; first | (rw [if_pos (by decide +kernel)]; kernel_rfl) | (rw [if_neg (by decide +kernel)]; exact ⟨rfl, rfl⟩))
    (fun os started H enc _ => fracAll_lifted os started H enc)
set_option maxRecDepth 100000 in
theorem fracAll_holds : Rows.FracAllCardSaid :=
  Claim7.holds_tied_plain_at .later [] [.data, .data, .data] true _ false
    fracAll_row (fun _ h => by cases h) (by kernel_rfl) (fun _ h => by cases h) fracAll_row_tie rfl ⟨rfl, rfl⟩ (by kernel_rfl) rfl
    (fun f fn hf hfn => by
      obtain rfl : f = 8 := Option.some.inj ((show Tryd.prog.funcNamed "heddle/heddlelaw4.FracAll" = some 8 by kernel_rfl).symm.trans hf) |>.symm
      obtain rfl : fn = Tryd.f8 := (Option.some.inj (Tryd.func8.symm.trans hfn)).symm
      exact ⟨by kernel_rfl, fun j t ht => by
        rw [Tryd.params8] at ht
        rcases j with _ | j
        · simp at ht; subst ht; exact (show Tryd.prog.wantsStandIn 48 = false by kernel_rfl)
        · simp at ht⟩)
    (by kernel_rfl)
#print axioms fracAll_holds
end Go.Proofs.YtboabgjgcnkelaaDoor
