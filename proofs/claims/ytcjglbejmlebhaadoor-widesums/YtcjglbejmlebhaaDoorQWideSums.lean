import Derived.Test.YtcjglbejmlebhaaDoorWL1
import Derived.Test.YtcjglbejmlebhaaDoorWP1
import Derived.Test.YtcjglbejmlebhaaDoorCards
import Derived.Test.YtcjglbejmlebhaaDoorTie
import Derived.SevenTiedAt
/- WHAT BOTH ANSWER: Fit, Neg, Add, Cmp, Scale, Of, Mul. -/
namespace Go.Proofs.YtcjglbejmlebhaaDoor
open Go.RowKit Go.Shelf
attribute [local go_sem ↓] Go.wp_at_zero Go.wp_at_succ

def f6 (n : Int) : Int := if -9223372036854775808 ≤ n ∧ n < 9223372036854775808 then n else 0
def e6 (n : Int) : Int := if -9223372036854775808 ≤ n ∧ n < 9223372036854775808 then 0 else 10
theorem f6_in {n : Int} (h : I64 n) : f6 n = n ∧ e6 n = 0 := ⟨if_pos h, if_pos h⟩
theorem f6_out {n : Int} (h : ¬ I64 n) : f6 n = 0 ∧ e6 n = 10 := ⟨if_neg h, if_neg h⟩
theorem wrap_i64 (x : Int) : I64 (wrap64 x) := by unfold I64 wrap64; omega
set_option maxRecDepth 100000 in
theorem fit_no (n : Int) (hr : Rng n) (hn : ¬ I64 n) (w : World) :
    Calls Tryd.prog 16 #[wv n] w fun e w' => e = .returned (.tuple #[.int .i64 0, .int .i64 10]) ∧ Below w.heap.size w w' := by
  obtain ⟨m, hm⟩ : ∃ m, wrap64 (loOf n) = m := ⟨_, rfl⟩
  have hi : I64 m := by rw [← hm]; exact wrap_i64 _
  have ne : ¬ hiOf m = hiOf n := by
    unfold I64 at hi hn
    unfold Rng at hr
    unfold wrap64 loOf at hm
    unfold hiOf
    omega
  have ne' : (hiOf m == hiOf n) = false := beq_false_of_ne ne
  have ne2 : ¬ hiOf n = hiOf m := fun e => ne e.symm
  have MM := hid1 hi
  clear hi hr hn
  go_enter Tryd.func16, Tryd.ntmps16
  go_wp2_with fail
  go_region_held3 (fun w' => w'.cell? ⟨w.heap.size, 0, none⟩ = some (.int .i64 (hiOf n)) ∧ w'.cell? ⟨w.heap.size, 1, none⟩ = some (.int .u64 (loOf n))) (first | (simp [go_sem]; done) | exact ⟨keepc hb (by simp [go_sem]), keepc hb (by simp [go_sem])⟩)
    (first | (go_at_call 27; refine (of_any m MM.out _).mono ?_; rintro e w' ⟨rfl, hb⟩))
  go_wp2
  go_ret2
  refine ⟨rfl, ?_⟩
  repeat (first | exact Below.refl _ _ | refine bl_alloc ?_ _ | refine Below.drew ?_ | refine bl_drewN ?_ _ | refine bl_set ?_ (by omega) _ | refine bl_step ?_ (by assumption))
theorem fit64_any (n : Int) (hr : Rng n) (w : World) : Calls Tryd.prog 16 #[wv n] w fun e w' => e = .returned (.tuple #[.int .i64 (f6 n), .int .i64 (e6 n)]) ∧ Below w.heap.size w w' := by
  by_cases h : I64 n
  · rw [(f6_in h).1, (f6_in h).2]; exact fit_ok n h w
  · rw [(f6_out h).1, (f6_out h).2]; exact fit_no n hr h w
theorem cmp_sgn (a b : Int) : cmpN a b = sgnOf (a - b) := by
  unfold cmpN sgnOf
  by_cases h1 : a < b
  · rw [if_pos h1, if_neg (by omega), if_pos (by omega)]
  · rw [if_neg h1]
    by_cases h2 : a = b
    · rw [if_pos h2, if_pos (by omega)]
    · rw [if_neg h2, if_neg (by omega), if_neg (by omega)]
theorem sgn_gt (d : Int) : sgnOf d > 0 ↔ d > 0 := by unfold sgnOf; split <;> (try split) <;> omega
set_option maxHeartbeats 3200000 in
set_option maxRecDepth 100000 in
theorem rfit64_core (n v u F E : Int) (hr : Rng n) (hv : sgnOf (n - (-9223372036854775808)) = v) (hu : sgnOf (n - 9223372036854775807) = u) (hc : (v < 0 ∧ F = 0 ∧ E = 10) ∨ (¬ v < 0 ∧ u > 0 ∧ F = 0 ∧ E = 10) ∨ (¬ v < 0 ∧ ¬ u > 0 ∧ F = wrap64 (loOf n) ∧ E = 0)) (w : World) :
    Calls Tryd.prog 17 #[wv n] w fun e w' => e = .returned (.tuple #[.int .i64 F, .int .i64 E]) ∧ Below w.heap.size w w' := by
  have HR := hid1 hr
  have HV := hid1 hv
  have HU := hid1 hu
  have HC := hid1 hc
  have KN : Hid ((n.natAbs : Int) < 65536 ^ 40) := hid1 (b40 (by unfold Rng at hr; omega) (by unfold Rng at hr; omega))
  have K1 : Hid (((-9223372036854775808 : Int).natAbs : Int) < 65536 ^ 40) := hid1 (b40 (by decide) (by decide))
  have K2 : Hid (((9223372036854775807 : Int).natAbs : Int) < 65536 ^ 40) := hid1 (b40 (by decide) (by decide))
  clear hr hv hu hc
  go_enter Tryd.func17, Tryd.ntmps17
  go_wp2_with fail
  refine gen_calls (fun W' => Below w.heap.size w W' ∧ Sv W' w.heap.size (.int .i64 (hiOf n)) (.int .u64 (loOf n))) ⟨by repeat (first | exact Below.refl _ _ | refine bl_alloc ?_ _ | refine Below.drew ?_ | refine bl_drewN ?_ _ | refine bl_set ?_ (by omega) _ | refine bl_step ?_ (by assumption)), sv_new rfl⟩ ?_
  rintro W ⟨B0, sa⟩
  have SA := hid1 sa
  have z0 := lt_of_cell sa.1
  clear sa
  refine (rwide_any n HR.out _).mono ?_
  rintro e w1 ⟨x1, rfl, hx1, hb1⟩
  obtain ⟨s1, o1, l1, c1, rfl⟩ := hx1.form
  have H1 := hid1 hx1
  have z1 := hb1.size
  replace SA := hid1 (SA.out.keep hb1)
  clear hx1
  go_wp2_with fail
  refine gen_calls (fun W' => Below w.heap.size w W' ∧ Sv W' w.heap.size (.int .i64 (hiOf n)) (.int .u64 (loOf n)) ∧ Sv W' w1.heap.size (.bool s1) (.slice o1 l1 c1) ∧ Bg W' (.agg #[.bool s1, .slice o1 l1 c1]) n ∧ w1.heap.size < W'.heap.size) ⟨by repeat (first | exact Below.refl _ _ | refine bl_alloc ?_ _ | refine Below.drew ?_ | refine bl_drewN ?_ _ | refine bl_set ?_ (by omega) _ | refine bl_step ?_ (by assumption)), Sv.alloc SA.out _, sv_new rfl, Bg.alloc H1.out _, by simp⟩ ?_
  clear SA H1
  rintro W1 ⟨B1, sa, s4, h4, z4⟩
  have SA := hid1 sa
  have S4 := hid1 s4
  have H4 := hid1 h4
  clear sa s4 h4 hb1 B0
  refine (rint_any (-9223372036854775808) ⟨by omega, by omega⟩ _).mono ?_
  rintro e w2 ⟨x2, rfl, hx2, hb2⟩
  obtain ⟨s2, o2, l2, c2, rfl⟩ := hx2.form
  have H2 := hid1 hx2
  have z2 := hb2.size
  replace SA := hid1 (SA.out.keep hb2)
  replace S4 := hid1 (S4.out.keep hb2)
  replace H4 := hid1 (H4.out.below hb2)
  clear hx2
  go_wp2_with fail
  refine gen_calls (fun W' => Below w.heap.size w W' ∧ Sv W' w.heap.size (.int .i64 (hiOf n)) (.int .u64 (loOf n)) ∧ Sv W' w1.heap.size (.bool s1) (.slice o1 l1 c1) ∧ Bg W' (.agg #[.bool s1, .slice o1 l1 c1]) n ∧ Sv W' w2.heap.size (.bool s2) (.slice o2 l2 c2) ∧ Bg W' (.agg #[.bool s2, .slice o2 l2 c2]) (-9223372036854775808) ∧ w2.heap.size < W'.heap.size) ⟨by repeat (first | exact Below.refl _ _ | refine bl_alloc ?_ _ | refine Below.drew ?_ | refine bl_drewN ?_ _ | refine bl_set ?_ (by omega) _ | refine bl_step ?_ (by assumption)), Sv.alloc SA.out _, Sv.alloc S4.out _, Bg.alloc H4.out _, sv_new rfl, Bg.alloc H2.out _, by simp⟩ ?_
  clear SA S4 H4 H2
  rintro W2 ⟨B2, sa, s4, h4, s5, h5, z5⟩
  have SA := hid1 sa
  have S4 := hid1 s4
  have H4 := hid1 h4
  have S5 := hid1 s5
  have H5 := hid1 h5
  clear sa s4 h4 s5 h5 hb2 B1
  refine (rint_any 9223372036854775807 ⟨by omega, by omega⟩ _).mono ?_
  rintro e w3 ⟨x3, rfl, hx3, hb3⟩
  obtain ⟨s3, o3, l3, c3, rfl⟩ := hx3.form
  have H3 := hid1 hx3
  have z3 := hb3.size
  replace SA := hid1 (SA.out.keep hb3)
  replace S4 := hid1 (S4.out.keep hb3)
  replace H4 := hid1 (H4.out.below hb3)
  replace S5 := hid1 (S5.out.keep hb3)
  replace H5 := hid1 (H5.out.below hb3)
  have B3 := bl_step B2 hb3
  clear hx3 hb3 B2
  obtain ⟨q0, q1, _, _⟩ := S4.out
  obtain ⟨t0, t1, _, _⟩ := S5.out
  have zq := lt_of_cell q0
  have zt := lt_of_cell t0
  go_wp2_with fail
  refine gen_calls (fun W' => Below w.heap.size w W' ∧ Sv W' w.heap.size (.int .i64 (hiOf n)) (.int .u64 (loOf n)) ∧ Sv W' w1.heap.size (.bool s1) (.slice o1 l1 c1) ∧ Bg W' (.agg #[.bool s1, .slice o1 l1 c1]) n ∧ Bg W' (.agg #[.bool s2, .slice o2 l2 c2]) (-9223372036854775808) ∧ Sv W' w3.heap.size (.bool s3) (.slice o3 l3 c3) ∧ Bg W' (.agg #[.bool s3, .slice o3 l3 c3]) 9223372036854775807) ⟨by repeat (first | exact Below.refl _ _ | refine bl_alloc ?_ _ | refine Below.drew ?_ | refine bl_drewN ?_ _ | refine bl_set ?_ (by omega) _ | refine bl_step ?_ (by assumption)), Sv.alloc SA.out _, Sv.alloc S4.out _, Bg.alloc H4.out _, Bg.alloc H5.out _, sv_new rfl, Bg.alloc H3.out _⟩ ?_
  clear SA S4 H4 H3 S5 H5 q0 q1 t0 t1 zq zt
  rintro W3 ⟨B4, sa, s4, h4, h5, s6, h6⟩
  have SA := hid1 sa
  have S4 := hid1 s4
  have H4 := hid1 h4
  have S6 := hid1 s6
  have H6 := hid1 h6
  clear sa s4 h4 s6 h6
  refine (rcmp_val n (-9223372036854775808) v _ _ _ H4.out h5 KN.out K1.out HV.out).mono ?_
  rintro e w4 ⟨rfl, hb4⟩
  replace SA := hid1 (SA.out.keep hb4)
  replace S4 := hid1 (S4.out.keep hb4)
  replace H4 := hid1 (H4.out.below hb4)
  replace S6 := hid1 (S6.out.keep hb4)
  replace H6 := hid1 (H6.out.below hb4)
  have B5 := bl_step B4 hb4
  clear h5 hb4 B4 B3
  obtain ⟨a0, a1, _, _⟩ := SA.out
  obtain ⟨q0, q1, _, _⟩ := S4.out
  obtain ⟨t0, t1, _, _⟩ := S6.out
  rcases HC.out with ⟨hv, eF, eE⟩ | ⟨hv, hu, eF, eE⟩ | ⟨hv, hu, eF, eE⟩
  · subst eF eE
    go_wp2
    go_ret2
    exact ⟨rfl, B5⟩
  · subst eF eE
    go_wp2_with fail
    refine (rcmp_val n 9223372036854775807 u _ _ _ H4.out H6.out KN.out K2.out HU.out).mono ?_
    rintro e w5 ⟨rfl, hb5⟩
    have B6 := bl_step B5 hb5
    clear hb5
    go_wp2
    go_ret2
    exact ⟨rfl, B6⟩
  · have EF := hid1 eF
    subst eE
    have hv1 : decide (v < 0) = false := decide_eq_false (by omega)
    have hu1 : decide (u > 0) = false := decide_eq_false (by omega)
    have hu2 : decide (0 < u) = false := decide_eq_false (by omega)
    clear eF HC hu
    go_wp2_with fail
    refine (rcmp_val n 9223372036854775807 u _ _ _ H4.out H6.out KN.out K2.out HU.out).mono ?_
    rintro e w5 ⟨rfl, hb5⟩
    have B6 := bl_step B5 hb5
    obtain ⟨a0, a1, _, _⟩ := SA.out.keep hb5
    clear hb5
    go_wp2
    go_ret2
    exact ⟨by rw [EF.out]; rfl, B6⟩
theorem rfit64_any (n : Int) (hr : Rng n) (w : World) : Calls Tryd.prog 17 #[wv n] w fun e w' => e = .returned (.tuple #[.int .i64 (f6 n), .int .i64 (e6 n)]) ∧ Below w.heap.size w w' := by
  refine rfit64_core n _ _ _ _ hr rfl rfl ?_ w
  by_cases h1 : n < -9223372036854775808
  · have h : ¬ I64 n := by unfold I64; omega
    exact .inl ⟨(sgn_lt _).2 (by omega), (f6_out h).1, (f6_out h).2⟩
  · by_cases h2 : n > 9223372036854775807
    · have h : ¬ I64 n := by unfold I64; omega
      exact .inr (.inl ⟨fun k => h1 (by have := (sgn_lt _).1 k; omega), (sgn_gt _).2 (by omega), (f6_out h).1, (f6_out h).2⟩)
    · have h : I64 n := by unfold I64; omega
      exact .inr (.inr ⟨fun k => h1 (by have := (sgn_lt _).1 k; omega), fun k => h2 (by have := (sgn_gt _).1 k; omega), by rw [(f6_in h).1, fit_lo h], (f6_in h).2⟩)
end Go.Proofs.YtcjglbejmlebhaaDoor
/- WIDESUMS, WALKED. -/
namespace Go.Proofs.YtcjglbejmlebhaaDoor
open Go.RowKit Go.Shelf
attribute [local go_sem ↓] Go.wp_at_zero Go.wp_at_succ

theorem both_add (a b : Int) (ha : Rng a) (hb : Rng b) : ∃ v e : Int, (∀ w : World, Calls Tryd.prog 20 #[wv a, wv b] w fun e' w' => e' = .returned (.tuple #[wv v, .int .i64 e]) ∧ Below w.heap.size w w') ∧
    (∀ w : World, Calls Tryd.prog 21 #[wv a, wv b] w fun e' w' => e' = .returned (.tuple #[wv v, .int .i64 e]) ∧ Below w.heap.size w w') := by
  refine ⟨_, _, fun w => ?_, fun w => rsum_any a b ha hb w⟩
  by_cases h : Rng (a + b)
  · rw [(fit_in h).1, (fit_in h).2]; exact wadd_ok a b h w
  · rw [(fit_out h).1, (fit_out h).2]; exact wadd_no a b ha hb h w
theorem rcmp_cmp (a b : Int) (ha : Rng a) (hb : Rng b) (x y : Value) (w : World) (hx : Bg w x a) (hy : Bg w y b) :
    Calls Tryd.prog 23 #[x, y] w fun e w' => e = .returned (.int .i64 (cmpN a b)) ∧ Below w.heap.size w w' :=
  rcmp_val a b _ x y w hx hy (b40 (by unfold Rng at ha; omega) (by unfold Rng at ha; omega)) (b40 (by unfold Rng at hb; omega) (by unfold Rng at hb; omega)) (cmp_sgn a b).symm
set_option maxHeartbeats 12800000 in
set_option maxRecDepth 100000 in
theorem wsums_walk (ao : Option Addr) (m cm : Nat) (hm : m ≤ 9223372036854775807) (bo : Option Addr) (n cn : Nat) (hn : n ≤ 9223372036854775807) (w : World) (L : Laid w) (L1 : Lwi w ao m) (L2 : Li6 w bo n) :
    Calls Tryd.prog 5 #[.slice ao m cm, .slice bo n cn] w fun e w' => e = .returned (.bool true) ∧ Below w.heap.size w w' := by
  have H1 := hid1 L1
  have H2 := hid1 L2
  have HL := hid1 L
  clear L1 L2 L
  go_enter Tryd.func5, Tryd.ntmps5
  go_wp2_with fail
  refine (begun_any _ HL.out).mono ?_
  rintro e w1 ⟨rfl, hb1⟩
  go_wp2_with fail
  go_loopw [6] (fun i wr => ∃ k : Nat, k ≤ m ∧ i = .int .i64 k ∧ Below w.heap.size w wr) (fun i _ => m - (intOf i).toNat)
  case atStart => exact ⟨0, Nat.zero_le _, rfl, hb1⟩
  case round =>
    obtain ⟨i, hi, rfl, hnx⟩ := hrel
    have ii0 : (0 : Int) ≤ (i : Int) := by omega
    by_cases hli : i < m
    · have ii : (i : Int) < (m : Int) := by omega
      obtain ⟨g, o, a, eg, ra, a0, a1⟩ := (H1.out.keep hnx) i hli
      subst eg
      go_wp2_with fail
      refine (fit64_any a ra _).mono ?_
      rintro e x1 ⟨rfl, hx⟩
      replace a0 := keepc hx a0; replace a1 := keepc hx a1; replace hnx := bl_step hnx hx
      clear hx
      go_wp2_with fail
      refine (rfit64_any a ra _).mono ?_
      rintro e x2 ⟨rfl, hx⟩
      replace a0 := keepc hx a0; replace a1 := keepc hx a1; replace hnx := bl_step hnx hx
      clear hx
      go_wp2_with fail
      refine (neg_any a ra _).mono ?_
      rintro e x3 ⟨rfl, hx⟩
      replace a0 := keepc hx a0; replace a1 := keepc hx a1; replace hnx := bl_step hnx hx
      clear hx
      have za := lt_of_cell a0
      go_wp2_with fail
      refine gen_calls (fun W' => Below w.heap.size w W' ∧ Below x3.heap.size x3 W' ∧ Hid (Sv W' x3.heap.size (.int .i64 (hiOf (fitV (-a)))) (.int .u64 (loOf (fitV (-a)))))) ⟨by repeat (first | (with_reducible exact Below.refl _ _) | (with_reducible refine bl_alloc ?_ _) | (with_reducible refine Below.drew ?_) | (with_reducible refine bl_drewN ?_ _) | (with_reducible refine bl_set ?_ (by omega) _) | (with_reducible refine bl_step ?_ (by assumption))), by repeat (first | (with_reducible exact Below.refl _ _) | (with_reducible refine bl_alloc ?_ _) | (with_reducible refine Below.drew ?_) | (with_reducible refine bl_drewN ?_ _) | (with_reducible refine bl_set ?_ (by omega) _) | (with_reducible refine bl_step ?_ (by assumption))), hid1 (sv_new rfl)⟩ ?_
      rintro x4 ⟨B4, b4, HR⟩
      clear za hnx a0 a1 b4
      refine (ropposite_any a ra _).mono ?_
      rintro e x5 ⟨rfl, hx⟩
      replace HR := hid1 (HR.out.keep hx)
      have hnx : Below w.heap.size w x5 := by repeat (first | (with_reducible exact Below.refl _ _) | (with_reducible refine bl_alloc ?_ _) | (with_reducible refine Below.drew ?_) | (with_reducible refine bl_drewN ?_ _) | (with_reducible refine bl_set ?_ (by omega) _) | (with_reducible refine bl_step ?_ (by assumption)))
      clear hx B4 ra
      obtain ⟨r0, r1, _, _⟩ := HR.out
      have zr := lt_of_cell r0
      go_wp2_with fail
      clear r0 r1 zr HR
      go_loopw [15] (fun q wr => ∃ k : Nat, k ≤ m ∧ q = .int .i64 k ∧ Below w.heap.size w wr) (fun q _ => m - (intOf q).toNat)
      case atStart => exact ⟨0, Nat.zero_le _, rfl, by repeat (first | (with_reducible exact Below.refl _ _) | (with_reducible refine bl_alloc ?_ _) | (with_reducible refine Below.drew ?_) | (with_reducible refine bl_drewN ?_ _) | (with_reducible refine bl_set ?_ (by omega) _) | (with_reducible refine bl_step ?_ (by assumption)))⟩
      case round =>
        clear hnx
        obtain ⟨k, hk, rfl, hnx⟩ := hrel
        rename World => V
        have ik0 : (0 : Int) ≤ (k : Int) := by omega
        by_cases l1 : k < m
        · have j1 : (k : Int) < (m : Int) := by omega
          obtain ⟨g1, o1, a, eg, ra, a0, a1⟩ := (H1.out.keep hnx) i hli
          obtain ⟨rfl, rfl⟩ : g = g1 ∧ o = o1 := by
            injection eg with eg
            injection eg with e1 e2
            exact ⟨e1, e2⟩
          clear eg
          obtain ⟨g', o', b, eg, rb, b0, b1⟩ := (H1.out.keep hnx) k l1
          obtain ⟨rfl, rfl⟩ : g = g' ∧ o = o' := by
            injection eg with eg
            injection eg with e1 e2
            exact ⟨e1, e2⟩
          clear eg
          obtain ⟨sv, se, p1, p2⟩ := both_add a b ra rb
          have HAD := hid1 p1
          have HSU := hid1 p2
          have HCM := hid1 (fun (x y : Value) (w : World) (hx : Bg w x a) (hy : Bg w y b) => rcmp_cmp a b ra rb x y w hx hy)
          have HWA := hid1 (fun w => rwide_any a ra w)
          have HWB := hid1 (fun w => rwide_any b rb w)
          clear p1 p2 ra rb
          go_wp2_with fail
          go_cut [16, 17] (fun p e wx => ∃ gg, p = .pointer (some ⟨gg, 0, none⟩) ∧ e = .int .i64 se ∧ Below V.heap.size V wx ∧ Sv wx gg (.int .i64 (hiOf sv)) (.int .u64 (loOf sv)))
          case rest =>
            obtain ⟨g1, rfl, rfl, hx, s1⟩ := hcut
            rename World => V1
            replace a0 := keepc hx a0; replace a1 := keepc hx a1; replace b0 := keepc hx b0; replace b1 := keepc hx b1; replace hnx := bl_step hnx hx; have S1 := hid1 s1; clear s1; clear hx
            go_wp2_with fail
            go_cut [18, 19] (fun p e wx => ∃ gg, p = .pointer (some ⟨gg, 0, none⟩) ∧ e = .int .i64 se ∧ Below V1.heap.size V1 wx ∧ Sv wx gg (.int .i64 (hiOf sv)) (.int .u64 (loOf sv)))
            case rest =>
              obtain ⟨g2, rfl, rfl, hx, s2⟩ := hcut
              rename World => V2
              replace a0 := keepc hx a0; replace a1 := keepc hx a1; replace b0 := keepc hx b0; replace b1 := keepc hx b1; replace hnx := bl_step hnx hx; have S2 := hid1 s2; clear s2; replace S1 := hid1 (S1.out.keep hx); clear hx
              go_wp2_with fail
              go_region_held3 (fun X => X.cell? ⟨g, o + i * 2, none⟩ = some (.int .i64 (hiOf a)) ∧ X.cell? ⟨g, o + i * 2 + 1, none⟩ = some (.int .u64 (loOf a)) ∧ X.cell? ⟨g, o + k * 2, none⟩ = some (.int .i64 (hiOf b)) ∧ X.cell? ⟨g, o + k * 2 + 1, none⟩ = some (.int .u64 (loOf b))) (((try dsimp only); (with_reducible refine kq4 (W := V2) a0 a1 b0 b1 ?_); repeat (first | exact Below.refl _ _ | refine bl_alloc ?_ _ | refine Below.drew ?_ | refine bl_drewN ?_ _ | refine bl_set ?_ (by omega) _ | refine bl_step ?_ (by assumption))))
                (first | (go_at_call 22; refine (cmp_any a b _).mono ?_; rintro e V3 ⟨rfl, hx0⟩))
              have hx : Below V2.heap.size V2 V3 := by repeat (first | exact Below.refl _ _ | refine bl_alloc ?_ _ | refine Below.drew ?_ | refine bl_drewN ?_ _ | refine bl_set ?_ (by omega) _ | refine bl_step ?_ (by assumption))
              clear hx0
              replace a0 := keepc hx a0; replace a1 := keepc hx a1; replace b0 := keepc hx b0; replace b1 := keepc hx b1; replace hnx := bl_step hnx hx; replace S1 := hid1 (S1.out.keep hx); replace S2 := hid1 (S2.out.keep hx); clear hx
              go_wp2_with fail
              go_cut [21] (fun v wx => v = .int .i64 (cmpN a b) ∧ Below V3.heap.size V3 wx)
              case rest =>
                obtain ⟨rfl, hx⟩ := hcut
                rename World => V4
                replace a0 := keepc hx a0; replace a1 := keepc hx a1; replace b0 := keepc hx b0; replace b1 := keepc hx b1; replace hnx := bl_step hnx hx; replace S1 := hid1 (S1.out.keep hx); replace S2 := hid1 (S2.out.keep hx); clear hx
                obtain ⟨c0, c1, _, _⟩ := S1.out
                obtain ⟨d0, d1, _, _⟩ := S2.out
                clear S1 S2 a0 a1 b0 b1
                go_wp2_with fail
                exact ⟨⟨k + 1, by omega, by go_num, hnx⟩, by simp [intOf]; omega⟩
              go_region_held3 (fun X => X.cell? ⟨g, o + i * 2, none⟩ = some (.int .i64 (hiOf a)) ∧ X.cell? ⟨g, o + i * 2 + 1, none⟩ = some (.int .u64 (loOf a)) ∧ X.cell? ⟨g, o + k * 2, none⟩ = some (.int .i64 (hiOf b)) ∧ X.cell? ⟨g, o + k * 2 + 1, none⟩ = some (.int .u64 (loOf b))) (((try dsimp only); (with_reducible refine kq4 (W := V3) a0 a1 b0 b1 ?_); repeat (first | exact Below.refl _ _ | refine bl_alloc ?_ _ | refine Below.drew ?_ | refine bl_drewN ?_ _ | refine bl_set ?_ (by omega) _ | refine bl_step ?_ (by assumption))))
                (first
                  | (go_at_call 23; refine (HCM.out _ _ _ (HY1.out.below (by repeat (first | exact Below.refl _ _ | refine bl_alloc ?_ _ | refine Below.drew ?_ | refine bl_drewN ?_ _ | refine bl_set ?_ (by omega) _ | refine bl_step ?_ (by assumption)))) (HY2.out.below (by repeat (first | exact Below.refl _ _ | refine bl_alloc ?_ _ | refine Below.drew ?_ | refine bl_drewN ?_ _ | refine bl_set ?_ (by omega) _ | refine bl_step ?_ (by assumption))))).mono ?_; rintro e y3 ⟨rfl, hy3⟩)
                  | (go_at_call_of 24 a; refine (HWA.out _).mono ?_; rintro e y1 ⟨z1, rfl, hz1, hy1⟩; obtain ⟨s1, o1, l1, c1, rfl⟩ := hz1.form; have HY1 := hid1 hz1; clear hz1)
                  | (go_at_call_of 24 b; refine (HWB.out _).mono ?_; rintro e y2 ⟨z2, rfl, hz2, hy2⟩; obtain ⟨s2, o2, l2, c2, rfl⟩ := hz2.form; have HY2 := hid1 hz2; clear hz2))
              all_goals go_wp2_with fail
              all_goals go_meet
              all_goals exact ⟨rfl, by repeat (first | exact Below.refl _ _ | refine bl_alloc ?_ _ | refine Below.drew ?_ | refine bl_drewN ?_ _ | refine bl_set ?_ (by omega) _ | refine bl_step ?_ (by assumption))⟩
            go_region_held3 (fun X => X.cell? ⟨g, o + i * 2, none⟩ = some (.int .i64 (hiOf a)) ∧ X.cell? ⟨g, o + i * 2 + 1, none⟩ = some (.int .u64 (loOf a)) ∧ X.cell? ⟨g, o + k * 2, none⟩ = some (.int .i64 (hiOf b)) ∧ X.cell? ⟨g, o + k * 2 + 1, none⟩ = some (.int .u64 (loOf b))) (((try dsimp only); (with_reducible refine kq4 (W := V1) a0 a1 b0 b1 ?_); repeat (first | exact Below.refl _ _ | refine bl_alloc ?_ _ | refine Below.drew ?_ | refine bl_drewN ?_ _ | refine bl_set ?_ (by omega) _ | refine bl_step ?_ (by assumption))))
              (first | (go_at_call 21; refine (HSU.out _).mono ?_; rintro e y1 ⟨rfl, hy1⟩; (first | (have Z : Zw y1 V1.heap.size := Sv.keep (zw_new (W := V1.drew) rfl) hy1; have t0 := Z.1; have t1 := Z.2.1; have t2 := Z.2.2.1; have t3 := Z.2.2.2; have t4 := lt_of_cell t0) | (have Z : Zw y1 V1.heap.size := Sv.keep (zw_new (W := V1) rfl) hy1; have t0 := Z.1; have t1 := Z.2.1; have t2 := Z.2.2.1; have t3 := Z.2.2.2; have t4 := lt_of_cell t0) | skip)))
            all_goals go_wp2_with fail
            all_goals go_meet
            all_goals exact ⟨_, rfl, rfl, by repeat (first | exact Below.refl _ _ | refine bl_alloc ?_ _ | refine Below.drew ?_ | refine bl_drewN ?_ _ | refine bl_set ?_ (by omega) _ | refine bl_step ?_ (by assumption)), by repeat (first | (with_reducible assumption) | (with_reducible refine Sv.ownw ?_) | (with_reducible refine Sv.oth ?_ (by omega)) | (with_reducible exact sv_new (by simp)) | (with_reducible refine Sv.alloc ?_ _) | (with_reducible refine Sv.drew ?_))⟩
          go_region_held3 (fun X => X.cell? ⟨g, o + i * 2, none⟩ = some (.int .i64 (hiOf a)) ∧ X.cell? ⟨g, o + i * 2 + 1, none⟩ = some (.int .u64 (loOf a)) ∧ X.cell? ⟨g, o + k * 2, none⟩ = some (.int .i64 (hiOf b)) ∧ X.cell? ⟨g, o + k * 2 + 1, none⟩ = some (.int .u64 (loOf b))) (((try dsimp only); (with_reducible refine kq4 (W := V) a0 a1 b0 b1 ?_); repeat (first | exact Below.refl _ _ | refine bl_alloc ?_ _ | refine Below.drew ?_ | refine bl_drewN ?_ _ | refine bl_set ?_ (by omega) _ | refine bl_step ?_ (by assumption))))
            (first | (go_at_call 20; refine (HAD.out _).mono ?_; rintro e y1 ⟨rfl, hy1⟩; (first | (have Z : Zw y1 V.heap.size := Sv.keep (zw_new (W := V.drew) rfl) hy1; have t0 := Z.1; have t1 := Z.2.1; have t2 := Z.2.2.1; have t3 := Z.2.2.2; have t4 := lt_of_cell t0) | (have Z : Zw y1 V.heap.size := Sv.keep (zw_new (W := V) rfl) hy1; have t0 := Z.1; have t1 := Z.2.1; have t2 := Z.2.2.1; have t3 := Z.2.2.2; have t4 := lt_of_cell t0) | skip)))
          all_goals go_wp2_with fail
          all_goals go_meet
          all_goals exact ⟨_, rfl, rfl, by repeat (first | exact Below.refl _ _ | refine bl_alloc ?_ _ | refine Below.drew ?_ | refine bl_drewN ?_ _ | refine bl_set ?_ (by omega) _ | refine bl_step ?_ (by assumption)), by repeat (first | (with_reducible assumption) | (with_reducible refine Sv.ownw ?_) | (with_reducible refine Sv.oth ?_ (by omega)) | (with_reducible exact sv_new (by simp)) | (with_reducible refine Sv.alloc ?_ _) | (with_reducible refine Sv.drew ?_))⟩
        · have : k = m := by omega
          subst this
          clear hk l1 ik0
          go_wp2_with fail
          go_loopw [22] (fun q wr => ∃ k : Nat, k ≤ n ∧ q = .int .i64 k ∧ Below w.heap.size w wr) (fun q _ => n - (intOf q).toNat)
          case atStart => exact ⟨0, Nat.zero_le _, rfl, by repeat (first | (with_reducible exact Below.refl _ _) | (with_reducible refine bl_alloc ?_ _) | (with_reducible refine Below.drew ?_) | (with_reducible refine bl_drewN ?_ _) | (with_reducible refine bl_set ?_ (by omega) _) | (with_reducible refine bl_step ?_ (by assumption)))⟩
          case round =>
            clear hnx
            obtain ⟨k, hk, rfl, hnx⟩ := hrel
            rename World => V
            have ik0 : (0 : Int) ≤ (k : Int) := by omega
            by_cases l1 : k < n
            · have j1 : (k : Int) < (n : Int) := by omega
              obtain ⟨g1, o1, a, eg, ra, a0, a1⟩ := (H1.out.keep hnx) i hli
              obtain ⟨rfl, rfl⟩ : g = g1 ∧ o = o1 := by
                injection eg with eg
                injection eg with e1 e2
                exact ⟨e1, e2⟩
              clear eg
              obtain ⟨h, q, b, rfl, rb, b0⟩ := (H2.out.keep hnx) k l1
              have HS1 := hid1 (fun w => scale_any a b ra rb w)
              have HS2 := hid1 (fun w => rscale_any a b ra rb w)
              clear ra rb
              go_wp2_with fail
              go_cut [23, 24] (fun p e wx => ∃ gg, p = .pointer (some ⟨gg, 0, none⟩) ∧ e = .int .i64 (errV (a * b)) ∧ Below V.heap.size V wx ∧ Sv wx gg (.int .i64 (hiOf (fitV (a * b)))) (.int .u64 (loOf (fitV (a * b)))))
              case rest =>
                obtain ⟨g1, rfl, rfl, hx, s1⟩ := hcut
                rename World => V1
                replace a0 := keepc hx a0; replace a1 := keepc hx a1; replace b0 := keepc hx b0; replace hnx := bl_step hnx hx; have S1 := hid1 s1; clear s1; clear hx
                go_wp2_with fail
                go_cut [25, 26] (fun p e wx => ∃ gg, p = .pointer (some ⟨gg, 0, none⟩) ∧ e = .int .i64 (errV (a * b)) ∧ Below V1.heap.size V1 wx ∧ Sv wx gg (.int .i64 (hiOf (fitV (a * b)))) (.int .u64 (loOf (fitV (a * b)))))
                case rest =>
                  obtain ⟨g2, rfl, rfl, hx, s2⟩ := hcut
                  rename World => V2
                  replace a0 := keepc hx a0; replace a1 := keepc hx a1; replace b0 := keepc hx b0; replace hnx := bl_step hnx hx; have S2 := hid1 s2; clear s2; replace S1 := hid1 (S1.out.keep hx); clear hx
                  obtain ⟨c0, c1, _, _⟩ := S1.out
                  obtain ⟨d0, d1, _, _⟩ := S2.out
                  clear S1 S2 a0 a1 b0
                  go_wp2_with fail
                  exact ⟨⟨k + 1, by omega, by go_num, hnx⟩, by simp [intOf]; omega⟩
                go_region_held3 (fun X => X.cell? ⟨g, o + i * 2, none⟩ = some (.int .i64 (hiOf a)) ∧ X.cell? ⟨g, o + i * 2 + 1, none⟩ = some (.int .u64 (loOf a)) ∧ X.cell? ⟨h, q + k, none⟩ = some (.int .i64 b)) (((try dsimp only); (with_reducible refine kp3 (W := V1) a0 a1 b0 ?_); repeat (first | exact Below.refl _ _ | refine bl_alloc ?_ _ | refine Below.drew ?_ | refine bl_drewN ?_ _ | refine bl_set ?_ (by omega) _ | refine bl_step ?_ (by assumption))))
                  (first | (go_at_call 26; refine (HS2.out _).mono ?_; rintro e y1 ⟨rfl, hy1⟩; (first | (have Z : Zw y1 V1.heap.size := Sv.keep (zw_new (W := V1.drew) rfl) hy1; have t0 := Z.1; have t1 := Z.2.1; have t2 := Z.2.2.1; have t3 := Z.2.2.2; have t4 := lt_of_cell t0) | (have Z : Zw y1 V1.heap.size := Sv.keep (zw_new (W := V1) rfl) hy1; have t0 := Z.1; have t1 := Z.2.1; have t2 := Z.2.2.1; have t3 := Z.2.2.2; have t4 := lt_of_cell t0) | skip)))
                all_goals go_wp2_with fail
                all_goals go_meet
                all_goals exact ⟨_, rfl, rfl, by repeat (first | exact Below.refl _ _ | refine bl_alloc ?_ _ | refine Below.drew ?_ | refine bl_drewN ?_ _ | refine bl_set ?_ (by omega) _ | refine bl_step ?_ (by assumption)), by repeat (first | (with_reducible assumption) | (with_reducible refine Sv.ownw ?_) | (with_reducible refine Sv.oth ?_ (by omega)) | (with_reducible exact sv_new (by simp)) | (with_reducible refine Sv.alloc ?_ _) | (with_reducible refine Sv.drew ?_))⟩
              go_region_held3 (fun X => X.cell? ⟨g, o + i * 2, none⟩ = some (.int .i64 (hiOf a)) ∧ X.cell? ⟨g, o + i * 2 + 1, none⟩ = some (.int .u64 (loOf a)) ∧ X.cell? ⟨h, q + k, none⟩ = some (.int .i64 b)) (((try dsimp only); (with_reducible refine kp3 (W := V) a0 a1 b0 ?_); repeat (first | exact Below.refl _ _ | refine bl_alloc ?_ _ | refine Below.drew ?_ | refine bl_drewN ?_ _ | refine bl_set ?_ (by omega) _ | refine bl_step ?_ (by assumption))))
                (first | (go_at_call 25; refine (HS1.out _).mono ?_; rintro e y1 ⟨rfl, hy1⟩; (first | (have Z : Zw y1 V.heap.size := Sv.keep (zw_new (W := V.drew) rfl) hy1; have t0 := Z.1; have t1 := Z.2.1; have t2 := Z.2.2.1; have t3 := Z.2.2.2; have t4 := lt_of_cell t0) | (have Z : Zw y1 V.heap.size := Sv.keep (zw_new (W := V) rfl) hy1; have t0 := Z.1; have t1 := Z.2.1; have t2 := Z.2.2.1; have t3 := Z.2.2.2; have t4 := lt_of_cell t0) | skip)))
              all_goals go_wp2_with fail
              all_goals go_meet
              all_goals exact ⟨_, rfl, rfl, by repeat (first | exact Below.refl _ _ | refine bl_alloc ?_ _ | refine Below.drew ?_ | refine bl_drewN ?_ _ | refine bl_set ?_ (by omega) _ | refine bl_step ?_ (by assumption)), by repeat (first | (with_reducible assumption) | (with_reducible refine Sv.ownw ?_) | (with_reducible refine Sv.oth ?_ (by omega)) | (with_reducible exact sv_new (by simp)) | (with_reducible refine Sv.alloc ?_ _) | (with_reducible refine Sv.drew ?_))⟩
            · have : k = n := by omega
              subst this
              clear hk l1 ik0
              go_wp2_with fail
              exact ⟨⟨i + 1, by omega, by go_num, hnx⟩, by simp [intOf]; omega⟩
    · have : i = m := by omega
      subst this
      clear hi hli ii0
      go_wp2_with fail
      go_loopw [27] (fun i wr => ∃ k : Nat, k ≤ n ∧ i = .int .i64 k ∧ Below w.heap.size w wr) (fun i _ => n - (intOf i).toNat)
      case atStart => exact ⟨0, Nat.zero_le _, rfl, hnx⟩
      case round =>
        clear hnx
        obtain ⟨i, hi, rfl, hnx⟩ := hrel
        have ii0 : (0 : Int) ≤ (i : Int) := by omega
        by_cases hli : i < n
        · have ii : (i : Int) < (n : Int) := by omega
          obtain ⟨h, q, a, eg, ra, a0⟩ := (H2.out.keep hnx) i hli
          subst eg
          go_wp2_with fail
          refine (of_any a ra _).mono ?_
          rintro e x3 ⟨rfl, hx⟩
          replace a0 := keepc hx a0; replace hnx := bl_step hnx hx
          clear hx
          have za := lt_of_cell a0
          go_wp2_with fail
          refine gen_calls (fun W' => Below w.heap.size w W' ∧ Hid (Sv W' x3.heap.size (.int .i64 (hiOf a)) (.int .u64 (loOf a)))) ⟨by repeat (first | (with_reducible exact Below.refl _ _) | (with_reducible refine bl_alloc ?_ _) | (with_reducible refine Below.drew ?_) | (with_reducible refine bl_drewN ?_ _) | (with_reducible refine bl_set ?_ (by omega) _) | (with_reducible refine bl_step ?_ (by assumption))), hid1 (sv_new rfl)⟩ ?_
          rintro x4 ⟨B4, HR⟩
          clear za hnx a0
          refine (rof_any a ra _).mono ?_
          rintro e x5 ⟨rfl, hx⟩
          replace HR := hid1 (HR.out.keep hx)
          have hnx : Below w.heap.size w x5 := by repeat (first | (with_reducible exact Below.refl _ _) | (with_reducible refine bl_alloc ?_ _) | (with_reducible refine Below.drew ?_) | (with_reducible refine bl_drewN ?_ _) | (with_reducible refine bl_set ?_ (by omega) _) | (with_reducible refine bl_step ?_ (by assumption)))
          clear hx B4 ra
          obtain ⟨r0, r1, _, _⟩ := HR.out
          have zr := lt_of_cell r0
          go_wp2_with fail
          clear r0 r1 zr HR
          go_loopw [30] (fun q wr => ∃ k : Nat, k ≤ n ∧ q = .int .i64 k ∧ Below w.heap.size w wr) (fun q _ => n - (intOf q).toNat)
          case atStart => exact ⟨0, Nat.zero_le _, rfl, by repeat (first | (with_reducible exact Below.refl _ _) | (with_reducible refine bl_alloc ?_ _) | (with_reducible refine Below.drew ?_) | (with_reducible refine bl_drewN ?_ _) | (with_reducible refine bl_set ?_ (by omega) _) | (with_reducible refine bl_step ?_ (by assumption)))⟩
          case round =>
            clear hnx
            obtain ⟨k, hk, rfl, hnx⟩ := hrel
            rename World => V
            have ik0 : (0 : Int) ≤ (k : Int) := by omega
            by_cases l1 : k < n
            · have j1 : (k : Int) < (n : Int) := by omega
              obtain ⟨h1, q1, a, eg, ra, a0⟩ := (H2.out.keep hnx) i hli
              obtain ⟨rfl, rfl⟩ : h = h1 ∧ q = q1 := by
                injection eg with eg
                injection eg with e1 e2
                exact ⟨e1, e2⟩
              clear eg
              obtain ⟨h', q', b, eg, rb, b0⟩ := (H2.out.keep hnx) k l1
              obtain ⟨rfl, rfl⟩ : h = h' ∧ q = q' := by
                injection eg with eg
                injection eg with e1 e2
                exact ⟨e1, e2⟩
              clear eg
              have HP1 := hid1 (fun w => mul_any a b ra rb w)
              have HP2 := hid1 (fun w => rproduct_any a b ra rb w)
              clear ra rb
              go_wp2_with fail
              go_cut [31] (fun p wx => ∃ gg, p = .pointer (some ⟨gg, 0, none⟩) ∧ Below V.heap.size V wx ∧ Sv wx gg (.int .i64 (hiOf (a * b))) (.int .u64 (loOf (a * b))))
              case rest =>
                obtain ⟨g1, rfl, hx, s1⟩ := hcut
                rename World => V1
                replace a0 := keepc hx a0; replace b0 := keepc hx b0; replace hnx := bl_step hnx hx; have S1 := hid1 s1; clear s1; clear hx
                go_wp2_with fail
                go_cut [32] (fun p wx => ∃ gg, p = .pointer (some ⟨gg, 0, none⟩) ∧ Below V1.heap.size V1 wx ∧ Sv wx gg (.int .i64 (hiOf (a * b))) (.int .u64 (loOf (a * b))))
                case rest =>
                  obtain ⟨g2, rfl, hx, s2⟩ := hcut
                  rename World => V2
                  replace a0 := keepc hx a0; replace b0 := keepc hx b0; replace hnx := bl_step hnx hx; have S2 := hid1 s2; clear s2; replace S1 := hid1 (S1.out.keep hx); clear hx
                  obtain ⟨c0, c1, _, _⟩ := S1.out
                  obtain ⟨d0, d1, _, _⟩ := S2.out
                  clear S1 S2 a0 b0
                  go_wp2_with fail
                  exact ⟨⟨k + 1, by omega, by go_num, hnx⟩, by simp [intOf]; omega⟩
                go_region_held3 (fun X => X.cell? ⟨h, q + i, none⟩ = some (.int .i64 a) ∧ X.cell? ⟨h, q + k, none⟩ = some (.int .i64 b)) (((try dsimp only); (with_reducible refine kq2 (W := V1) a0 b0 ?_); repeat (first | exact Below.refl _ _ | refine bl_alloc ?_ _ | refine Below.drew ?_ | refine bl_drewN ?_ _ | refine bl_set ?_ (by omega) _ | refine bl_step ?_ (by assumption))))
                  (first | (go_at_call 30; refine (HP2.out _).mono ?_; rintro e y1 ⟨rfl, hy1⟩; (first | (have Z : Zw y1 V1.heap.size := Sv.keep (zw_new (W := V1.drew) rfl) hy1; have t0 := Z.1; have t1 := Z.2.1; have t2 := Z.2.2.1; have t3 := Z.2.2.2; have t4 := lt_of_cell t0) | (have Z : Zw y1 V1.heap.size := Sv.keep (zw_new (W := V1) rfl) hy1; have t0 := Z.1; have t1 := Z.2.1; have t2 := Z.2.2.1; have t3 := Z.2.2.2; have t4 := lt_of_cell t0) | skip)))
                all_goals go_wp2_with fail
                all_goals go_meet
                all_goals exact ⟨_, rfl, by repeat (first | exact Below.refl _ _ | refine bl_alloc ?_ _ | refine Below.drew ?_ | refine bl_drewN ?_ _ | refine bl_set ?_ (by omega) _ | refine bl_step ?_ (by assumption)), by repeat (first | (with_reducible assumption) | (with_reducible refine Sv.ownw ?_) | (with_reducible refine Sv.oth ?_ (by omega)) | (with_reducible exact sv_new (by simp)) | (with_reducible refine Sv.alloc ?_ _) | (with_reducible refine Sv.drew ?_))⟩
              go_region_held3 (fun X => X.cell? ⟨h, q + i, none⟩ = some (.int .i64 a) ∧ X.cell? ⟨h, q + k, none⟩ = some (.int .i64 b)) (((try dsimp only); (with_reducible refine kq2 (W := V) a0 b0 ?_); repeat (first | exact Below.refl _ _ | refine bl_alloc ?_ _ | refine Below.drew ?_ | refine bl_drewN ?_ _ | refine bl_set ?_ (by omega) _ | refine bl_step ?_ (by assumption))))
                (first | (go_at_call 29; refine (HP1.out _).mono ?_; rintro e y1 ⟨rfl, hy1⟩; (first | (have Z : Zw y1 V.heap.size := Sv.keep (zw_new (W := V.drew) rfl) hy1; have t0 := Z.1; have t1 := Z.2.1; have t2 := Z.2.2.1; have t3 := Z.2.2.2; have t4 := lt_of_cell t0) | (have Z : Zw y1 V.heap.size := Sv.keep (zw_new (W := V) rfl) hy1; have t0 := Z.1; have t1 := Z.2.1; have t2 := Z.2.2.1; have t3 := Z.2.2.2; have t4 := lt_of_cell t0) | skip)))
              all_goals go_wp2_with fail
              all_goals go_meet
              all_goals exact ⟨_, rfl, by repeat (first | exact Below.refl _ _ | refine bl_alloc ?_ _ | refine Below.drew ?_ | refine bl_drewN ?_ _ | refine bl_set ?_ (by omega) _ | refine bl_step ?_ (by assumption)), by repeat (first | (with_reducible assumption) | (with_reducible refine Sv.ownw ?_) | (with_reducible refine Sv.oth ?_ (by omega)) | (with_reducible exact sv_new (by simp)) | (with_reducible refine Sv.alloc ?_ _) | (with_reducible refine Sv.drew ?_))⟩
            · have : k = n := by omega
              subst this
              clear hk l1 ik0
              go_wp2_with fail
              exact ⟨⟨i + 1, by omega, by go_num, hnx⟩, by simp [intOf]; omega⟩
        · have : i = n := by omega
          subst this
          go_wp2
          go_ret
          exact ⟨rfl, hnx⟩
end Go.Proofs.YtcjglbejmlebhaaDoor
namespace Go.Proofs.YtcjglbejmlebhaaDoor
open Go.ChangeShapes Go.WideShapes Go.ChangeAt Go.RowKit
open Go.ChangeMaps (open_string shut_string)

set_option maxRecDepth 100000 in
theorem wideSums_lifted (os : Os) (started : os.Started) (H : Type) (enc : TypeId × Value → H) :
    ReturnsInHanded {} Tryd.checked os 5 .any (fun w args => (Rows.wideSumsSpec.pre enc Tryd.prog Tryd.f5 [] false w args ∧ laidMetH Tryd.prog laidL w) ∧ sizedMet enc Tryd.prog Tryd.f5 (OpenSpec.ofChange Rows.wideSumsSpec) false w args)
      (Rows.wideSumsSpec.post enc Tryd.prog Tryd.f5 false true false false) := by
  refine returnsInHanded_of_change_and (C := Tryd.checked) (X := fun w _ => laidMetH Tryd.prog laidL w) (fun _ _ _ hh h => h.of_heap hh) own started (by kernel_rfl) Tryd.func5
    (ChangeSpec.witness_shaped (enc := enc) (C := Tryd.checked) (os := os) (X := fun w _ => laidMetH Tryd.prog laidL w) false (World.doorLaid Tryd.prog 400 os) #[.slice none 0 0, .slice none 0 0] 8 rfl (World.shaped_of_RefB (by kernel_rfl) (by kernel_rfl)) (by kernel_rfl) (by kernel_rfl) (by kernel_rfl) (door_met os _)) ?_
  intro W base args ds gs before hval0 hW _ _ hL _
  have hval : ∀ (j : Nat) t v, Tryd.f5.params[j]? = some t → args[j]? = some v → Value.okWide Tryd.prog W .any base t v := hval0
  have hW' := hW
  obtain ⟨p, q, hA0, hV, rfl, hfz, hnd⟩ := hW
  have hA : DataW.TrodAll enc Tryd.prog W 0 (fun _ => true) true Tryd.f5.params.toList args.toList ds p := hA0
  rw [Tryd.params5] at hA hval
  obtain ⟨v0, vs0, d0, ds0, p0, q0, hargs, rfl, rfl, h0, r0⟩ := trodAll_cons hA
  obtain ⟨v1, vs1, d1, ds1, p1, q1, rfl, rfl, rfl, h1, r1⟩ := trodAll_cons r0
  obtain ⟨rfl, rfl, rfl⟩ := trodAll_nil r1
  obtain rfl : args = #[v0, v1] := by cases args; simp_all
  obtain ⟨rfl, rfl⟩ := trodVars_none hV
  have lt0 : ∀ x ∈ p0, x.block < W.heap.size := by obtain ⟨m, hm⟩ := h0; exact DataW.trod_lt m _ _ _ hm
  have k0 := h0
  have lt1 : ∀ x ∈ p1, x.block < W.heap.size := by obtain ⟨m, hm⟩ := h1; exact DataW.trod_lt m _ _ _ hm
  have k1 := h1
  obtain ⟨ao0, m0, c0, rfl, hm0, f0⟩ := open_wides (hval 0 22 v0 rfl rfl) h0
  obtain ⟨ao1, m1, c1, rfl, hm1, f1⟩ := open_i64s (hval 1 23 v1 rfl rfl) h1
  clear hA0 hval0
  refine (wsums_walk ao0 m0 c0 hm0 ao1 m1 c1 hm1 W (of_laid hL) f0 f1).mono fun e W' ⟨he, bel⟩ => ?_
  subst he
  exact ⟨_, rfl, _, _, _, [], _, [], hW', trodAll_mk1 (shut_bool Tryd.underlying4 _), (trodAll_cons_mk (Below.trod laidOut (by kernel_rfl) (of_decide_eq_true (by kernel_rfl)) k0 bel lt0) (trodAll_cons_mk (Below.trod laidOut (by kernel_rfl) (of_decide_eq_true (by kernel_rfl)) k1 bel lt1) trodAll_mk0)), rfl, bel.frame _, fun h => by cases h⟩

theorem wideSums_row : Rows.WideSumsSaid :=
  OpenClaim.holds_of_wide 5 Tryd.f5 rfl rfl rfl rfl rfl rfl rfl ⟨rfl, rfl, rfl, rfl, rfl⟩ rfl rfl rfl rfl rfl (by kernel_rfl) Tryd.func5 (by kernel_rfl)
    (of_decide_eq_true (by kernel_rfl)) (by unfold Func.isWrapper; first | (rw [if_pos (by decide +kernel)]; kernel_rfl) | (rw [if_neg (by decide +kernel)]; exact ⟨rfl, rfl⟩))
    (fun os started H enc _ => wideSums_lifted os started H enc)
set_option maxRecDepth 100000 in
theorem wideSums_holds : Rows.WideSumsCardSaid :=
  Claim7.holds_tied_plain_at .later [] [.data, .data, .data, .data] true _ false
    wideSums_row (fun _ h => by cases h) (by kernel_rfl) (fun _ h => by cases h) wideSums_row_tie rfl ⟨rfl, rfl⟩ (by kernel_rfl) rfl
    (fun f fn hf hfn => by
      obtain rfl : f = 5 := Option.some.inj ((show Tryd.prog.funcNamed "heddle/heddlelaw1.WideSums" = some 5 by kernel_rfl).symm.trans hf) |>.symm
      obtain rfl : fn = Tryd.f5 := (Option.some.inj (Tryd.func5.symm.trans hfn)).symm
      exact ⟨by kernel_rfl, fun j t ht => by
        rw [Tryd.params5] at ht
        rcases j with _ | _ | j
        · simp at ht; subst ht; exact (show Tryd.prog.wantsStandIn 22 = false by kernel_rfl)
        · simp at ht; subst ht; exact (show Tryd.prog.wantsStandIn 23 = false by kernel_rfl)
        · simp at ht⟩)
    (by kernel_rfl)
#print axioms wideSums_holds
end Go.Proofs.YtcjglbejmlebhaaDoor
