/- THE NUMBER AS A WIDE: fit. -/
import Derived.Test.YtcjglbejmlebhaaDoorW37
namespace Go.Proofs.YtcjglbejmlebhaaDoor
open Go.RowKit Go.Shelf
attribute [local go_sem ↓] Go.wp_at_zero Go.wp_at_succ

theorem fdiv_nn {m n : Int} (n0 : 0 < n) : Int.fdiv m n = m / n := Int.fdiv_eq_ediv_of_nonneg _ (by omega)
theorem down_eq (m n : Int) (n0 : n ≠ 0) : (if decide (m < 0) = decide (n < 0) then (m.natAbs : Int) / (n.natAbs : Int) else if (m.natAbs : Int) % (n.natAbs : Int) = 0 then -((m.natAbs : Int) / (n.natAbs : Int)) else -((m.natAbs : Int) / (n.natAbs : Int)) - 1) = Int.fdiv m n := by
  have key : ∀ a b : Int, 0 ≤ a → 0 < b → (if a % b = 0 then -(a / b) else -(a / b) - 1) = (-a) / b := by
    intro a b ha hb
    have h1 := Int.mul_ediv_add_emod a b
    have h2 := Int.emod_nonneg a (show b ≠ 0 by omega)
    have h3 := Int.emod_lt_of_pos a hb
    split
    · rename_i h
      exact (div_un (x := -a) (q := -(a / b)) (r := 0) (by rw [Int.neg_mul, Int.mul_comm (a / b) b]; omega) (by omega) hb).1.symm
    · rename_i h
      exact (div_un (x := -a) (q := -(a / b) - 1) (r := b - a % b) (by rw [Int.sub_mul, Int.neg_mul, Int.mul_comm (a / b) b]; omega) (by omega) (by omega)).1.symm
  rcases Int.lt_or_lt_of_ne n0 with hn | hn
  · have e2 : Int.fdiv m n = (-m) / (-n) := by
      rw [← Int.neg_fdiv_neg (a := m) (b := n), fdiv_nn (by omega)]
    have a2 : (n.natAbs : Int) = -n := by omega
    rw [e2, a2, decide_eq_true hn]
    by_cases hm : m < 0
    · rw [decide_eq_true hm, if_pos rfl, show (m.natAbs : Int) = -m by omega]
    · rw [decide_eq_false hm, if_neg (by decide), show (m.natAbs : Int) = m by omega]
      exact key m (-n) (by omega) (by omega)
  · have a2 : (n.natAbs : Int) = n := by omega
    rw [fdiv_nn hn, a2, decide_eq_false (by omega : ¬ n < 0)]
    by_cases hm : m < 0
    · rw [decide_eq_true hm, if_neg (by decide), show (m.natAbs : Int) = -m by omega]
      have := key (-m) n (by omega) hn
      rw [Int.neg_neg] at this
      exact this
    · rw [decide_eq_false hm, if_pos rfl, show (m.natAbs : Int) = m by omega]
/-- The quotient rounded down, of any two numbers. -/
theorem rdown_any (m n : Int) (x y : Value) (w : World) (hx : Bg w x m) (hy : Bg w y n) (n0 : n ≠ 0) (hm : (m.natAbs : Int) < 65536 ^ 16) (hn : (n.natAbs : Int) < 65536 ^ 16) :
    Calls Tryd.prog 34 #[x, y] w fun e w' => ∃ z, e = .returned z ∧ Bg w' z (Int.fdiv m n) ∧ Below w.heap.size w w' := by
  obtain ⟨va, a, rfl, ra, da, ta, ea⟩ := hx
  obtain ⟨vb, b, rfl, rb, db, tb, eb⟩ := hy
  obtain ⟨ao, ca, rfl, _⟩ := ra.parts
  obtain ⟨bo, cb, rfl, _⟩ := rb.parts
  have h := down_any (m.natAbs : Int) (n.natAbs : Int) (decide (m < 0)) (decide (n < 0)) a b ao bo ca cb w ra rb da db ea eb (by omega) (by omega) (by rw [Int.natAbs_natCast]; exact hm) (by rw [Int.natAbs_natCast]; exact hn)
  rw [down_eq m n n0] at h
  exact h

def f0 (ds : List Int) (k : Nat) : Int := val ((ds.take 4).drop k)
def f1 (ds : List Int) (k : Nat) : Int := val (ds.drop (max k 4))
theorem f_start {ds : List Int} (h8 : ds.length ≤ 8) : f0 ds ds.length = 0 ∧ f1 ds ds.length = 0 := by
  unfold f0 f1
  rw [List.drop_of_length_le (by simp; omega), List.drop_of_length_le (by omega)]
  exact ⟨rfl, rfl⟩
theorem f_low {ds : List Int} {k : Nat} (h : k < ds.length) (h4 : k < 4) : f0 ds k = f0 ds (k + 1) * 65536 + dat ds k ∧ f1 ds k = f1 ds (k + 1) := by
  unfold f0 f1
  refine ⟨?_, by rw [show max k 4 = max (k + 1) 4 by omega]⟩
  rw [drop_val (a := ds.take 4) (i := k) (by simp; omega)]
  congr 1
  simp [dat, h4]
theorem f_high {ds : List Int} {k : Nat} (h : k < ds.length) (h4 : 4 ≤ k) : f1 ds k = f1 ds (k + 1) * 65536 + dat ds k ∧ f0 ds k = f0 ds (k + 1) := by
  unfold f0 f1
  refine ⟨?_, by rw [List.drop_of_length_le (by simp; omega), List.drop_of_length_le (by simp; omega)]⟩
  rw [show max k 4 = k by omega, show max (k + 1) 4 = k + 1 by omega]
  exact drop_val h
theorem dg_drop {ds : List Int} (h : Dg ds) (k : Nat) : Dg (ds.drop k) := fun d hd => h d (List.mem_of_mem_drop hd)
theorem f0_bd {ds : List Int} (hd : Dg ds) (k : Nat) : 0 ≤ f0 ds k ∧ (1 ≤ k → f0 ds k < 281474976710656) ∧ f0 ds k < 18446744073709551616 := by
  unfold f0
  have d4 : Dg (ds.take 4) := fun d h => hd d (List.mem_of_mem_take h)
  have h1 := val_nonneg (dg_drop d4 k)
  have h2 := val_lt (dg_drop d4 k)
  refine ⟨h1, fun hk => ?_, ?_⟩
  · have : (65536 : Int) ^ ((ds.take 4).drop k).length ≤ 65536 ^ 3 := pow_le_pow' (by simp; omega)
    exact Int.lt_of_lt_of_le h2 this
  · have : (65536 : Int) ^ ((ds.take 4).drop k).length ≤ 65536 ^ 4 := pow_le_pow' (by simp; omega)
    exact Int.lt_of_lt_of_le h2 this
theorem f1_bd {ds : List Int} (hd : Dg ds) (h8 : ds.length ≤ 8) (k : Nat) : 0 ≤ f1 ds k ∧ (5 ≤ k → f1 ds k < 281474976710656) ∧ f1 ds k < 18446744073709551616 := by
  unfold f1
  have h1 := val_nonneg (dg_drop hd (max k 4))
  have h2 := val_lt (dg_drop hd (max k 4))
  refine ⟨h1, fun hk => ?_, ?_⟩
  · have : (65536 : Int) ^ (ds.drop (max k 4)).length ≤ 65536 ^ 3 := pow_le_pow' (by simp; omega)
    exact Int.lt_of_lt_of_le h2 this
  · have : (65536 : Int) ^ (ds.drop (max k 4)).length ≤ 65536 ^ 4 := pow_le_pow' (by simp; omega)
    exact Int.lt_of_lt_of_le h2 this
theorem f_end (ds : List Int) : val ds = f0 ds 0 + 18446744073709551616 * f1 ds 0 := by
  unfold f0 f1
  rw [List.drop_zero, show max 0 4 = 4 by omega]
  by_cases h : 4 ≤ ds.length
  · have := val_app (ds.take 4) (ds.drop 4)
    rw [List.take_append_drop, List.length_take, show min 4 ds.length = 4 by omega] at this
    exact this
  · rw [List.drop_of_length_le (by omega), List.take_of_length_le (by omega)]
    simp [val]
theorem fit_parts {n N a b : Int} (hn : Rng n) (hN : N = if n < 0 then n + 340282366920938463463374607431768211456 else n) (h : N = a + 18446744073709551616 * b) (ha : 0 ≤ a) (ha' : a < 18446744073709551616) : loOf n = a ∧ wrap64 b = hiOf n := by
  unfold Rng at hn
  unfold loOf hiOf
  split at hN
  · refine ⟨by omega, ?_⟩
    unfold wrap64
    omega
  · refine ⟨by omega, ?_⟩
    unfold wrap64
    omega
theorem Bg.sign {W : World} {s : Bool} {v : Value} {n : Int} (h : Bg W (.agg #[.bool s, v]) n) : s = decide (n < 0) := by
  obtain ⟨v', ds, ex, _⟩ := h
  have : Value.bool s = .bool (decide (n < 0)) ∧ v = v' := by simpa using ex
  simpa using this.1
/-- A number's digits. -/
theorem Bg.digs {W : World} {s : Bool} {o : Option Addr} {l c : Nat} {n : Int} (h : Bg W (.agg #[.bool s, .slice o l c]) n) : ∃ ds : List Int, l = ds.length ∧ Rd W (.slice o ds.length c) ds ∧ Dg ds ∧ Tr ds ∧ val ds = (n.natAbs : Int) := by
  obtain ⟨v, ds, ex, rd, dg, tr, vd⟩ := h
  obtain ⟨ao, cap, e, -⟩ := rd.parts
  obtain ⟨-, ev⟩ : Value.bool s = .bool (decide (n < 0)) ∧ Value.slice o l c = v := by simpa using ex
  subst e
  obtain ⟨rfl, rfl, rfl⟩ : o = ao ∧ l = ds.length ∧ c = cap := by simpa using ev
  exact ⟨ds, rfl, rd, dg, tr, vd⟩
theorem rd_at {W : World} {o : Option Addr} {l c : Nat} {ds : List Int} (h : Rd W (.slice o l c) ds) {k : Nat} (hk : k < ds.length) : ∃ g, o = some ⟨g, 0, none⟩ ∧ W.cell? ⟨g, k, none⟩ = some (.int .i64 (dat ds k)) := by
  obtain ⟨ao, cap, e, f⟩ := h.parts
  obtain ⟨g, e2, c⟩ := f k hk
  simp at e
  exact ⟨g, e.1.trans e2, c⟩
theorem fit_in {n : Int} (h : Rng n) : fitV n = n ∧ errV n = 0 := by unfold fitV errV; exact ⟨if_pos h, if_pos h⟩
theorem fit_out {n : Int} (h : ¬ Rng n) : fitV n = 0 ∧ errV n = 10 := by unfold fitV errV; exact ⟨if_neg h, if_neg h⟩
theorem wide_ret {w w1 : World} {b : Nat} (hB : Below w.heap.size w w1) (hb : w.heap.size ≤ b) (u v : Value) : Below w.heap.size w ((w1.setCell ⟨b, 0, none⟩ u).setCell ⟨b, 1, none⟩ v) := bl_set (bl_set hB hb _) hb _
theorem rcmp_val (m n v : Int) (x y : Value) (w : World) (hx : Bg w x m) (hy : Bg w y n) (hm : (m.natAbs : Int) < 65536 ^ 40) (hn : (n.natAbs : Int) < 65536 ^ 40) (hv : sgnOf (m - n) = v) :
    Calls Tryd.prog 23 #[x, y] w fun e w' => e = .returned (.int .i64 v) ∧ Below w.heap.size w w' := by
  rw [← hv]
  exact rcmp_any m n x y w hx hy hm hn _ rfl
theorem sgn_ge (d : Int) : sgnOf d ≥ 0 ↔ d ≥ 0 := by unfold sgnOf; split <;> (try split) <;> omega
theorem sgn_lt (d : Int) : sgnOf d < 0 ↔ d < 0 := by unfold sgnOf; split <;> (try split) <;> omega
theorem Sv.low {W : World} {g : Nat} {u v p : Value} (h : Sv W g u v) : Sv (W.setCell ⟨g, 0, none⟩ p) g p v := by
  obtain ⟨a, b, c, d⟩ := h
  refine ⟨by simp [go_sem, a], by simp [go_sem, b], by simpa [go_sem] using c, by simpa [go_sem] using d⟩
theorem Sv.high {W : World} {g : Nat} {u v p : Value} (h : Sv W g u v) : Sv (W.setCell ⟨g, 1, none⟩ p) g u p := by
  obtain ⟨a, b, c, d⟩ := h
  refine ⟨by simp [go_sem, a], by simp [go_sem, b], by simpa [go_sem] using c, by simpa [go_sem] using d⟩
set_option maxHeartbeats 6400000 in
set_option maxRecDepth 100000 in
theorem rfit_any (n : Int) (x : Value) (w : World) (hx : Bg w x n) (hb : (n.natAbs : Int) < 65536 ^ 40) :
    Calls Tryd.prog 33 #[x] w fun e w' => e = .returned (.tuple #[wv (fitV n), .int .i64 (errV n)]) ∧ Below w.heap.size w w' := by
  obtain ⟨s, ao, la, ca, rfl⟩ := hx.form
  have HS := hid1 hx.sign
  have HX := hid1 hx
  have HB := hid1 hb
  clear hx hb
  go_enter Tryd.func33, Tryd.ntmps33
  go_wp2_with fail
  refine gen_calls (fun W' => Below w.heap.size w W' ∧ Sv W' w.heap.size (.bool s) (.slice ao la ca) ∧ Sv W' (w.heap.size + 1) (.int .i64 0) (.int .u64 0)) ⟨by repeat (first | exact Below.refl _ _ | refine bl_alloc ?_ _ | refine Below.drew ?_ | refine bl_drewN ?_ _ | refine bl_set ?_ (by omega) _ | refine bl_step ?_ (by assumption)), Sv.alloc (sv_new rfl) _, sv_new (by simp)⟩ ?_
  rintro W ⟨B0, sa, sr⟩
  have zb := lt_of_cell sr.1
  have SA := hid1 sa
  have SR := hid1 sr
  clear sa sr
  refine (power_eight _).mono ?_
  rintro e w1 ⟨z1, rfl, hz1, hb1⟩
  obtain ⟨s1, o1, l1, c1, rfl⟩ := hz1.form
  have z1 := hb1.size
  have HZ1 := hid1 hz1
  clear hz1
  go_upto_region 2 with fail
  refine gen_world (fun W' => Below w.heap.size w W' ∧ Sv W' w.heap.size (.bool s) (.slice ao la ca) ∧ Sv W' (w.heap.size + 1) (.int .i64 0) (.int .u64 0) ∧ Sv W' w1.heap.size (.bool s1) (.slice o1 l1 c1) ∧ Bg W' (.agg #[.bool s1, .slice o1 l1 c1]) 340282366920938463463374607431768211456)
    ⟨by repeat (first | exact Below.refl _ _ | refine bl_alloc ?_ _ | refine Below.drew ?_ | refine bl_drewN ?_ _ | refine bl_set ?_ (by omega) _ | refine bl_step ?_ (by assumption)), Sv.alloc (SA.out.keep hb1) _, Sv.alloc (SR.out.keep hb1) _, sv_new rfl, HZ1.out.below (bl_alloc (Below.refl _ _) _)⟩ ?_
  rintro V2 ⟨B2, sa, sr, sh, hh⟩
  clear SA SR HZ1
  have hg : w.heap.size + 1 < w1.heap.size := by omega
  clear hb1 z1 zb B0
  generalize w1.heap.size = gh at *
  have SA := hid1 sa
  have SR := hid1 sr
  have SH := hid1 sh
  have HH := hid1 hh
  clear sa sr sh hh
  go_cut [] (fun wx => ∃ (s2 : Bool) (o2 : Option Addr) (l2 c2 : Nat), Below w.heap.size w wx ∧ Sv wx w.heap.size (.bool s) (.slice ao la ca) ∧ Sv wx (w.heap.size + 1) (.int .i64 0) (.int .u64 0) ∧ Sv wx gh (.bool s2) (.slice o2 l2 c2) ∧ Bg wx (.agg #[.bool s2, .slice o2 l2 c2]) 170141183460469231731687303715884105728)
  case rest =>
    clear SA SR SH HH B2
    obtain ⟨s2, o2, l2, c2, BC, sa, sr, sh, hh⟩ := hcut
    rename World => V1
    have SA := hid1 sa
    have SR := hid1 sr
    have SH := hid1 sh
    have HH := hid1 hh
    have zc := lt_of_cell sh.1
    clear sa sr sh hh
    have K1 : Hid (((170141183460469231731687303715884105728 : Int).natAbs : Int) < 65536 ^ 40) := hid1 (by decide)
    have K2 : Hid (((-170141183460469231731687303715884105728 : Int).natAbs : Int) < 65536 ^ 40) := hid1 (by decide)
    obtain ⟨b, hb⟩ : ∃ b : Bool, b = true ↔ ¬ Rng n := by
      by_cases h : Rng n
      · exact ⟨false, by simp [h]⟩
      · exact ⟨true, by simp [h]⟩
    go_upto_region 3 with fail
    go_cut [21] (fun v wx => v = .bool b ∧ Below V1.heap.size V1 wx)
    case rest =>
      obtain ⟨rfl, BD⟩ := hcut
      rename World => V
      replace SA := hid1 (SA.out.keep BD)
      replace SR := hid1 (SR.out.keep BD)
      have BV := bl_step BC BD
      clear SH HH K1 K2 zc BD BC hg
      by_cases hR : Rng n
      · obtain rfl : b = false := by cases b; rfl; exact absurd hR (hb.1 rfl)
        have EF := hid1 (fit_in hR)
        clear hb
        by_cases hneg : n < 0
        · obtain rfl : s = true := by rw [HS.out]; exact decide_eq_true hneg
          obtain ⟨a0, a1, q0, q1⟩ := SA.out
          go_upto_region 6 with fail
          go_cut [] (fun wx => ∃ (s6 : Bool) (o6 : Option Addr) (l6 c6 : Nat), Below w.heap.size w wx ∧ Sv wx w.heap.size (.bool s6) (.slice o6 l6 c6) ∧ Sv wx (w.heap.size + 1) (.int .i64 0) (.int .u64 0) ∧ Bg wx (.agg #[.bool s6, .slice o6 l6 c6]) (n + 340282366920938463463374607431768211456))
          case rest =>
            clear SA SR BV a0 a1 q0 q1 HX
            obtain ⟨s6, o6, l6, c6, BV, sa, sr, hn⟩ := hcut
            clear V
            rename World => V
            have SA := hid1 sa
            have SR := hid1 sr
            have HN := hid1 hn
            clear sa sr hn
            obtain ⟨ds, rfl, rd, dg, tr, vd⟩ := HN.out.digs
            have vN : val ds = n + 340282366920938463463374607431768211456 := by rw [vd]; unfold Rng at hR; omega
            have l8 : ds.length ≤ 8 := len_le dg tr (by rw [vN]; exact by unfold Rng at hR; omega)
            have RD := hid1 rd
            have DG := hid1 dg
            obtain ⟨lo, hi⟩ := fit_parts hR (show (n + 340282366920938463463374607431768211456 : Int) = if n < 0 then n + 340282366920938463463374607431768211456 else n by first | rw [if_pos hneg] | rw [if_neg hneg]) (vN.symm.trans (f_end ds)) (f0_bd dg 0).1 (f0_bd dg 0).2.2
            have LO := hid1 lo
            have HI := hid1 hi
            have FS := hid1 (f_start l8)
            clear rd dg tr vd vN HN lo hi hR hneg HB
            obtain ⟨a0, a1, _, _⟩ := SA.out
            have za := lt_of_cell SR.out.1
            have zo := lt_of_cell a0
            have em : wrap64 ((ds.length : Int) - 1) = (ds.length : Int) - 1 := by unfold wrap64; omega
            go_wp2_with fail
            go_loopw [6] (fun iv wr => ∃ k : Nat, k ≤ ds.length ∧ iv = .int .i64 ((k : Int) - 1) ∧ Below V.heap.size V wr ∧ Sv wr V.heap.size (.int .u64 (f0 ds k)) (.int .u64 (f1 ds k))) (fun iv _ => (intOf iv + 1).toNat)
            case atStart => exact ⟨ds.length, Nat.le_refl _, rfl, by repeat (first | exact Below.refl _ _ | refine bl_alloc ?_ _ | refine Below.drew ?_ | refine bl_drewN ?_ _ | refine bl_set ?_ (by omega) _ | refine bl_step ?_ (by assumption)), by rw [FS.out.1, FS.out.2]; exact sv_new (by simp)⟩
            case round =>
              clear FS a0 a1
              obtain ⟨k0, hk0, rfl, BR, s5⟩ := hrel
              rename World => Y
              have S5 := hid1 s5
              clear s5
              by_cases hlt : 1 ≤ k0
              · obtain ⟨k, rfl⟩ : ∃ k, k0 = k + 1 := ⟨k0 - 1, by omega⟩
                have ek : ((k + 1 : Nat) : Int) - 1 = (k : Int) := by omega
                rw [ek]
                have kk0 : (0 : Int) ≤ (k : Int) := by omega
                have kk : (k : Int) < (ds.length : Int) := by omega
                clear ek
                obtain ⟨D1, D2⟩ := dat_bd DG.out k
                obtain ⟨ga, rfl, xb⟩ := rd_at RD.out (k := k) (by omega)
                have zy : ¬ ga = V.heap.size := Nat.ne_of_lt (lt_of_cell xb)
                have xa := keepc BR xb
                clear xb
                have a0 := keepc BR (SA.out.1)
                have a1 := keepc BR (SA.out.2.1)
                have zw : ¬ w.heap.size = V.heap.size := by omega
                obtain ⟨x0, x1, y0, y1⟩ := S5.out
                have b0 := f0_bd DG.out (k + 1)
                have b1 := f1_bd DG.out l8 (k + 1)
                by_cases h4 : k < 4
                · have q4 : Int.tdiv (k : Int) 4 = 0 := by rw [Int.tdiv_eq_ediv_of_nonneg kk0]; omega
                  have FL := hid1 (f_low (ds := ds) (k := k) (by omega) h4)
                  have b2 := b0.2.1 (by omega)
                  have b3 := b0.1
                  have b4 := b1.1
                  have b5 := b1.2.2
                  clear b0 b1
                  have w4 : wrap64 (0 : Int) = 0 := by unfold wrap64; omega
                  obtain ⟨d, hd⟩ : ∃ d, dat ds k = d := ⟨_, rfl⟩
                  obtain ⟨F, hF⟩ : ∃ F, f0 ds (k + 1) = F := ⟨_, rfl⟩
                  obtain ⟨G, hG⟩ : ∃ G, f1 ds (k + 1) = G := ⟨_, rfl⟩
                  have FM : Hid (f0 ds k = F * 65536 + d ∧ f1 ds k = G) := hid1 (by rw [FL.out.1, FL.out.2, hF, hG, hd]; exact ⟨rfl, rfl⟩)
                  rw [hF, hG] at S5
                  rw [hF] at x0
                  rw [hG] at x1
                  rw [hd] at xa D1 D2
                  rw [hF] at b2 b3
                  rw [hG] at b4 b5
                  clear FL hF hG hd
                  have wm : IntKind.u64.wrap (F * 65536) = F * 65536 := by simp [IntKind.wrap, IntKind.signed, IntKind.bits]; omega
                  have wd : IntKind.u64.wrap d = d := by simp [IntKind.wrap, IntKind.signed, IntKind.bits]; omega
                  have wa : IntKind.u64.wrap (F * 65536 + d) = F * 65536 + d := by simp [IntKind.wrap, IntKind.signed, IntKind.bits]; omega
                  go_upto_region 11 with fail
                  go_region
                  all_goals (
                    go_wp2_with fail
                    refine ⟨⟨k, by omega, by go_num, by repeat (first | exact Below.refl _ _ | refine bl_alloc ?_ _ | refine Below.drew ?_ | refine bl_drewN ?_ _ | refine bl_set ?_ (by omega) _ | refine bl_step ?_ (by assumption)), ?_⟩, by first | (simp [intOf]; done) | (simp [intOf]; omega)⟩
                    rw [FM.out.1, FM.out.2]
                    exact Sv.low S5.out)
                · have q4 : Int.tdiv (k : Int) 4 = 1 := by rw [Int.tdiv_eq_ediv_of_nonneg kk0]; omega
                  have FL := hid1 (f_high (ds := ds) (k := k) (by omega) (by omega))
                  have b2 := b1.2.1 (by omega)
                  have b3 := b1.1
                  have b4 := b0.1
                  have b5 := b0.2.2
                  clear b0 b1
                  have w4 : wrap64 (1 : Int) = 1 := by unfold wrap64; omega
                  obtain ⟨d, hd⟩ : ∃ d, dat ds k = d := ⟨_, rfl⟩
                  obtain ⟨F, hF⟩ : ∃ F, f0 ds (k + 1) = F := ⟨_, rfl⟩
                  obtain ⟨G, hG⟩ : ∃ G, f1 ds (k + 1) = G := ⟨_, rfl⟩
                  have FM : Hid (f1 ds k = G * 65536 + d ∧ f0 ds k = F) := hid1 (by rw [FL.out.1, FL.out.2, hF, hG, hd]; exact ⟨rfl, rfl⟩)
                  rw [hF, hG] at S5
                  rw [hF] at x0
                  rw [hG] at x1
                  rw [hd] at xa D1 D2
                  rw [hG] at b2 b3
                  rw [hF] at b4 b5
                  clear FL hF hG hd
                  have wm : IntKind.u64.wrap (G * 65536) = G * 65536 := by simp [IntKind.wrap, IntKind.signed, IntKind.bits]; omega
                  have wd : IntKind.u64.wrap d = d := by simp [IntKind.wrap, IntKind.signed, IntKind.bits]; omega
                  have wa : IntKind.u64.wrap (G * 65536 + d) = G * 65536 + d := by simp [IntKind.wrap, IntKind.signed, IntKind.bits]; omega
                  go_upto_region 11 with fail
                  go_region
                  all_goals (
                    go_wp2_with fail
                    refine ⟨⟨k, by omega, by go_num, by repeat (first | exact Below.refl _ _ | refine bl_alloc ?_ _ | refine Below.drew ?_ | refine bl_drewN ?_ _ | refine bl_set ?_ (by omega) _ | refine bl_step ?_ (by assumption)), ?_⟩, by first | (simp [intOf]; done) | (simp [intOf]; omega)⟩
                    rw [FM.out.1, FM.out.2]
                    exact Sv.high S5.out)
              · obtain rfl : k0 = 0 := by omega
                obtain ⟨x0, x1, y0, y1⟩ := S5.out
                have r0 := keepc BR SR.out.1
                have r1 := keepc BR SR.out.2.1
                have p0 := keepf BR za SR.out.2.2.1
                have p1 := keepf BR za SR.out.2.2.2
                go_wp2_with fail
                rw [EF.out.1, EF.out.2]
                simp [bodyPost, results, Tryd.results33, go_sem, r0, r1]
                exact ⟨⟨HI.out, LO.out.symm⟩, wide_ret (bl_step BV BR) (by omega) _ _⟩
          go_region_with (first
            | (go_at_call 52; refine (power_eight _).mono ?_; rintro e X2 ⟨i2, rfl, hi2, hb2⟩; obtain ⟨s2, o2, l2, c2, rfl⟩ := hi2.form; have HI := hid1 hi2; clear hi2; have BB : Hid (Below V.heap.size V X2) := hid1 (by repeat (first | exact Below.refl _ _ | refine bl_alloc ?_ _ | refine Below.drew ?_ | refine bl_drewN ?_ _ | refine bl_set ?_ (by omega) _ | refine bl_step ?_ (by assumption))); have a0 := (SA.out.keep BB.out).1; have a1 := (SA.out.keep BB.out).2.1)
            | (go_at_call 46; refine (radd_any n 340282366920938463463374607431768211456 _ _ _ (HX.out.below (bl_step BV BB.out)) HI.out HB.out (by decide)).mono ?_; rintro e X3 ⟨i3, rfl, hi3, hb3⟩; obtain ⟨s3, o3, l3, c3, rfl⟩ := hi3.form; have HJ := hid1 hi3; clear hi3; have B3 : Hid (Below V.heap.size V X3) := hid1 (bl_step BB.out hb3); have a0 := (SA.out.keep B3.out).1; have a1 := (SA.out.keep B3.out).2.1; have q0 := (SA.out.keep B3.out).2.2.1; have q1 := (SA.out.keep B3.out).2.2.2))
          all_goals go_wp2_with fail
          all_goals go_meet
          all_goals exact ⟨s3, o3, l3, c3, bl_set (bl_set (bl_step BV B3.out) (by omega) _) (by omega) _, Sv.own' (SA.out.keep B3.out), Sv.oth (Sv.oth (SR.out.keep B3.out) (by omega)) (by omega), HJ.out.set3 (SA.out.keep B3.out)⟩
        · obtain rfl : s = false := by rw [HS.out]; exact decide_eq_false hneg
          have HN := hid1 (HX.out.below BV)
          obtain ⟨ds, rfl, rd, dg, tr, vd⟩ := HN.out.digs
          have vN : val ds = n := by rw [vd]; unfold Rng at hR; omega
          have l8 : ds.length ≤ 8 := len_le dg tr (by rw [vN]; exact by unfold Rng at hR; omega)
          have RD := hid1 rd
          have DG := hid1 dg
          obtain ⟨lo, hi⟩ := fit_parts hR (show (n : Int) = if n < 0 then n + 340282366920938463463374607431768211456 else n by first | rw [if_pos hneg] | rw [if_neg hneg]) (vN.symm.trans (f_end ds)) (f0_bd dg 0).1 (f0_bd dg 0).2.2
          have LO := hid1 lo
          have HI := hid1 hi
          have FS := hid1 (f_start l8)
          clear rd dg tr vd vN HN lo hi hR hneg HB
          obtain ⟨a0, a1, _, _⟩ := SA.out
          have za := lt_of_cell SR.out.1
          have zo := lt_of_cell a0
          have em : wrap64 ((ds.length : Int) - 1) = (ds.length : Int) - 1 := by unfold wrap64; omega
          go_wp2_with fail
          go_loopw [6] (fun iv wr => ∃ k : Nat, k ≤ ds.length ∧ iv = .int .i64 ((k : Int) - 1) ∧ Below V.heap.size V wr ∧ Sv wr V.heap.size (.int .u64 (f0 ds k)) (.int .u64 (f1 ds k))) (fun iv _ => (intOf iv + 1).toNat)
          case atStart => exact ⟨ds.length, Nat.le_refl _, rfl, by repeat (first | exact Below.refl _ _ | refine bl_alloc ?_ _ | refine Below.drew ?_ | refine bl_drewN ?_ _ | refine bl_set ?_ (by omega) _ | refine bl_step ?_ (by assumption)), by rw [FS.out.1, FS.out.2]; exact sv_new (by simp)⟩
          case round =>
            clear FS a0 a1
            obtain ⟨k0, hk0, rfl, BR, s5⟩ := hrel
            rename World => Y
            have S5 := hid1 s5
            clear s5
            by_cases hlt : 1 ≤ k0
            · obtain ⟨k, rfl⟩ : ∃ k, k0 = k + 1 := ⟨k0 - 1, by omega⟩
              have ek : ((k + 1 : Nat) : Int) - 1 = (k : Int) := by omega
              rw [ek]
              have kk0 : (0 : Int) ≤ (k : Int) := by omega
              have kk : (k : Int) < (ds.length : Int) := by omega
              clear ek
              obtain ⟨D1, D2⟩ := dat_bd DG.out k
              obtain ⟨ga, rfl, xb⟩ := rd_at RD.out (k := k) (by omega)
              have zy : ¬ ga = V.heap.size := Nat.ne_of_lt (lt_of_cell xb)
              have xa := keepc BR xb
              clear xb
              have a0 := keepc BR (SA.out.1)
              have a1 := keepc BR (SA.out.2.1)
              have zw : ¬ w.heap.size = V.heap.size := by omega
              obtain ⟨x0, x1, y0, y1⟩ := S5.out
              have b0 := f0_bd DG.out (k + 1)
              have b1 := f1_bd DG.out l8 (k + 1)
              by_cases h4 : k < 4
              · have q4 : Int.tdiv (k : Int) 4 = 0 := by rw [Int.tdiv_eq_ediv_of_nonneg kk0]; omega
                have FL := hid1 (f_low (ds := ds) (k := k) (by omega) h4)
                have b2 := b0.2.1 (by omega)
                have b3 := b0.1
                have b4 := b1.1
                have b5 := b1.2.2
                clear b0 b1
                have w4 : wrap64 (0 : Int) = 0 := by unfold wrap64; omega
                obtain ⟨d, hd⟩ : ∃ d, dat ds k = d := ⟨_, rfl⟩
                obtain ⟨F, hF⟩ : ∃ F, f0 ds (k + 1) = F := ⟨_, rfl⟩
                obtain ⟨G, hG⟩ : ∃ G, f1 ds (k + 1) = G := ⟨_, rfl⟩
                have FM : Hid (f0 ds k = F * 65536 + d ∧ f1 ds k = G) := hid1 (by rw [FL.out.1, FL.out.2, hF, hG, hd]; exact ⟨rfl, rfl⟩)
                rw [hF, hG] at S5
                rw [hF] at x0
                rw [hG] at x1
                rw [hd] at xa D1 D2
                rw [hF] at b2 b3
                rw [hG] at b4 b5
                clear FL hF hG hd
                have wm : IntKind.u64.wrap (F * 65536) = F * 65536 := by simp [IntKind.wrap, IntKind.signed, IntKind.bits]; omega
                have wd : IntKind.u64.wrap d = d := by simp [IntKind.wrap, IntKind.signed, IntKind.bits]; omega
                have wa : IntKind.u64.wrap (F * 65536 + d) = F * 65536 + d := by simp [IntKind.wrap, IntKind.signed, IntKind.bits]; omega
                go_upto_region 11 with fail
                go_region
                all_goals (
                  go_wp2_with fail
                  refine ⟨⟨k, by omega, by go_num, by repeat (first | exact Below.refl _ _ | refine bl_alloc ?_ _ | refine Below.drew ?_ | refine bl_drewN ?_ _ | refine bl_set ?_ (by omega) _ | refine bl_step ?_ (by assumption)), ?_⟩, by first | (simp [intOf]; done) | (simp [intOf]; omega)⟩
                  rw [FM.out.1, FM.out.2]
                  exact Sv.low S5.out)
              · have q4 : Int.tdiv (k : Int) 4 = 1 := by rw [Int.tdiv_eq_ediv_of_nonneg kk0]; omega
                have FL := hid1 (f_high (ds := ds) (k := k) (by omega) (by omega))
                have b2 := b1.2.1 (by omega)
                have b3 := b1.1
                have b4 := b0.1
                have b5 := b0.2.2
                clear b0 b1
                have w4 : wrap64 (1 : Int) = 1 := by unfold wrap64; omega
                obtain ⟨d, hd⟩ : ∃ d, dat ds k = d := ⟨_, rfl⟩
                obtain ⟨F, hF⟩ : ∃ F, f0 ds (k + 1) = F := ⟨_, rfl⟩
                obtain ⟨G, hG⟩ : ∃ G, f1 ds (k + 1) = G := ⟨_, rfl⟩
                have FM : Hid (f1 ds k = G * 65536 + d ∧ f0 ds k = F) := hid1 (by rw [FL.out.1, FL.out.2, hF, hG, hd]; exact ⟨rfl, rfl⟩)
                rw [hF, hG] at S5
                rw [hF] at x0
                rw [hG] at x1
                rw [hd] at xa D1 D2
                rw [hG] at b2 b3
                rw [hF] at b4 b5
                clear FL hF hG hd
                have wm : IntKind.u64.wrap (G * 65536) = G * 65536 := by simp [IntKind.wrap, IntKind.signed, IntKind.bits]; omega
                have wd : IntKind.u64.wrap d = d := by simp [IntKind.wrap, IntKind.signed, IntKind.bits]; omega
                have wa : IntKind.u64.wrap (G * 65536 + d) = G * 65536 + d := by simp [IntKind.wrap, IntKind.signed, IntKind.bits]; omega
                go_upto_region 11 with fail
                go_region
                all_goals (
                  go_wp2_with fail
                  refine ⟨⟨k, by omega, by go_num, by repeat (first | exact Below.refl _ _ | refine bl_alloc ?_ _ | refine Below.drew ?_ | refine bl_drewN ?_ _ | refine bl_set ?_ (by omega) _ | refine bl_step ?_ (by assumption)), ?_⟩, by first | (simp [intOf]; done) | (simp [intOf]; omega)⟩
                  rw [FM.out.1, FM.out.2]
                  exact Sv.high S5.out)
            · obtain rfl : k0 = 0 := by omega
              obtain ⟨x0, x1, y0, y1⟩ := S5.out
              have r0 := keepc BR SR.out.1
              have r1 := keepc BR SR.out.2.1
              have p0 := keepf BR za SR.out.2.2.1
              have p1 := keepf BR za SR.out.2.2.2
              go_wp2_with fail
              rw [EF.out.1, EF.out.2]
              simp [bodyPost, results, Tryd.results33, go_sem, r0, r1]
              exact ⟨⟨HI.out, LO.out.symm⟩, wide_ret (bl_step BV BR) (by omega) _ _⟩
      · obtain rfl : b = true := hb.2 hR
        have EF := hid1 (fit_out hR)
        obtain ⟨r0, r1, q0, q1⟩ := SR.out
        go_wp2_with fail
        rw [EF.out.1, EF.out.2]
        simp [bodyPost, results, Tryd.results33, go_sem, r0, r1]
        exact ⟨⟨by decide, by decide⟩, wide_ret BV (by omega) _ _⟩
    have sl : ∀ d : Int, d < 0 → sgnOf d = -1 := fun d h => by unfold sgnOf; rw [if_neg (by omega), if_pos h]
    have sg : ∀ d : Int, 0 < d → sgnOf d = 1 := fun d h => by unfold sgnOf; rw [if_neg (by omega), if_neg (by omega)]
    have sz : sgnOf 0 = 0 := rfl
    rcases Int.lt_trichotomy n 170141183460469231731687303715884105728 with c | c | c
    · have HV : Hid (sgnOf (n - 170141183460469231731687303715884105728) = -1) := hid1 (sl _ (by omega))
      rcases Int.lt_trichotomy n (-170141183460469231731687303715884105728) with d | d | d
      · have HU : Hid (sgnOf (n - -170141183460469231731687303715884105728) = -1) := hid1 (sl _ (by omega))
        obtain rfl : b = true := hb.2 (by unfold Rng; omega)
        clear c d hb sl sg sz
        obtain ⟨a0, a1, _, _⟩ := SA.out
        obtain ⟨h0, h1, _, _⟩ := SH.out
        go_region_with (first
            | (go_at_call 23; refine (rcmp_val n (-170141183460469231731687303715884105728) (-1) _ _ _ (HX.out.below (by repeat (first | exact Below.refl _ _ | refine bl_alloc ?_ _ | refine Below.drew ?_ | refine bl_drewN ?_ _ | refine bl_set ?_ (by omega) _ | refine bl_step ?_ (by assumption)))) (HN2.out.below (by repeat (first | exact Below.refl _ _ | refine bl_alloc ?_ _ | refine Below.drew ?_ | refine bl_drewN ?_ _ | refine bl_set ?_ (by omega) _ | refine bl_step ?_ (by assumption)))) HB.out K2.out HU.out).mono ?_; rintro e Y3 ⟨rfl, hby3⟩; have C3 : Hid (Below V1.heap.size V1 Y3) := hid1 (by repeat (first | exact Below.refl _ _ | refine bl_alloc ?_ _ | refine Below.drew ?_ | refine bl_drewN ?_ _ | refine bl_set ?_ (by omega) _ | refine bl_step ?_ (by assumption))); have a0 := (SA.out.keep C3.out).1; have a1 := (SA.out.keep C3.out).2.1; have h0 := (SH.out.keep C3.out).1; have h1 := (SH.out.keep C3.out).2.1)
            | (go_at_call 36; refine (rneg_any 170141183460469231731687303715884105728 _ _ (HH.out.below (by repeat (first | exact Below.refl _ _ | refine bl_alloc ?_ _ | refine Below.drew ?_ | refine bl_drewN ?_ _ | refine bl_set ?_ (by omega) _ | refine bl_step ?_ (by assumption))))).mono ?_; rintro e Y2 ⟨y2, rfl, hy2, hby2⟩; obtain ⟨sy, oy, ly, cy, rfl⟩ := hy2.form; have HN2 := hid1 hy2; clear hy2; have C2 : Hid (Below V1.heap.size V1 Y2) := hid1 (by repeat (first | exact Below.refl _ _ | refine bl_alloc ?_ _ | refine Below.drew ?_ | refine bl_drewN ?_ _ | refine bl_set ?_ (by omega) _ | refine bl_step ?_ (by assumption))); have a0 := (SA.out.keep C2.out).1; have a1 := (SA.out.keep C2.out).2.1; have h0 := (SH.out.keep C2.out).1; have h1 := (SH.out.keep C2.out).2.1)
            | (go_at_call 23; refine (rcmp_val n 170141183460469231731687303715884105728 (-1) _ _ _ (HX.out.below (by repeat (first | exact Below.refl _ _ | refine bl_alloc ?_ _ | refine Below.drew ?_ | refine bl_drewN ?_ _ | refine bl_set ?_ (by omega) _ | refine bl_step ?_ (by assumption)))) (HH.out.below (by repeat (first | exact Below.refl _ _ | refine bl_alloc ?_ _ | refine Below.drew ?_ | refine bl_drewN ?_ _ | refine bl_set ?_ (by omega) _ | refine bl_step ?_ (by assumption)))) HB.out K1.out HV.out).mono ?_; rintro e Y1 ⟨rfl, hby1⟩; have C1 : Hid (Below V1.heap.size V1 Y1) := hid1 (by repeat (first | exact Below.refl _ _ | refine bl_alloc ?_ _ | refine Below.drew ?_ | refine bl_drewN ?_ _ | refine bl_set ?_ (by omega) _ | refine bl_step ?_ (by assumption))); have a0 := (SA.out.keep C1.out).1; have a1 := (SA.out.keep C1.out).2.1; have h0 := (SH.out.keep C1.out).1; have h1 := (SH.out.keep C1.out).2.1))
        all_goals go_wp2_with fail
        all_goals go_meet
        all_goals exact ⟨rfl, by repeat (first | exact Below.refl _ _ | refine bl_alloc ?_ _ | refine Below.drew ?_ | refine bl_drewN ?_ _ | refine bl_set ?_ (by omega) _ | refine bl_step ?_ (by assumption))⟩
      · have HU : Hid (sgnOf (n - -170141183460469231731687303715884105728) = 0) := hid1 (by rw [d]; exact sz)
        obtain rfl : b = false := by cases b; rfl; exact absurd (show Rng n by unfold Rng; omega) (hb.1 rfl)
        clear c d hb sl sg sz
        obtain ⟨a0, a1, _, _⟩ := SA.out
        obtain ⟨h0, h1, _, _⟩ := SH.out
        go_region_with (first
            | (go_at_call 23; refine (rcmp_val n (-170141183460469231731687303715884105728) (0) _ _ _ (HX.out.below (by repeat (first | exact Below.refl _ _ | refine bl_alloc ?_ _ | refine Below.drew ?_ | refine bl_drewN ?_ _ | refine bl_set ?_ (by omega) _ | refine bl_step ?_ (by assumption)))) (HN2.out.below (by repeat (first | exact Below.refl _ _ | refine bl_alloc ?_ _ | refine Below.drew ?_ | refine bl_drewN ?_ _ | refine bl_set ?_ (by omega) _ | refine bl_step ?_ (by assumption)))) HB.out K2.out HU.out).mono ?_; rintro e Y3 ⟨rfl, hby3⟩; have C3 : Hid (Below V1.heap.size V1 Y3) := hid1 (by repeat (first | exact Below.refl _ _ | refine bl_alloc ?_ _ | refine Below.drew ?_ | refine bl_drewN ?_ _ | refine bl_set ?_ (by omega) _ | refine bl_step ?_ (by assumption))); have a0 := (SA.out.keep C3.out).1; have a1 := (SA.out.keep C3.out).2.1; have h0 := (SH.out.keep C3.out).1; have h1 := (SH.out.keep C3.out).2.1)
            | (go_at_call 36; refine (rneg_any 170141183460469231731687303715884105728 _ _ (HH.out.below (by repeat (first | exact Below.refl _ _ | refine bl_alloc ?_ _ | refine Below.drew ?_ | refine bl_drewN ?_ _ | refine bl_set ?_ (by omega) _ | refine bl_step ?_ (by assumption))))).mono ?_; rintro e Y2 ⟨y2, rfl, hy2, hby2⟩; obtain ⟨sy, oy, ly, cy, rfl⟩ := hy2.form; have HN2 := hid1 hy2; clear hy2; have C2 : Hid (Below V1.heap.size V1 Y2) := hid1 (by repeat (first | exact Below.refl _ _ | refine bl_alloc ?_ _ | refine Below.drew ?_ | refine bl_drewN ?_ _ | refine bl_set ?_ (by omega) _ | refine bl_step ?_ (by assumption))); have a0 := (SA.out.keep C2.out).1; have a1 := (SA.out.keep C2.out).2.1; have h0 := (SH.out.keep C2.out).1; have h1 := (SH.out.keep C2.out).2.1)
            | (go_at_call 23; refine (rcmp_val n 170141183460469231731687303715884105728 (-1) _ _ _ (HX.out.below (by repeat (first | exact Below.refl _ _ | refine bl_alloc ?_ _ | refine Below.drew ?_ | refine bl_drewN ?_ _ | refine bl_set ?_ (by omega) _ | refine bl_step ?_ (by assumption)))) (HH.out.below (by repeat (first | exact Below.refl _ _ | refine bl_alloc ?_ _ | refine Below.drew ?_ | refine bl_drewN ?_ _ | refine bl_set ?_ (by omega) _ | refine bl_step ?_ (by assumption)))) HB.out K1.out HV.out).mono ?_; rintro e Y1 ⟨rfl, hby1⟩; have C1 : Hid (Below V1.heap.size V1 Y1) := hid1 (by repeat (first | exact Below.refl _ _ | refine bl_alloc ?_ _ | refine Below.drew ?_ | refine bl_drewN ?_ _ | refine bl_set ?_ (by omega) _ | refine bl_step ?_ (by assumption))); have a0 := (SA.out.keep C1.out).1; have a1 := (SA.out.keep C1.out).2.1; have h0 := (SH.out.keep C1.out).1; have h1 := (SH.out.keep C1.out).2.1))
        all_goals go_wp2_with fail
        all_goals go_meet
        all_goals exact ⟨rfl, by repeat (first | exact Below.refl _ _ | refine bl_alloc ?_ _ | refine Below.drew ?_ | refine bl_drewN ?_ _ | refine bl_set ?_ (by omega) _ | refine bl_step ?_ (by assumption))⟩
      · have HU : Hid (sgnOf (n - -170141183460469231731687303715884105728) = 1) := hid1 (sg _ (by omega))
        obtain rfl : b = false := by cases b; rfl; exact absurd (show Rng n by unfold Rng; omega) (hb.1 rfl)
        clear c d hb sl sg sz
        obtain ⟨a0, a1, _, _⟩ := SA.out
        obtain ⟨h0, h1, _, _⟩ := SH.out
        go_region_with (first
            | (go_at_call 23; refine (rcmp_val n (-170141183460469231731687303715884105728) (1) _ _ _ (HX.out.below (by repeat (first | exact Below.refl _ _ | refine bl_alloc ?_ _ | refine Below.drew ?_ | refine bl_drewN ?_ _ | refine bl_set ?_ (by omega) _ | refine bl_step ?_ (by assumption)))) (HN2.out.below (by repeat (first | exact Below.refl _ _ | refine bl_alloc ?_ _ | refine Below.drew ?_ | refine bl_drewN ?_ _ | refine bl_set ?_ (by omega) _ | refine bl_step ?_ (by assumption)))) HB.out K2.out HU.out).mono ?_; rintro e Y3 ⟨rfl, hby3⟩; have C3 : Hid (Below V1.heap.size V1 Y3) := hid1 (by repeat (first | exact Below.refl _ _ | refine bl_alloc ?_ _ | refine Below.drew ?_ | refine bl_drewN ?_ _ | refine bl_set ?_ (by omega) _ | refine bl_step ?_ (by assumption))); have a0 := (SA.out.keep C3.out).1; have a1 := (SA.out.keep C3.out).2.1; have h0 := (SH.out.keep C3.out).1; have h1 := (SH.out.keep C3.out).2.1)
            | (go_at_call 36; refine (rneg_any 170141183460469231731687303715884105728 _ _ (HH.out.below (by repeat (first | exact Below.refl _ _ | refine bl_alloc ?_ _ | refine Below.drew ?_ | refine bl_drewN ?_ _ | refine bl_set ?_ (by omega) _ | refine bl_step ?_ (by assumption))))).mono ?_; rintro e Y2 ⟨y2, rfl, hy2, hby2⟩; obtain ⟨sy, oy, ly, cy, rfl⟩ := hy2.form; have HN2 := hid1 hy2; clear hy2; have C2 : Hid (Below V1.heap.size V1 Y2) := hid1 (by repeat (first | exact Below.refl _ _ | refine bl_alloc ?_ _ | refine Below.drew ?_ | refine bl_drewN ?_ _ | refine bl_set ?_ (by omega) _ | refine bl_step ?_ (by assumption))); have a0 := (SA.out.keep C2.out).1; have a1 := (SA.out.keep C2.out).2.1; have h0 := (SH.out.keep C2.out).1; have h1 := (SH.out.keep C2.out).2.1)
            | (go_at_call 23; refine (rcmp_val n 170141183460469231731687303715884105728 (-1) _ _ _ (HX.out.below (by repeat (first | exact Below.refl _ _ | refine bl_alloc ?_ _ | refine Below.drew ?_ | refine bl_drewN ?_ _ | refine bl_set ?_ (by omega) _ | refine bl_step ?_ (by assumption)))) (HH.out.below (by repeat (first | exact Below.refl _ _ | refine bl_alloc ?_ _ | refine Below.drew ?_ | refine bl_drewN ?_ _ | refine bl_set ?_ (by omega) _ | refine bl_step ?_ (by assumption)))) HB.out K1.out HV.out).mono ?_; rintro e Y1 ⟨rfl, hby1⟩; have C1 : Hid (Below V1.heap.size V1 Y1) := hid1 (by repeat (first | exact Below.refl _ _ | refine bl_alloc ?_ _ | refine Below.drew ?_ | refine bl_drewN ?_ _ | refine bl_set ?_ (by omega) _ | refine bl_step ?_ (by assumption))); have a0 := (SA.out.keep C1.out).1; have a1 := (SA.out.keep C1.out).2.1; have h0 := (SH.out.keep C1.out).1; have h1 := (SH.out.keep C1.out).2.1))
        all_goals go_wp2_with fail
        all_goals go_meet
        all_goals exact ⟨rfl, by repeat (first | exact Below.refl _ _ | refine bl_alloc ?_ _ | refine Below.drew ?_ | refine bl_drewN ?_ _ | refine bl_set ?_ (by omega) _ | refine bl_step ?_ (by assumption))⟩
    · have HV : Hid (sgnOf (n - 170141183460469231731687303715884105728) = 0) := hid1 (by rw [c]; exact sz)
      obtain rfl : b = true := hb.2 (by unfold Rng; omega)
      clear c hb sl sg sz
      obtain ⟨a0, a1, _, _⟩ := SA.out
      obtain ⟨h0, h1, _, _⟩ := SH.out
      go_region_with (first
          | (go_at_call 23; refine (rcmp_val n (-170141183460469231731687303715884105728) (0) _ _ _ (HX.out.below (by repeat (first | exact Below.refl _ _ | refine bl_alloc ?_ _ | refine Below.drew ?_ | refine bl_drewN ?_ _ | refine bl_set ?_ (by omega) _ | refine bl_step ?_ (by assumption)))) (HN2.out.below (by repeat (first | exact Below.refl _ _ | refine bl_alloc ?_ _ | refine Below.drew ?_ | refine bl_drewN ?_ _ | refine bl_set ?_ (by omega) _ | refine bl_step ?_ (by assumption)))) HB.out K2.out HU.out).mono ?_; rintro e Y3 ⟨rfl, hby3⟩; have C3 : Hid (Below V1.heap.size V1 Y3) := hid1 (by repeat (first | exact Below.refl _ _ | refine bl_alloc ?_ _ | refine Below.drew ?_ | refine bl_drewN ?_ _ | refine bl_set ?_ (by omega) _ | refine bl_step ?_ (by assumption))); have a0 := (SA.out.keep C3.out).1; have a1 := (SA.out.keep C3.out).2.1; have h0 := (SH.out.keep C3.out).1; have h1 := (SH.out.keep C3.out).2.1)
          | (go_at_call 36; refine (rneg_any 170141183460469231731687303715884105728 _ _ (HH.out.below (by repeat (first | exact Below.refl _ _ | refine bl_alloc ?_ _ | refine Below.drew ?_ | refine bl_drewN ?_ _ | refine bl_set ?_ (by omega) _ | refine bl_step ?_ (by assumption))))).mono ?_; rintro e Y2 ⟨y2, rfl, hy2, hby2⟩; obtain ⟨sy, oy, ly, cy, rfl⟩ := hy2.form; have HN2 := hid1 hy2; clear hy2; have C2 : Hid (Below V1.heap.size V1 Y2) := hid1 (by repeat (first | exact Below.refl _ _ | refine bl_alloc ?_ _ | refine Below.drew ?_ | refine bl_drewN ?_ _ | refine bl_set ?_ (by omega) _ | refine bl_step ?_ (by assumption))); have a0 := (SA.out.keep C2.out).1; have a1 := (SA.out.keep C2.out).2.1; have h0 := (SH.out.keep C2.out).1; have h1 := (SH.out.keep C2.out).2.1)
          | (go_at_call 23; refine (rcmp_val n 170141183460469231731687303715884105728 (0) _ _ _ (HX.out.below (by repeat (first | exact Below.refl _ _ | refine bl_alloc ?_ _ | refine Below.drew ?_ | refine bl_drewN ?_ _ | refine bl_set ?_ (by omega) _ | refine bl_step ?_ (by assumption)))) (HH.out.below (by repeat (first | exact Below.refl _ _ | refine bl_alloc ?_ _ | refine Below.drew ?_ | refine bl_drewN ?_ _ | refine bl_set ?_ (by omega) _ | refine bl_step ?_ (by assumption)))) HB.out K1.out HV.out).mono ?_; rintro e Y1 ⟨rfl, hby1⟩; have C1 : Hid (Below V1.heap.size V1 Y1) := hid1 (by repeat (first | exact Below.refl _ _ | refine bl_alloc ?_ _ | refine Below.drew ?_ | refine bl_drewN ?_ _ | refine bl_set ?_ (by omega) _ | refine bl_step ?_ (by assumption))); have a0 := (SA.out.keep C1.out).1; have a1 := (SA.out.keep C1.out).2.1; have h0 := (SH.out.keep C1.out).1; have h1 := (SH.out.keep C1.out).2.1))
      all_goals go_wp2_with fail
      all_goals go_meet
      all_goals exact ⟨rfl, by repeat (first | exact Below.refl _ _ | refine bl_alloc ?_ _ | refine Below.drew ?_ | refine bl_drewN ?_ _ | refine bl_set ?_ (by omega) _ | refine bl_step ?_ (by assumption))⟩
    · have HV : Hid (sgnOf (n - 170141183460469231731687303715884105728) = 1) := hid1 (sg _ (by omega))
      obtain rfl : b = true := hb.2 (by unfold Rng; omega)
      clear c hb sl sg sz
      obtain ⟨a0, a1, _, _⟩ := SA.out
      obtain ⟨h0, h1, _, _⟩ := SH.out
      go_region_with (first
          | (go_at_call 23; refine (rcmp_val n (-170141183460469231731687303715884105728) (0) _ _ _ (HX.out.below (by repeat (first | exact Below.refl _ _ | refine bl_alloc ?_ _ | refine Below.drew ?_ | refine bl_drewN ?_ _ | refine bl_set ?_ (by omega) _ | refine bl_step ?_ (by assumption)))) (HN2.out.below (by repeat (first | exact Below.refl _ _ | refine bl_alloc ?_ _ | refine Below.drew ?_ | refine bl_drewN ?_ _ | refine bl_set ?_ (by omega) _ | refine bl_step ?_ (by assumption)))) HB.out K2.out HU.out).mono ?_; rintro e Y3 ⟨rfl, hby3⟩; have C3 : Hid (Below V1.heap.size V1 Y3) := hid1 (by repeat (first | exact Below.refl _ _ | refine bl_alloc ?_ _ | refine Below.drew ?_ | refine bl_drewN ?_ _ | refine bl_set ?_ (by omega) _ | refine bl_step ?_ (by assumption))); have a0 := (SA.out.keep C3.out).1; have a1 := (SA.out.keep C3.out).2.1; have h0 := (SH.out.keep C3.out).1; have h1 := (SH.out.keep C3.out).2.1)
          | (go_at_call 36; refine (rneg_any 170141183460469231731687303715884105728 _ _ (HH.out.below (by repeat (first | exact Below.refl _ _ | refine bl_alloc ?_ _ | refine Below.drew ?_ | refine bl_drewN ?_ _ | refine bl_set ?_ (by omega) _ | refine bl_step ?_ (by assumption))))).mono ?_; rintro e Y2 ⟨y2, rfl, hy2, hby2⟩; obtain ⟨sy, oy, ly, cy, rfl⟩ := hy2.form; have HN2 := hid1 hy2; clear hy2; have C2 : Hid (Below V1.heap.size V1 Y2) := hid1 (by repeat (first | exact Below.refl _ _ | refine bl_alloc ?_ _ | refine Below.drew ?_ | refine bl_drewN ?_ _ | refine bl_set ?_ (by omega) _ | refine bl_step ?_ (by assumption))); have a0 := (SA.out.keep C2.out).1; have a1 := (SA.out.keep C2.out).2.1; have h0 := (SH.out.keep C2.out).1; have h1 := (SH.out.keep C2.out).2.1)
          | (go_at_call 23; refine (rcmp_val n 170141183460469231731687303715884105728 (1) _ _ _ (HX.out.below (by repeat (first | exact Below.refl _ _ | refine bl_alloc ?_ _ | refine Below.drew ?_ | refine bl_drewN ?_ _ | refine bl_set ?_ (by omega) _ | refine bl_step ?_ (by assumption)))) (HH.out.below (by repeat (first | exact Below.refl _ _ | refine bl_alloc ?_ _ | refine Below.drew ?_ | refine bl_drewN ?_ _ | refine bl_set ?_ (by omega) _ | refine bl_step ?_ (by assumption)))) HB.out K1.out HV.out).mono ?_; rintro e Y1 ⟨rfl, hby1⟩; have C1 : Hid (Below V1.heap.size V1 Y1) := hid1 (by repeat (first | exact Below.refl _ _ | refine bl_alloc ?_ _ | refine Below.drew ?_ | refine bl_drewN ?_ _ | refine bl_set ?_ (by omega) _ | refine bl_step ?_ (by assumption))); have a0 := (SA.out.keep C1.out).1; have a1 := (SA.out.keep C1.out).2.1; have h0 := (SH.out.keep C1.out).1; have h1 := (SH.out.keep C1.out).2.1))
      all_goals go_wp2_with fail
      all_goals go_meet
      all_goals exact ⟨rfl, by repeat (first | exact Below.refl _ _ | refine bl_alloc ?_ _ | refine Below.drew ?_ | refine bl_drewN ?_ _ | refine bl_set ?_ (by omega) _ | refine bl_step ?_ (by assumption))⟩
  obtain ⟨p0, p1, q0, q1⟩ := SH.out
  go_region_with (first
    | (go_at_call 35; refine (rint_any 2 ⟨by omega, by omega⟩ _).mono ?_; rintro e X2 ⟨i2, rfl, hi2, hb2⟩; obtain ⟨s2, o2, l2, c2, rfl⟩ := hi2.form; have HI := hid1 hi2; clear hi2; have BB : Hid (Below V2.heap.size V2 X2) := hid1 (by repeat (first | exact Below.refl _ _ | refine bl_alloc ?_ _ | refine Below.drew ?_ | refine bl_drewN ?_ _ | refine bl_set ?_ (by omega) _ | refine bl_step ?_ (by assumption))); have p0 := (SH.out.keep BB.out).1; have p1 := (SH.out.keep BB.out).2.1)
    | (go_at_call 34; refine (rdown_any 340282366920938463463374607431768211456 2 _ _ _ (HH.out.below BB.out) HI.out (by decide) (by decide) (by decide)).mono ?_; rintro e X3 ⟨i3, rfl, hi3, hb3⟩; obtain ⟨s3, o3, l3, c3, rfl⟩ := hi3.form; have HJ := hid1 hi3; clear hi3; have B3 : Hid (Below V2.heap.size V2 X3) := hid1 (bl_step BB.out hb3); have p0 := (SH.out.keep B3.out).1; have p1 := (SH.out.keep B3.out).2.1; have q0 := (SH.out.keep B3.out).2.2.1; have q1 := (SH.out.keep B3.out).2.2.2))
  all_goals go_wp2_with fail
  all_goals go_meet
  all_goals exact ⟨s3, o3, l3, c3, bl_set (bl_set (bl_step B2 B3.out) (by omega) _) (by omega) _, Sv.oth (Sv.oth (SA.out.keep B3.out) (by omega)) (by omega), Sv.oth (Sv.oth (SR.out.keep B3.out) (by omega)) (by omega), Sv.own' (SH.out.keep B3.out), HJ.out.set3 (SH.out.keep B3.out)⟩
end Go.Proofs.YtcjglbejmlebhaaDoor
