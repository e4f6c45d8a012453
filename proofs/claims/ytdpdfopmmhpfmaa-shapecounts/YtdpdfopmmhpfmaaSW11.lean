/- SHAPES: ShapeCounts, WALKED. -/
import Derived.Test.YtdpdfopmmhpfmaaSW9
namespace Go.Proofs.Ytdpdfopmmhpfmaa
open Go.RowKit

theorem plc {i y x z v c : Int} (h : i = (y * v + x) * c + z) (h1 : 0 ≤ x) (h2 : x < v) (h3 : 0 ≤ z) (h4 : z < c) : i / c / v = y ∧ i / c % v = x ∧ i % c = z := by
  obtain ⟨q, r⟩ := div_is h h3 h4
  obtain ⟨q2, r2⟩ := div_is (a := y * v + x) (b := v) (q := y) (r := x) rfl h1 h2
  rw [q, r]
  exact ⟨q2, r2, rfl⟩
theorem row_lt {i y x z h v c : Int} (e : i = (y * v + x) * c + z) (hx : 0 ≤ x) (hz : 0 ≤ z) (hv : 1 ≤ v) (hc : 1 ≤ c) (hi : i < h * v * c) : y < h := by
  have a1 : y * v * c ≤ i := by
    have : 0 ≤ x * c := Int.mul_nonneg hx (by omega)
    rw [e, Int.add_mul]; omega
  have a2 : y * v * c < h * v * c := by omega
  exact Int.lt_of_mul_lt_mul_right (Int.lt_of_mul_lt_mul_right a2 (by omega)) (by omega)
set_option maxRecDepth 100000 in
theorem counts_bad (h v c f : Int) (hk : chk h v c ≠ 0) (w : World) :
    Calls Try.prog 3 #[shp h v c, .int .i64 f] w fun e w' => e = .returned (.bool true) ∧ Below w.heap.size w w' := by
  have HE := elems_any h v c
  unfold elN at HE
  rw [if_neg hk] at HE
  generalize chk h v c = E at *
  go_enter Try.func3, Try.ntmps3
  go_wp2_with fail
  refine gen_calls (fun W => Below w.heap.size w W ∧ Sh W w.heap.size 0 h v c) ⟨by repeat (first | exact Below.refl _ _ | refine bl_alloc ?_ _ | refine Below.drew ?_ | refine bl_drewN ?_ _ | refine bl_set ?_ (by first | omega | (simp; done) | (simp; omega)) _ | refine bl_step ?_ (by assumption)), sh_new' rfl⟩ ?_
  rintro W ⟨B0, S0⟩
  refine (begun_any W).mono ?_
  rintro e w1 ⟨rfl, hb1⟩
  replace S0 := S0.keep hb1
  replace B0 := bl_step B0 hb1
  clear hb1
  obtain ⟨y0, y1, y2⟩ := S0
  go_wp2_with fail
  refine (HE w1).mono ?_
  rintro e w2 ⟨rfl, hb2⟩
  go_wp2_with fail
  go_ret
  exact ⟨rfl, bl_step B0 hb2⟩
theorem keep3 {W w' : World} {g : Nat} {h v c : Int} (hb : Below W.heap.size W w') (a : W.cell? ⟨g, 0, none⟩ = some (.int .i64 h)) (b : W.cell? ⟨g, 1, none⟩ = some (.int .i64 v)) (d : W.cell? ⟨g, 2, none⟩ = some (.int .i64 c)) :
    w'.cell? ⟨g, 0, none⟩ = some (.int .i64 h) ∧ w'.cell? ⟨g, 1, none⟩ = some (.int .i64 v) ∧ w'.cell? ⟨g, 2, none⟩ = some (.int .i64 c) := ⟨keepc hb a, keepc hb b, keepc hb d⟩
set_option maxHeartbeats 1600000 in
set_option maxRecDepth 100000 in
theorem counts_pos (h v c f n F f0 : Int) (hk : chk h v c = 0) (hN : h * v * c = n) (hF : Int.tmod f n = F) (h1 : ¬ F < 0) (h2 : f0 = F) (hf : 0 ≤ f0 ∧ f0 < n) (w : World) :
    Calls Try.prog 3 #[shp h v c, .int .i64 f] w fun e w' => e = .returned (.bool true) ∧ Below w.heap.size w w' := by
  have HE := elems_any h v c
  unfold elN at HE
  rw [hk, if_pos rfl, hN] at HE
  obtain ⟨hs, hn⟩ := chk_zero hk
  rw [hN] at hn
  have s1 := hs.1; have s2 := hs.2.1; have s3 := hs.2.2
  have n1 : 1 ≤ n := by omega
  have n0 : ¬ n = 0 := by omega
  have n1' : ¬ n < 1 := by omega
  subst h2
  have d0 := wr_id (x := f0) (by omega) (by omega)
  have d1 := wr_id (x := f0 + 300) (by omega) (by omega)
  have HP := place_in h v c f0 hk (by omega) (by rw [hN]; omega)
  have HA := place_out2 h v c n hk (by omega) (by omega)
  have HB := place_out1 h v c (-1) hk (by omega)
  have fst : ∃ y x z : Int, f0 / c / v = y ∧ f0 / c % v = x ∧ f0 % c = z ∧ f0 = (y * v + x) * c + z ∧ 0 ≤ y ∧ (0 ≤ x ∧ x < v) ∧ (0 ≤ z ∧ z < c) := by
    refine ⟨_, _, _, rfl, rfl, rfl, ?_, Int.ediv_nonneg (Int.ediv_nonneg hf.1 (by omega)) (by omega), ⟨Int.emod_nonneg _ (by omega), Int.emod_lt_of_pos _ (by omega)⟩, ⟨Int.emod_nonneg _ (by omega), Int.emod_lt_of_pos _ (by omega)⟩⟩
    rw [Int.mul_comm (f0 / c / v) v, Int.mul_ediv_add_emod, Int.mul_comm, Int.mul_ediv_add_emod]
  obtain ⟨Y, X, Z, q1, q2, q3, q4, q5, q6, q7⟩ := fst
  rw [q1, q2, q3] at HP
  clear q1 q2 q3 hs
  have Q := hid1 q4
  clear q4
  have NN := hid1 hN
  have KK := hid1 hk
  clear hN hk
  go_enter Try.func3, Try.ntmps3
  go_wp2_with fail
  refine gen_calls (fun W => Below w.heap.size w W ∧ Sh W w.heap.size 0 h v c) ⟨by repeat (first | exact Below.refl _ _ | refine bl_alloc ?_ _ | refine Below.drew ?_ | refine bl_drewN ?_ _ | refine bl_set ?_ (by first | omega | (simp; done) | (simp; omega)) _ | refine bl_step ?_ (by assumption)), sh_new' rfl⟩ ?_
  rintro W ⟨B0, S0⟩
  refine (begun_any W).mono ?_
  rintro e w1 ⟨rfl, hb1⟩
  obtain ⟨y0, y1, y2⟩ := S0.keep hb1
  replace B0 := bl_step B0 hb1
  clear hb1 S0
  go_wp2_with fail
  refine (HE w1).mono ?_
  rintro e w2 ⟨rfl, hb2⟩
  obtain ⟨y0, y1, y2⟩ := keep3 hb2 y0 y1 y2
  replace B0 := bl_step B0 hb2
  clear hb2
  go_wp2_with fail
  refine (HP w2).mono ?_
  rintro e w3 ⟨rfl, hb3⟩
  obtain ⟨y0, y1, y2⟩ := keep3 hb3 y0 y1 y2
  replace B0 := bl_step B0 hb3
  clear hb3 HP HE
  go_wp2_with fail
  go_loopw [7, 8, 9, 11] (fun a b d k wr => ∃ i y x z : Int, f0 ≤ i ∧ i ≤ n ∧ i = (y * v + x) * c + z ∧ 0 ≤ y ∧ (0 ≤ x ∧ x < v) ∧ (0 ≤ z ∧ z < c) ∧ a = .int .i64 y ∧ b = .int .i64 x ∧ d = .int .i64 z ∧ k = .int .i64 i ∧ Below w.heap.size w wr ∧
    wr.cell? ⟨w.heap.size, 0, none⟩ = some (.int .i64 h) ∧ wr.cell? ⟨w.heap.size, 1, none⟩ = some (.int .i64 v) ∧ wr.cell? ⟨w.heap.size, 2, none⟩ = some (.int .i64 c)) (fun _ _ _ k _ => (n - intOf k).toNat)
  case atStart => exact ⟨f0, Y, X, Z, by omega, by omega, Q.out, q5, q6, q7, rfl, rfl, rfl, rfl, B0, y0, y1, y2⟩
  case round =>
    obtain ⟨i, y, x, z, hi0, hi1, hE, hy, hx, hz, rfl, rfl, rfl, rfl, B1, u0, u1, u2⟩ := hrel
    by_cases hlt : i < n
    · by_cases hlu : i < f0 + 300
      · have hyh := row_lt hE hx.1 hz.1 s2.1 s3.1 (show i < h * v * c by rw [NN.out]; omega)
        have HI := index_in h v c y x z KK.out ⟨⟨hy, hyh⟩, hx, hz⟩
        rw [← hE] at HI
        have EE := hid1 hE
        clear hE
        have g1 := wr_id (x := z + 1) (by omega) (by omega)
        have g2 := wr_id (x := x + 1) (by omega) (by omega)
        have g3 := wr_id (x := y + 1) (by omega) (by omega)
        have g4 := wr_id (x := i + 1) (by omega) (by omega)
        clear y0 y1 y2 B0
        go_wp2_with fail
        refine (HI _).mono ?_
        rintro e w5 ⟨rfl, hb5⟩
        obtain ⟨u0, u1, u2⟩ := keep3 hb5 u0 u1 u2
        have B2 := bl_step B1 hb5
        clear hb5 B1 HI
        by_cases bz : z + 1 = c
        · by_cases bx : x + 1 = v
          · have E2 : i + 1 = ((y + 1) * v + 0) * c + 0 := by
              have hE := EE.out
              have a : ((y + 1) * v + 0) * c = (y * v + x) * c + c := by
                rw [show (y + 1) * v + 0 = (y * v + x) + 1 by rw [Int.add_mul]; omega, Int.add_mul (y * v + x) 1 c]; omega
              omega
            have b1 : (z + 1 == c) = true := by simpa using bz
            have b2 : (x + 1 == v) = true := by simpa using bx
            have G := hid1 (show ((0 : Int) ≤ (y + 1)) ∧ ((0 : Int) ≤ 0 ∧ 0 < v) ∧ ((0 : Int) ≤ 0 ∧ 0 < c) ∧ i + 1 = ((y + 1) * v + 0) * c + 0 from ⟨by omega, ⟨by omega, by omega⟩, ⟨by omega, by omega⟩, E2⟩)
            clear E2
            by_cases hl : i + 1 < n
            · have HP := place_in h v c (i + 1) KK.out (by omega) (by rw [NN.out]; omega)
              obtain ⟨p1, p2, p3⟩ := plc (i := i + 1) (y := (y + 1)) (x := 0) (z := 0) (v := v) (c := c) G.out.2.2.2 G.out.2.1.1 G.out.2.1.2 G.out.2.2.1.1 G.out.2.2.1.2
              rw [p1, p2, p3] at HP
              clear p1 p2 p3
              clear bz bx
              go_wp2_with fail
              (with_reducible refine (HP _).mono ?_)
              rintro e w3 ⟨rfl, hb3⟩
              obtain ⟨z0, z1, z2⟩ := keep3 hb3 u0 u1 u2
              go_wp2_with fail
              exact ⟨⟨i + 1, (y + 1), 0, 0, by omega, by omega, G.out.2.2.2, G.out.1, G.out.2.1, G.out.2.2.1, rfl, rfl, rfl, rfl, bl_step B2 hb3, z0, z1, z2⟩, by simp [intOf]; omega⟩
            · clear bz bx
              go_wp2_with fail
              exact ⟨⟨i + 1, (y + 1), 0, 0, by omega, by omega, G.out.2.2.2, G.out.1, G.out.2.1, G.out.2.2.1, rfl, rfl, rfl, rfl, B2, u0, u1, u2⟩, by simp [intOf]; omega⟩
          · have E2 : i + 1 = (y * v + (x + 1)) * c + 0 := by
              have hE := EE.out
              have a : (y * v + (x + 1)) * c = (y * v + x) * c + c := by
                rw [← Int.add_assoc, Int.add_mul (y * v + x) 1 c]; omega
              omega
            have b1 : (z + 1 == c) = true := by simpa using bz
            have b2 : (x + 1 == v) = false := by simpa using bx
            have G := hid1 (show ((0 : Int) ≤ y) ∧ ((0 : Int) ≤ (x + 1) ∧ (x + 1) < v) ∧ ((0 : Int) ≤ 0 ∧ 0 < c) ∧ i + 1 = (y * v + (x + 1)) * c + 0 from ⟨by omega, ⟨by omega, by omega⟩, ⟨by omega, by omega⟩, E2⟩)
            clear E2
            by_cases hl : i + 1 < n
            · have HP := place_in h v c (i + 1) KK.out (by omega) (by rw [NN.out]; omega)
              obtain ⟨p1, p2, p3⟩ := plc (i := i + 1) (y := y) (x := (x + 1)) (z := 0) (v := v) (c := c) G.out.2.2.2 G.out.2.1.1 G.out.2.1.2 G.out.2.2.1.1 G.out.2.2.1.2
              rw [p1, p2, p3] at HP
              clear p1 p2 p3
              clear bz bx
              go_wp2_with fail
              (with_reducible refine (HP _).mono ?_)
              rintro e w3 ⟨rfl, hb3⟩
              obtain ⟨z0, z1, z2⟩ := keep3 hb3 u0 u1 u2
              go_wp2_with fail
              exact ⟨⟨i + 1, y, (x + 1), 0, by omega, by omega, G.out.2.2.2, G.out.1, G.out.2.1, G.out.2.2.1, rfl, rfl, rfl, rfl, bl_step B2 hb3, z0, z1, z2⟩, by simp [intOf]; omega⟩
            · clear bz bx
              go_wp2_with fail
              exact ⟨⟨i + 1, y, (x + 1), 0, by omega, by omega, G.out.2.2.2, G.out.1, G.out.2.1, G.out.2.2.1, rfl, rfl, rfl, rfl, B2, u0, u1, u2⟩, by simp [intOf]; omega⟩
        · have E2 : i + 1 = (y * v + x) * c + (z + 1) := by have hE := EE.out; omega
          have b1 : (z + 1 == c) = false := by simpa using bz
          have b2 : (x == v) = false := by simp; omega
          have G := hid1 (show ((0 : Int) ≤ y) ∧ ((0 : Int) ≤ x ∧ x < v) ∧ ((0 : Int) ≤ (z + 1) ∧ (z + 1) < c) ∧ i + 1 = (y * v + x) * c + (z + 1) from ⟨by omega, ⟨by omega, by omega⟩, ⟨by omega, by omega⟩, E2⟩)
          clear E2
          by_cases hl : i + 1 < n
          · have HP := place_in h v c (i + 1) KK.out (by omega) (by rw [NN.out]; omega)
            obtain ⟨p1, p2, p3⟩ := plc (i := i + 1) (y := y) (x := x) (z := (z + 1)) (v := v) (c := c) G.out.2.2.2 G.out.2.1.1 G.out.2.1.2 G.out.2.2.1.1 G.out.2.2.1.2
            rw [p1, p2, p3] at HP
            clear p1 p2 p3
            clear bz
            go_wp2_with fail
            (with_reducible refine (HP _).mono ?_)
            rintro e w3 ⟨rfl, hb3⟩
            obtain ⟨z0, z1, z2⟩ := keep3 hb3 u0 u1 u2
            go_wp2_with fail
            exact ⟨⟨i + 1, y, x, (z + 1), by omega, by omega, G.out.2.2.2, G.out.1, G.out.2.1, G.out.2.2.1, rfl, rfl, rfl, rfl, bl_step B2 hb3, z0, z1, z2⟩, by simp [intOf]; omega⟩
          · clear bz
            go_wp2_with fail
            exact ⟨⟨i + 1, y, x, (z + 1), by omega, by omega, G.out.2.2.2, G.out.1, G.out.2.1, G.out.2.2.1, rfl, rfl, rfl, rfl, B2, u0, u1, u2⟩, by simp [intOf]; omega⟩
      · clear hE
        go_wp2_with fail
        refine (HA _).mono ?_
        rintro e w8 ⟨rfl, hb8⟩
        obtain ⟨u0, u1, u2⟩ := keep3 hb8 u0 u1 u2
        have B2 := bl_step B1 hb8
        go_wp2_with fail
        refine (HB _).mono ?_
        rintro e w9 ⟨rfl, hb9⟩
        go_wp2_with fail
        go_ret
        exact ⟨rfl, bl_step B2 hb9⟩
    · clear hE
      go_wp2_with fail
      refine (HA _).mono ?_
      rintro e w8 ⟨rfl, hb8⟩
      obtain ⟨u0, u1, u2⟩ := keep3 hb8 u0 u1 u2
      have B2 := bl_step B1 hb8
      go_wp2_with fail
      refine (HB _).mono ?_
      rintro e w9 ⟨rfl, hb9⟩
      go_wp2_with fail
      go_ret
      exact ⟨rfl, bl_step B2 hb9⟩
set_option maxHeartbeats 1600000 in
set_option maxRecDepth 100000 in
theorem counts_neg (h v c f n F f0 : Int) (hk : chk h v c = 0) (hN : h * v * c = n) (hF : Int.tmod f n = F) (h1 : F < 0) (h2 : F + n = f0) (hf : 0 ≤ f0 ∧ f0 < n) (w : World) :
    Calls Try.prog 3 #[shp h v c, .int .i64 f] w fun e w' => e = .returned (.bool true) ∧ Below w.heap.size w w' := by
  have HE := elems_any h v c
  unfold elN at HE
  rw [hk, if_pos rfl, hN] at HE
  obtain ⟨hs, hn⟩ := chk_zero hk
  rw [hN] at hn
  have s1 := hs.1; have s2 := hs.2.1; have s3 := hs.2.2
  have n1 : 1 ≤ n := by omega
  have n0 : ¬ n = 0 := by omega
  have n1' : ¬ n < 1 := by omega
  have d0 := wr_id (x := F) (by omega) (by omega)
  have d2 := wr_id (x := F + n) (by omega) (by omega)
  have d1 := wr_id (x := f0 + 300) (by omega) (by omega)
  have HP := place_in h v c f0 hk (by omega) (by rw [hN]; omega)
  have HA := place_out2 h v c n hk (by omega) (by omega)
  have HB := place_out1 h v c (-1) hk (by omega)
  have fst : ∃ y x z : Int, f0 / c / v = y ∧ f0 / c % v = x ∧ f0 % c = z ∧ f0 = (y * v + x) * c + z ∧ 0 ≤ y ∧ (0 ≤ x ∧ x < v) ∧ (0 ≤ z ∧ z < c) := by
    refine ⟨_, _, _, rfl, rfl, rfl, ?_, Int.ediv_nonneg (Int.ediv_nonneg hf.1 (by omega)) (by omega), ⟨Int.emod_nonneg _ (by omega), Int.emod_lt_of_pos _ (by omega)⟩, ⟨Int.emod_nonneg _ (by omega), Int.emod_lt_of_pos _ (by omega)⟩⟩
    rw [Int.mul_comm (f0 / c / v) v, Int.mul_ediv_add_emod, Int.mul_comm, Int.mul_ediv_add_emod]
  obtain ⟨Y, X, Z, q1, q2, q3, q4, q5, q6, q7⟩ := fst
  rw [q1, q2, q3] at HP
  clear q1 q2 q3 hs
  have Q := hid1 q4
  clear q4
  have NN := hid1 hN
  have KK := hid1 hk
  clear hN hk
  go_enter Try.func3, Try.ntmps3
  go_wp2_with fail
  refine gen_calls (fun W => Below w.heap.size w W ∧ Sh W w.heap.size 0 h v c) ⟨by repeat (first | exact Below.refl _ _ | refine bl_alloc ?_ _ | refine Below.drew ?_ | refine bl_drewN ?_ _ | refine bl_set ?_ (by first | omega | (simp; done) | (simp; omega)) _ | refine bl_step ?_ (by assumption)), sh_new' rfl⟩ ?_
  rintro W ⟨B0, S0⟩
  refine (begun_any W).mono ?_
  rintro e w1 ⟨rfl, hb1⟩
  obtain ⟨y0, y1, y2⟩ := S0.keep hb1
  replace B0 := bl_step B0 hb1
  clear hb1 S0
  go_wp2_with fail
  refine (HE w1).mono ?_
  rintro e w2 ⟨rfl, hb2⟩
  obtain ⟨y0, y1, y2⟩ := keep3 hb2 y0 y1 y2
  replace B0 := bl_step B0 hb2
  clear hb2
  go_wp2_with fail
  refine (HP w2).mono ?_
  rintro e w3 ⟨rfl, hb3⟩
  obtain ⟨y0, y1, y2⟩ := keep3 hb3 y0 y1 y2
  replace B0 := bl_step B0 hb3
  clear hb3 HP HE
  go_wp2_with fail
  go_loopw [7, 8, 9, 11] (fun a b d k wr => ∃ i y x z : Int, f0 ≤ i ∧ i ≤ n ∧ i = (y * v + x) * c + z ∧ 0 ≤ y ∧ (0 ≤ x ∧ x < v) ∧ (0 ≤ z ∧ z < c) ∧ a = .int .i64 y ∧ b = .int .i64 x ∧ d = .int .i64 z ∧ k = .int .i64 i ∧ Below w.heap.size w wr ∧
    wr.cell? ⟨w.heap.size, 0, none⟩ = some (.int .i64 h) ∧ wr.cell? ⟨w.heap.size, 1, none⟩ = some (.int .i64 v) ∧ wr.cell? ⟨w.heap.size, 2, none⟩ = some (.int .i64 c)) (fun _ _ _ k _ => (n - intOf k).toNat)
  case atStart => exact ⟨f0, Y, X, Z, by omega, by omega, Q.out, q5, q6, q7, rfl, rfl, rfl, rfl, B0, y0, y1, y2⟩
  case round =>
    obtain ⟨i, y, x, z, hi0, hi1, hE, hy, hx, hz, rfl, rfl, rfl, rfl, B1, u0, u1, u2⟩ := hrel
    by_cases hlt : i < n
    · by_cases hlu : i < f0 + 300
      · have hyh := row_lt hE hx.1 hz.1 s2.1 s3.1 (show i < h * v * c by rw [NN.out]; omega)
        have HI := index_in h v c y x z KK.out ⟨⟨hy, hyh⟩, hx, hz⟩
        rw [← hE] at HI
        have EE := hid1 hE
        clear hE
        have g1 := wr_id (x := z + 1) (by omega) (by omega)
        have g2 := wr_id (x := x + 1) (by omega) (by omega)
        have g3 := wr_id (x := y + 1) (by omega) (by omega)
        have g4 := wr_id (x := i + 1) (by omega) (by omega)
        clear y0 y1 y2 B0
        go_wp2_with fail
        refine (HI _).mono ?_
        rintro e w5 ⟨rfl, hb5⟩
        obtain ⟨u0, u1, u2⟩ := keep3 hb5 u0 u1 u2
        have B2 := bl_step B1 hb5
        clear hb5 B1 HI
        by_cases bz : z + 1 = c
        · by_cases bx : x + 1 = v
          · have E2 : i + 1 = ((y + 1) * v + 0) * c + 0 := by
              have hE := EE.out
              have a : ((y + 1) * v + 0) * c = (y * v + x) * c + c := by
                rw [show (y + 1) * v + 0 = (y * v + x) + 1 by rw [Int.add_mul]; omega, Int.add_mul (y * v + x) 1 c]; omega
              omega
            have b1 : (z + 1 == c) = true := by simpa using bz
            have b2 : (x + 1 == v) = true := by simpa using bx
            have G := hid1 (show ((0 : Int) ≤ (y + 1)) ∧ ((0 : Int) ≤ 0 ∧ 0 < v) ∧ ((0 : Int) ≤ 0 ∧ 0 < c) ∧ i + 1 = ((y + 1) * v + 0) * c + 0 from ⟨by omega, ⟨by omega, by omega⟩, ⟨by omega, by omega⟩, E2⟩)
            clear E2
            by_cases hl : i + 1 < n
            · have HP := place_in h v c (i + 1) KK.out (by omega) (by rw [NN.out]; omega)
              obtain ⟨p1, p2, p3⟩ := plc (i := i + 1) (y := (y + 1)) (x := 0) (z := 0) (v := v) (c := c) G.out.2.2.2 G.out.2.1.1 G.out.2.1.2 G.out.2.2.1.1 G.out.2.2.1.2
              rw [p1, p2, p3] at HP
              clear p1 p2 p3
              clear bz bx
              go_wp2_with fail
              (with_reducible refine (HP _).mono ?_)
              rintro e w3 ⟨rfl, hb3⟩
              obtain ⟨z0, z1, z2⟩ := keep3 hb3 u0 u1 u2
              go_wp2_with fail
              exact ⟨⟨i + 1, (y + 1), 0, 0, by omega, by omega, G.out.2.2.2, G.out.1, G.out.2.1, G.out.2.2.1, rfl, rfl, rfl, rfl, bl_step B2 hb3, z0, z1, z2⟩, by simp [intOf]; omega⟩
            · clear bz bx
              go_wp2_with fail
              exact ⟨⟨i + 1, (y + 1), 0, 0, by omega, by omega, G.out.2.2.2, G.out.1, G.out.2.1, G.out.2.2.1, rfl, rfl, rfl, rfl, B2, u0, u1, u2⟩, by simp [intOf]; omega⟩
          · have E2 : i + 1 = (y * v + (x + 1)) * c + 0 := by
              have hE := EE.out
              have a : (y * v + (x + 1)) * c = (y * v + x) * c + c := by
                rw [← Int.add_assoc, Int.add_mul (y * v + x) 1 c]; omega
              omega
            have b1 : (z + 1 == c) = true := by simpa using bz
            have b2 : (x + 1 == v) = false := by simpa using bx
            have G := hid1 (show ((0 : Int) ≤ y) ∧ ((0 : Int) ≤ (x + 1) ∧ (x + 1) < v) ∧ ((0 : Int) ≤ 0 ∧ 0 < c) ∧ i + 1 = (y * v + (x + 1)) * c + 0 from ⟨by omega, ⟨by omega, by omega⟩, ⟨by omega, by omega⟩, E2⟩)
            clear E2
            by_cases hl : i + 1 < n
            · have HP := place_in h v c (i + 1) KK.out (by omega) (by rw [NN.out]; omega)
              obtain ⟨p1, p2, p3⟩ := plc (i := i + 1) (y := y) (x := (x + 1)) (z := 0) (v := v) (c := c) G.out.2.2.2 G.out.2.1.1 G.out.2.1.2 G.out.2.2.1.1 G.out.2.2.1.2
              rw [p1, p2, p3] at HP
              clear p1 p2 p3
              clear bz bx
              go_wp2_with fail
              (with_reducible refine (HP _).mono ?_)
              rintro e w3 ⟨rfl, hb3⟩
              obtain ⟨z0, z1, z2⟩ := keep3 hb3 u0 u1 u2
              go_wp2_with fail
              exact ⟨⟨i + 1, y, (x + 1), 0, by omega, by omega, G.out.2.2.2, G.out.1, G.out.2.1, G.out.2.2.1, rfl, rfl, rfl, rfl, bl_step B2 hb3, z0, z1, z2⟩, by simp [intOf]; omega⟩
            · clear bz bx
              go_wp2_with fail
              exact ⟨⟨i + 1, y, (x + 1), 0, by omega, by omega, G.out.2.2.2, G.out.1, G.out.2.1, G.out.2.2.1, rfl, rfl, rfl, rfl, B2, u0, u1, u2⟩, by simp [intOf]; omega⟩
        · have E2 : i + 1 = (y * v + x) * c + (z + 1) := by have hE := EE.out; omega
          have b1 : (z + 1 == c) = false := by simpa using bz
          have b2 : (x == v) = false := by simp; omega
          have G := hid1 (show ((0 : Int) ≤ y) ∧ ((0 : Int) ≤ x ∧ x < v) ∧ ((0 : Int) ≤ (z + 1) ∧ (z + 1) < c) ∧ i + 1 = (y * v + x) * c + (z + 1) from ⟨by omega, ⟨by omega, by omega⟩, ⟨by omega, by omega⟩, E2⟩)
          clear E2
          by_cases hl : i + 1 < n
          · have HP := place_in h v c (i + 1) KK.out (by omega) (by rw [NN.out]; omega)
            obtain ⟨p1, p2, p3⟩ := plc (i := i + 1) (y := y) (x := x) (z := (z + 1)) (v := v) (c := c) G.out.2.2.2 G.out.2.1.1 G.out.2.1.2 G.out.2.2.1.1 G.out.2.2.1.2
            rw [p1, p2, p3] at HP
            clear p1 p2 p3
            clear bz
            go_wp2_with fail
            (with_reducible refine (HP _).mono ?_)
            rintro e w3 ⟨rfl, hb3⟩
            obtain ⟨z0, z1, z2⟩ := keep3 hb3 u0 u1 u2
            go_wp2_with fail
            exact ⟨⟨i + 1, y, x, (z + 1), by omega, by omega, G.out.2.2.2, G.out.1, G.out.2.1, G.out.2.2.1, rfl, rfl, rfl, rfl, bl_step B2 hb3, z0, z1, z2⟩, by simp [intOf]; omega⟩
          · clear bz
            go_wp2_with fail
            exact ⟨⟨i + 1, y, x, (z + 1), by omega, by omega, G.out.2.2.2, G.out.1, G.out.2.1, G.out.2.2.1, rfl, rfl, rfl, rfl, B2, u0, u1, u2⟩, by simp [intOf]; omega⟩
      · clear hE
        go_wp2_with fail
        refine (HA _).mono ?_
        rintro e w8 ⟨rfl, hb8⟩
        obtain ⟨u0, u1, u2⟩ := keep3 hb8 u0 u1 u2
        have B2 := bl_step B1 hb8
        go_wp2_with fail
        refine (HB _).mono ?_
        rintro e w9 ⟨rfl, hb9⟩
        go_wp2_with fail
        go_ret
        exact ⟨rfl, bl_step B2 hb9⟩
    · clear hE
      go_wp2_with fail
      refine (HA _).mono ?_
      rintro e w8 ⟨rfl, hb8⟩
      obtain ⟨u0, u1, u2⟩ := keep3 hb8 u0 u1 u2
      have B2 := bl_step B1 hb8
      go_wp2_with fail
      refine (HB _).mono ?_
      rintro e w9 ⟨rfl, hb9⟩
      go_wp2_with fail
      go_ret
      exact ⟨rfl, bl_step B2 hb9⟩
theorem counts_walk (h v c f : Int) (w : World) :
    Calls Try.prog 3 #[shp h v c, .int .i64 f] w fun e w' => e = .returned (.bool true) ∧ Below w.heap.size w w' := by
  by_cases hk : chk h v c = 0
  · have n1 : 1 ≤ h * v * c := (mul3 (chk_zero hk).1).1
    have a1 := Int.tmod_lt_of_pos f (show 0 < h * v * c by omega)
    have a2 := Int.lt_tmod_of_pos f (show 0 < h * v * c by omega)
    by_cases h1 : Int.tmod f (h * v * c) < 0
    · exact counts_neg h v c f _ _ _ hk rfl rfl h1 rfl ⟨by omega, by omega⟩ w
    · exact counts_pos h v c f _ _ _ hk rfl rfl h1 rfl ⟨by omega, by omega⟩ w
  · exact counts_bad h v c f hk w
end Go.Proofs.Ytdpdfopmmhpfmaa
