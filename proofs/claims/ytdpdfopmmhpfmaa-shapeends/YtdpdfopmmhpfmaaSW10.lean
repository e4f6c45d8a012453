/- SHAPES: ShapeEnds, WALKED. -/
import Derived.Test.YtdpdfopmmhpfmaaSW9
namespace Go.Proofs.Ytdpdfopmmhpfmaa
open Go.RowKit

theorem st_ends {n bf af wi st V : Int} (h : 1 ≤ st) (hV : stN n bf af wi st = V) (h1 : 1 ≤ V) : (V - 1) * st + wi ≤ n + bf + af ∧ (V - 1) * st + st + wi > n + bf + af := by
  unfold stN at hV
  by_cases k : bf + n + af < wi
  · rw [if_pos k] at hV; omega
  · rw [if_neg k] at hV
    have e : V - 1 = (bf + n + af - wi) / st := by omega
    rw [e]
    have a1 := Int.ediv_mul_le (bf + n + af - wi) (show st ≠ 0 by omega)
    have a2 := Int.lt_ediv_add_one_mul_self (bf + n + af - wi) (show 0 < st by omega)
    rw [Int.add_mul, Int.one_mul] at a2
    omega
set_option maxRecDepth 100000 in
theorem ends_any (n all wi st A : Int) (hA : (n - 1) * st = A) (h1 : n ≥ 1 ∧ n ≤ 4096) (h2 : 1 ≤ st ∧ st ≤ 15) (h3 : 1 ≤ wi ∧ wi ≤ 15) (h4 : A + wi ≤ all) (h5 : A + st + wi > all) (w : World) :
    Calls Try.prog 16 #[.int .i64 n, .int .i64 all, .int .i64 wi, .int .i64 st] w fun e w' => e = .returned (.bool true) ∧ w' = w := by
  have m := mulB (a := n - 1) (b := st) (A := 4096) (B := 15) (by omega) (by omega)
  have e0 := wr_id (x := n - 1) (by omega) (by omega)
  have e1 := wr_id (x := (n - 1) * st) (by omega) (by omega)
  rw [hA] at e1 m
  have e2 := wr_id (x := A + wi) (by omega) (by omega)
  have e3 := wr_id (x := A + st) (by omega) (by omega)
  have e4 := wr_id (x := A + st + wi) (by omega) (by omega)
  have h0 := h1.1
  go_enter Try.func16, Try.ntmps16
  go_wp2
  go_ret
  exact ⟨rfl, rfl⟩
set_option maxRecDepth 100000 in
theorem lawends_bad (h v c r s sy sx t l b q k E : Int) (hE : slE h v c r s sy sx t l b q k = E) (h0 : E ≠ 0) (w : World) :
    Calls Try.prog 4 #[shp h v c, win r s sy sx t l b q, .int .i64 k] w fun e w' => e = .returned (.bool true) ∧ Below w.heap.size w w' := by
  have H1 := slide_any h v c r s sy sx t l b q k
  unfold slV at H1
  rw [hE, if_neg h0] at H1
  clear hE
  go_enter Try.func4, Try.ntmps4
  go_wp2_with fail
  refine gen_calls (fun W => Below w.heap.size w W ∧ Sh W w.heap.size 0 h v c ∧ Wn W (w.heap.size + 1) 0 r s sy sx t l b q) ⟨by repeat (first | exact Below.refl _ _ | refine bl_alloc ?_ _ | refine Below.drew ?_ | refine bl_drewN ?_ _ | refine bl_set ?_ (by first | omega | (simp; done) | (simp; omega)) _ | refine bl_step ?_ (by assumption)), (sh_new' rfl).keep (bl_alloc (Below.refl _ _) _), wn_new' (by simp)⟩ ?_
  rintro W ⟨B0, S0, W0⟩
  refine (begun_any W).mono ?_
  rintro e w1 ⟨rfl, hb1⟩
  replace S0 := S0.keep hb1
  replace W0 := W0.keep hb1
  replace B0 := bl_step B0 hb1
  clear hb1
  obtain ⟨x0, x1, x2, x3, x4, x5, x6, x7⟩ := W0
  obtain ⟨y0, y1, y2⟩ := S0
  go_wp2_with fail
  refine (H1 w1).mono ?_
  rintro e w2 ⟨rfl, hb2⟩
  replace B0 := bl_step B0 hb2
  clear hb2 x0 x1 x2 x3 x4 x5 x6 x7 y0 y1 y2
  go_wp2_with fail
  go_ret
  refine ⟨rfl, ?_⟩
  repeat (first | exact Below.refl _ _ | refine bl_alloc ?_ _ | refine Below.drew ?_ | refine bl_drewN ?_ _ | refine bl_set ?_ (by first | omega | (simp; done) | (simp; omega)) _ | refine bl_step ?_ (by assumption))
set_option maxHeartbeats 800000 in
set_option maxRecDepth 100000 in
theorem lawends_ok (h v c r s sy sx t l b q k OH OW : Int) (hE : slE h v c r s sy sx t l b q k = 0) (eh : stN h t b r sy = OH) (ew : stN v l q s sx = OW) (hk : chk h v c = 0) (hw : WOk r s sy sx t l b q) (ho : chk OH OW k = 0) (w : World) :
    Calls Try.prog 4 #[shp h v c, win r s sy sx t l b q, .int .i64 k] w fun e w' => e = .returned (.bool true) ∧ Below w.heap.size w w' := by
  have H1 := slide_any h v c r s sy sx t l b q k
  unfold slV at H1
  rw [if_pos hE, eh, ew] at H1
  have H2 := check_any h v c
  rw [hk] at H2
  have H3 := window_any r s sy sx t l b q
  unfold wiE at H3
  rw [if_pos hw] at H3
  have H4 := check_any OH OW k
  rw [ho] at H4
  have so := (chk_zero ho).1
  have hs := (chk_zero hk).1
  have s1 := hs.1; have s2 := hs.2.1
  have t1 := so.1; have t2 := so.2.1
  obtain ⟨⟨v1, v2, v3, v4⟩, v5, v6, v7, v8⟩ := hw
  obtain ⟨a1, a2⟩ := st_ends v2.1 eh so.1.1
  obtain ⟨a3, a4⟩ := st_ends v6.1 ew so.2.1.1
  have H5 := ends_any OH (h + t + b) r sy _ rfl t1 v2 v1 a1 a2
  have H6 := ends_any OW (v + l + q) s sx _ rfl t2 v6 v5 a3 a4
  have e1 := wr_id (x := h + t) (by omega) (by omega)
  have e2 := wr_id (x := h + t + b) (by omega) (by omega)
  have e3 := wr_id (x := v + l) (by omega) (by omega)
  have e4 := wr_id (x := v + l + q) (by omega) (by omega)
  clear hE eh ew so hs s1 s2 v1 v2 v3 v4 v5 v6 v7 v8 a1 a2 a3 a4 t1 t2 ho hk
  go_enter Try.func4, Try.ntmps4
  go_wp2_with fail
  refine gen_calls (fun W => Below w.heap.size w W ∧ Sh W w.heap.size 0 h v c ∧ Wn W (w.heap.size + 1) 0 r s sy sx t l b q) ⟨by repeat (first | exact Below.refl _ _ | refine bl_alloc ?_ _ | refine Below.drew ?_ | refine bl_drewN ?_ _ | refine bl_set ?_ (by first | omega | (simp; done) | (simp; omega)) _ | refine bl_step ?_ (by assumption)), (sh_new' rfl).keep (bl_alloc (Below.refl _ _) _), wn_new' (by simp)⟩ ?_
  rintro W ⟨B0, S0, W0⟩
  refine (begun_any W).mono ?_
  rintro e w1 ⟨rfl, hb1⟩
  replace S0 := S0.keep hb1
  replace W0 := W0.keep hb1
  replace B0 := bl_step B0 hb1
  clear hb1
  have SS := hid1 S0
  have WW := hid1 W0
  obtain ⟨x0, x1, x2, x3, x4, x5, x6, x7⟩ := W0
  obtain ⟨y0, y1, y2⟩ := S0
  go_wp2_with fail
  refine (H1 w1).mono ?_
  rintro e w2 ⟨rfl, hb2⟩
  replace B0 := bl_step B0 hb2
  clear x0 x1 x2 x3 x4 x5 x6 x7 y0 y1 y2
  obtain ⟨x0, x1, x2, x3, x4, x5, x6, x7⟩ := WW.out.keep (bl_alloc hb2 (.cells #[.int .i64 OH, .int .i64 OW, .int .i64 k] 23))
  obtain ⟨y0, y1, y2⟩ := SS.out.keep (bl_alloc hb2 (.cells #[.int .i64 OH, .int .i64 OW, .int .i64 k] 23))
  clear SS WW hb2
  go_wp2_with fail
  refine gen_calls (fun W => Below w.heap.size w W ∧ Sh W w.heap.size 0 h v c ∧ Wn W (w.heap.size + 1) 0 r s sy sx t l b q ∧ Sh W w2.heap.size 0 OH OW k) ⟨by repeat (first | exact Below.refl _ _ | refine bl_alloc ?_ _ | refine Below.drew ?_ | refine bl_drewN ?_ _ | refine bl_set ?_ (by first | omega | (simp; done) | (simp; omega)) _ | refine bl_step ?_ (by assumption)), ⟨y0, y1, y2⟩, ⟨x0, x1, x2, x3, x4, x5, x6, x7⟩, sh_new' rfl⟩ ?_
  clear x0 x1 x2 x3 x4 x5 x6 x7 y0 y1 y2 B0
  rintro W3 ⟨B0, S0, W0, O0⟩
  refine (H2 W3).mono ?_
  rintro e w3 ⟨rfl, hb3⟩
  replace S0 := S0.keep hb3
  replace W0 := W0.keep hb3
  replace O0 := O0.keep hb3
  replace B0 := bl_step B0 hb3
  clear hb3
  have SS := hid1 S0
  have WW := hid1 W0
  have OO := hid1 O0
  obtain ⟨x0, x1, x2, x3, x4, x5, x6, x7⟩ := W0
  go_wp2_with fail
  refine (H3 w3).mono ?_
  rintro e w4 ⟨rfl, hb4⟩
  clear x0 x1 x2 x3 x4 x5 x6 x7 S0 O0
  have S0 := SS.out.keep hb4
  have W0 := WW.out.keep hb4
  have O0 := OO.out.keep hb4
  replace B0 := bl_step B0 hb4
  clear hb4 SS WW OO
  have SS := hid1 S0
  have WW := hid1 W0
  have OO := hid1 O0
  obtain ⟨z0, z1, z2⟩ := O0
  go_wp2_with fail
  refine (H4 w4).mono ?_
  rintro e w5 ⟨rfl, hb5⟩
  clear z0 z1 z2 S0 W0
  obtain ⟨y0, y1, y2⟩ := SS.out.keep hb5
  obtain ⟨x0, x1, x2, x3, x4, x5, x6, x7⟩ := WW.out.keep hb5
  obtain ⟨z0, z1, z2⟩ := OO.out.keep hb5
  replace B0 := bl_step B0 hb5
  clear hb5 SS WW OO
  go_wp2_with (first | (go_at_call 16; (with_reducible refine (H5 _).mono ?_); rintro e w' ⟨rfl, hx⟩; subst w') | (go_at_call 16; (with_reducible refine (H6 _).mono ?_); rintro e w' ⟨rfl, hx⟩; subst w'))
  go_ret
  exact ⟨rfl, B0⟩
theorem lawends_walk (h v c r s sy sx t l b q k : Int) (w : World) :
    Calls Try.prog 4 #[shp h v c, win r s sy sx t l b q, .int .i64 k] w fun e w' => e = .returned (.bool true) ∧ Below w.heap.size w w' := by
  by_cases h0 : slE h v c r s sy sx t l b q k = 0
  · have h0' := h0
    unfold slE at h0'
    by_cases hk : chk h v c = 0
    · rw [if_neg (fun x => x hk)] at h0'
      by_cases k1 : k < 1 ∨ k > 4096
      · rw [if_pos k1] at h0'; omega
      · rw [if_neg k1] at h0'
        by_cases hw : WOk r s sy sx t l b q
        · rw [if_neg (fun x => x hw)] at h0'
          by_cases hm : mn2 (stN h t b r sy) (stN v l q s sx) = 0
          · rw [if_pos hm] at h0'; omega
          · rw [if_neg hm] at h0'
            exact lawends_ok h v c r s sy sx t l b q k _ _ h0 rfl rfl hk hw h0' w
        · rw [if_pos hw] at h0'; omega
    · rw [if_pos hk] at h0'; exact absurd h0' hk
  · exact lawends_bad h v c r s sy sx t l b q k _ rfl h0 w
end Go.Proofs.Ytdpdfopmmhpfmaa
