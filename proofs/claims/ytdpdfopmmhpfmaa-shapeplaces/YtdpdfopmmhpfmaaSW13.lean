/- SHAPES: ShapePlaces, WALKED. -/
import Derived.Test.YtdpdfopmmhpfmaaSW12
namespace Go.Proofs.Ytdpdfopmmhpfmaa
open Go.RowKit

theorem kp6 {W w' : World} {g o gy oy gx ox gz oz : Nat} {h v c y x z : Value} (hb : Below W.heap.size W w') (a : W.cell? ⟨g, o, none⟩ = some h) (b : W.cell? ⟨g, o + 1, none⟩ = some v) (d : W.cell? ⟨g, o + 2, none⟩ = some c)
    (p : W.cell? ⟨gy, oy, none⟩ = some y) (q : W.cell? ⟨gx, ox, none⟩ = some x) (r : W.cell? ⟨gz, oz, none⟩ = some z) :
    w'.cell? ⟨g, o, none⟩ = some h ∧ w'.cell? ⟨g, o + 1, none⟩ = some v ∧ w'.cell? ⟨g, o + 2, none⟩ = some c ∧ w'.cell? ⟨gy, oy, none⟩ = some y ∧ w'.cell? ⟨gx, ox, none⟩ = some x ∧ w'.cell? ⟨gz, oz, none⟩ = some z :=
  ⟨keepc hb a, keepc hb b, keepc hb d, keepc hb p, keepc hb q, keepc hb r⟩
set_option maxHeartbeats 3200000 in
set_option maxRecDepth 100000 in
theorem places_walk (ao : Option Addr) (m cm : Nat) (hm : m ≤ 9223372036854775807) (yo : Option Addr) (my cy : Nat) (hmy : my ≤ 9223372036854775807) (xo : Option Addr) (mx cx : Nat) (_hmx : mx ≤ 9223372036854775807) (zo : Option Addr) (mz cz : Nat) (_hmz : mz ≤ 9223372036854775807) (w : World)
    (L0 : Lsh w ao m) (L1 : Lin w yo my) (L2 : Lin w xo mx) (L3 : Lin w zo mz) :
    Calls Try.prog 5 #[.slice ao m cm, .slice yo my cy, .slice xo mx cx, .slice zo mz cz] w fun e w' => e = .returned (.bool true) ∧ Below w.heap.size w w' := by
  have H0 := hid1 L0
  have H1 := hid1 L1
  have H2 := hid1 L2
  have H3 := hid1 L3
  clear L0 L1 L2 L3
  go_enter Try.func5, Try.ntmps5
  go_wp2_with fail
  refine (begun_any w).mono ?_
  rintro e w1 ⟨rfl, hb1⟩
  go_wp2_with fail
  go_loopw [9] (fun i wr => ∃ k : Nat, k ≤ m ∧ i = .int .i64 k ∧ Below w.heap.size w wr) (fun i _ => m - (intOf i).toNat)
  case atStart => exact ⟨0, Nat.zero_le _, rfl, hb1⟩
  case round =>
    obtain ⟨i, hi, rfl, hnx⟩ := hrel
    have ii0 : (0 : Int) ≤ (i : Int) := by omega
    by_cases hli : i < m
    · have ii : (i : Int) < (m : Int) := by omega
      go_wp2_with fail
      go_loopw [10] (fun q wr => ∃ k : Nat, k ≤ my ∧ q = .int .i64 k ∧ Below w.heap.size w wr) (fun q _ => my - (intOf q).toNat)
      case atStart => exact ⟨0, Nat.zero_le _, rfl, hnx⟩
      case round =>
        clear hnx
        obtain ⟨k, hk, rfl, hnx⟩ := hrel
        have ik0 : (0 : Int) ≤ (k : Int) := by omega
        by_cases l1 : k < my
        · have j1 : (k : Int) < (my : Int) := by omega
          by_cases l2 : k < mx
          · have j2 : (k : Int) < (mx : Int) := by omega
            by_cases l3 : k < mz
            · have j3 : (k : Int) < (mz : Int) := by omega
              obtain ⟨g, o, h, v, c, rfl, a0, a1, a2⟩ := (H0.out.keep hnx) i hli
              obtain ⟨gy, oy, y, rfl, b0⟩ := (H1.out.keep hnx) k l1
              obtain ⟨gx, ox, x, rfl, b1⟩ := (H2.out.keep hnx) k l2
              obtain ⟨gz, oz, z, rfl, b2⟩ := (H3.out.keep hnx) k l3
              go_wp2_with fail
              go_region_held3 (fun X => X.cell? ⟨g, o + i * 3, none⟩ = some (.int .i64 h) ∧ X.cell? ⟨g, o + i * 3 + 1, none⟩ = some (.int .i64 v) ∧ X.cell? ⟨g, o + i * 3 + 2, none⟩ = some (.int .i64 c) ∧ X.cell? ⟨gy, oy + k, none⟩ = some (.int .i64 y) ∧ X.cell? ⟨gx, ox + k, none⟩ = some (.int .i64 x) ∧ X.cell? ⟨gz, oz + k, none⟩ = some (.int .i64 z)) (((try dsimp only); refine kp6 (W := wr) ?_ a0 a1 a2 b0 b1 b2; repeat (first | exact Below.refl _ _ | refine bl_alloc ?_ _ | refine Below.drew ?_ | refine bl_drewN ?_ _ | refine bl_set ?_ (by first | omega | (simp; done) | (simp; omega)) _ | refine bl_step ?_ (by assumption))))
                (first | (go_at_call 12; refine (index_any h v c y x z _).mono ?_; rintro e x1 ⟨rfl, hx⟩))
              obtain ⟨a0, a1, a2, b0, b1, b2⟩ := kp6 (W := wr) (w' := x1) (by repeat (first | exact Below.refl _ _ | refine bl_alloc ?_ _ | refine Below.drew ?_ | refine bl_drewN ?_ _ | refine bl_set ?_ (by first | omega | (simp; done) | (simp; omega)) _ | refine bl_step ?_ (by assumption))) a0 a1 a2 b0 b1 b2
              replace hnx : Below w.heap.size w x1 := by repeat (first | exact Below.refl _ _ | refine bl_alloc ?_ _ | refine Below.drew ?_ | refine bl_drewN ?_ _ | refine bl_set ?_ (by first | omega | (simp; done) | (simp; omega)) _ | refine bl_step ?_ (by assumption))
              clear hx
              go_wp2_with fail
              go_region_held3 (fun X => X.cell? ⟨g, o + i * 3, none⟩ = some (.int .i64 h) ∧ X.cell? ⟨g, o + i * 3 + 1, none⟩ = some (.int .i64 v) ∧ X.cell? ⟨g, o + i * 3 + 2, none⟩ = some (.int .i64 c) ∧ X.cell? ⟨gy, oy + k, none⟩ = some (.int .i64 y) ∧ X.cell? ⟨gx, ox + k, none⟩ = some (.int .i64 x) ∧ X.cell? ⟨gz, oz + k, none⟩ = some (.int .i64 z)) (((try dsimp only); refine kp6 (W := x1) ?_ a0 a1 a2 b0 b1 b2; repeat (first | exact Below.refl _ _ | refine bl_alloc ?_ _ | refine Below.drew ?_ | refine bl_drewN ?_ _ | refine bl_set ?_ (by first | omega | (simp; done) | (simp; omega)) _ | refine bl_step ?_ (by assumption))))
                (first | (go_at_call 17; refine (rindex_any h v c y x z _).mono ?_; rintro e x2 ⟨rfl, hx⟩))
              obtain ⟨a0, a1, a2, b0, b1, b2⟩ := kp6 (W := x1) (w' := x2) (by repeat (first | exact Below.refl _ _ | refine bl_alloc ?_ _ | refine Below.drew ?_ | refine bl_drewN ?_ _ | refine bl_set ?_ (by first | omega | (simp; done) | (simp; omega)) _ | refine bl_step ?_ (by assumption))) a0 a1 a2 b0 b1 b2
              replace hnx : Below w.heap.size w x2 := by repeat (first | exact Below.refl _ _ | refine bl_alloc ?_ _ | refine Below.drew ?_ | refine bl_drewN ?_ _ | refine bl_set ?_ (by first | omega | (simp; done) | (simp; omega)) _ | refine bl_step ?_ (by assumption))
              clear hx
              go_wp2_with fail
              go_region_held3 (fun X => X.cell? ⟨g, o + i * 3, none⟩ = some (.int .i64 h) ∧ X.cell? ⟨g, o + i * 3 + 1, none⟩ = some (.int .i64 v) ∧ X.cell? ⟨g, o + i * 3 + 2, none⟩ = some (.int .i64 c) ∧ X.cell? ⟨gy, oy + k, none⟩ = some (.int .i64 y) ∧ X.cell? ⟨gx, ox + k, none⟩ = some (.int .i64 x) ∧ X.cell? ⟨gz, oz + k, none⟩ = some (.int .i64 z)) (((try dsimp only); refine kp6 (W := x2) ?_ a0 a1 a2 b0 b1 b2; repeat (first | exact Below.refl _ _ | refine bl_alloc ?_ _ | refine Below.drew ?_ | refine bl_drewN ?_ _ | refine bl_set ?_ (by first | omega | (simp; done) | (simp; omega)) _ | refine bl_step ?_ (by assumption))))
                (first | (go_at_call 11; refine (place_any h v c y _).mono ?_; rintro e x3 ⟨rfl, hx⟩))
              obtain ⟨a0, a1, a2, b0, b1, b2⟩ := kp6 (W := x2) (w' := x3) (by repeat (first | exact Below.refl _ _ | refine bl_alloc ?_ _ | refine Below.drew ?_ | refine bl_drewN ?_ _ | refine bl_set ?_ (by first | omega | (simp; done) | (simp; omega)) _ | refine bl_step ?_ (by assumption))) a0 a1 a2 b0 b1 b2
              replace hnx : Below w.heap.size w x3 := by repeat (first | exact Below.refl _ _ | refine bl_alloc ?_ _ | refine Below.drew ?_ | refine bl_drewN ?_ _ | refine bl_set ?_ (by first | omega | (simp; done) | (simp; omega)) _ | refine bl_step ?_ (by assumption))
              clear hx
              go_wp2_with fail
              go_region_held3 (fun X => X.cell? ⟨g, o + i * 3, none⟩ = some (.int .i64 h) ∧ X.cell? ⟨g, o + i * 3 + 1, none⟩ = some (.int .i64 v) ∧ X.cell? ⟨g, o + i * 3 + 2, none⟩ = some (.int .i64 c) ∧ X.cell? ⟨gy, oy + k, none⟩ = some (.int .i64 y) ∧ X.cell? ⟨gx, ox + k, none⟩ = some (.int .i64 x) ∧ X.cell? ⟨gz, oz + k, none⟩ = some (.int .i64 z)) (((try dsimp only); refine kp6 (W := x3) ?_ a0 a1 a2 b0 b1 b2; repeat (first | exact Below.refl _ _ | refine bl_alloc ?_ _ | refine Below.drew ?_ | refine bl_drewN ?_ _ | refine bl_set ?_ (by first | omega | (simp; done) | (simp; omega)) _ | refine bl_step ?_ (by assumption))))
                (first | (go_at_call 18; refine (rplace_any h v c y _).mono ?_; rintro e x4 ⟨rfl, hx⟩))
              obtain ⟨a0, a1, a2, b0, b1, b2⟩ := kp6 (W := x3) (w' := x4) (by repeat (first | exact Below.refl _ _ | refine bl_alloc ?_ _ | refine Below.drew ?_ | refine bl_drewN ?_ _ | refine bl_set ?_ (by first | omega | (simp; done) | (simp; omega)) _ | refine bl_step ?_ (by assumption))) a0 a1 a2 b0 b1 b2
              replace hnx : Below w.heap.size w x4 := by repeat (first | exact Below.refl _ _ | refine bl_alloc ?_ _ | refine Below.drew ?_ | refine bl_drewN ?_ _ | refine bl_set ?_ (by first | omega | (simp; done) | (simp; omega)) _ | refine bl_step ?_ (by assumption))
              clear hx
              go_wp2_with fail
              exact ⟨⟨k + 1, by omega, by go_num, hnx⟩, by simp [intOf]; omega⟩
            · go_wp2_with fail
              exact ⟨⟨i + 1, by omega, by go_num, hnx⟩, by simp [intOf]; omega⟩
          · go_wp2_with fail
            exact ⟨⟨i + 1, by omega, by go_num, hnx⟩, by simp [intOf]; omega⟩
        · go_wp2_with fail
          exact ⟨⟨i + 1, by omega, by go_num, hnx⟩, by simp [intOf]; omega⟩
    · go_wp2_with fail
      go_ret
      exact ⟨rfl, hnx⟩
end Go.Proofs.Ytdpdfopmmhpfmaa
