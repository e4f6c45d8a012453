/- SHAPES: ShapeSlides, WALKED. -/
import Derived.Test.YtdpdfopmmhpfmaaSW12
namespace Go.Proofs.Ytdpdfopmmhpfmaa
open Go.RowKit

theorem kp12 {W w' : World} {g o i gw ow j gk ok k : Nat} {h v c r s sy sx t l b q z : Int} (hb : Below W.heap.size W w') (a0 : W.cell? ⟨g, o + i * 3, none⟩ = some (.int .i64 h)) (a1 : W.cell? ⟨g, o + i * 3 + 1, none⟩ = some (.int .i64 v)) (a2 : W.cell? ⟨g, o + i * 3 + 2, none⟩ = some (.int .i64 c)) (b0 : W.cell? ⟨gw, ow + j * 8, none⟩ = some (.int .i64 r)) (b1 : W.cell? ⟨gw, ow + j * 8 + 1, none⟩ = some (.int .i64 s)) (b2 : W.cell? ⟨gw, ow + j * 8 + 2, none⟩ = some (.int .i64 sy)) (b3 : W.cell? ⟨gw, ow + j * 8 + 3, none⟩ = some (.int .i64 sx)) (b4 : W.cell? ⟨gw, ow + j * 8 + 4, none⟩ = some (.int .i64 t)) (b5 : W.cell? ⟨gw, ow + j * 8 + 5, none⟩ = some (.int .i64 l)) (b6 : W.cell? ⟨gw, ow + j * 8 + 6, none⟩ = some (.int .i64 b)) (b7 : W.cell? ⟨gw, ow + j * 8 + 7, none⟩ = some (.int .i64 q)) (d0 : W.cell? ⟨gk, ok + k, none⟩ = some (.int .i64 z)) :
    w'.cell? ⟨g, o + i * 3, none⟩ = some (.int .i64 h) ∧ w'.cell? ⟨g, o + i * 3 + 1, none⟩ = some (.int .i64 v) ∧ w'.cell? ⟨g, o + i * 3 + 2, none⟩ = some (.int .i64 c) ∧ w'.cell? ⟨gw, ow + j * 8, none⟩ = some (.int .i64 r) ∧ w'.cell? ⟨gw, ow + j * 8 + 1, none⟩ = some (.int .i64 s) ∧ w'.cell? ⟨gw, ow + j * 8 + 2, none⟩ = some (.int .i64 sy) ∧ w'.cell? ⟨gw, ow + j * 8 + 3, none⟩ = some (.int .i64 sx) ∧ w'.cell? ⟨gw, ow + j * 8 + 4, none⟩ = some (.int .i64 t) ∧ w'.cell? ⟨gw, ow + j * 8 + 5, none⟩ = some (.int .i64 l) ∧ w'.cell? ⟨gw, ow + j * 8 + 6, none⟩ = some (.int .i64 b) ∧ w'.cell? ⟨gw, ow + j * 8 + 7, none⟩ = some (.int .i64 q) ∧ w'.cell? ⟨gk, ok + k, none⟩ = some (.int .i64 z) := ⟨keepc hb a0, keepc hb a1, keepc hb a2, keepc hb b0, keepc hb b1, keepc hb b2, keepc hb b3, keepc hb b4, keepc hb b5, keepc hb b6, keepc hb b7, keepc hb d0⟩
theorem slV_form (h v c r s sy sx t l b q k : Int) : ∃ A B D E : Int, slV h v c r s sy sx t l b q k = sle A B D E := by
  unfold slV
  by_cases h0 : slE h v c r s sy sx t l b q k = 0
  · rw [if_pos h0]; exact ⟨_, _, _, _, rfl⟩
  · rw [if_neg h0]; exact ⟨_, _, _, _, rfl⟩
set_option maxHeartbeats 6400000 in
set_option maxRecDepth 100000 in
theorem slides_walk (ao : Option Addr) (m cm : Nat) (hm : m ≤ 9223372036854775807) (wo : Option Addr) (mw cw : Nat) (hmw : mw ≤ 9223372036854775807) (ko : Option Addr) (mk ck : Nat) (hmk : mk ≤ 9223372036854775807) (w : World)
    (L0 : Lsh w ao m) (L1 : Lwn w wo mw) (L2 : Lin w ko mk) :
    Calls Try.prog 6 #[.slice ao m cm, .slice wo mw cw, .slice ko mk ck] w fun e w' => e = .returned (.bool true) ∧ Below w.heap.size w w' := by
  have H0 := hid1 L0
  have H1 := hid1 L1
  have H2 := hid1 L2
  clear L0 L1 L2
  go_enter Try.func6, Try.ntmps6
  go_wp2_with fail
  refine (begun_any w).mono ?_
  rintro e w1 ⟨rfl, hb1⟩
  go_wp2_with fail
  go_loopw [7] (fun i wr => ∃ k : Nat, k ≤ m ∧ i = .int .i64 k ∧ Below w.heap.size w wr) (fun i _ => m - (intOf i).toNat)
  case atStart => exact ⟨0, Nat.zero_le _, rfl, hb1⟩
  case round =>
    clear hb1
    obtain ⟨i, hi, rfl, hnx⟩ := hrel
    have ii0 : (0 : Int) ≤ (i : Int) := by omega
    by_cases hli : i < m
    · have ii : (i : Int) < (m : Int) := by omega
      go_wp2_with fail
      go_loopw [8] (fun q wr => ∃ k : Nat, k ≤ mw ∧ q = .int .i64 k ∧ Below w.heap.size w wr) (fun q _ => mw - (intOf q).toNat)
      case atStart => exact ⟨0, Nat.zero_le _, rfl, hnx⟩
      case round =>
        clear hnx
        obtain ⟨j, hj, rfl, hnx⟩ := hrel
        have jj0 : (0 : Int) ≤ (j : Int) := by omega
        by_cases hlj : j < mw
        · have jj : (j : Int) < (mw : Int) := by omega
          go_wp2_with fail
          go_loopw [9] (fun q wr => ∃ k : Nat, k ≤ mk ∧ q = .int .i64 k ∧ Below w.heap.size w wr) (fun q _ => mk - (intOf q).toNat)
          case atStart => exact ⟨0, Nat.zero_le _, rfl, hnx⟩
          case round =>
            clear hnx
            obtain ⟨k, hk, rfl, hnx⟩ := hrel
            have kk0 : (0 : Int) ≤ (k : Int) := by omega
            by_cases hlk : k < mk
            · have kk : (k : Int) < (mk : Int) := by omega
              · obtain ⟨g, o, h, v, c, rfl, a0, a1, a2⟩ := (H0.out.keep hnx) i hli
                obtain ⟨gw, ow, r, s, sy, sx, t, l, b, q, rfl, b0, b1, b2, b3, b4, b5, b6, b7⟩ := (H1.out.keep hnx) j hlj
                obtain ⟨gk, ok, z, rfl, d0⟩ := (H2.out.keep hnx) k hlk
                have HS := slide_any h v c r s sy sx t l b q z
                have HR := rslide_any h v c r s sy sx t l b q z
                obtain ⟨A, B, D, E, hsl⟩ := slV_form h v c r s sy sx t l b q z
                rw [hsl] at HS HR
                clear hsl
                have zw := hnx.size
                go_wp2_with fail
                go_region_held3 (fun X => X.cell? ⟨g, o + i * 3, none⟩ = some (.int .i64 h) ∧ X.cell? ⟨g, o + i * 3 + 1, none⟩ = some (.int .i64 v) ∧ X.cell? ⟨g, o + i * 3 + 2, none⟩ = some (.int .i64 c) ∧ X.cell? ⟨gw, ow + j * 8, none⟩ = some (.int .i64 r) ∧ X.cell? ⟨gw, ow + j * 8 + 1, none⟩ = some (.int .i64 s) ∧ X.cell? ⟨gw, ow + j * 8 + 2, none⟩ = some (.int .i64 sy) ∧ X.cell? ⟨gw, ow + j * 8 + 3, none⟩ = some (.int .i64 sx) ∧ X.cell? ⟨gw, ow + j * 8 + 4, none⟩ = some (.int .i64 t) ∧ X.cell? ⟨gw, ow + j * 8 + 5, none⟩ = some (.int .i64 l) ∧ X.cell? ⟨gw, ow + j * 8 + 6, none⟩ = some (.int .i64 b) ∧ X.cell? ⟨gw, ow + j * 8 + 7, none⟩ = some (.int .i64 q) ∧ X.cell? ⟨gk, ok + k, none⟩ = some (.int .i64 z)) (((try dsimp only); refine kp12 (W := wr) ?_ a0 a1 a2 b0 b1 b2 b3 b4 b5 b6 b7 d0; repeat (first | exact Below.refl _ _ | refine bl_alloc ?_ _ | refine Below.drew ?_ | refine bl_drewN ?_ _ | refine bl_set ?_ (by first | omega | (simp; done) | (simp; omega)) _ | refine bl_step ?_ (by assumption))))
                  (first | (go_at_call 13; (with_reducible refine (HS _).mono ?_); rintro e x1 ⟨rfl, hxx1⟩; have zx1 : wr.heap.size ≤ x1.heap.size := Nat.le_trans (by first | exact Nat.le_refl _ | simp) hxx1.size; (first | (have N1 : Rz x1 wr.heap.size := Rz.keep (rz_new (W := wr.drew) rfl) hxx1; obtain ⟨⟨n0, n1, n2⟩, g0, g1, g2⟩ := N1) | (have N1 : Rz x1 wr.heap.size := Rz.keep (rz_new (W := wr) rfl) hxx1; obtain ⟨⟨n0, n1, n2⟩, g0, g1, g2⟩ := N1) | skip)))
                · refine gen_then (fun X => Below w.heap.size w X ∧ Sh X x1.heap.size 0 A B D ∧ (X.cell? ⟨g, o + i * 3, none⟩ = some (.int .i64 h) ∧ X.cell? ⟨g, o + i * 3 + 1, none⟩ = some (.int .i64 v) ∧ X.cell? ⟨g, o + i * 3 + 2, none⟩ = some (.int .i64 c) ∧ X.cell? ⟨gw, ow + j * 8, none⟩ = some (.int .i64 r) ∧ X.cell? ⟨gw, ow + j * 8 + 1, none⟩ = some (.int .i64 s) ∧ X.cell? ⟨gw, ow + j * 8 + 2, none⟩ = some (.int .i64 sy) ∧ X.cell? ⟨gw, ow + j * 8 + 3, none⟩ = some (.int .i64 sx) ∧ X.cell? ⟨gw, ow + j * 8 + 4, none⟩ = some (.int .i64 t) ∧ X.cell? ⟨gw, ow + j * 8 + 5, none⟩ = some (.int .i64 l) ∧ X.cell? ⟨gw, ow + j * 8 + 6, none⟩ = some (.int .i64 b) ∧ X.cell? ⟨gw, ow + j * 8 + 7, none⟩ = some (.int .i64 q) ∧ X.cell? ⟨gk, ok + k, none⟩ = some (.int .i64 z))) ⟨by repeat (first | exact Below.refl _ _ | refine bl_alloc ?_ _ | refine Below.drew ?_ | refine bl_drewN ?_ _ | refine bl_set ?_ (by first | omega | (simp; done) | (simp; omega)) _ | refine bl_step ?_ (by assumption)), sh_new' rfl, kp12 (W := wr) (by repeat (first | exact Below.refl _ _ | refine bl_alloc ?_ _ | refine Below.drew ?_ | refine bl_drewN ?_ _ | refine bl_set ?_ (by first | omega | (simp; done) | (simp; omega)) _ | refine bl_step ?_ (by assumption))) a0 a1 a2 b0 b1 b2 b3 b4 b5 b6 b7 d0⟩ ?_
                  rintro X ⟨BX, SX, pa0, pa1, pa2, pb0, pb1, pb2, pb3, pb4, pb5, pb6, pb7, pd0⟩
                  generalize x1.heap.size = G at *
                  clear a0 a1 a2 b0 b1 b2 b3 b4 b5 b6 b7 d0 hnx hxx1
                  have a0 := pa0; have a1 := pa1; have a2 := pa2; have b0 := pb0; have b1 := pb1; have b2 := pb2; have b3 := pb3; have b4 := pb4; have b5 := pb5; have b6 := pb6; have b7 := pb7; have d0 := pd0
                  clear pa0 pa1 pa2 pb0 pb1 pb2 pb3 pb4 pb5 pb6 pb7 pd0
                  have zX := BX.size
                  go_wp2_with fail
                  go_region_held3 (fun X => X.cell? ⟨g, o + i * 3, none⟩ = some (.int .i64 h) ∧ X.cell? ⟨g, o + i * 3 + 1, none⟩ = some (.int .i64 v) ∧ X.cell? ⟨g, o + i * 3 + 2, none⟩ = some (.int .i64 c) ∧ X.cell? ⟨gw, ow + j * 8, none⟩ = some (.int .i64 r) ∧ X.cell? ⟨gw, ow + j * 8 + 1, none⟩ = some (.int .i64 s) ∧ X.cell? ⟨gw, ow + j * 8 + 2, none⟩ = some (.int .i64 sy) ∧ X.cell? ⟨gw, ow + j * 8 + 3, none⟩ = some (.int .i64 sx) ∧ X.cell? ⟨gw, ow + j * 8 + 4, none⟩ = some (.int .i64 t) ∧ X.cell? ⟨gw, ow + j * 8 + 5, none⟩ = some (.int .i64 l) ∧ X.cell? ⟨gw, ow + j * 8 + 6, none⟩ = some (.int .i64 b) ∧ X.cell? ⟨gw, ow + j * 8 + 7, none⟩ = some (.int .i64 q) ∧ X.cell? ⟨gk, ok + k, none⟩ = some (.int .i64 z)) (((try dsimp only); refine kp12 (W := X) ?_ a0 a1 a2 b0 b1 b2 b3 b4 b5 b6 b7 d0; repeat (first | exact Below.refl _ _ | refine bl_alloc ?_ _ | refine Below.drew ?_ | refine bl_drewN ?_ _ | refine bl_set ?_ (by first | omega | (simp; done) | (simp; omega)) _ | refine bl_step ?_ (by assumption))))
                    (first | (go_at_call 19; (with_reducible refine (HR _).mono ?_); rintro e x2 ⟨rfl, hxx2⟩; have zx2 : X.heap.size ≤ x2.heap.size := Nat.le_trans (by first | exact Nat.le_refl _ | simp) hxx2.size; (first | (have N1 : Rz x2 X.heap.size := Rz.keep (rz_new (W := X.drew) rfl) hxx2; obtain ⟨⟨n0, n1, n2⟩, g0, g1, g2⟩ := N1) | (have N1 : Rz x2 X.heap.size := Rz.keep (rz_new (W := X) rfl) hxx2; obtain ⟨⟨n0, n1, n2⟩, g0, g1, g2⟩ := N1) | skip)))
                  · refine gen_then (fun Y => Below w.heap.size w Y ∧ Sh Y G 0 A B D ∧ Sh Y x2.heap.size 0 A B D) ⟨by repeat (first | exact Below.refl _ _ | refine bl_alloc ?_ _ | refine Below.drew ?_ | refine bl_drewN ?_ _ | refine bl_set ?_ (by first | omega | (simp; done) | (simp; omega)) _ | refine bl_step ?_ (by assumption)), SX.keep (by repeat (first | exact Below.refl _ _ | refine bl_alloc ?_ _ | refine Below.drew ?_ | refine bl_drewN ?_ _ | refine bl_set ?_ (by first | omega | (simp; done) | (simp; omega)) _ | refine bl_step ?_ (by assumption))), sh_new' rfl⟩ ?_
                    rintro Y ⟨BY, ⟨s0, s1, s2⟩, t0, t1, t2⟩
                    generalize x2.heap.size = G2 at *
                    clear a0 a1 a2 b0 b1 b2 b3 b4 b5 b6 b7 d0 BX hxx2 SX
                    go_wp2_with fail
                    exact ⟨⟨k + 1, by omega, by go_num, BY⟩, by simp [intOf]; omega⟩
                  · refine gen_then (fun Y => Below w.heap.size w Y ∧ Sh Y G 0 A B D ∧ Sh Y X.heap.size 0 A B D) ⟨by repeat (first | exact Below.refl _ _ | refine bl_alloc ?_ _ | refine Below.drew ?_ | refine bl_drewN ?_ _ | refine bl_set ?_ (by first | omega | (simp; done) | (simp; omega)) _ | refine bl_step ?_ (by assumption)), SX.keep (by repeat (first | exact Below.refl _ _ | refine bl_alloc ?_ _ | refine Below.drew ?_ | refine bl_drewN ?_ _ | refine bl_set ?_ (by first | omega | (simp; done) | (simp; omega)) _ | refine bl_step ?_ (by assumption))), sh_set ⟨n0, n1, n2⟩⟩ ?_
                    rintro Y ⟨BY, ⟨s0, s1, s2⟩, t0, t1, t2⟩
                    generalize X.heap.size = G2 at *
                    clear a0 a1 a2 b0 b1 b2 b3 b4 b5 b6 b7 d0 BX hxx2 SX
                    go_wp2_with fail
                    exact ⟨⟨k + 1, by omega, by go_num, BY⟩, by simp [intOf]; omega⟩
                · refine gen_then (fun X => Below w.heap.size w X ∧ Sh X wr.heap.size 0 A B D ∧ (X.cell? ⟨g, o + i * 3, none⟩ = some (.int .i64 h) ∧ X.cell? ⟨g, o + i * 3 + 1, none⟩ = some (.int .i64 v) ∧ X.cell? ⟨g, o + i * 3 + 2, none⟩ = some (.int .i64 c) ∧ X.cell? ⟨gw, ow + j * 8, none⟩ = some (.int .i64 r) ∧ X.cell? ⟨gw, ow + j * 8 + 1, none⟩ = some (.int .i64 s) ∧ X.cell? ⟨gw, ow + j * 8 + 2, none⟩ = some (.int .i64 sy) ∧ X.cell? ⟨gw, ow + j * 8 + 3, none⟩ = some (.int .i64 sx) ∧ X.cell? ⟨gw, ow + j * 8 + 4, none⟩ = some (.int .i64 t) ∧ X.cell? ⟨gw, ow + j * 8 + 5, none⟩ = some (.int .i64 l) ∧ X.cell? ⟨gw, ow + j * 8 + 6, none⟩ = some (.int .i64 b) ∧ X.cell? ⟨gw, ow + j * 8 + 7, none⟩ = some (.int .i64 q) ∧ X.cell? ⟨gk, ok + k, none⟩ = some (.int .i64 z))) ⟨by repeat (first | exact Below.refl _ _ | refine bl_alloc ?_ _ | refine Below.drew ?_ | refine bl_drewN ?_ _ | refine bl_set ?_ (by first | omega | (simp; done) | (simp; omega)) _ | refine bl_step ?_ (by assumption)), sh_set ⟨n0, n1, n2⟩, kp12 (W := wr) (by repeat (first | exact Below.refl _ _ | refine bl_alloc ?_ _ | refine Below.drew ?_ | refine bl_drewN ?_ _ | refine bl_set ?_ (by first | omega | (simp; done) | (simp; omega)) _ | refine bl_step ?_ (by assumption))) a0 a1 a2 b0 b1 b2 b3 b4 b5 b6 b7 d0⟩ ?_
                  rintro X ⟨BX, SX, pa0, pa1, pa2, pb0, pb1, pb2, pb3, pb4, pb5, pb6, pb7, pd0⟩
                  generalize wr.heap.size = G at *
                  clear a0 a1 a2 b0 b1 b2 b3 b4 b5 b6 b7 d0 hnx hxx1
                  have a0 := pa0; have a1 := pa1; have a2 := pa2; have b0 := pb0; have b1 := pb1; have b2 := pb2; have b3 := pb3; have b4 := pb4; have b5 := pb5; have b6 := pb6; have b7 := pb7; have d0 := pd0
                  clear pa0 pa1 pa2 pb0 pb1 pb2 pb3 pb4 pb5 pb6 pb7 pd0
                  have zX := BX.size
                  go_wp2_with fail
                  go_region_held3 (fun X => X.cell? ⟨g, o + i * 3, none⟩ = some (.int .i64 h) ∧ X.cell? ⟨g, o + i * 3 + 1, none⟩ = some (.int .i64 v) ∧ X.cell? ⟨g, o + i * 3 + 2, none⟩ = some (.int .i64 c) ∧ X.cell? ⟨gw, ow + j * 8, none⟩ = some (.int .i64 r) ∧ X.cell? ⟨gw, ow + j * 8 + 1, none⟩ = some (.int .i64 s) ∧ X.cell? ⟨gw, ow + j * 8 + 2, none⟩ = some (.int .i64 sy) ∧ X.cell? ⟨gw, ow + j * 8 + 3, none⟩ = some (.int .i64 sx) ∧ X.cell? ⟨gw, ow + j * 8 + 4, none⟩ = some (.int .i64 t) ∧ X.cell? ⟨gw, ow + j * 8 + 5, none⟩ = some (.int .i64 l) ∧ X.cell? ⟨gw, ow + j * 8 + 6, none⟩ = some (.int .i64 b) ∧ X.cell? ⟨gw, ow + j * 8 + 7, none⟩ = some (.int .i64 q) ∧ X.cell? ⟨gk, ok + k, none⟩ = some (.int .i64 z)) (((try dsimp only); refine kp12 (W := X) ?_ a0 a1 a2 b0 b1 b2 b3 b4 b5 b6 b7 d0; repeat (first | exact Below.refl _ _ | refine bl_alloc ?_ _ | refine Below.drew ?_ | refine bl_drewN ?_ _ | refine bl_set ?_ (by first | omega | (simp; done) | (simp; omega)) _ | refine bl_step ?_ (by assumption))))
                    (first | (go_at_call 19; (with_reducible refine (HR _).mono ?_); rintro e x2 ⟨rfl, hxx2⟩; have zx2 : X.heap.size ≤ x2.heap.size := Nat.le_trans (by first | exact Nat.le_refl _ | simp) hxx2.size; (first | (have N1 : Rz x2 X.heap.size := Rz.keep (rz_new (W := X.drew) rfl) hxx2; obtain ⟨⟨n0, n1, n2⟩, g0, g1, g2⟩ := N1) | (have N1 : Rz x2 X.heap.size := Rz.keep (rz_new (W := X) rfl) hxx2; obtain ⟨⟨n0, n1, n2⟩, g0, g1, g2⟩ := N1) | skip)))
                  · refine gen_then (fun Y => Below w.heap.size w Y ∧ Sh Y G 0 A B D ∧ Sh Y x2.heap.size 0 A B D) ⟨by repeat (first | exact Below.refl _ _ | refine bl_alloc ?_ _ | refine Below.drew ?_ | refine bl_drewN ?_ _ | refine bl_set ?_ (by first | omega | (simp; done) | (simp; omega)) _ | refine bl_step ?_ (by assumption)), SX.keep (by repeat (first | exact Below.refl _ _ | refine bl_alloc ?_ _ | refine Below.drew ?_ | refine bl_drewN ?_ _ | refine bl_set ?_ (by first | omega | (simp; done) | (simp; omega)) _ | refine bl_step ?_ (by assumption))), sh_new' rfl⟩ ?_
                    rintro Y ⟨BY, ⟨s0, s1, s2⟩, t0, t1, t2⟩
                    generalize x2.heap.size = G2 at *
                    clear a0 a1 a2 b0 b1 b2 b3 b4 b5 b6 b7 d0 BX hxx2 SX
                    go_wp2_with fail
                    exact ⟨⟨k + 1, by omega, by go_num, BY⟩, by simp [intOf]; omega⟩
                  · refine gen_then (fun Y => Below w.heap.size w Y ∧ Sh Y G 0 A B D ∧ Sh Y X.heap.size 0 A B D) ⟨by repeat (first | exact Below.refl _ _ | refine bl_alloc ?_ _ | refine Below.drew ?_ | refine bl_drewN ?_ _ | refine bl_set ?_ (by first | omega | (simp; done) | (simp; omega)) _ | refine bl_step ?_ (by assumption)), SX.keep (by repeat (first | exact Below.refl _ _ | refine bl_alloc ?_ _ | refine Below.drew ?_ | refine bl_drewN ?_ _ | refine bl_set ?_ (by first | omega | (simp; done) | (simp; omega)) _ | refine bl_step ?_ (by assumption))), sh_set ⟨n0, n1, n2⟩⟩ ?_
                    rintro Y ⟨BY, ⟨s0, s1, s2⟩, t0, t1, t2⟩
                    generalize X.heap.size = G2 at *
                    clear a0 a1 a2 b0 b1 b2 b3 b4 b5 b6 b7 d0 BX hxx2 SX
                    go_wp2_with fail
                    exact ⟨⟨k + 1, by omega, by go_num, BY⟩, by simp [intOf]; omega⟩
            · go_wp2_with fail
              exact ⟨⟨j + 1, by omega, by go_num, hnx⟩, by simp [intOf]; omega⟩
        · go_wp2_with fail
          exact ⟨⟨i + 1, by omega, by go_num, hnx⟩, by simp [intOf]; omega⟩
    · go_wp2_with fail
      go_ret
      exact ⟨rfl, hnx⟩
end Go.Proofs.Ytdpdfopmmhpfmaa
