/- WIDEDIVIDES, WALKED. -/
import Derived.Test.YtcjglbejmlebhaaDoorWL1
namespace Go.Proofs.YtcjglbejmlebhaaDoor
open Go.RowKit Go.Shelf
attribute [local go_sem ↓] Go.wp_at_zero Go.wp_at_succ

set_option maxHeartbeats 6400000 in
set_option maxRecDepth 100000 in
theorem wdiv_walk (ao : Option Addr) (m cm : Nat) (hm : m ≤ 9223372036854775807) (bo : Option Addr) (n cn : Nat) (hn : n ≤ 9223372036854775807) (w : World) (L : Laid w) (L1 : Lwi w ao m) (L2 : Li6 w bo n) :
    Calls Tryd.prog 3 #[.slice ao m cm, .slice bo n cn] w fun e w' => e = .returned (.bool true) ∧ Below w.heap.size w w' := by
  have H1 := hid1 L1
  have H2 := hid1 L2
  have HL := hid1 L
  clear L1 L2 L
  go_enter Tryd.func3, Tryd.ntmps3
  go_wp2_with fail
  refine (begun_any _ HL.out).mono ?_
  rintro e w1 ⟨rfl, hb1⟩
  go_wp2_with fail
  go_loopw [6] (fun i wr => ∃ k : Nat, k ≤ m ∧ i = .int .i64 k ∧ Below w.heap.size w wr) (fun i _ => m - (intOf i).toNat)
  case atStart => exact ⟨0, Nat.zero_le _, rfl, hb1⟩
  case round =>
    obtain ⟨i, hi, rfl, hnx⟩ := hrel
    have ii0 : (0 : Int) ≤ (i : Int) := by omega
    by_cases hli : i < m
    · have ii : (i : Int) < (m : Int) := by omega
      go_wp2_with fail
      go_loopw [7] (fun q wr => ∃ k : Nat, k ≤ n ∧ q = .int .i64 k ∧ Below w.heap.size w wr) (fun q _ => n - (intOf q).toNat)
      case atStart => exact ⟨0, Nat.zero_le _, rfl, hnx⟩
      case round =>
        clear hnx
        obtain ⟨k, hk, rfl, hnx⟩ := hrel
        rename World => V
        have ik0 : (0 : Int) ≤ (k : Int) := by omega
        by_cases l1 : k < n
        · have j1 : (k : Int) < (n : Int) := by omega
          obtain ⟨g, o, a, rfl, ra, a0, a1⟩ := (H1.out.keep hnx) i hli
          obtain ⟨h, q, b, rfl, rb, b0⟩ := (H2.out.keep hnx) k l1
          obtain ⟨fv, fe, p1, p2⟩ := both_floor a b ra rb
          obtain ⟨cv, ce, p3, p4⟩ := both_ceil a b ra rb
          have HF := hid1 p1
          have HG := hid1 p2
          have HC := hid1 p3
          have HD := hid1 p4
          clear p1 p2 p3 p4 ra rb
          go_wp2_with fail
          go_cut [8, 9] (fun p e wx => ∃ gg, p = .pointer (some ⟨gg, 0, none⟩) ∧ e = .int .i64 fe ∧ Below V.heap.size V wx ∧ Sv wx gg (.int .i64 (hiOf fv)) (.int .u64 (loOf fv)))
          case rest =>
            obtain ⟨g1, rfl, rfl, hx, s1⟩ := hcut
            rename World => V1
            replace a0 := keepc hx a0; replace a1 := keepc hx a1; replace b0 := keepc hx b0; replace hnx := bl_step hnx hx; have S1 := hid1 s1; clear s1; clear hx
            go_wp2_with fail
            go_cut [10, 11] (fun p e wx => ∃ gg, p = .pointer (some ⟨gg, 0, none⟩) ∧ e = .int .i64 fe ∧ Below V1.heap.size V1 wx ∧ Sv wx gg (.int .i64 (hiOf fv)) (.int .u64 (loOf fv)))
            case rest =>
              obtain ⟨g2, rfl, rfl, hx, s2⟩ := hcut
              rename World => V2
              replace a0 := keepc hx a0; replace a1 := keepc hx a1; replace b0 := keepc hx b0; replace hnx := bl_step hnx hx; have S2 := hid1 s2; clear s2; replace S1 := hid1 (S1.out.keep hx); clear hx
              go_wp2_with fail
              go_cut [12, 13] (fun p e wx => ∃ gg, p = .pointer (some ⟨gg, 0, none⟩) ∧ e = .int .i64 ce ∧ Below V2.heap.size V2 wx ∧ Sv wx gg (.int .i64 (hiOf cv)) (.int .u64 (loOf cv)))
              case rest =>
                obtain ⟨g3, rfl, rfl, hx, s3⟩ := hcut
                rename World => V3
                replace a0 := keepc hx a0; replace a1 := keepc hx a1; replace b0 := keepc hx b0; replace hnx := bl_step hnx hx; have S3 := hid1 s3; clear s3; replace S1 := hid1 (S1.out.keep hx); replace S2 := hid1 (S2.out.keep hx); clear hx
                go_wp2_with fail
                go_cut [14, 15] (fun p e wx => ∃ gg, p = .pointer (some ⟨gg, 0, none⟩) ∧ e = .int .i64 ce ∧ Below V3.heap.size V3 wx ∧ Sv wx gg (.int .i64 (hiOf cv)) (.int .u64 (loOf cv)))
                case rest =>
                  obtain ⟨g4, rfl, rfl, hx, s4⟩ := hcut
                  rename World => V4
                  replace a0 := keepc hx a0; replace a1 := keepc hx a1; replace b0 := keepc hx b0; replace hnx := bl_step hnx hx; have S4 := hid1 s4; clear s4; replace S1 := hid1 (S1.out.keep hx); replace S2 := hid1 (S2.out.keep hx); replace S3 := hid1 (S3.out.keep hx); clear hx
                  obtain ⟨c0, c1, _, _⟩ := S1.out
                  obtain ⟨d0, d1, _, _⟩ := S2.out
                  obtain ⟨e0, e1, _, _⟩ := S3.out
                  obtain ⟨f0, f1, _, _⟩ := S4.out
                  clear S1 S2 S3 S4 a0 a1 b0 HF HG HC HD
                  go_wp2_with fail
                  exact ⟨⟨k + 1, by omega, by go_num, hnx⟩, by simp [intOf]; omega⟩
                go_region_held3 (fun X => X.cell? ⟨g, o + i * 2, none⟩ = some (.int .i64 (hiOf a)) ∧ X.cell? ⟨g, o + i * 2 + 1, none⟩ = some (.int .u64 (loOf a)) ∧ X.cell? ⟨h, q + k, none⟩ = some (.int .i64 b)) (((try dsimp only); (with_reducible refine kp3 (W := V3) a0 a1 b0 ?_); repeat (first | exact Below.refl _ _ | refine bl_alloc ?_ _ | refine Below.drew ?_ | refine bl_drewN ?_ _ | refine bl_set ?_ (by omega) _ | refine bl_step ?_ (by assumption))))
                  (first | (go_at_call 11; refine (HD.out _).mono ?_; rintro e y1 ⟨rfl, hy1⟩; (first | (have Z : Zw y1 V3.heap.size := Sv.keep (zw_new (W := V3.drew) rfl) hy1; have t0 := Z.1; have t1 := Z.2.1; have t2 := Z.2.2.1; have t3 := Z.2.2.2; have t4 := lt_of_cell t0) | (have Z : Zw y1 V3.heap.size := Sv.keep (zw_new (W := V3) rfl) hy1; have t0 := Z.1; have t1 := Z.2.1; have t2 := Z.2.2.1; have t3 := Z.2.2.2; have t4 := lt_of_cell t0) | skip)))
                all_goals go_wp2_with fail
                all_goals go_meet
                all_goals exact ⟨_, rfl, rfl, by repeat (first | exact Below.refl _ _ | refine bl_alloc ?_ _ | refine Below.drew ?_ | refine bl_drewN ?_ _ | refine bl_set ?_ (by omega) _ | refine bl_step ?_ (by assumption)), by repeat (first | (with_reducible assumption) | (with_reducible refine Sv.ownw ?_) | (with_reducible refine Sv.oth ?_ (by omega)) | (with_reducible exact sv_new (by simp)) | (with_reducible refine Sv.alloc ?_ _) | (with_reducible refine Sv.drew ?_))⟩
              go_region_held3 (fun X => X.cell? ⟨g, o + i * 2, none⟩ = some (.int .i64 (hiOf a)) ∧ X.cell? ⟨g, o + i * 2 + 1, none⟩ = some (.int .u64 (loOf a)) ∧ X.cell? ⟨h, q + k, none⟩ = some (.int .i64 b)) (((try dsimp only); (with_reducible refine kp3 (W := V2) a0 a1 b0 ?_); repeat (first | exact Below.refl _ _ | refine bl_alloc ?_ _ | refine Below.drew ?_ | refine bl_drewN ?_ _ | refine bl_set ?_ (by omega) _ | refine bl_step ?_ (by assumption))))
                (first | (go_at_call 10; refine (HC.out _).mono ?_; rintro e y1 ⟨rfl, hy1⟩; (first | (have Z : Zw y1 V2.heap.size := Sv.keep (zw_new (W := V2.drew) rfl) hy1; have t0 := Z.1; have t1 := Z.2.1; have t2 := Z.2.2.1; have t3 := Z.2.2.2; have t4 := lt_of_cell t0) | (have Z : Zw y1 V2.heap.size := Sv.keep (zw_new (W := V2) rfl) hy1; have t0 := Z.1; have t1 := Z.2.1; have t2 := Z.2.2.1; have t3 := Z.2.2.2; have t4 := lt_of_cell t0) | skip)))
              all_goals go_wp2_with fail
              all_goals go_meet
              all_goals exact ⟨_, rfl, rfl, by repeat (first | exact Below.refl _ _ | refine bl_alloc ?_ _ | refine Below.drew ?_ | refine bl_drewN ?_ _ | refine bl_set ?_ (by omega) _ | refine bl_step ?_ (by assumption)), by repeat (first | (with_reducible assumption) | (with_reducible refine Sv.ownw ?_) | (with_reducible refine Sv.oth ?_ (by omega)) | (with_reducible exact sv_new (by simp)) | (with_reducible refine Sv.alloc ?_ _) | (with_reducible refine Sv.drew ?_))⟩
            go_region_held3 (fun X => X.cell? ⟨g, o + i * 2, none⟩ = some (.int .i64 (hiOf a)) ∧ X.cell? ⟨g, o + i * 2 + 1, none⟩ = some (.int .u64 (loOf a)) ∧ X.cell? ⟨h, q + k, none⟩ = some (.int .i64 b)) (((try dsimp only); (with_reducible refine kp3 (W := V1) a0 a1 b0 ?_); repeat (first | exact Below.refl _ _ | refine bl_alloc ?_ _ | refine Below.drew ?_ | refine bl_drewN ?_ _ | refine bl_set ?_ (by omega) _ | refine bl_step ?_ (by assumption))))
              (first | (go_at_call 9; refine (HG.out _).mono ?_; rintro e y1 ⟨rfl, hy1⟩; (first | (have Z : Zw y1 V1.heap.size := Sv.keep (zw_new (W := V1.drew) rfl) hy1; have t0 := Z.1; have t1 := Z.2.1; have t2 := Z.2.2.1; have t3 := Z.2.2.2; have t4 := lt_of_cell t0) | (have Z : Zw y1 V1.heap.size := Sv.keep (zw_new (W := V1) rfl) hy1; have t0 := Z.1; have t1 := Z.2.1; have t2 := Z.2.2.1; have t3 := Z.2.2.2; have t4 := lt_of_cell t0) | skip)))
            all_goals go_wp2_with fail
            all_goals go_meet
            all_goals exact ⟨_, rfl, rfl, by repeat (first | exact Below.refl _ _ | refine bl_alloc ?_ _ | refine Below.drew ?_ | refine bl_drewN ?_ _ | refine bl_set ?_ (by omega) _ | refine bl_step ?_ (by assumption)), by repeat (first | (with_reducible assumption) | (with_reducible refine Sv.ownw ?_) | (with_reducible refine Sv.oth ?_ (by omega)) | (with_reducible exact sv_new (by simp)) | (with_reducible refine Sv.alloc ?_ _) | (with_reducible refine Sv.drew ?_))⟩
          go_region_held3 (fun X => X.cell? ⟨g, o + i * 2, none⟩ = some (.int .i64 (hiOf a)) ∧ X.cell? ⟨g, o + i * 2 + 1, none⟩ = some (.int .u64 (loOf a)) ∧ X.cell? ⟨h, q + k, none⟩ = some (.int .i64 b)) (((try dsimp only); (with_reducible refine kp3 (W := V) a0 a1 b0 ?_); repeat (first | exact Below.refl _ _ | refine bl_alloc ?_ _ | refine Below.drew ?_ | refine bl_drewN ?_ _ | refine bl_set ?_ (by omega) _ | refine bl_step ?_ (by assumption))))
            (first | (go_at_call 8; refine (HF.out _).mono ?_; rintro e y1 ⟨rfl, hy1⟩; (first | (have Z : Zw y1 V.heap.size := Sv.keep (zw_new (W := V.drew) rfl) hy1; have t0 := Z.1; have t1 := Z.2.1; have t2 := Z.2.2.1; have t3 := Z.2.2.2; have t4 := lt_of_cell t0) | (have Z : Zw y1 V.heap.size := Sv.keep (zw_new (W := V) rfl) hy1; have t0 := Z.1; have t1 := Z.2.1; have t2 := Z.2.2.1; have t3 := Z.2.2.2; have t4 := lt_of_cell t0) | skip)))
          all_goals go_wp2_with fail
          all_goals go_meet
          all_goals exact ⟨_, rfl, rfl, by repeat (first | exact Below.refl _ _ | refine bl_alloc ?_ _ | refine Below.drew ?_ | refine bl_drewN ?_ _ | refine bl_set ?_ (by omega) _ | refine bl_step ?_ (by assumption)), by repeat (first | (with_reducible assumption) | (with_reducible refine Sv.ownw ?_) | (with_reducible refine Sv.oth ?_ (by omega)) | (with_reducible exact sv_new (by simp)) | (with_reducible refine Sv.alloc ?_ _) | (with_reducible refine Sv.drew ?_))⟩
        · have : k = n := by omega
          subst this
          go_wp2_with fail
          exact ⟨⟨i + 1, by omega, by go_num, hnx⟩, by simp [intOf]; omega⟩
    · have : i = m := by omega
      subst this
      go_wp2
      go_ret
      exact ⟨rfl, hnx⟩
end Go.Proofs.YtcjglbejmlebhaaDoor
