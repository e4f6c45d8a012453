/- FoldTells, WALKED. -/
import Derived.Test.YtffhbfdbahdhoaaHT1
namespace Go.Proofs.Ytffhbfdbahdhoaa
open Go.RowKit Go.Shelf Wd
attribute [local go_sem ↓] Go.wp_at_zero Go.wp_at_succ

theorem kpt3 {W w' : World} {g h o p q : Nat} {a b c : Value} (hb : Below W.heap.size W w') (h0 : W.cell? ⟨g, o, none⟩ = some a) (h1 : W.cell? ⟨g, p, none⟩ = some b) (h2 : W.cell? ⟨h, q, none⟩ = some c) :
    w'.cell? ⟨g, o, none⟩ = some a ∧ w'.cell? ⟨g, p, none⟩ = some b ∧ w'.cell? ⟨h, q, none⟩ = some c := ⟨keepc hb h0, keepc hb h1, keepc hb h2⟩
set_option maxHeartbeats 1600000 in
set_option maxRecDepth 100000 in
theorem foldTells_any (ao : Option Addr) (m0 cm : Nat) (hm : m0 ≤ 9223372036854775807) (bo : Option Addr) (n0 cn : Nat) (hn : n0 ≤ 9223372036854775807) (w : World) (L1 : Lp2 w ao m0) (L2 : Ln1 w bo n0) :
    Calls Try.prog 6 #[.slice ao m0 cm, .slice bo n0 cn] w fun e w' => e = .returned (.bool true) ∧ Below w.heap.size w w' := by
  have H1 := hid1 L1
  have H2 := hid1 L2
  clear L1 L2
  go_enter Try.func6, Try.ntmps6
  go_wp2_with fail
  refine (obegun_any _).mono ?_
  rintro e w1 ⟨rfl, hb1⟩
  go_wp2_with fail
  go_loopw [6] (fun i wr => ∃ k : Nat, k ≤ m0 ∧ i = .int .i64 k ∧ Below w.heap.size w wr) (fun i _ => m0 - (intOf i).toNat)
  case atStart => exact ⟨0, Nat.zero_le _, rfl, hb1⟩
  case round =>
    clear hb1
    obtain ⟨i, hi, rfl, hnx⟩ := hrel
    have ii0 : (0 : Int) ≤ (i : Int) := by omega
    by_cases hli : i < m0
    · have ii : (i : Int) < (m0 : Int) := by omega
      obtain ⟨g, o, m, t, rfl, a0, a1⟩ := (H1.out.keep hnx) i hli
      have HC1 := hid1 (fck_any m t)
      have HC2 := hid1 (rck_any m t)
      have HN1 := hid1 (fnorm_any m t)
      have HN2 := hid1 (rnorm_any m t)
      generalize ckT m t = E at *
      generalize nT m t (gT m) = A0 at *
      generalize nT m t (bT m) = A1 at *
      generalize nT m t 1 = A2 at *
      generalize nT m t t = A3 at *
      go_wp2_with fail
      refine (HC1.out _).mono ?_
      rintro e x1 ⟨rfl, hx⟩
      replace a0 := keepc hx a0; replace a1 := keepc hx a1
      replace hnx := bl_step hnx hx
      clear hx
      go_wp2_with fail
      refine (HC2.out _).mono ?_
      rintro e x2 ⟨rfl, hx⟩
      replace a0 := keepc hx a0; replace a1 := keepc hx a1
      replace hnx := bl_step hnx hx
      clear hx
      go_wp2_with fail
      refine (HN1.out _).mono ?_
      rintro e x3 ⟨rfl, hx⟩
      replace a0 := keepc hx a0; replace a1 := keepc hx a1
      replace hnx := bl_step hnx hx
      clear hx
      have za := lt_of_cell a0
      go_wp2_with fail
      refine gen_calls (fun X => Hid (Nm X x3.heap.size A0 A2 A1 A2 A3 A2 A2 A2) ∧ (X.cell? ⟨g, o + i * 2, none⟩ = some (.int .i64 m) ∧ X.cell? ⟨g, o + i * 2 + 1, none⟩ = some (.int .i64 t)) ∧ Below w.heap.size w X) ⟨hid1 ⟨by simp [go_sem], by simp [go_sem], by simp [go_sem], by simp [go_sem], by simp [go_sem], by simp [go_sem], by simp [go_sem], by simp [go_sem]⟩, ⟨by simp [go_sem, *], by simp [go_sem, *]⟩, by repeat (first | (with_reducible exact Below.refl _ _) | (with_reducible refine bl_alloc ?_ _) | (with_reducible refine Below.drew ?_) | (with_reducible refine bl_drewN ?_ _) | (with_reducible refine bl_set ?_ (by omega) _) | (with_reducible refine bl_step ?_ (by assumption)))⟩ ?_
      clear hnx a0 a1 za
      rintro X ⟨HN, ⟨a0, a1⟩, hnx⟩
      refine (HN2.out _).mono ?_
      rintro e x4 ⟨rfl, hx⟩
      replace a0 := keepc hx a0; replace a1 := keepc hx a1
      replace hnx := bl_step hnx hx
      replace HN := hid1 (HN.out.keep hx)
      clear hx
      generalize x3.heap.size = G at *
      have za := lt_of_cell a0
      obtain ⟨c0, c1, c2, c3, c4, c5, c6, c7⟩ := HN.out
      have zc := lt_of_cell c0
      clear HC1 HC2 HN1 HN2
      go_wp2_with fail
      go_loopw [13] (fun q wr => ∃ k : Nat, k ≤ n0 ∧ q = .int .i64 k ∧ Below w.heap.size w wr) (fun q _ => n0 - (intOf q).toNat)
      case atStart => exact ⟨0, Nat.zero_le _, rfl, by repeat (first | (with_reducible exact Below.refl _ _) | (with_reducible refine bl_alloc ?_ _) | (with_reducible refine Below.drew ?_) | (with_reducible refine bl_drewN ?_ _) | (with_reducible refine bl_set ?_ (by omega) _) | (with_reducible refine bl_step ?_ (by assumption)))⟩
      case round =>
        clear c0 c1 c2 c3 c4 c5 c6 c7 HN zc za a0 a1 hnx
        obtain ⟨j, hj, rfl, hnx⟩ := hrel
        have jj0 : (0 : Int) ≤ (j : Int) := by omega
        by_cases hlj : j < n0
        · have jj : (j : Int) < (n0 : Int) := by omega
          obtain ⟨ga, oa, m, t, ea, a0, a1⟩ := (H1.out.keep hnx) i hli
          obtain ⟨g', o', x, rfl, b0⟩ := (H2.out.keep hnx) j hlj
          simp only [Option.some.injEq, Addr.mk.injEq, and_true] at ea
          obtain ⟨rfl, rfl⟩ := ea
          have HP1 := hid1 (plus_any m t x)
          have HP2 := hid1 (rpl_any m t x)
          generalize plT m t x = p at *
          have HN := hid1 hnx
          clear hnx
          go_upto_region 16 with fail
          go_cut [14] (fun s wx => s = .bool p ∧ Hid (Below wr.heap.size wr wx))
          case first =>
            go_region_held3 (fun X => X.cell? ⟨g, o + i * 2, none⟩ = some (.int .i64 m) ∧ X.cell? ⟨g, o + i * 2 + 1, none⟩ = some (.int .i64 t) ∧ X.cell? ⟨g', o' + j, none⟩ = some (.int .i64 x)) (((try dsimp only); refine kpt3 (W := wr) ?_ a0 a1 b0; repeat (first | (with_reducible exact Below.refl _ _) | (with_reducible refine bl_alloc ?_ _) | (with_reducible refine Below.drew ?_) | (with_reducible refine bl_drewN ?_ _) | (with_reducible refine bl_set ?_ (by first | omega | (simp; done) | (simp; omega)) _) | (with_reducible refine bl_step ?_ (by assumption)))))
              (first | (go_at_call 14; (with_reducible refine (HP1.out _).mono ?_); rintro e x1 ⟨rfl, hx1⟩))
            all_goals go_wp2_with fail
            all_goals go_meet
            all_goals exact ⟨rfl, hid1 (by repeat (first | (with_reducible exact Below.refl _ _) | (with_reducible refine bl_alloc ?_ _) | (with_reducible refine Below.drew ?_) | (with_reducible refine bl_drewN ?_ _) | (with_reducible refine bl_set ?_ (by first | omega | (simp; done) | (simp; omega)) _) | (with_reducible refine bl_step ?_ (by assumption))))⟩
          case rest =>
            obtain ⟨rfl, HB⟩ := hcut
            obtain ⟨a0, a1, b0⟩ := kpt3 HB.out a0 a1 b0
            replace HN := hid1 (bl_step HN.out HB.out)
            clear HB
            go_upto_region 17 with fail
            go_cut [15] (fun s wx => s = .bool p ∧ Hid (Below wc.heap.size wc wx))
            case first =>
              go_region_held3 (fun X => X.cell? ⟨g, o + i * 2, none⟩ = some (.int .i64 m) ∧ X.cell? ⟨g, o + i * 2 + 1, none⟩ = some (.int .i64 t) ∧ X.cell? ⟨g', o' + j, none⟩ = some (.int .i64 x)) (((try dsimp only); refine kpt3 (W := wc) ?_ a0 a1 b0; repeat (first | (with_reducible exact Below.refl _ _) | (with_reducible refine bl_alloc ?_ _) | (with_reducible refine Below.drew ?_) | (with_reducible refine bl_drewN ?_ _) | (with_reducible refine bl_set ?_ (by first | omega | (simp; done) | (simp; omega)) _) | (with_reducible refine bl_step ?_ (by assumption)))))
                (first | (go_at_call 19; (with_reducible refine (HP2.out _).mono ?_); rintro e x1 ⟨rfl, hx1⟩))
              all_goals go_wp2_with fail
              all_goals go_meet
              all_goals exact ⟨rfl, hid1 (by repeat (first | (with_reducible exact Below.refl _ _) | (with_reducible refine bl_alloc ?_ _) | (with_reducible refine Below.drew ?_) | (with_reducible refine bl_drewN ?_ _) | (with_reducible refine bl_set ?_ (by first | omega | (simp; done) | (simp; omega)) _) | (with_reducible refine bl_step ?_ (by assumption))))⟩
            case rest =>
              obtain ⟨rfl, HB⟩ := hcut
              have BY := bl_step HN.out HB.out
              clear HB HN a0 a1 b0
              go_wp2_with fail
              exact ⟨⟨j + 1, by omega, by go_num, BY⟩, by simp [intOf]; omega⟩
        · go_wp2_with fail
          exact ⟨⟨i + 1, by omega, by go_num, hnx⟩, by simp [intOf]; omega⟩
    · go_wp2_with fail
      go_ret
      exact ⟨rfl, hnx⟩
end Go.Proofs.Ytffhbfdbahdhoaa
