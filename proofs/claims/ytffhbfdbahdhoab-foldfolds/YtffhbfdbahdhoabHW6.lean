/- PACKAGE fold: product, cut. -/
import Derived.Test.YtffhbfdbahdhoabHW5
namespace Go.Proofs.Ytffhbfdbahdhoab
open Go.RowKit Go.Shelf Wd
attribute [local go_sem ↓] Go.wp_at_zero Go.wp_at_succ

/-- Factors in memory. -/
def Fs (w : World) (g n : Nat) (f : Nat → Int) : Prop := ∀ k, k < n → w.cell? ⟨g, k, none⟩ = some (.int .i64 (f k))
theorem Fs.keep {w w' : World} {g n : Nat} {f : Nat → Int} (h : Fs w g n f) (hb : Below w.heap.size w w') : Fs w' g n f := fun k hk => keepc hb (h k hk)
set_option maxRecDepth 100000 in
theorem fprod_any (n : Nat) (hn : n ≤ 5) (f pr : Nat → Int) (h0 : Hid (pr 0 = 1)) (HS : Hid (∀ k, k < n → ∀ w : World, Calls Try.prog 47 #[wv (pr k), .int .i64 (f k)] w fun e w' => e = .returned (.tuple #[wv (pr (k + 1)), .int .i64 0]) ∧ Below w.heap.size w w'))
    (w : World) (g : Nat) (HF : Hid (Fs w g n f)) :
    Calls Try.prog 36 #[.slice (some ⟨g, 0, none⟩) n n] w fun e w' => e = .returned (wv (pr n)) ∧ Below w.heap.size w w' := by
  have i1 : I64 1 := by unfold I64; omega
  have HO := hid1 (of_any 1 i1)
  clear i1
  go_enter Try.func36, Try.ntmps36
  go_wp2_with fail
  refine (HO.out _).mono ?_
  rintro e w1 ⟨rfl, hb1⟩
  have HR : Hid (Wc w1 w.heap.size 0) := hid1 (Wc.keep ⟨by rw [hi_zero]; simp [go_sem], by rw [lo_zero]; simp [go_sem], by simp [go_sem], by simp [go_sem]⟩ hb1)
  have B1 : Below w.heap.size w w1 := by repeat (first | (with_reducible exact Below.refl _ _) | (with_reducible refine bl_alloc ?_ _) | (with_reducible refine Below.drew ?_) | (with_reducible refine bl_drewN ?_ _) | (with_reducible refine bl_set ?_ (by omega) _) | (with_reducible refine bl_step ?_ (by assumption)))
  clear hb1
  have z1 := lt_of_cell HR.out.1
  go_wp2_with fail
  go_loopw [9] (fun i wr => ∃ k : Nat, k ≤ n ∧ i = .int .i64 k ∧ Hid (Wc wr w1.heap.size (pr k)) ∧ Hid (Wc wr w.heap.size 0) ∧ Below w.heap.size w wr) (fun i _ => n - (intOf i).toNat)
  case atStart =>
    refine ⟨0, by omega, rfl, ?_, ?_, ?_⟩
    · rw [h0.out]; exact hid1 ⟨by simp [go_sem], by simp [go_sem], by simp [go_sem], by simp [go_sem]⟩
    · obtain ⟨x, y, u, v⟩ := HR.out
      exact hid1 ⟨by simp [go_sem, *], by simp [go_sem, *], by simp [go_sem, *], by simp [go_sem, *]⟩
    · repeat (first | (with_reducible exact Below.refl _ _) | (with_reducible refine bl_alloc ?_ _) | (with_reducible refine Below.drew ?_) | (with_reducible refine bl_drewN ?_ _) | (with_reducible refine bl_set ?_ (by omega) _) | (with_reducible refine bl_step ?_ (by assumption)))
  case round =>
    obtain ⟨k, hk, rfl, HW, HQ, hB⟩ := hrel
    have HG := hid1 (HF.out.keep hB)
    by_cases hlt : k < n
    · have a0 := HG.out k hlt
      have HK := hid1 (HS.out k hlt)
      have h1 : (0 : Int) ≤ (k : Int) := by omega
      have h2 : (k : Int) < (n : Int) := by omega
      obtain ⟨x0, x1, x2, x3⟩ := HW.out
      have zx := lt_of_cell x0
      go_wp2_with fail
      refine (HK.out _).mono ?_
      rintro e w2 ⟨rfl, hb2⟩
      replace x2 := keepf hb2 zx x2; replace x3 := keepf hb2 zx x3
      replace x0 := keepc hb2 x0; replace x1 := keepc hb2 x1
      replace HQ := hid1 (HQ.out.keep hb2)
      replace zx := lt_of_cell x0
      have hB2 : Below w.heap.size w w2 := by repeat (first | (with_reducible exact Below.refl _ _) | (with_reducible refine bl_alloc ?_ _) | (with_reducible refine Below.drew ?_) | (with_reducible refine bl_drewN ?_ _) | (with_reducible refine bl_set ?_ (by omega) _) | (with_reducible refine bl_step ?_ (by assumption)))
      clear hb2 hB a0 HG
      go_wp2
      refine ⟨⟨k + 1, by omega, by simp, ?_, ?_, ?_⟩, by simp [intOf]; omega⟩
      · exact hid1 ⟨by simp [go_sem, *], by simp [go_sem, *], by simp [go_sem, *], by simp [go_sem, *]⟩
      · obtain ⟨y0, y1, y2, y3⟩ := HQ.out
        exact hid1 ⟨by simp [go_sem, *], by simp [go_sem, *], by simp [go_sem, *], by simp [go_sem, *]⟩
      · repeat (first | (with_reducible exact Below.refl _ _) | (with_reducible refine bl_alloc ?_ _) | (with_reducible refine Below.drew ?_) | (with_reducible refine bl_drewN ?_ _) | (with_reducible refine bl_set ?_ (by omega) _) | (with_reducible refine bl_step ?_ (by assumption)))
    · obtain rfl : k = n := by omega
      obtain ⟨x0, x1, x2, x3⟩ := HW.out
      obtain ⟨y0, y1, y2, y3⟩ := HQ.out
      have zx := lt_of_cell x0
      have zy := lt_of_cell y0
      go_wp2
      simp [bodyPost, results, Try.results36, go_sem, *]
      repeat (first | (with_reducible exact Below.refl _ _) | (with_reducible refine bl_alloc ?_ _) | (with_reducible refine Below.drew ?_) | (with_reducible refine bl_drewN ?_ _) | (with_reducible refine bl_set ?_ (by omega) _) | (with_reducible refine bl_step ?_ (by assumption)))
set_option maxRecDepth 100000 in
theorem cut_hi (a c : Int) (hc : decide (0 < c) = true) (HC : Hid (∀ w : World, Calls Try.prog 49 #[wv a, wv 2147483648] w fun e w' => e = .returned (.int .i64 c) ∧ Below w.heap.size w w')) (w : World) :
    Calls Try.prog 38 #[wv a] w fun e w' => e = .returned (.int .i64 2147483648) ∧ Below w.heap.size w w' := by
  have HO := hid1 (of_any 2147483648 ⟨by omega, by omega⟩)
  go_enter Try.func38, Try.ntmps38
  go_upto_region 1 with fail
  refine gen_worldH (fun X => Hid ((X.cell? ⟨w.heap.size, 0, none⟩ = some (.int .i64 (hiOf a)) ∧ X.cell? ⟨w.heap.size, 1, none⟩ = some (.int .u64 (loOf a))) ∧ Below w.heap.size w X)) (hid1 (And.intro ⟨by simp [go_sem], by simp [go_sem]⟩ (by repeat (first | (with_reducible exact Below.refl _ _) | (with_reducible refine bl_alloc ?_ _) | (with_reducible refine Below.drew ?_) | (with_reducible refine bl_drewN ?_ _) | (with_reducible refine bl_set ?_ (by omega) _) | (with_reducible refine bl_step ?_ (by assumption)))))) ?_
  intro X HX
  have c0 := HX.out.1.1
  have c1 := HX.out.1.2
  have HB := hid1 HX.out.2
  clear HX
  go_cut [8] (fun s8 wx => s8 = .bool true ∧ Hid (Below X.heap.size X wx))
  case first =>
    go_region_held3 (fun W => W.cell? ⟨w.heap.size, 0, none⟩ = some (.int .i64 (hiOf a)) ∧ W.cell? ⟨w.heap.size, 1, none⟩ = some (.int .u64 (loOf a))) (((try dsimp only); exact ⟨keepc (W := X) (by repeat (first | (with_reducible exact Below.refl _ _) | (with_reducible refine bl_alloc ?_ _) | (with_reducible refine Below.drew ?_) | (with_reducible refine bl_drewN ?_ _) | (with_reducible refine bl_set ?_ (by omega) _) | (with_reducible refine bl_step ?_ (by assumption)))) c0, keepc (W := X) (by repeat (first | (with_reducible exact Below.refl _ _) | (with_reducible refine bl_alloc ?_ _) | (with_reducible refine Below.drew ?_) | (with_reducible refine bl_drewN ?_ _) | (with_reducible refine bl_set ?_ (by omega) _) | (with_reducible refine bl_step ?_ (by assumption)))) c1⟩))
      (first
        | (go_at_call 46; (with_reducible refine (HO.out _).mono ?_); rintro e w1 ⟨rfl, hb1⟩)
        | (go_at_call 49; (with_reducible refine (HC.out _).mono ?_); rintro e w2 ⟨rfl, hb2⟩))
    all_goals go_wp2_with fail
    all_goals go_meet
    all_goals exact ⟨by first | rfl | (congr 1; assumption), hid1 (by repeat (first | (with_reducible exact Below.refl _ _) | (with_reducible refine bl_alloc ?_ _) | (with_reducible refine Below.drew ?_) | (with_reducible refine bl_drewN ?_ _) | (with_reducible refine bl_set ?_ (by omega) _) | (with_reducible refine bl_step ?_ (by assumption))))⟩
  case rest =>
    obtain ⟨rfl, HX⟩ := hcut
    replace c0 := keepc HX.out c0
    replace c1 := keepc HX.out c1
    have BX := bl_step HB.out HX.out
    clear HX HB
    go_wp2
    go_ret
    exact ⟨rfl, BX⟩
set_option maxRecDepth 100000 in
theorem cut_lo (a c : Int) (d : Int) (hc : decide (0 < c) = false) (hd : decide (d < 0) = true) (HC : Hid (∀ w : World, Calls Try.prog 49 #[wv a, wv 2147483648] w fun e w' => e = .returned (.int .i64 c) ∧ Below w.heap.size w w')) (HD : Hid (∀ w : World, Calls Try.prog 49 #[wv a, wv (-2147483648)] w fun e w' => e = .returned (.int .i64 d) ∧ Below w.heap.size w w')) (w : World) :
    Calls Try.prog 38 #[wv a] w fun e w' => e = .returned (.int .i64 (-2147483648)) ∧ Below w.heap.size w w' := by
  have HO := hid1 (of_any 2147483648 ⟨by omega, by omega⟩)
  have HO2 := hid1 (of_any (-2147483648) ⟨by omega, by omega⟩)
  go_enter Try.func38, Try.ntmps38
  go_upto_region 1 with fail
  refine gen_worldH (fun X => Hid ((X.cell? ⟨w.heap.size, 0, none⟩ = some (.int .i64 (hiOf a)) ∧ X.cell? ⟨w.heap.size, 1, none⟩ = some (.int .u64 (loOf a))) ∧ Below w.heap.size w X)) (hid1 (And.intro ⟨by simp [go_sem], by simp [go_sem]⟩ (by repeat (first | (with_reducible exact Below.refl _ _) | (with_reducible refine bl_alloc ?_ _) | (with_reducible refine Below.drew ?_) | (with_reducible refine bl_drewN ?_ _) | (with_reducible refine bl_set ?_ (by omega) _) | (with_reducible refine bl_step ?_ (by assumption)))))) ?_
  intro X HX
  have c0 := HX.out.1.1
  have c1 := HX.out.1.2
  have HB := hid1 HX.out.2
  clear HX
  go_cut [8] (fun s8 wx => s8 = .bool false ∧ Hid (Below X.heap.size X wx))
  case first =>
    go_region_held3 (fun W => W.cell? ⟨w.heap.size, 0, none⟩ = some (.int .i64 (hiOf a)) ∧ W.cell? ⟨w.heap.size, 1, none⟩ = some (.int .u64 (loOf a))) (((try dsimp only); exact ⟨keepc (W := X) (by repeat (first | (with_reducible exact Below.refl _ _) | (with_reducible refine bl_alloc ?_ _) | (with_reducible refine Below.drew ?_) | (with_reducible refine bl_drewN ?_ _) | (with_reducible refine bl_set ?_ (by omega) _) | (with_reducible refine bl_step ?_ (by assumption)))) c0, keepc (W := X) (by repeat (first | (with_reducible exact Below.refl _ _) | (with_reducible refine bl_alloc ?_ _) | (with_reducible refine Below.drew ?_) | (with_reducible refine bl_drewN ?_ _) | (with_reducible refine bl_set ?_ (by omega) _) | (with_reducible refine bl_step ?_ (by assumption)))) c1⟩))
      (first
        | (go_at_call 46; (with_reducible refine (HO.out _).mono ?_); rintro e w1 ⟨rfl, hb1⟩)
        | (go_at_call 49; (with_reducible refine (HC.out _).mono ?_); rintro e w2 ⟨rfl, hb2⟩))
    all_goals go_wp2_with fail
    all_goals go_meet
    all_goals exact ⟨by first | rfl | (congr 1; assumption), hid1 (by repeat (first | (with_reducible exact Below.refl _ _) | (with_reducible refine bl_alloc ?_ _) | (with_reducible refine Below.drew ?_) | (with_reducible refine bl_drewN ?_ _) | (with_reducible refine bl_set ?_ (by omega) _) | (with_reducible refine bl_step ?_ (by assumption))))⟩
  case rest =>
    obtain ⟨rfl, HX⟩ := hcut
    replace c0 := keepc HX.out c0
    replace c1 := keepc HX.out c1
    have BX := bl_step HB.out HX.out
    clear HX HB
    go_upto_region 3 with fail
    go_cut [12] (fun s12 wx => s12 = .bool true ∧ Hid (Below wc.heap.size wc wx))
    case first =>
      go_region_held3 (fun W => W.cell? ⟨w.heap.size, 0, none⟩ = some (.int .i64 (hiOf a)) ∧ W.cell? ⟨w.heap.size, 1, none⟩ = some (.int .u64 (loOf a))) (((try dsimp only); exact ⟨keepc (W := wc) (by repeat (first | (with_reducible exact Below.refl _ _) | (with_reducible refine bl_alloc ?_ _) | (with_reducible refine Below.drew ?_) | (with_reducible refine bl_drewN ?_ _) | (with_reducible refine bl_set ?_ (by omega) _) | (with_reducible refine bl_step ?_ (by assumption)))) c0, keepc (W := wc) (by repeat (first | (with_reducible exact Below.refl _ _) | (with_reducible refine bl_alloc ?_ _) | (with_reducible refine Below.drew ?_) | (with_reducible refine bl_drewN ?_ _) | (with_reducible refine bl_set ?_ (by omega) _) | (with_reducible refine bl_step ?_ (by assumption)))) c1⟩))
        (first
          | (go_at_call 46; (with_reducible refine (HO2.out _).mono ?_); rintro e w1 ⟨rfl, hb1⟩)
          | (go_at_call 49; (with_reducible refine (HD.out _).mono ?_); rintro e w2 ⟨rfl, hb2⟩))
      all_goals go_wp2_with fail
      all_goals go_meet
      all_goals exact ⟨by first | rfl | (congr 1; assumption), hid1 (by repeat (first | (with_reducible exact Below.refl _ _) | (with_reducible refine bl_alloc ?_ _) | (with_reducible refine Below.drew ?_) | (with_reducible refine bl_drewN ?_ _) | (with_reducible refine bl_set ?_ (by omega) _) | (with_reducible refine bl_step ?_ (by assumption))))⟩
    case rest =>
      obtain ⟨rfl, HX⟩ := hcut
      replace c0 := keepc HX.out c0
      replace c1 := keepc HX.out c1
      have BY := bl_step BX HX.out
      clear HX BX
      go_wp2
      go_ret
      exact ⟨rfl, by repeat (first | (with_reducible exact Below.refl _ _) | (with_reducible refine bl_alloc ?_ _) | (with_reducible refine Below.drew ?_) | (with_reducible refine bl_drewN ?_ _) | (with_reducible refine bl_set ?_ (by omega) _) | (with_reducible refine bl_step ?_ (by assumption)))⟩
set_option maxRecDepth 100000 in
theorem cut_in (a c : Int) (d : Int) (hc : decide (0 < c) = false) (hd : decide (d < 0) = false) (HC : Hid (∀ w : World, Calls Try.prog 49 #[wv a, wv 2147483648] w fun e w' => e = .returned (.int .i64 c) ∧ Below w.heap.size w w')) (HD : Hid (∀ w : World, Calls Try.prog 49 #[wv a, wv (-2147483648)] w fun e w' => e = .returned (.int .i64 d) ∧ Below w.heap.size w w')) (HF : Hid (∀ w : World, Calls Try.prog 50 #[wv a] w fun e w' => e = .returned (.tuple #[.int .i64 a, .int .i64 0]) ∧ Below w.heap.size w w')) (w : World) :
    Calls Try.prog 38 #[wv a] w fun e w' => e = .returned (.int .i64 a) ∧ Below w.heap.size w w' := by
  have HO := hid1 (of_any 2147483648 ⟨by omega, by omega⟩)
  have HO2 := hid1 (of_any (-2147483648) ⟨by omega, by omega⟩)
  go_enter Try.func38, Try.ntmps38
  go_upto_region 1 with fail
  refine gen_worldH (fun X => Hid ((X.cell? ⟨w.heap.size, 0, none⟩ = some (.int .i64 (hiOf a)) ∧ X.cell? ⟨w.heap.size, 1, none⟩ = some (.int .u64 (loOf a))) ∧ Below w.heap.size w X)) (hid1 (And.intro ⟨by simp [go_sem], by simp [go_sem]⟩ (by repeat (first | (with_reducible exact Below.refl _ _) | (with_reducible refine bl_alloc ?_ _) | (with_reducible refine Below.drew ?_) | (with_reducible refine bl_drewN ?_ _) | (with_reducible refine bl_set ?_ (by omega) _) | (with_reducible refine bl_step ?_ (by assumption)))))) ?_
  intro X HX
  have c0 := HX.out.1.1
  have c1 := HX.out.1.2
  have HB := hid1 HX.out.2
  clear HX
  go_cut [8] (fun s8 wx => s8 = .bool false ∧ Hid (Below X.heap.size X wx))
  case first =>
    go_region_held3 (fun W => W.cell? ⟨w.heap.size, 0, none⟩ = some (.int .i64 (hiOf a)) ∧ W.cell? ⟨w.heap.size, 1, none⟩ = some (.int .u64 (loOf a))) (((try dsimp only); exact ⟨keepc (W := X) (by repeat (first | (with_reducible exact Below.refl _ _) | (with_reducible refine bl_alloc ?_ _) | (with_reducible refine Below.drew ?_) | (with_reducible refine bl_drewN ?_ _) | (with_reducible refine bl_set ?_ (by omega) _) | (with_reducible refine bl_step ?_ (by assumption)))) c0, keepc (W := X) (by repeat (first | (with_reducible exact Below.refl _ _) | (with_reducible refine bl_alloc ?_ _) | (with_reducible refine Below.drew ?_) | (with_reducible refine bl_drewN ?_ _) | (with_reducible refine bl_set ?_ (by omega) _) | (with_reducible refine bl_step ?_ (by assumption)))) c1⟩))
      (first
        | (go_at_call 46; (with_reducible refine (HO.out _).mono ?_); rintro e w1 ⟨rfl, hb1⟩)
        | (go_at_call 49; (with_reducible refine (HC.out _).mono ?_); rintro e w2 ⟨rfl, hb2⟩))
    all_goals go_wp2_with fail
    all_goals go_meet
    all_goals exact ⟨by first | rfl | (congr 1; assumption), hid1 (by repeat (first | (with_reducible exact Below.refl _ _) | (with_reducible refine bl_alloc ?_ _) | (with_reducible refine Below.drew ?_) | (with_reducible refine bl_drewN ?_ _) | (with_reducible refine bl_set ?_ (by omega) _) | (with_reducible refine bl_step ?_ (by assumption))))⟩
  case rest =>
    obtain ⟨rfl, HX⟩ := hcut
    replace c0 := keepc HX.out c0
    replace c1 := keepc HX.out c1
    have BX := bl_step HB.out HX.out
    clear HX HB
    go_upto_region 3 with fail
    go_cut [12] (fun s12 wx => s12 = .bool false ∧ Hid (Below wc.heap.size wc wx))
    case first =>
      go_region_held3 (fun W => W.cell? ⟨w.heap.size, 0, none⟩ = some (.int .i64 (hiOf a)) ∧ W.cell? ⟨w.heap.size, 1, none⟩ = some (.int .u64 (loOf a))) (((try dsimp only); exact ⟨keepc (W := wc) (by repeat (first | (with_reducible exact Below.refl _ _) | (with_reducible refine bl_alloc ?_ _) | (with_reducible refine Below.drew ?_) | (with_reducible refine bl_drewN ?_ _) | (with_reducible refine bl_set ?_ (by omega) _) | (with_reducible refine bl_step ?_ (by assumption)))) c0, keepc (W := wc) (by repeat (first | (with_reducible exact Below.refl _ _) | (with_reducible refine bl_alloc ?_ _) | (with_reducible refine Below.drew ?_) | (with_reducible refine bl_drewN ?_ _) | (with_reducible refine bl_set ?_ (by omega) _) | (with_reducible refine bl_step ?_ (by assumption)))) c1⟩))
        (first
          | (go_at_call 46; (with_reducible refine (HO2.out _).mono ?_); rintro e w1 ⟨rfl, hb1⟩)
          | (go_at_call 49; (with_reducible refine (HD.out _).mono ?_); rintro e w2 ⟨rfl, hb2⟩))
      all_goals go_wp2_with fail
      all_goals go_meet
      all_goals exact ⟨by first | rfl | (congr 1; assumption), hid1 (by repeat (first | (with_reducible exact Below.refl _ _) | (with_reducible refine bl_alloc ?_ _) | (with_reducible refine Below.drew ?_) | (with_reducible refine bl_drewN ?_ _) | (with_reducible refine bl_set ?_ (by omega) _) | (with_reducible refine bl_step ?_ (by assumption))))⟩
    case rest =>
      obtain ⟨rfl, HX⟩ := hcut
      replace c0 := keepc HX.out c0
      replace c1 := keepc HX.out c1
      have BY := bl_step BX HX.out
      clear HX BX
      go_wp2_with fail
      refine (HF.out _).mono ?_
      rintro e w9 ⟨rfl, hb9⟩
      go_wp2
      go_ret
      exact ⟨rfl, by repeat (first | (with_reducible exact Below.refl _ _) | (with_reducible refine bl_alloc ?_ _) | (with_reducible refine Below.drew ?_) | (with_reducible refine bl_drewN ?_ _) | (with_reducible refine bl_set ?_ (by omega) _) | (with_reducible refine bl_step ?_ (by assumption)))⟩
theorem fcut_any (a : Int) (w : World) :
    Calls Try.prog 38 #[wv a] w fun e w' => e = .returned (.int .i64 (cuN a)) ∧ Below w.heap.size w w' := by
  have HC := hid1 (cmp_any a 2147483648)
  have HD := hid1 (cmp_any a (-2147483648))
  unfold cuN
  by_cases h1 : 2147483648 < a
  · rw [if_pos h1]
    exact cut_hi a _ (by rw [cmp_gt h1]; rfl) HC w
  · rw [if_neg h1]
    have k1 : decide (0 < cmpN a 2147483648) = false := by
      refine decide_eq_false ?_
      unfold cmpN; split
      · omega
      · rw [if_pos (by omega)]; omega
    by_cases h2 : a < -2147483648
    · rw [if_pos h2]
      exact cut_lo a _ _ k1 (by rw [cmp_lt h2]; rfl) HC HD w
    · rw [if_neg h2]
      have k2 : decide (cmpN a (-2147483648) < 0) = false := by
        refine decide_eq_false ?_
        unfold cmpN; rw [if_neg h2]; split <;> omega
      exact cut_in a _ _ k1 k2 HC HD (hid1 (fit_ok a ⟨by omega, by omega⟩)) w
end Go.Proofs.Ytffhbfdbahdhoab
