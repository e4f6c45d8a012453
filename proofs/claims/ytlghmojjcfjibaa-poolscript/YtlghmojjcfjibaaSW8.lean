/- SHAPES: THE DOCUMENT'S OWN SLIDE, WALKED. -/
import Derived.Test.YtlghmojjcfjibaaSW7
import Derived.Test.YtlghmojjcfjibaaSW4
namespace Go.Proofs.Ytlghmojjcfjibaa.Sg
open Go.RowKit

theorem wi_id {x : Int} (h1 : -9223372036854775808 ≤ x) (h2 : x ≤ 9223372036854775807) : IntKind.i64.wrap x = x := by
  have := wr_id h1 h2
  first | exact this | (rw [IntKind.wrap_i64]; exact this) | (simp [IntKind.wrap, IntKind.signed, IntKind.bits]; omega)
set_option maxRecDepth 100000 in
theorem rslide_bad1 (h v c r s sy sx t l b q k : Int) (hk : chk h v c ≠ 0) (w : World) :
    Calls Try.prog 58 #[shp h v c, win r s sy sx t l b q, .int .i64 k] w fun e w' => e = .returned (sle 0 0 0 (chk h v c)) ∧ Below w.heap.size w w' := by
  have HC := rcheck_any h v c
  generalize chk h v c = E at *
  go_enter Try.func58, Try.ntmps58
  go_wp2_with fail
  refine gen_calls (fun W => Below w.heap.size w W ∧ Wn W (w.heap.size + 1) 0 r s sy sx t l b q ∧ Rz W (w.heap.size + 1 + 1)) ⟨by repeat (first | exact Below.refl _ _ | refine bl_alloc ?_ _ | refine Below.drew ?_ | refine bl_drewN ?_ _ | refine bl_set ?_ (by first | omega | (simp; done) | (simp; omega)) _ | refine bl_step ?_ (by assumption)), (wn_new' (by simp)).keep (bl_alloc (Below.refl _ _) _), rz_new (by simp)⟩ ?_
  rintro W ⟨B0, W0, R0⟩
  refine (HC W).mono ?_
  rintro e w1 ⟨rfl, hb1⟩
  replace R0 := R0.keep hb1
  replace W0 := W0.keep hb1
  replace B0 := bl_step B0 hb1
  clear hb1
  obtain ⟨x0, x1, x2, x3, x4, x5, x6, x7⟩ := W0
  obtain ⟨⟨r0, r1, r2⟩, f0, f1, f2⟩ := R0
  clear x0 x1 x2 x3 x4 x5 x6 x7
  go_wp2_with fail
  simp [bodyPost, results, Try.results58, go_sem, *]
  repeat (first | exact Below.refl _ _ | refine bl_alloc ?_ _ | refine Below.drew ?_ | refine bl_drewN ?_ _ | refine bl_set ?_ (by first | omega | (simp; done) | (simp; omega)) _ | refine bl_step ?_ (by assumption))
set_option maxRecDepth 100000 in
theorem rslide_bad2 (h v c r s sy sx t l b q k : Int) (hk : chk h v c = 0) (k1 : ¬ (1 ≤ k ∧ k ≤ 4096)) (w : World) :
    Calls Try.prog 58 #[shp h v c, win r s sy sx t l b q, .int .i64 k] w fun e w' => e = .returned (sle 0 0 0 30) ∧ Below w.heap.size w w' := by
  have HC := rcheck_any h v c
  rw [hk] at HC
  go_enter Try.func58, Try.ntmps58
  go_wp2_with fail
  refine gen_calls (fun W => Below w.heap.size w W ∧ Wn W (w.heap.size + 1) 0 r s sy sx t l b q ∧ Rz W (w.heap.size + 1 + 1)) ⟨by repeat (first | exact Below.refl _ _ | refine bl_alloc ?_ _ | refine Below.drew ?_ | refine bl_drewN ?_ _ | refine bl_set ?_ (by first | omega | (simp; done) | (simp; omega)) _ | refine bl_step ?_ (by assumption)), (wn_new' (by simp)).keep (bl_alloc (Below.refl _ _) _), rz_new (by simp)⟩ ?_
  rintro W ⟨B0, W0, R0⟩
  refine (HC W).mono ?_
  rintro e w1 ⟨rfl, hb1⟩
  replace R0 := R0.keep hb1
  replace W0 := W0.keep hb1
  replace B0 := bl_step B0 hb1
  clear hb1
  obtain ⟨x0, x1, x2, x3, x4, x5, x6, x7⟩ := W0
  obtain ⟨⟨r0, r1, r2⟩, f0, f1, f2⟩ := R0
  clear x0 x1 x2 x3 x4 x5 x6 x7
  go_wp2_with (first | (go_at_call 66; refine (in_yes _ _ _ (by omega) (by omega) _).mono ?_; rintro e w' ⟨rfl, hx⟩; subst w') | (go_at_call 66; refine (in_no _ _ _ (by omega) _).mono ?_; rintro e w' ⟨rfl, hx⟩; subst w'))
  simp [bodyPost, results, Try.results58, go_sem, *]
  repeat (first | exact Below.refl _ _ | refine bl_alloc ?_ _ | refine Below.drew ?_ | refine bl_drewN ?_ _ | refine bl_set ?_ (by first | omega | (simp; done) | (simp; omega)) _ | refine bl_step ?_ (by assumption))
set_option maxRecDepth 100000 in
theorem rslide_bad4 (h v c r s sy sx t l b q k : Int) (hk : chk h v c = 0) (k1 : 1 ≤ k ∧ k ≤ 4096) (hw : ¬ WOk r s sy sx t l b q) (w : World) :
    Calls Try.prog 58 #[shp h v c, win r s sy sx t l b q, .int .i64 k] w fun e w' => e = .returned (sle 0 0 0 56) ∧ Below w.heap.size w w' := by
  have HC := rcheck_any h v c
  rw [hk] at HC
  have HW := rwindow_any r s sy sx t l b q
  unfold wiE at HW
  rw [if_neg hw] at HW
  go_enter Try.func58, Try.ntmps58
  go_wp2_with fail
  refine gen_calls (fun W => Below w.heap.size w W ∧ Wn W (w.heap.size + 1) 0 r s sy sx t l b q ∧ Rz W (w.heap.size + 1 + 1)) ⟨by repeat (first | exact Below.refl _ _ | refine bl_alloc ?_ _ | refine Below.drew ?_ | refine bl_drewN ?_ _ | refine bl_set ?_ (by first | omega | (simp; done) | (simp; omega)) _ | refine bl_step ?_ (by assumption)), (wn_new' (by simp)).keep (bl_alloc (Below.refl _ _) _), rz_new (by simp)⟩ ?_
  rintro W ⟨B0, W0, R0⟩
  refine (HC W).mono ?_
  rintro e w1 ⟨rfl, hb1⟩
  replace R0 := R0.keep hb1
  replace W0 := W0.keep hb1
  replace B0 := bl_step B0 hb1
  clear hb1
  obtain ⟨x0, x1, x2, x3, x4, x5, x6, x7⟩ := W0
  obtain ⟨⟨r0, r1, r2⟩, f0, f1, f2⟩ := R0
  go_wp2_with (first | (go_at_call 66; refine (in_yes _ _ _ (by omega) (by omega) _).mono ?_; rintro e w' ⟨rfl, hx⟩; subst w') | (go_at_call 66; refine (in_no _ _ _ (by omega) _).mono ?_; rintro e w' ⟨rfl, hx⟩; subst w'))
  refine (HW w1).mono ?_
  rintro e w2 ⟨rfl, hb2⟩
  have R0 : Rz w1 (w.heap.size + 1 + 1) := ⟨⟨r0, r1, r2⟩, f0, f1, f2⟩
  replace R0 := R0.keep hb2
  replace B0 := bl_step B0 hb2
  clear hb2 x0 x1 x2 x3 x4 x5 x6 x7 r0 r1 r2 f0 f1 f2
  obtain ⟨⟨r0, r1, r2⟩, f0, f1, f2⟩ := R0
  go_wp2_with fail
  simp [bodyPost, results, Try.results58, go_sem, *]
  repeat (first | exact Below.refl _ _ | refine bl_alloc ?_ _ | refine Below.drew ?_ | refine bl_drewN ?_ _ | refine bl_set ?_ (by first | omega | (simp; done) | (simp; omega)) _ | refine bl_step ?_ (by assumption))
set_option maxHeartbeats 1600000 in
set_option maxRecDepth 100000 in
theorem rslide_good (h v c r s sy sx t l b q k OH OW : Int) (hk : chk h v c = 0) (k1 : 1 ≤ k ∧ k ≤ 4096) (hw : WOk r s sy sx t l b q) (eh : stN h t b r sy = OH) (ew : stN v l q s sx = OW) (ans : Value)
    (A0 : OH = 0 → ans = sle 0 0 0 32) (A1 : ¬ OH = 0 → OW = 0 → ans = sle 0 0 0 32) (A2 : ¬ OH = 0 → ¬ OW = 0 → chk OH OW k ≠ 0 → ans = sle 0 0 0 (chk OH OW k)) (A3 : ¬ OH = 0 → ¬ OW = 0 → chk OH OW k = 0 → ans = sle OH OW k 0) (w : World) :
    Calls Try.prog 58 #[shp h v c, win r s sy sx t l b q, .int .i64 k] w fun e w' => e = .returned ans ∧ Below w.heap.size w w' := by
  have HC := rcheck_any h v c
  rw [hk] at HC
  have HW := rwindow_any r s sy sx t l b q
  unfold wiE at HW
  rw [if_pos hw] at HW
  have hs := (chk_zero hk).1
  have s1 := hs.1; have s2 := hs.2.1
  obtain ⟨v1, v2, v3, v4⟩ := hw.1
  obtain ⟨v5, v6, v7, v8⟩ := hw.2
  have H1 := steps_any h t b r sy (IntKind.i64.wrap (IntKind.i64.wrap (h + t) + b)) OH hs.1 hw.1 (by rw [wi_id (x := h + t) (by omega) (by omega), wi_id (by omega) (by omega)]) eh
  have H2 := steps_any v l q s sx (IntKind.i64.wrap (IntKind.i64.wrap (v + l) + q)) OW hs.2.1 hw.2 (by rw [wi_id (x := v + l) (by omega) (by omega), wi_id (by omega) (by omega)]) ew
  have HO := rcheck_any OH OW k
  clear hs hw eh ew hk s1 s2 v1 v2 v3 v4 v5 v6 v7 v8
  have AA := hid1 (And.intro A0 (And.intro A1 (And.intro A2 A3)))
  clear A0 A1 A2 A3
  go_enter Try.func58, Try.ntmps58
  go_wp2_with fail
  refine gen_calls (fun W => Below w.heap.size w W ∧ Sh W w.heap.size 0 h v c ∧ Wn W (w.heap.size + 1) 0 r s sy sx t l b q ∧ Rz W (w.heap.size + 1 + 1)) ⟨by repeat (first | exact Below.refl _ _ | refine bl_alloc ?_ _ | refine Below.drew ?_ | refine bl_drewN ?_ _ | refine bl_set ?_ (by first | omega | (simp; done) | (simp; omega)) _ | refine bl_step ?_ (by assumption)), (sh_new' rfl).keep (bl_alloc (bl_alloc (Below.refl _ _) _) _), (wn_new' (by simp)).keep (bl_alloc (Below.refl _ _) _), rz_new (by simp)⟩ ?_
  rintro W ⟨B0, S0, W0, R0⟩
  refine (HC W).mono ?_
  rintro e w1 ⟨rfl, hb1⟩
  replace S0 := S0.keep hb1
  replace R0 := R0.keep hb1
  replace W0 := W0.keep hb1
  replace B0 := bl_step B0 hb1
  clear hb1 HC W
  have Z := W0
  obtain ⟨x0, x1, x2, x3, x4, x5, x6, x7⟩ := Z
  go_wp2_with (first | (go_at_call 66; refine (in_yes _ _ _ (by omega) (by omega) _).mono ?_; rintro e w' ⟨rfl, hx⟩; subst w') | (go_at_call 66; refine (in_no _ _ _ (by omega) _).mono ?_; rintro e w' ⟨rfl, hx⟩; subst w'))
  refine (HW w1).mono ?_
  rintro e W2 ⟨rfl, hb2⟩
  clear x0 x1 x2 x3 x4 x5 x6 x7
  replace S0 := S0.keep hb2
  replace R0 := R0.keep hb2
  replace W0 := W0.keep hb2
  replace B0 := bl_step B0 hb2
  clear hb2 HW
  have SS := hid1 S0
  have WW := hid1 W0
  have RR := hid1 R0
  obtain ⟨x0, x1, x2, x3, x4, x5, x6, x7⟩ := W0
  obtain ⟨y0, y1, y2⟩ := S0
  have zr := (World.block_lt_of_cell? W2 ⟨w.heap.size + 1 + 1, 0, none⟩ R0.1.1)
  go_wp2_with fail
  go_region_held3 (fun X => X.cell? ⟨w.heap.size, 0, none⟩ = some (.int .i64 h) ∧ X.cell? ⟨w.heap.size, 1, none⟩ = some (.int .i64 v) ∧ X.cell? ⟨w.heap.size, 2, none⟩ = some (.int .i64 c) ∧ X.cell? ⟨w.heap.size + 1, 0, none⟩ = some (.int .i64 r) ∧ X.cell? ⟨w.heap.size + 1, 1, none⟩ = some (.int .i64 s) ∧ X.cell? ⟨w.heap.size + 1, 2, none⟩ = some (.int .i64 sy) ∧ X.cell? ⟨w.heap.size + 1, 3, none⟩ = some (.int .i64 sx) ∧ X.cell? ⟨w.heap.size + 1, 4, none⟩ = some (.int .i64 t) ∧ X.cell? ⟨w.heap.size + 1, 5, none⟩ = some (.int .i64 l) ∧ X.cell? ⟨w.heap.size + 1, 6, none⟩ = some (.int .i64 b) ∧ X.cell? ⟨w.heap.size + 1, 7, none⟩ = some (.int .i64 q)) (((try dsimp only); refine sw_keep SS.out WW.out ?_; repeat (first | exact Below.refl _ _ | refine bl_alloc ?_ _ | refine Below.drew ?_ | refine bl_drewN ?_ _ | refine bl_set ?_ (by first | omega | (simp; done) | (simp; omega)) _ | refine bl_step ?_ (by assumption))))
    (first
      | (go_at_call 68; (with_reducible refine (H1 _).mono ?_); rintro e w3 ⟨rfl, hx⟩; subst w3)
      | (go_at_call 68; (with_reducible refine (H2 _).mono ?_); rintro e w4 ⟨rfl, hx⟩; subst w4))
  all_goals (
    first
      | refine gen_then (fun X => Below w.heap.size w X ∧ Sh X W2.heap.size 0 OH OW k ∧ Rz X (w.heap.size + 1 + 1)) ⟨by repeat (first | exact Below.refl _ _ | refine bl_alloc ?_ _ | refine Below.drew ?_ | refine bl_drewN ?_ _ | refine bl_set ?_ (by first | omega | (simp; done) | (simp; omega)) _ | refine bl_step ?_ (by assumption)), sh_new' rfl, RR.out.keep (by repeat (first | exact Below.refl _ _ | refine bl_alloc ?_ _ | refine Below.drew ?_ | refine bl_drewN ?_ _ | refine bl_set ?_ (by first | omega | (simp; done) | (simp; omega)) _ | refine bl_step ?_ (by assumption)))⟩ ?_
      | refine gen_then (fun X => Below w.heap.size w X ∧ Sh X W2.heap.size 0 OH OW k ∧ Rz X (w.heap.size + 1 + 1)) ⟨by repeat (first | exact Below.refl _ _ | refine bl_alloc ?_ _ | refine Below.drew ?_ | refine bl_drewN ?_ _ | refine bl_set ?_ (by first | omega | (simp; done) | (simp; omega)) _ | refine bl_step ?_ (by assumption)), sh_set (sh_new' rfl), RR.out.keep (by repeat (first | exact Below.refl _ _ | refine bl_alloc ?_ _ | refine Below.drew ?_ | refine bl_drewN ?_ _ | refine bl_set ?_ (by first | omega | (simp; done) | (simp; omega)) _ | refine bl_step ?_ (by assumption)))⟩ ?_
    rintro X ⟨BX, ⟨q0, q1, q2⟩, ⟨⟨r0, r1, r2⟩, f0, f1, f2⟩⟩
    clear x0 x1 x2 x3 x4 x5 x6 x7 y0 y1 y2 SS WW RR R0 B0 H1 H2
    generalize W2.heap.size = G at *
    obtain ⟨A0, A1, A2, A3⟩ := AA.out
    by_cases hm : OH = 0
    · obtain rfl := A0 hm
      subst hm
      clear A0 A1 A2 A3 AA HO
      obtain ⟨u0, u1, u2⟩ := sh_set (a := 0) (b := 0) (c := 0) (Sh.intro r0 r1 r2)
      simp only [Nat.zero_add] at u1 u2
      go_wp2_with fail
      simp [bodyPost, results, Try.results58, go_sem, u0, u1, u2]
      repeat (first | exact Below.refl _ _ | refine bl_alloc ?_ _ | refine Below.drew ?_ | refine bl_drewN ?_ _ | refine bl_set ?_ (by first | omega | (simp; done) | (simp; omega)) _ | refine bl_step ?_ (by assumption))
    · replace A1 := A1 hm
      replace A2 := A2 hm
      replace A3 := A3 hm
      clear A0 AA
      by_cases hn : OW = 0
      · obtain rfl := A1 hn
        subst hn
        clear A1 A2 A3 HO
        obtain ⟨u0, u1, u2⟩ := sh_set (a := 0) (b := 0) (c := 0) (Sh.intro r0 r1 r2)
        simp only [Nat.zero_add] at u1 u2
        go_wp2_with fail
        simp [bodyPost, results, Try.results58, go_sem, u0, u1, u2]
        repeat (first | exact Below.refl _ _ | refine bl_alloc ?_ _ | refine Below.drew ?_ | refine bl_drewN ?_ _ | refine bl_set ?_ (by first | omega | (simp; done) | (simp; omega)) _ | refine bl_step ?_ (by assumption))
      · have AB := hid1 (And.intro (A2 hn) (A3 hn))
        clear A1 A2 A3
        have bm : (OH == 0) = false := by simpa using hm
        have bn : (OW == 0) = false := by simpa using hn
        go_wp2_with fail
        refine (HO X).mono ?_
        rintro e w7 ⟨rfl, hb7⟩
        obtain ⟨q0, q1, q2⟩ := (Sh.intro q0 q1 q2).keep hb7
        have RX : Rz X (w.heap.size + 1 + 1) := ⟨Sh.intro r0 r1 r2, f0, f1, f2⟩
        replace RX := RX.keep hb7
        clear r0 r1 r2 f0 f1 f2
        obtain ⟨⟨r0, r1, r2⟩, f0, f1, f2⟩ := RX
        obtain ⟨A2, A3⟩ := AB.out
        clear AB
        by_cases hc : chk OH OW k = 0
        · obtain rfl := A3 hc
          rw [hc]
          clear A2 A3
          obtain ⟨u0, u1, u2⟩ := sh_set (a := OH) (b := OW) (c := k) (Sh.intro r0 r1 r2)
          simp only [Nat.zero_add] at u1 u2
          go_wp2_with fail
          simp [bodyPost, results, Try.results58, go_sem, u0, u1, u2]
          repeat (first | exact Below.refl _ _ | refine bl_alloc ?_ _ | refine Below.drew ?_ | refine bl_drewN ?_ _ | refine bl_set ?_ (by first | omega | (simp; done) | (simp; omega)) _ | refine bl_step ?_ (by assumption))
        · obtain rfl := A2 hc
          clear A2 A3
          obtain ⟨E, hE⟩ : ∃ E, chk OH OW k = E := ⟨_, rfl⟩
          rw [hE] at hc ⊢
          obtain ⟨u0, u1, u2⟩ := sh_set (a := 0) (b := 0) (c := 0) (Sh.intro r0 r1 r2)
          simp only [Nat.zero_add] at u1 u2
          go_wp2_with fail
          simp [bodyPost, results, Try.results58, go_sem, u0, u1, u2, hE]
          repeat (first | exact Below.refl _ _ | refine bl_alloc ?_ _ | refine Below.drew ?_ | refine bl_drewN ?_ _ | refine bl_set ?_ (by first | omega | (simp; done) | (simp; omega)) _ | refine bl_step ?_ (by assumption)))
theorem rslide_any (h v c r s sy sx t l b q k : Int) (w : World) :
    Calls Try.prog 58 #[shp h v c, win r s sy sx t l b q, .int .i64 k] w fun e w' => e = .returned (slV h v c r s sy sx t l b q k) ∧ Below w.heap.size w w' := by
  have key : ∀ E, slE h v c r s sy sx t l b q k = E → E ≠ 0 → slV h v c r s sy sx t l b q k = sle 0 0 0 E := by
    intro E h1 h2
    unfold slV
    rw [h1, if_neg h2]
  by_cases hk : chk h v c = 0
  · have e1 : slE h v c r s sy sx t l b q k = if k < 1 ∨ k > 4096 then 30 else if ¬ WOk r s sy sx t l b q then 56 else
      if mn2 (stN h t b r sy) (stN v l q s sx) = 0 then 32 else chk (stN h t b r sy) (stN v l q s sx) k := by
      unfold slE; rw [if_neg (fun h => h hk)]
    by_cases k1 : 1 ≤ k ∧ k ≤ 4096
    · rw [if_neg (by omega)] at e1
      by_cases hw : WOk r s sy sx t l b q
      · rw [if_neg (fun x => x hw)] at e1
        have hs := (chk_zero hk).1
        have b1 := (stN_b h t b r sy hs.1 hw.1).1
        have b2 := (stN_b v l q s sx hs.2.1 hw.2).1
        have hm := mn2_is (stN h t b r sy) (stN v l q s sx)
        refine rslide_good h v c r s sy sx t l b q k _ _ hk k1 hw rfl rfl _ (fun h0 => ?_) (fun h0 h1 => ?_) (fun h0 h1 hc => ?_) (fun h0 h1 hc => ?_) w
        · rw [if_pos (by omega)] at e1; exact key 32 e1 (by decide)
        · rw [if_pos (by omega)] at e1; exact key 32 e1 (by decide)
        · rw [if_neg (by omega)] at e1; exact key _ e1 hc
        · rw [if_neg (by omega), hc] at e1; unfold slV; rw [if_pos e1]
      · rw [key 56 (by rw [e1, if_pos hw]) (by decide)]; exact rslide_bad4 h v c r s sy sx t l b q k hk k1 hw w
    · rw [key 30 (by rw [e1, if_pos (by omega)]) (by decide)]; exact rslide_bad2 h v c r s sy sx t l b q k hk k1 w
  · have e1 : slE h v c r s sy sx t l b q k = chk h v c := by unfold slE; rw [if_pos hk]
    rw [key _ e1 hk]; exact rslide_bad1 h v c r s sy sx t l b q k hk w
end Go.Proofs.Ytlghmojjcfjibaa.Sg
