/- LISTS OF PAIRS OF NUMBERS; FoldTrims, WALKED. -/
import Derived.Test.YtffhbfdbahdhoaaHR1
namespace Go.Proofs.Ytffhbfdbahdhoaa
open Go.RowKit Go.Shelf Wd
attribute [local go_sem ↓] Go.wp_at_zero Go.wp_at_succ

/-- A list of structs of two numbers. -/
def Lp2 (W : World) (ao : Option Addr) (m : Nat) : Prop := ∀ k, k < m → ∃ (g o : Nat) (x y : Int), ao = some ⟨g, o, none⟩ ∧ W.cell? ⟨g, o + k * 2, none⟩ = some (.int .i64 x) ∧ W.cell? ⟨g, o + k * 2 + 1, none⟩ = some (.int .i64 y)
theorem Lp2.keep {W w' : World} {ao : Option Addr} {m : Nat} (h : Lp2 W ao m) (hb : Below W.heap.size W w') : Lp2 w' ao m := fun k hk => by
  obtain ⟨g, o, x, y, e, a, b⟩ := h k hk
  exact ⟨g, o, x, y, e, keepc hb a, keepc hb b⟩
/-- A list of numbers; a list of norms. -/
def Ln1 (W : World) (ao : Option Addr) (m : Nat) : Prop := ∀ k, k < m → ∃ (g o : Nat) (x : Int), ao = some ⟨g, o, none⟩ ∧ W.cell? ⟨g, o + k, none⟩ = some (.int .i64 x)
theorem Ln1.keep {W w' : World} {ao : Option Addr} {m : Nat} (h : Ln1 W ao m) (hb : Below W.heap.size W w') : Ln1 w' ao m := fun k hk => by
  obtain ⟨g, o, x, e, a⟩ := h k hk
  exact ⟨g, o, x, e, keepc hb a⟩
def N8 (w : World) (b o : Nat) (gn gd bn bd mn md sn sd : Int) : Prop :=
  w.cell? ⟨b, o, none⟩ = some (.int .i64 gn) ∧ w.cell? ⟨b, o + 1, none⟩ = some (.int .i64 gd) ∧ w.cell? ⟨b, o + 2, none⟩ = some (.int .i64 bn) ∧ w.cell? ⟨b, o + 3, none⟩ = some (.int .i64 bd) ∧
  w.cell? ⟨b, o + 4, none⟩ = some (.int .i64 mn) ∧ w.cell? ⟨b, o + 5, none⟩ = some (.int .i64 md) ∧ w.cell? ⟨b, o + 6, none⟩ = some (.int .i64 sn) ∧ w.cell? ⟨b, o + 7, none⟩ = some (.int .i64 sd)
theorem N8.keep {w w' : World} {b o : Nat} {gn gd bn bd mn md sn sd : Int} (h : N8 w b o gn gd bn bd mn md sn sd) (hb : Below w.heap.size w w') : N8 w' b o gn gd bn bd mn md sn sd := by
  obtain ⟨a, c, d, e, f, g, i, j⟩ := h
  exact ⟨keepc hb a, keepc hb c, keepc hb d, keepc hb e, keepc hb f, keepc hb g, keepc hb i, keepc hb j⟩
def Ln8 (W : World) (ao : Option Addr) (m : Nat) : Prop := ∀ k, k < m → ∃ (g o : Nat) (gn gd bn bd mn md sn sd : Int), ao = some ⟨g, o, none⟩ ∧ N8 W g (o + k * 8) gn gd bn bd mn md sn sd
theorem Ln8.keep {W w' : World} {ao : Option Addr} {m : Nat} (h : Ln8 W ao m) (hb : Below W.heap.size W w') : Ln8 w' ao m := fun k hk => by
  obtain ⟨g, o, a, b, c, d, e, f, i, j, h1, h2⟩ := h k hk
  exact ⟨g, o, a, b, c, d, e, f, i, j, h1, h2.keep hb⟩
theorem wz_new {W : World} {t : TypeId} {g : Nat} (hg : W.heap.size = g) : Wz (W.alloc (.cells #[.int .i64 0, .int .i64 0] t)) g := by
  subst hg
  exact ⟨by simp [go_sem], by simp [go_sem], by simp [go_sem], by simp [go_sem]⟩
theorem c2_new {W : World} {a b : Int} {t : TypeId} {g : Nat} (hg : W.heap.size = g) : C2 (W.alloc (.cells #[.int .i64 a, .int .i64 b] t)) g a b := by
  subst hg
  exact ⟨by simp [go_sem], by simp [go_sem]⟩
theorem c2_set {X : World} {g : Nat} {x y a b : Int} (h : C2 X g x y) : C2 ((X.setCell ⟨g, 0, none⟩ (.int .i64 a)).setCell ⟨g, 1, none⟩ (.int .i64 b)) g a b := by
  obtain ⟨h0, h1⟩ := h
  exact ⟨by simp [go_sem, *], by simp [go_sem, *]⟩
theorem kp4 {W w' : World} {g h o p q r : Nat} {a b c d : Value} (hb : Below W.heap.size W w') (h0 : W.cell? ⟨g, o, none⟩ = some a) (h1 : W.cell? ⟨g, p, none⟩ = some b) (h2 : W.cell? ⟨h, q, none⟩ = some c) (h3 : W.cell? ⟨h, r, none⟩ = some d) :
    w'.cell? ⟨g, o, none⟩ = some a ∧ w'.cell? ⟨g, p, none⟩ = some b ∧ w'.cell? ⟨h, q, none⟩ = some c ∧ w'.cell? ⟨h, r, none⟩ = some d := ⟨keepc hb h0, keepc hb h1, keepc hb h2, keepc hb h3⟩
set_option maxHeartbeats 1600000 in
set_option maxRecDepth 100000 in
theorem foldTrims_any (ao : Option Addr) (m0 cm : Nat) (hm : m0 ≤ 9223372036854775807) (bo : Option Addr) (n0 cn : Nat) (hn : n0 ≤ 9223372036854775807) (w : World) (L1 : Lp2 w ao m0) (L2 : Lp2 w bo n0) :
    Calls Try.prog 7 #[.slice ao m0 cm, .slice bo n0 cn] w fun e w' => e = .returned (.bool true) ∧ Below w.heap.size w w' := by
  have H1 := hid1 L1
  have H2 := hid1 L2
  clear L1 L2
  go_enter Try.func7, Try.ntmps7
  go_wp2_with fail
  refine (obegun_any _).mono ?_
  rintro e w1 ⟨rfl, hb1⟩
  go_wp2_with fail
  go_loopw [6] (fun i wr => ∃ k : Nat, k ≤ m0 ∧ i = .int .i64 k ∧ Below w.heap.size w wr) (fun i _ => m0 - (intOf i).toNat)
  case atStart => exact ⟨0, Nat.zero_le _, rfl, hb1⟩
  case round =>
    clear hb1
    obtain ⟨i, hi, rfl, hnx⟩ := hrel
    have ii0 : (0 : Int) ≤ (i : Int) := by omega
    by_cases hli : i < m0
    · have ii : (i : Int) < (m0 : Int) := by omega
      go_wp2_with fail
      go_loopw [7] (fun q wr => ∃ k : Nat, k ≤ n0 ∧ q = .int .i64 k ∧ Below w.heap.size w wr) (fun q _ => n0 - (intOf q).toNat)
      case atStart => exact ⟨0, Nat.zero_le _, rfl, hnx⟩
      case round =>
        clear hnx
        obtain ⟨j, hj, rfl, hnx⟩ := hrel
        have jj0 : (0 : Int) ≤ (j : Int) := by omega
        by_cases hlj : j < n0
        · have jj : (j : Int) < (n0 : Int) := by omega
          obtain ⟨g, o, m, t, rfl, a0, a1⟩ := (H1.out.keep hnx) i hli
          obtain ⟨g', o', lo, hi, rfl, b0, b1⟩ := (H2.out.keep hnx) j hlj
          have HS := hid1 (trim_any m t lo hi)
          have HR := hid1 (rtrim_any m t lo hi)
          generalize trM m t lo hi = M at *
          generalize trT m t lo hi = T at *
          generalize trE m t lo hi = E at *
          have HN := hid1 hnx
          clear hnx
          go_upto_region 10 with fail
          go_cut [8, 9] (fun s t wx => ∃ Gx, s = .pointer (some ⟨Gx, 0, none⟩) ∧ t = .int .i64 E ∧ Hid (Below wr.heap.size wr wx) ∧ Hid (C2 wx Gx M T))
          case first =>
            have zw : wr.heap.size ≤ wr.heap.size := Nat.le_refl _
            go_region_held3 (fun X => X.cell? ⟨g, o + i * 2, none⟩ = some (.int .i64 m) ∧ X.cell? ⟨g, o + i * 2 + 1, none⟩ = some (.int .i64 t) ∧ X.cell? ⟨g', o' + j * 2, none⟩ = some (.int .i64 lo) ∧ X.cell? ⟨g', o' + j * 2 + 1, none⟩ = some (.int .i64 hi)) (((try dsimp only); refine kp4 (W := wr) ?_ a0 a1 b0 b1; repeat (first | (with_reducible exact Below.refl _ _) | (with_reducible refine bl_alloc ?_ _) | (with_reducible refine Below.drew ?_) | (with_reducible refine bl_drewN ?_ _) | (with_reducible refine bl_set ?_ (by first | omega | (simp; done) | (simp; omega)) _) | (with_reducible refine bl_step ?_ (by assumption)))))
              (first | (go_at_call 16; (with_reducible refine (HS.out _).mono ?_); rintro e x1 ⟨rfl, hx1⟩; have zx1 : wr.heap.size ≤ x1.heap.size := Nat.le_trans (by first | exact Nat.le_refl _ | simp) hx1.size; (first | (have N1 : Wz x1 wr.heap.size := Wz.keep (wz_new (W := wr.drew) rfl) hx1; obtain ⟨n0, n1, n2, n3⟩ := N1) | (have N1 : Wz x1 wr.heap.size := Wz.keep (wz_new (W := wr) rfl) hx1; obtain ⟨n0, n1, n2, n3⟩ := N1) | skip)))
            all_goals go_wp2_with fail
            all_goals go_meet
            · exact ⟨_, rfl, rfl, hid1 (by repeat (first | (with_reducible exact Below.refl _ _) | (with_reducible refine bl_alloc ?_ _) | (with_reducible refine Below.drew ?_) | (with_reducible refine bl_drewN ?_ _) | (with_reducible refine bl_set ?_ (by first | omega | (simp; done) | (simp; omega)) _) | (with_reducible refine bl_step ?_ (by assumption)))), hid1 (c2_new rfl)⟩
            · exact ⟨_, rfl, rfl, hid1 (by repeat (first | (with_reducible exact Below.refl _ _) | (with_reducible refine bl_alloc ?_ _) | (with_reducible refine Below.drew ?_) | (with_reducible refine bl_drewN ?_ _) | (with_reducible refine bl_set ?_ (by first | omega | (simp; done) | (simp; omega)) _) | (with_reducible refine bl_step ?_ (by assumption)))), hid1 (c2_set ⟨n0, n1⟩)⟩
          case rest =>
            obtain ⟨G, rfl, rfl, HB, HC⟩ := hcut
            obtain ⟨a0, a1, b0, b1⟩ := kp4 HB.out a0 a1 b0 b1
            replace HN := hid1 (bl_step HN.out HB.out)
            clear HB
            go_upto_region 11 with fail
            go_cut [10, 11] (fun s t wx => ∃ Gx, s = .pointer (some ⟨Gx, 0, none⟩) ∧ t = .int .i64 E ∧ Hid (Below wc.heap.size wc wx) ∧ Hid (C2 wx Gx M T))
            case first =>
              have zw : wc.heap.size ≤ wc.heap.size := Nat.le_refl _
              go_region_held3 (fun X => X.cell? ⟨g, o + i * 2, none⟩ = some (.int .i64 m) ∧ X.cell? ⟨g, o + i * 2 + 1, none⟩ = some (.int .i64 t) ∧ X.cell? ⟨g', o' + j * 2, none⟩ = some (.int .i64 lo) ∧ X.cell? ⟨g', o' + j * 2 + 1, none⟩ = some (.int .i64 hi)) (((try dsimp only); refine kp4 (W := wc) ?_ a0 a1 b0 b1; repeat (first | (with_reducible exact Below.refl _ _) | (with_reducible refine bl_alloc ?_ _) | (with_reducible refine Below.drew ?_) | (with_reducible refine bl_drewN ?_ _) | (with_reducible refine bl_set ?_ (by first | omega | (simp; done) | (simp; omega)) _) | (with_reducible refine bl_step ?_ (by assumption)))))
                (first | (go_at_call 20; (with_reducible refine (HR.out _).mono ?_); rintro e x1 ⟨rfl, hx1⟩; have zx1 : wc.heap.size ≤ x1.heap.size := Nat.le_trans (by first | exact Nat.le_refl _ | simp) hx1.size; (first | (have N1 : Wz x1 wc.heap.size := Wz.keep (wz_new (W := wc.drew) rfl) hx1; obtain ⟨n0, n1, n2, n3⟩ := N1) | (have N1 : Wz x1 wc.heap.size := Wz.keep (wz_new (W := wc) rfl) hx1; obtain ⟨n0, n1, n2, n3⟩ := N1) | skip)))
              all_goals go_wp2_with fail
              all_goals go_meet
              · exact ⟨_, rfl, rfl, hid1 (by repeat (first | (with_reducible exact Below.refl _ _) | (with_reducible refine bl_alloc ?_ _) | (with_reducible refine Below.drew ?_) | (with_reducible refine bl_drewN ?_ _) | (with_reducible refine bl_set ?_ (by first | omega | (simp; done) | (simp; omega)) _) | (with_reducible refine bl_step ?_ (by assumption)))), hid1 (c2_new rfl)⟩
              · exact ⟨_, rfl, rfl, hid1 (by repeat (first | (with_reducible exact Below.refl _ _) | (with_reducible refine bl_alloc ?_ _) | (with_reducible refine Below.drew ?_) | (with_reducible refine bl_drewN ?_ _) | (with_reducible refine bl_set ?_ (by first | omega | (simp; done) | (simp; omega)) _) | (with_reducible refine bl_step ?_ (by assumption)))), hid1 (c2_set ⟨n0, n1⟩)⟩
            case rest =>
              obtain ⟨G2, rfl, rfl, HB, HD⟩ := hcut
              replace HC := hid1 (HC.out.keep HB.out)
              have BY := bl_step HN.out HB.out
              obtain ⟨c0, c1⟩ := HC.out
              obtain ⟨d0, d1⟩ := HD.out
              clear HB HC HD HN a0 a1 b0 b1
              go_wp2_with fail
              exact ⟨⟨j + 1, by omega, by go_num, BY⟩, by simp [intOf]; omega⟩
        · go_wp2_with fail
          exact ⟨⟨i + 1, by omega, by go_num, hnx⟩, by simp [intOf]; omega⟩
    · go_wp2_with fail
      go_ret
      exact ⟨rfl, hnx⟩
end Go.Proofs.Ytffhbfdbahdhoaa
