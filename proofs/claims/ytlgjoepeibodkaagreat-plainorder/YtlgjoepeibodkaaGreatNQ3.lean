/- NETWORKS: WINDOWS AND SHAPES HELD AGAINST EACH OTHER. -/
import Derived.Test.YtlgjoepeibodkaaGreatNQ2
namespace Go.Proofs.YtlgjoepeibodkaaGreat.Nn
open Go.RowKit
set_option maxRecDepth 100000 in
theorem win_eql (a b c d e f g h a' b' c' d' e' f' g' h' : Int) (w : World) :
    (Op.equalIn 10000 33 (win a b c d e f g h) (win a' b' c' d' e' f' g' h')).run Tryz.prog w = .ok (decide (a = a' ∧ b = b' ∧ c = c' ∧ d = d' ∧ e = e' ∧ f = f' ∧ g = g' ∧ h = h')) w := by
  rw [run_equalIn_agg w 9999 _ _ _ (by kernel_rfl) (by kernel_rfl)]
  by_cases h1 : a = a'
  · subst h1
    by_cases h1 : b = b'
    · subst h1
      by_cases h1 : c = c'
      · subst h1
        by_cases h1 : d = d'
        · subst h1
          by_cases h1 : e = e'
          · subst h1
            by_cases h1 : f = f'
            · subst h1
              by_cases h1 : g = g'
              · subst h1
                by_cases h1 : h = h'
                · subst h1
                  simp [go_sem, Tryz.underlying33, Tryz.underlying3]
                · simp [go_sem, Tryz.underlying33, Tryz.underlying3, h1]
              · simp [go_sem, Tryz.underlying33, Tryz.underlying3, h1]
            · simp [go_sem, Tryz.underlying33, Tryz.underlying3, h1]
          · simp [go_sem, Tryz.underlying33, Tryz.underlying3, h1]
        · simp [go_sem, Tryz.underlying33, Tryz.underlying3, h1]
      · simp [go_sem, Tryz.underlying33, Tryz.underlying3, h1]
    · simp [go_sem, Tryz.underlying33, Tryz.underlying3, h1]
  · simp [go_sem, Tryz.underlying33, Tryz.underlying3, h1]
theorem shp_eql (a b c a' b' c' : Int) (w : World) :
    (Op.equalIn 10000 23 (shp a b c) (shp a' b' c')).run Tryz.prog w = .ok (decide (a = a' ∧ b = b' ∧ c = c')) w := by
  rw [run_equalIn_agg w 9999 _ _ _ (by kernel_rfl) (by kernel_rfl)]
  have hc : (¬ a = a') ∨ (a = a' ∧ ¬ b = b') ∨ (a = a' ∧ b = b' ∧ ¬ c = c') ∨ (a = a' ∧ b = b' ∧ c = c') := by omega
  rcases hc with h1 | ⟨rfl, h1⟩ | ⟨rfl, rfl, h1⟩ | ⟨rfl, rfl, rfl⟩ <;> simp [go_sem, Tryz.underlying23, Tryz.underlying3, *]
def nwE (L : Ly) : Int := if (L.r = 0 ∧ L.s = 0 ∧ L.sy = 0 ∧ L.sx = 0 ∧ L.t = 0 ∧ L.l = 0 ∧ L.b = 0 ∧ L.q = 0) ∧ L.bd = 0 then 0 else 51
theorem noWindow_any (L : Ly) (S : Sp) (w : World) : Asks 70 L S (nwE L) w := by
  unfold Asks nwE
  have we := fun w => win_eql L.r L.s L.sy L.sx L.t L.l L.b L.q 0 0 0 0 0 0 0 0 w
  by_cases hz : L.r = 0 ∧ L.s = 0 ∧ L.sy = 0 ∧ L.sx = 0 ∧ L.t = 0 ∧ L.l = 0 ∧ L.b = 0 ∧ L.q = 0
  · rw [decide_eq_true hz] at we
    have HZ := hid1 hz
    by_cases h0 : L.bd = 0
    · rw [if_pos ⟨hz, h0⟩]
      clear hz
      go_enter Tryz.func70, Tryz.ntmps70
      go_wp2_with (first | (go_at_call 83; refine (unless_any _ _ _).mono ?_; rintro e w2 ⟨rfl, rfl⟩))
      go_ret
      refine ⟨by first | rfl | simp [*], ?_⟩
      repeat (first | (with_reducible exact Below.refl _ _) | (with_reducible refine bl_alloc ?_ _) | (with_reducible refine Below.drew ?_) | (with_reducible refine bl_drewN ?_ _) | (with_reducible refine bl_set ?_ (by omega) _) | (with_reducible refine bl_step ?_ (by assumption)))
    · rw [if_neg (fun h => h0 h.2)]
      clear hz
      go_enter Tryz.func70, Tryz.ntmps70
      go_wp2_with (first | (go_at_call 83; refine (unless_any _ _ _).mono ?_; rintro e w2 ⟨rfl, rfl⟩))
      go_ret
      refine ⟨by first | rfl | simp [*], ?_⟩
      repeat (first | (with_reducible exact Below.refl _ _) | (with_reducible refine bl_alloc ?_ _) | (with_reducible refine Below.drew ?_) | (with_reducible refine bl_drewN ?_ _) | (with_reducible refine bl_set ?_ (by omega) _) | (with_reducible refine bl_step ?_ (by assumption)))
  · rw [decide_eq_false hz] at we
    rw [if_neg (fun h => hz h.1)]
    clear hz
    go_enter Tryz.func70, Tryz.ntmps70
    go_wp2_with (first | (go_at_call 83; refine (unless_any _ _ _).mono ?_; rintro e w2 ⟨rfl, rfl⟩))
    go_ret
    refine ⟨by first | rfl | simp [*], ?_⟩
    repeat (first | (with_reducible exact Below.refl _ _) | (with_reducible refine bl_alloc ?_ _) | (with_reducible refine Below.drew ?_) | (with_reducible refine bl_drewN ?_ _) | (with_reducible refine bl_set ?_ (by omega) _) | (with_reducible refine bl_step ?_ (by assumption)))
def owE (L : Ly) : Int := if (L.k = 0 ∧ L.wt = 0 ∧ L.bd = 0) ∧ L.mw = 0 ∧ L.mn = 0 ∧ L.mb = 0 then 0 else 51
def OwC (i : Nat) (L : Ly) : Prop := match i with
  | 0 => L.k ≠ 0
  | 1 => L.k = 0 ∧ L.wt ≠ 0
  | 2 => L.k = 0 ∧ L.wt = 0 ∧ L.bd ≠ 0
  | _ => L.k = 0 ∧ L.wt = 0 ∧ L.bd = 0
theorem onlyWindow_0 (L : Ly) (S : Sp) (w : World) (hc : OwC 0 L) : Asks 73 L S (owE L) w := by
  unfold Asks owE
  unfold OwC at hc
  have hd : (L.mw ≠ 0) ∨ (L.mw = 0 ∧ L.mn ≠ 0) ∨ (L.mw = 0 ∧ L.mn = 0 ∧ L.mb ≠ 0) ∨ (L.mw = 0 ∧ L.mn = 0 ∧ L.mb = 0) := by omega
  obtain ⟨kd, wt, k, r, s, sy, sx, t, l, b, q, bd, aw, mw, cw, an, mn, cn, ab, mb, cb, ws, ns, bs⟩ := L
  simp only at hc hd ⊢
  obtain h1 := hc
  rcases hd with h2 | ⟨rfl, h2⟩ | ⟨rfl, rfl, h2⟩ | ⟨rfl, rfl, rfl⟩ <;>
  (go_enter Tryz.func73, Tryz.ntmps73
   go_wp2_with (go_at_call 83; refine (unless_any _ _ _).mono ?_; rintro e w2 ⟨rfl, rfl⟩)
   go_ret
   refine ⟨by first | rfl | simp [*], ?_⟩
   repeat (first | (with_reducible exact Below.refl _ _) | (with_reducible refine bl_alloc ?_ _) | (with_reducible refine Below.drew ?_) | (with_reducible refine bl_drewN ?_ _) | (with_reducible refine bl_set ?_ (by omega) _) | (with_reducible refine bl_step ?_ (by assumption))))
theorem onlyWindow_1 (L : Ly) (S : Sp) (w : World) (hc : OwC 1 L) : Asks 73 L S (owE L) w := by
  unfold Asks owE
  unfold OwC at hc
  have hd : (L.mw ≠ 0) ∨ (L.mw = 0 ∧ L.mn ≠ 0) ∨ (L.mw = 0 ∧ L.mn = 0 ∧ L.mb ≠ 0) ∨ (L.mw = 0 ∧ L.mn = 0 ∧ L.mb = 0) := by omega
  obtain ⟨kd, wt, k, r, s, sy, sx, t, l, b, q, bd, aw, mw, cw, an, mn, cn, ab, mb, cb, ws, ns, bs⟩ := L
  simp only at hc hd ⊢
  obtain ⟨rfl, h1⟩ := hc
  rcases hd with h2 | ⟨rfl, h2⟩ | ⟨rfl, rfl, h2⟩ | ⟨rfl, rfl, rfl⟩ <;>
  (go_enter Tryz.func73, Tryz.ntmps73
   go_wp2_with (go_at_call 83; refine (unless_any _ _ _).mono ?_; rintro e w2 ⟨rfl, rfl⟩)
   go_ret
   refine ⟨by first | rfl | simp [*], ?_⟩
   repeat (first | (with_reducible exact Below.refl _ _) | (with_reducible refine bl_alloc ?_ _) | (with_reducible refine Below.drew ?_) | (with_reducible refine bl_drewN ?_ _) | (with_reducible refine bl_set ?_ (by omega) _) | (with_reducible refine bl_step ?_ (by assumption))))
theorem onlyWindow_2 (L : Ly) (S : Sp) (w : World) (hc : OwC 2 L) : Asks 73 L S (owE L) w := by
  unfold Asks owE
  unfold OwC at hc
  have hd : (L.mw ≠ 0) ∨ (L.mw = 0 ∧ L.mn ≠ 0) ∨ (L.mw = 0 ∧ L.mn = 0 ∧ L.mb ≠ 0) ∨ (L.mw = 0 ∧ L.mn = 0 ∧ L.mb = 0) := by omega
  obtain ⟨kd, wt, k, r, s, sy, sx, t, l, b, q, bd, aw, mw, cw, an, mn, cn, ab, mb, cb, ws, ns, bs⟩ := L
  simp only at hc hd ⊢
  obtain ⟨rfl, rfl, h1⟩ := hc
  rcases hd with h2 | ⟨rfl, h2⟩ | ⟨rfl, rfl, h2⟩ | ⟨rfl, rfl, rfl⟩ <;>
  (go_enter Tryz.func73, Tryz.ntmps73
   go_wp2_with (go_at_call 83; refine (unless_any _ _ _).mono ?_; rintro e w2 ⟨rfl, rfl⟩)
   go_ret
   refine ⟨by first | rfl | simp [*], ?_⟩
   repeat (first | (with_reducible exact Below.refl _ _) | (with_reducible refine bl_alloc ?_ _) | (with_reducible refine Below.drew ?_) | (with_reducible refine bl_drewN ?_ _) | (with_reducible refine bl_set ?_ (by omega) _) | (with_reducible refine bl_step ?_ (by assumption))))
theorem onlyWindow_3 (L : Ly) (S : Sp) (w : World) (hc : OwC 3 L) : Asks 73 L S (owE L) w := by
  unfold Asks owE
  unfold OwC at hc
  have hd : (L.mw ≠ 0) ∨ (L.mw = 0 ∧ L.mn ≠ 0) ∨ (L.mw = 0 ∧ L.mn = 0 ∧ L.mb ≠ 0) ∨ (L.mw = 0 ∧ L.mn = 0 ∧ L.mb = 0) := by omega
  obtain ⟨kd, wt, k, r, s, sy, sx, t, l, b, q, bd, aw, mw, cw, an, mn, cn, ab, mb, cb, ws, ns, bs⟩ := L
  simp only at hc hd ⊢
  obtain ⟨rfl, rfl, rfl⟩ := hc
  rcases hd with h2 | ⟨rfl, h2⟩ | ⟨rfl, rfl, h2⟩ | ⟨rfl, rfl, rfl⟩ <;>
  (go_enter Tryz.func73, Tryz.ntmps73
   go_wp2_with (go_at_call 83; refine (unless_any _ _ _).mono ?_; rintro e w2 ⟨rfl, rfl⟩)
   go_ret
   refine ⟨by first | rfl | simp [*], ?_⟩
   repeat (first | (with_reducible exact Below.refl _ _) | (with_reducible refine bl_alloc ?_ _) | (with_reducible refine Below.drew ?_) | (with_reducible refine bl_drewN ?_ _) | (with_reducible refine bl_set ?_ (by omega) _) | (with_reducible refine bl_step ?_ (by assumption))))
theorem onlyWindow_any (L : Ly) (S : Sp) (w : World) : Asks 73 L S (owE L) w := by
  by_cases h1 : L.k = 0
  · by_cases h2 : L.wt = 0
    · by_cases h3 : L.bd = 0
      · exact onlyWindow_3 L S w ⟨h1, h2, h3⟩
      · exact onlyWindow_2 L S w ⟨h1, h2, h3⟩
    · exact onlyWindow_1 L S w ⟨h1, h2⟩
  · exact onlyWindow_0 L S w h1
end Go.Proofs.YtlgjoepeibodkaaGreat.Nn
