/- NETWORKS: WEIGHTS, NORMS, BIASES. -/
import Derived.Test.YtlgjoepeibodkaaGreatNQ5
import Derived.Test.YtlgjoepeibodkaaGreatNQ3
namespace Go.Proofs.YtlgjoepeibodkaaGreat.Nn
open Go.RowKit

/-- The weights lie in memory. -/
def Wts (W : World) (L : Ly) : Prop := ∀ j, j < L.mw → ∃ g o, L.aw = some ⟨g, o, none⟩ ∧ W.cell? ⟨g, o + j, none⟩ = some (.int .i8 (L.ws j))
def Nmo (W : World) (g o : Nat) (gn gd bn bd mn md sn sd : Int) : Prop := W.cell? ⟨g, o, none⟩ = some (.int .i64 gn) ∧ W.cell? ⟨g, o + 1, none⟩ = some (.int .i64 gd) ∧ W.cell? ⟨g, o + 2, none⟩ = some (.int .i64 bn) ∧ W.cell? ⟨g, o + 3, none⟩ = some (.int .i64 bd) ∧ W.cell? ⟨g, o + 4, none⟩ = some (.int .i64 mn) ∧ W.cell? ⟨g, o + 5, none⟩ = some (.int .i64 md) ∧ W.cell? ⟨g, o + 6, none⟩ = some (.int .i64 sn) ∧ W.cell? ⟨g, o + 7, none⟩ = some (.int .i64 sd)
def Nms (W : World) (L : Ly) : Prop := ∀ j, j < L.mn → ∃ g o, L.an = some ⟨g, o, none⟩ ∧ Nmo W g (o + j * 8) (L.ns j 0) (L.ns j 1) (L.ns j 2) (L.ns j 3) (L.ns j 4) (L.ns j 5) (L.ns j 6) (L.ns j 7)
def Bss (W : World) (L : Ly) : Prop := ∀ j, j < L.mb → ∃ g o, L.ab = some ⟨g, o, none⟩ ∧ W.cell? ⟨g, o + j, none⟩ = some (.int .i64 (L.bs j))
theorem Wts.keep {W w' : World} {L : Ly} (h : Wts W L) (hb : Below W.heap.size W w') : Wts w' L := fun j hj => by
  obtain ⟨g, o, e, a⟩ := h j hj
  exact ⟨g, o, e, keepc hb a⟩
theorem Nms.keep {W w' : World} {L : Ly} (h : Nms W L) (hb : Below W.heap.size W w') : Nms w' L := fun j hj => by
  obtain ⟨g, o, e, a, c, d, x, f, y, i, k⟩ := h j hj
  exact ⟨g, o, e, keepc hb a, keepc hb c, keepc hb d, keepc hb x, keepc hb f, keepc hb y, keepc hb i, keepc hb k⟩
theorem Bss.keep {W w' : World} {L : Ly} (h : Bss W L) (hb : Below W.heap.size W w') : Bss w' L := fun j hj => by
  obtain ⟨g, o, e, a⟩ := h j hj
  exact ⟨g, o, e, keepc hb a⟩
/-- All lists of a layer lie in memory; none is too long. -/
def Lst (W : World) (L : Ly) : Prop := Wts W L ∧ Nms W L ∧ Bss W L ∧ L.mw ≤ 9223372036854775807 ∧ L.mn ≤ 9223372036854775807 ∧ L.mb ≤ 9223372036854775807
theorem Lst.keep {W w' : World} {L : Ly} (h : Lst W L) (hb : Below W.heap.size W w') : Lst w' L := ⟨h.1.keep hb, h.2.1.keep hb, h.2.2.1.keep hb, h.2.2.2⟩

def okW (wt x : Int) : Prop := (-1 ≤ x ∧ x ≤ 1) ∧ (x = 0 → wt ≠ 1)
instance (wt x : Int) : Decidable (okW wt x) := by unfold okW; infer_instance
def wsE (L : Ly) (S : Sp) : Int := if (L.mw : Int) = wc L S.h S.v S.c ∧ ∀ j, j < L.mw → okW L.wt (L.ws j) then 0 else 52
theorem wsE_cnt {L : Ly} {S : Sp} (h : ¬ (L.mw : Int) = wc L S.h S.v S.c) : wsE L S = 52 := if_neg fun k => h k.1
theorem wsE_no {L : Ly} {S : Sp} {k : Nat} (hk : k < L.mw) (h : ¬ okW L.wt (L.ws k)) : wsE L S = 52 := if_neg fun x => h (x.2 k hk)
theorem wsE_ok {L : Ly} {S : Sp} (h : (L.mw : Int) = wc L S.h S.v S.c) (h2 : ∀ j, j < L.mw → okW L.wt (L.ws j)) : wsE L S = 0 := if_pos ⟨h, h2⟩
set_option maxRecDepth 100000 in
theorem weights_any (L : Ly) (S : Sp) (hs : Sides S.h S.v S.c) (hf : Fok L) (hk : 0 ≤ L.k ∧ L.k ≤ 4096) (w : World) (hL : Lst w L) : Asks 67 L S (wsE L S) w := by
  unfold Asks
  have hb := wc_b hs hf hk
  have cA := fun Y d os => Calls.regrown_of (w := Y) (d := d) (os := os) (weightCount_any L S.h S.v S.c hs hf hk _)
  have HC := hid1 (fun h => wsE_cnt (L := L) (S := S) h)
  have HK := hid1 (fun h h2 => wsE_ok (L := L) (S := S) h h2)
  obtain ⟨f, hF⟩ : ∃ f, f = wc L S.h S.v S.c := ⟨_, rfl⟩
  rw [← hF] at hb cA HC HK
  have HL := hid1 hL
  have hm := hL.2.2.2.1
  clear hs hf hk hF hL
  by_cases hq : (L.mw : Int) = f
  · have hne : ((L.mw : Int) != f) = false := by simp [hq]
    have HQ := hid1 hq
    clear hq
    go_enter Tryz.func67, Tryz.ntmps67
    go_wp2_with fail
    refine gen_world (fun X => Below w.heap.size w X ∧ Lp X w.heap.size L ∧ So X (w.heap.size + 1) S) ⟨by repeat (first | (with_reducible exact Below.refl _ _) | (with_reducible refine bl_alloc ?_ _) | (with_reducible refine Below.drew ?_) | (with_reducible refine bl_drewN ?_ _) | (with_reducible refine bl_set ?_ (by omega) _) | (with_reducible refine bl_step ?_ (by assumption))), (lp_new _ _ _).keep (bl_alloc (Below.refl _ _) _), so_new (by simp) _ _⟩ ?_
    rintro Y ⟨BY, HLp, HSo⟩
    have KL := hid1 HLp
    obtain ⟨c0, c1, c2, c3, c4, c5, c6, c7, c8, c9, c10, c11, c12, c13, c14⟩ := HLp
    obtain ⟨s0, s1, s2, s3, s4, s5⟩ := HSo
    have k0 := cell_regrown c0; have k1 := cell_regrown c1; have k2 := cell_regrown c2; have k3 := cell_regrown c3; have k4 := cell_regrown c4; have k5 := cell_regrown c5; have k6 := cell_regrown c6; have k7 := cell_regrown c7; have k8 := cell_regrown c8; have k9 := cell_regrown c9; have k10 := cell_regrown c10; have k11 := cell_regrown c11; have k12 := cell_regrown c12; have k13 := cell_regrown c13; have k14 := cell_regrown c14
    have j0 := cell_regrown s0; have j1 := cell_regrown s1; have j2 := cell_regrown s2; have j3 := cell_regrown s3
    replace cA := cA Y
    refine wp_region_quiet_below (by kernel_rfl) (by kernel_rfl) ?_
    repeat (any_goals (first | go_big_quiet_step ((go_at_call 46; exact cA _ _)) | quiet_step ((go_at_call 46; exact cA _ _))))
    refine wpQuiet_nil ?_
    intro _ hw'
    obtain ⟨⟨dq, osq⟩, hw''⟩ := hw'
    subst hw''
    clear c0 c1 c2 c3 c4 c5 c6 c7 c8 c9 c10 c11 c12 c13 c14 s0 s1 s2 s3 s4 s5 k0 k1 k2 k3 k4 k5 k6 k7 k8 k9 k10 k11 k12 k13 k14 j0 j1 j2 j3 cA
    refine gen_then (fun X => Below w.heap.size w X ∧ Lp X w.heap.size L) ⟨bl_step BY (below_regrown Y dq osq), KL.out.keep (below_regrown Y dq osq)⟩ ?_
    rintro Z ⟨BZ, LZ⟩
    have HW := hid1 (HL.out.1.keep BZ)
    have HB := hid1 BZ
    obtain ⟨c0, c1, c2, c3, c4, c5, c6, c7, c8, c9, c10, c11, c12, c13, c14⟩ := LZ
    clear KL BY BZ HC HL dq osq Y c0 c2 c3 c4 c5 c6 c7 c8 c9 c10 c11 c13 c14
    go_wp2_with fail
    go_loop [18] (fun i => ∃ k : Nat, k ≤ L.mw ∧ i = .int .i64 k ∧ Hid (∀ j, j < k → okW L.wt (L.ws j))) (fun i => L.mw - (intOf i).toNat)
    case atStart => exact ⟨0, Nat.zero_le _, rfl, hid1 fun j hj => absurd hj (by omega)⟩
    case round =>
      obtain ⟨k, hk, rfl, HA⟩ := hrel
      have ik0 : (0 : Int) ≤ (k : Int) := by omega
      by_cases hlt : k < L.mw
      · have ik : (k : Int) < (L.mw : Int) := by omega
        obtain ⟨g, o, ea, hc⟩ := HW.out k hlt
        have HN := hid1 (fun h => wsE_no (L := L) (S := S) hlt h)
        have HY := hid1 (fun (h : okW L.wt (L.ws k)) => (show ∀ j, j < k + 1 → okW L.wt (L.ws j) from fun j hj => by
          by_cases e : j = k
          · rw [e]; exact h
          · exact HA.out j (by omega)))
        generalize L.ws k = x at hc HN HY
        have hcs : x < -1 ∨ (¬ x < -1 ∧ 1 < x) ∨ (¬ x < -1 ∧ ¬ 1 < x ∧ x ≠ 0) ∨ (x = 0 ∧ L.wt = 1) ∨ (x = 0 ∧ L.wt ≠ 1) := by omega
        rcases hcs with h1 | ⟨h1, h2⟩ | ⟨h1, h2, h3⟩ | ⟨h1, h2⟩ | ⟨h1, h2⟩
        · go_wp2_with fail
          go_ret
          exact ⟨by rw [HN.out (fun h => by have := h.1; omega)]; rfl, HB.out⟩
        · go_wp2_with fail
          go_ret
          exact ⟨by rw [HN.out (fun h => by have := h.1; omega)]; rfl, HB.out⟩
        · have h4 : (x == 0) = false := by simpa using h3
          go_wp2_with fail
          go_round
          case rel => exact ⟨k + 1, by omega, by go_num, hid1 (HY.out ⟨by omega, fun h => absurd h h3⟩)⟩
          case measure => simp [intOf]; omega
        · subst h1
          go_wp2_with fail
          go_ret
          exact ⟨by rw [HN.out (fun h => h.2 rfl h2)]; rfl, HB.out⟩
        · subst h1
          have h4 : (L.wt == 1) = false := by simpa using h2
          go_wp2_with fail
          go_round
          case rel => exact ⟨k + 1, by omega, by go_num, hid1 (HY.out ⟨by omega, fun _ => h2⟩)⟩
          case measure => simp [intOf]; omega
      · have : k = L.mw := by omega
        subst this
        go_wp2_with fail
        go_ret
        exact ⟨by rw [HK.out HQ.out HA.out]; rfl, HB.out⟩
  · have hne : ((L.mw : Int) != f) = true := by simp [hq]
    have HQ := hid1 hq
    clear hq
    go_enter Tryz.func67, Tryz.ntmps67
    go_wp2_with fail
    refine gen_world (fun X => Below w.heap.size w X ∧ Lp X w.heap.size L ∧ So X (w.heap.size + 1) S) ⟨by repeat (first | (with_reducible exact Below.refl _ _) | (with_reducible refine bl_alloc ?_ _) | (with_reducible refine Below.drew ?_) | (with_reducible refine bl_drewN ?_ _) | (with_reducible refine bl_set ?_ (by omega) _) | (with_reducible refine bl_step ?_ (by assumption))), (lp_new _ _ _).keep (bl_alloc (Below.refl _ _) _), so_new (by simp) _ _⟩ ?_
    rintro Y ⟨BY, HLp, HSo⟩
    have KL := hid1 HLp
    obtain ⟨c0, c1, c2, c3, c4, c5, c6, c7, c8, c9, c10, c11, c12, c13, c14⟩ := HLp
    obtain ⟨s0, s1, s2, s3, s4, s5⟩ := HSo
    have k0 := cell_regrown c0; have k1 := cell_regrown c1; have k2 := cell_regrown c2; have k3 := cell_regrown c3; have k4 := cell_regrown c4; have k5 := cell_regrown c5; have k6 := cell_regrown c6; have k7 := cell_regrown c7; have k8 := cell_regrown c8; have k9 := cell_regrown c9; have k10 := cell_regrown c10; have k11 := cell_regrown c11; have k12 := cell_regrown c12; have k13 := cell_regrown c13; have k14 := cell_regrown c14
    have j0 := cell_regrown s0; have j1 := cell_regrown s1; have j2 := cell_regrown s2; have j3 := cell_regrown s3
    replace cA := cA Y
    refine wp_region_quiet_below (by kernel_rfl) (by kernel_rfl) ?_
    repeat (any_goals (first | go_big_quiet_step ((go_at_call 46; exact cA _ _)) | quiet_step ((go_at_call 46; exact cA _ _))))
    refine wpQuiet_nil ?_
    intro _ hw'
    obtain ⟨⟨dq, osq⟩, hw''⟩ := hw'
    subst hw''
    clear c0 c1 c2 c3 c4 c5 c6 c7 c8 c9 c10 c11 c12 c13 c14 s0 s1 s2 s3 s4 s5 k0 k1 k2 k3 k4 k5 k6 k7 k8 k9 k10 k11 k12 k13 k14 j0 j1 j2 j3 cA
    go_wp2_with fail
    go_ret
    exact ⟨by rw [HC.out HQ.out]; rfl, bl_step BY (below_regrown Y dq osq)⟩
end Go.Proofs.YtlgjoepeibodkaaGreat.Nn
