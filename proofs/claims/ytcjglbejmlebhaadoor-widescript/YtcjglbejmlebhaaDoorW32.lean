import Derived.Test.YtcjglbejmlebhaaDoorW31
namespace Go.Proofs.YtcjglbejmlebhaaDoor
open Go.RowKit Go.Shelf
attribute [local go_sem ↓] Go.wp_at_zero Go.wp_at_succ

theorem big_bd {m : Int} (h : -(65536 ^ 16 : Nat) < m ∧ m < (65536 ^ 16 : Nat)) : (m.natAbs : Int) < 65536 ^ 40 := by
  have h1 : (m.natAbs : Int) < ((65536 ^ 16 : Nat) : Int) := by
    generalize (65536 ^ 16 : Nat) = p at *
    omega
  exact Int.lt_of_lt_of_le h1 (by decide)

theorem kps {X : World} {g r : Nat} {u v p q : Value} (a : X.cell? ⟨g, 0, none⟩ = some u) (b : X.cell? ⟨g, 1, none⟩ = some v) (hne : g ≠ r) :
    ((X.setCell ⟨r, 0, none⟩ p).setCell ⟨r, 1, none⟩ q).cell? ⟨g, 0, none⟩ = some u ∧ ((X.setCell ⟨r, 0, none⟩ p).setCell ⟨r, 1, none⟩ q).cell? ⟨g, 1, none⟩ = some v := by
  refine ⟨?_, ?_⟩ <;> simp [go_sem, *]
theorem kpb {W w' : World} {g : Nat} {u v : Value} (hb : Below W.heap.size W w') (a : W.cell? ⟨g, 0, none⟩ = some u) (b : W.cell? ⟨g, 1, none⟩ = some v) : w'.cell? ⟨g, 0, none⟩ = some u ∧ w'.cell? ⟨g, 1, none⟩ = some v := ⟨keepc hb a, keepc hb b⟩
set_option maxHeartbeats 3200000 in
set_option maxRecDepth 100000 in
theorem rwide_neg (n : Int) (hn : Rng n) (h0 : n < 0) (w : World) :
    Calls Tryd.prog 24 #[wv n] w fun e w' => ∃ z, e = .returned z ∧ Bg w' z n ∧ Below w.heap.size w w' := by
  obtain ⟨i0, hi, hz0, hz1, hz2⟩ := info_parts info_int
  have a4 := (hi_neg n).2 h0
  obtain ⟨H, hH⟩ : ∃ H, IntKind.u64.wrap (hiOf n) = H := ⟨_, rfl⟩
  have eH : H = hiOf (n + 340282366920938463463374607431768211456) := hH.symm.trans (wrap_hi hn h0)
  have HU : Hid (U64 H) := hid1 (by rw [eH]; exact hi_u64 (siz_up hn h0))
  have HV : Hid (val (dgs (loOf n) 4 ++ dgs H 4) = ((n + 340282366920938463463374607431768211456).natAbs : Int)) := hid1 (by
    rw [wide_digits (lo_u64 n) HU.out, eH, lo_up n, hilo]
    have := (siz_up hn h0).1
    omega)
  have HS : Hid (n + 340282366920938463463374607431768211456 < 0 → false = true) := hid1 (fun h => by have := (siz_up hn h0).1; omega)
  have HM : Hid (((n + 340282366920938463463374607431768211456).natAbs : Int) < 65536 ^ 40) := hid1 (big_bd (by have := siz_up hn h0; unfold Siz at this; omega))
  clear eH
  go_enter Tryd.func24, Tryd.ntmps24
  go_wp2_with fail
  refine gen_calls (fun W' => Below w.heap.size w W' ∧ W'.cell? ⟨w.heap.size, 0, none⟩ = some (.int .i64 (hiOf n)) ∧ W'.cell? ⟨w.heap.size, 1, none⟩ = some (.int .u64 (loOf n)) ∧ W'.cell? ⟨w.heap.size + 1, 0, none⟩ = some (.bool false) ∧ W'.cell? ⟨w.heap.size + 1, 1, none⟩ = some (.slice none 0 0) ∧ W'.frozen? ⟨w.heap.size + 1, 0, none⟩ = false ∧ W'.frozen? ⟨w.heap.size + 1, 1, none⟩ = false) ⟨by repeat (first | exact Below.refl _ _ | refine bl_alloc ?_ _ | refine Below.drew ?_ | refine bl_drewN ?_ _ | refine bl_set ?_ (by omega) _ | refine bl_step ?_ (by assumption)), keepc (W := w.alloc _) (bl_alloc (Below.refl _ _) _) (new0' w _ _ _), keepc (W := w.alloc _) (bl_alloc (Below.refl _ _) _) (new1' w _ _ _), by simp, by simp, by simp, by simp⟩ ?_
  rintro W ⟨B, n0, n1, r0, r1, f0, f1⟩
  refine (digits_any (loOf n) (lo_u64 n) _).mono ?_
  rintro e w1 ⟨v1, rfl, o1, hb1⟩
  obtain ⟨ao1, cap1, rfl⟩ := own_form o1
  have hW0 := lt_of_cell r0
  have zr := hW0
  have n0 := keepc hb1 n0; have n1 := keepc hb1 n1; have r0 := keepc hb1 r0; have r1 := keepc hb1 r1; have f0 := keepf hb1 zr f0; have f1 := keepf hb1 zr f1
  have hB : Hid (Below w.heap.size w w1) := hid1 (bl_step B hb1)
  have hW1 := hb1.size
  have O1 := hid1 o1
  clear hb1 zr o1
  go_wp2_with fail
  refine (digits_any H HU.out _).mono ?_
  rintro e w2 ⟨v2, rfl, o2, hb2⟩
  obtain ⟨g2, cap2, rfl, c2⟩ := own_four o2
  have zr := lt_of_cell r0
  have n0 := keepc hb2 n0; have n1 := keepc hb2 n1; have r0 := keepc hb2 r0; have r1 := keepc hb2 r1; have f0 := keepf hb2 zr f0; have f1 := keepf hb2 zr f1
  have hB2 : Hid (Below w.heap.size w w2) := hid1 (bl_step hB.out hb2)
  have ho := own_below O1.out hb2
  have hW2 := hb2.size
  have C2 := hid1 c2
  have HO := hid1 ho
  clear hb2 zr o2 c2 hB O1
  go_wp2_with (first
    | (at_builtin; refine wpList_append_own _ rfl _ _ 42 rfl W.heap.size 3 i0 (.int .i64 0) 1 8 und_ints hi hz0 hz1 hz2 rfl (by decide) _ _ _ rfl ho ⟨g2, 0, none⟩ 4 cap2 (ivs (dgs H 4)) rfl (by rw [ivs_len, dgs_len]) C2.out (ivs_one _) (by unfold maxLen; omega) (by omega) (by omega) ?_; intro v' w3 hown' hgrow3 hnil3; obtain ⟨ao', cap', rfl⟩ := own_form hown'))
  have hne : ∀ b, b < w.heap.size + 2 → some b ≠ (Value.slice ao1 4 cap1).ownBlock := fun b hb e => by have := (HO.out.lt b e.symm).1; omega
  have g3 : w2.grownBy w3 (Value.slice ao1 4 cap1).ownBlock := hgrow3
  have zr := lt_of_cell r0
  have n0 := (grown_keep g3 (b := w.heap.size) (by omega) (hne _ (by omega)) 0).1.trans n0
  have r0 := (grown_keep g3 (b := w.heap.size + 1) (by omega) (hne _ (by omega)) 0).1.trans r0
  have r1 := (grown_keep g3 (b := w.heap.size + 1) (by omega) (hne _ (by omega)) 1).1.trans r1
  have f0 := (grown_keep g3 (b := w.heap.size + 1) (by omega) (hne _ (by omega)) 0).2.trans f0
  have f1 := (grown_keep g3 (b := w.heap.size + 1) (by omega) (hne _ (by omega)) 1).2.trans f1
  have hB3 : Hid (Below w.heap.size w w3) := hid1 (hB2.out.grown g3 (by omega) (fun q hq => by have := (HO.out.lt q hq).1; omega))
  have O3 : Hid (Rd w3 (.slice ao' 8 cap') (dgs (loOf n) 4 ++ dgs H 4)) := hid1 (Rd.own (base := W.heap.size) (n := 8) (by rw [ivs_app]; exact hown'))
  clear hnil3 hgrow3 hown' g3 hne zr ho HO hB2 C2
  refine (trim_num (n + 340282366920938463463374607431768211456) false _ (dgs (loOf n) 4 ++ dgs H 4) _ O3.out (wide_dg _ _) HV.out (fun _ => rfl) HS.out).mono ?_
  rintro e w4 ⟨y, s4, ao4, m4, cap4, rfl, rfl, hy, hb4⟩
  have HY := hid1 hy
  clear hy
  have zr := lt_of_cell r0
  have n0 := keepc hb4 n0; have r0 := keepc hb4 r0; have r1 := keepc hb4 r1; have f0 := keepf hb4 zr f0; have f1 := keepf hb4 zr f1
  have hB4 : Hid (Below w.heap.size w w4) := hid1 (bl_step hB3.out hb4)
  have zr := lt_of_cell r0
  clear hb4
  have z1 : w.heap.size < w4.heap.size := by omega
  have z2 : ¬ w.heap.size = w4.heap.size := by omega
  have z3 : ¬ w.heap.size + 1 = w4.heap.size := by omega
  have z4 : w.heap.size ≠ w4.heap.size := z2
  have z5 : w.heap.size + 1 ≠ w4.heap.size := z3
  go_wp2_with fail
  refine gen_world (fun W' => Below w.heap.size w W' ∧ W'.cell? ⟨w4.heap.size, 0, none⟩ = some (.bool s4) ∧ W'.cell? ⟨w4.heap.size, 1, none⟩ = some (.slice ao4 m4 cap4) ∧ W'.cell? ⟨w.heap.size + 1, 0, none⟩ = some (.bool false) ∧ W'.cell? ⟨w.heap.size + 1, 1, none⟩ = some (.slice none 0 0) ∧ W'.frozen? ⟨w.heap.size + 1, 0, none⟩ = false ∧ W'.frozen? ⟨w.heap.size + 1, 1, none⟩ = false ∧ Bg W' (.agg #[.bool s4, .slice ao4 m4 cap4]) (n + 340282366920938463463374607431768211456))
    ⟨bl_alloc hB4.out _, new0' w4 _ _ _, new1' w4 _ _ _, keepc (bl_alloc (Below.refl _ _) _) r0, keepc (bl_alloc (Below.refl _ _) _) r1, keepf (bl_alloc (Below.refl _ _) _) zr f0, keepf (bl_alloc (Below.refl _ _) _) zr f1, HY.out.below (bl_alloc (Below.refl _ _) _)⟩ ?_
  clear r0 r1 f0 f1 zr n0 n1
  rintro W5 ⟨B5, t0, t1, r0, r1, f0, f1, hY5⟩
  have HY5 := hid1 hY5
  clear hY5 HY hB4
  have zr := lt_of_cell r0
  have z5 := B5.size
  go_region_held3 (fun X => X.cell? ⟨w4.heap.size, 0, none⟩ = some (.bool s4) ∧ X.cell? ⟨w4.heap.size, 1, none⟩ = some (.slice ao4 m4 cap4)) (((try dsimp only); first | exact kpb (W := W5) hb t0 t1 | exact kps (keepc hb t0) (keepc hb t1) (by omega) | (refine kpb (W := W5) ?_ t0 t1; repeat (first | exact Below.refl _ _ | refine bl_alloc ?_ _ | refine Below.drew ?_ | refine bl_drewN ?_ _ | refine bl_set ?_ (by omega) _ | refine bl_step ?_ (by assumption)))))
    (first
      | (go_at_call 52; refine (power_eight _).mono ?_; rintro e w6 ⟨z6, rfl, hz6, hb6⟩; obtain ⟨s6, ao6, m6, c6, rfl⟩ := hz6.form; have HZ6 := hid1 hz6; clear hz6)
      | (go_at_call 49; refine (rsub_any (n + 340282366920938463463374607431768211456) 340282366920938463463374607431768211456 _ _ _ (HY5.out.below (by repeat (first | exact Below.refl _ _ | refine bl_alloc ?_ _ | refine Below.drew ?_ | refine bl_drewN ?_ _ | refine bl_set ?_ (by omega) _ | refine bl_step ?_ (by assumption)))) (HZ6.out.below (by repeat (first | exact Below.refl _ _ | refine bl_alloc ?_ _ | refine Below.drew ?_ | refine bl_drewN ?_ _ | refine bl_set ?_ (by omega) _ | refine bl_step ?_ (by assumption)))) HM.out (big_bd (by decide))).mono ?_; rintro e w7 ⟨z7, rfl, hz7, hb7⟩; obtain ⟨s7, ao7, m7, c7, rfl⟩ := hz7.form; have HZ7 := hid1 hz7; clear hz7; have hb : Below W5.heap.size W5 w7 := (by repeat (first | exact Below.refl _ _ | refine bl_alloc ?_ _ | refine Below.drew ?_ | refine bl_drewN ?_ _ | refine bl_set ?_ (by omega) _ | refine bl_step ?_ (by assumption))); have q0 := keepc hb r0; have q1 := keepc hb r1; have g0 := keepf hb zr f0; have g1 := keepf hb zr f1; have hBB : Hid (Below w.heap.size w w7) := hid1 (bl_step B5 hb)))
  go_wp2_with fail
  simp [bodyPost, results, Tryd.results24, go_sem, q0, q1]
  have e := HZ7.out
  rw [show n + 340282366920938463463374607431768211456 - 340282366920938463463374607431768211456 = n by omega] at e
  exact big_ret e hBB.out (by omega) ⟨_, q0⟩ _ _
theorem rwide_any (n : Int) (hn : Rng n) (w : World) :
    Calls Tryd.prog 24 #[wv n] w fun e w' => ∃ z, e = .returned z ∧ Bg w' z n ∧ Below w.heap.size w w' := by
  by_cases h : n < 0
  · exact rwide_neg n hn h w
  · exact rwide_nn n hn (by omega) w
end Go.Proofs.YtcjglbejmlebhaaDoor
