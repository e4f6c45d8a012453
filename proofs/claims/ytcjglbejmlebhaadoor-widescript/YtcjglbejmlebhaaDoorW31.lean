import Derived.Test.YtcjglbejmlebhaaDoorW30
namespace Go.Proofs.YtcjglbejmlebhaaDoor
open Go.RowKit Go.Shelf
attribute [local go_sem ↓] Go.wp_at_zero Go.wp_at_succ

theorem own_below {w w' : World} {base : Nat} {e : TypeId} {size : Nat} {v : Value} {n : Nat} {xs : List Value} (h : w.ownsRow base e size v n xs) (hb : Below w.heap.size w w') : w'.ownsRow base e size v n xs :=
  h.kept (row := none) ⟨hb.os, hb.tape, hb.output, hb.size, fun k hk _ => hb.block k hk⟩ (by cases v.ownBlock <;> simp)
theorem own_four {w : World} {base : Nat} {v : Value} {ds : List Int} {k : Nat} (h : w.ownsRow base 3 1 v (k + 1) (ivs ds)) : ∃ g cap, v = .slice (some ⟨g, 0, none⟩) (k + 1) cap ∧ ∀ j u, (ivs ds)[j]? = some u → w.cell? ((⟨g, 0, none⟩ : Addr).add j) = some u := by
  rcases h.2 with ⟨_, h2⟩ | ⟨g, cap, _, h1, _⟩
  · omega
  · exact ⟨g, cap, h1, h.cells (by rw [h1]; rfl)⟩
theorem ivs_one (ds : List Int) : ∀ u ∈ ivs ds, u.oneCell' = true := by
  intro u hu
  simp only [ivs, List.mem_map] at hu
  obtain ⟨d, _, rfl⟩ := hu
  rfl
theorem ivs_app (a b : List Int) : ivs (a ++ b) = ivs a ++ ivs b := by simp [ivs]
theorem wide_dg (l h : Int) : Dg (dgs l 4 ++ dgs h 4) := by
  intro x hx
  rcases List.mem_append.1 hx with hx | hx
  · exact dgs_dg l 4 x hx
  · exact dgs_dg h 4 x hx
theorem wide_digits {l h : Int} (hl : U64 l) (hh : U64 h) : val (dgs l 4 ++ dgs h 4) = h * 18446744073709551616 + l := by
  rw [val_app, dgs_len, dgs_four hl, dgs_four hh]; omega

set_option maxHeartbeats 3200000 in
set_option maxRecDepth 100000 in
theorem rwide_nn (n : Int) (hn : Rng n) (h0 : 0 ≤ n) (w : World) :
    Calls Tryd.prog 24 #[wv n] w fun e w' => ∃ z, e = .returned z ∧ Bg w' z n ∧ Below w.heap.size w w' := by
  obtain ⟨i0, hi, hz0, hz1, hz2⟩ := info_parts info_int
  obtain ⟨a1, a2⟩ := hi_i64 hn
  have a3 := hi_pos h0
  have a4 : ¬ hiOf n < 0 := by omega
  have HU : Hid (U64 (hiOf n)) := hid1 ⟨by omega, by omega⟩
  have HV : Hid (val (dgs (loOf n) 4 ++ dgs (hiOf n) 4) = (n.natAbs : Int)) := hid1 (by rw [wide_digits (lo_u64 n) HU.out, hilo]; omega)
  have HS : Hid (n < 0 → false = true) := hid1 (fun h => by omega)
  go_enter Tryd.func24, Tryd.ntmps24
  go_wp2_with fail
  refine gen_calls (fun W' => Below w.heap.size w W' ∧ W'.cell? ⟨w.heap.size, 0, none⟩ = some (.int .i64 (hiOf n)) ∧ W'.cell? ⟨w.heap.size, 1, none⟩ = some (.int .u64 (loOf n)) ∧ W'.cell? ⟨w.heap.size + 1, 0, none⟩ = some (.bool false) ∧ W'.cell? ⟨w.heap.size + 1, 1, none⟩ = some (.slice none 0 0) ∧ W'.frozen? ⟨w.heap.size + 1, 0, none⟩ = false ∧ W'.frozen? ⟨w.heap.size + 1, 1, none⟩ = false) ⟨by repeat (first | exact Below.refl _ _ | refine bl_alloc ?_ _ | refine Below.drew ?_ | refine bl_drewN ?_ _ | refine bl_set ?_ (by omega) _ | refine bl_step ?_ (by assumption)), keepc (W := w.alloc _) (bl_alloc (Below.refl _ _) _) (new0' w _ _ _), keepc (W := w.alloc _) (bl_alloc (Below.refl _ _) _) (new1' w _ _ _), by simp, by simp, by simp, by simp⟩ ?_
  rintro W ⟨B, n0, n1, r0, r1, f0, f1⟩
  refine (digits_any (loOf n) (lo_u64 n) _).mono ?_
  rintro e w1 ⟨v1, rfl, o1, hb1⟩
  obtain ⟨ao1, cap1, rfl⟩ := own_form o1
  have hW0 := lt_of_cell r0
  have zr := hW0
  have n0 := keepc hb1 n0; have n1 := keepc hb1 n1; have r0 := keepc hb1 r0; have r1 := keepc hb1 r1; have f0 := keepf hb1 zr f0; have f1 := keepf hb1 zr f1
  have hB : Hid (Below w.heap.size w w1) := hid1 (bl_step B hb1)
  have hW1 := hb1.size
  have O1 := hid1 o1
  clear hb1 zr o1
  go_wp2_with fail
  refine (digits_any (hiOf n) HU.out _).mono ?_
  rintro e w2 ⟨v2, rfl, o2, hb2⟩
  obtain ⟨g2, cap2, rfl, c2⟩ := own_four o2
  have zr := lt_of_cell r0
  have n0 := keepc hb2 n0; have n1 := keepc hb2 n1; have r0 := keepc hb2 r0; have r1 := keepc hb2 r1; have f0 := keepf hb2 zr f0; have f1 := keepf hb2 zr f1
  have hB2 : Hid (Below w.heap.size w w2) := hid1 (bl_step hB.out hb2)
  have ho := own_below O1.out hb2
  have hW2 := hb2.size
  have C2 := hid1 c2
  have HO := hid1 ho
  clear hb2 zr o2 c2 hB O1
  go_wp2_with (first
    | (at_builtin; refine wpList_append_own _ rfl _ _ 42 rfl W.heap.size 3 i0 (.int .i64 0) 1 8 und_ints hi hz0 hz1 hz2 rfl (by decide) _ _ _ rfl ho ⟨g2, 0, none⟩ 4 cap2 (ivs (dgs (hiOf n) 4)) rfl (by rw [ivs_len, dgs_len]) C2.out (ivs_one _) (by unfold maxLen; omega) (by omega) (by omega) ?_; intro v' w3 hown' hgrow3 hnil3; obtain ⟨ao', cap', rfl⟩ := own_form hown'))
  have hne : ∀ b, b < w.heap.size + 2 → some b ≠ (Value.slice ao1 4 cap1).ownBlock := fun b hb e => by have := (HO.out.lt b e.symm).1; omega
  have g3 : w2.grownBy w3 (Value.slice ao1 4 cap1).ownBlock := hgrow3
  have zr := lt_of_cell r0
  have n0 := (grown_keep g3 (b := w.heap.size) (by omega) (hne _ (by omega)) 0).1.trans n0
  have r0 := (grown_keep g3 (b := w.heap.size + 1) (by omega) (hne _ (by omega)) 0).1.trans r0
  have r1 := (grown_keep g3 (b := w.heap.size + 1) (by omega) (hne _ (by omega)) 1).1.trans r1
  have f0 := (grown_keep g3 (b := w.heap.size + 1) (by omega) (hne _ (by omega)) 0).2.trans f0
  have f1 := (grown_keep g3 (b := w.heap.size + 1) (by omega) (hne _ (by omega)) 1).2.trans f1
  have hB3 : Hid (Below w.heap.size w w3) := hid1 (hB2.out.grown g3 (by omega) (fun q hq => by have := (HO.out.lt q hq).1; omega))
  have O3 : Hid (Rd w3 (.slice ao' 8 cap') (dgs (loOf n) 4 ++ dgs (hiOf n) 4)) := hid1 (Rd.own (base := W.heap.size) (n := 8) (by rw [ivs_app]; exact hown'))
  clear hnil3 hgrow3 hown' g3 hne zr ho HO hB2 C2
  refine (trim_num n false _ (dgs (loOf n) 4 ++ dgs (hiOf n) 4) _ O3.out (wide_dg _ _) HV.out (fun _ => rfl) HS.out).mono ?_
  rintro e w4 ⟨y, s4, ao4, m4, cap4, rfl, rfl, hy, hb4⟩
  have HY := hid1 hy
  clear hy
  have zr := lt_of_cell r0
  have n0 := keepc hb4 n0; have r0 := keepc hb4 r0; have r1 := keepc hb4 r1; have f0 := keepf hb4 zr f0; have f1 := keepf hb4 zr f1
  have hB4 : Hid (Below w.heap.size w w4) := hid1 (bl_step hB3.out hb4)
  have zr := lt_of_cell r0
  clear hb4
  have z1 : w.heap.size < w4.heap.size := by omega
  have z2 : ¬ w.heap.size = w4.heap.size := by omega
  have z3 : ¬ w.heap.size + 1 = w4.heap.size := by omega
  have z4 : w.heap.size ≠ w4.heap.size := z2
  have z5 : w.heap.size + 1 ≠ w4.heap.size := z3
  go_wp2_with fail
  have e0 : (((w4.setCell ⟨w.heap.size + 1, 0, none⟩ (.bool s4)).setCell ⟨w.heap.size + 1, 1, none⟩ (.slice ao4 m4 cap4)).alloc (.cells #[.bool s4, .slice ao4 m4 cap4] 44)).cell? ⟨w.heap.size + 1, 0, none⟩ = some (.bool s4) := keepc (W := ((w4.setCell ⟨w.heap.size + 1, 0, none⟩ (.bool s4)).setCell ⟨w.heap.size + 1, 1, none⟩ (.slice ao4 m4 cap4))) (bl_alloc (Below.refl _ _) _) (by simp [go_sem, r0])
  have e1 : (((w4.setCell ⟨w.heap.size + 1, 0, none⟩ (.bool s4)).setCell ⟨w.heap.size + 1, 1, none⟩ (.slice ao4 m4 cap4)).alloc (.cells #[.bool s4, .slice ao4 m4 cap4] 44)).cell? ⟨w.heap.size + 1, 1, none⟩ = some (.slice ao4 m4 cap4) := keepc (W := ((w4.setCell ⟨w.heap.size + 1, 0, none⟩ (.bool s4)).setCell ⟨w.heap.size + 1, 1, none⟩ (.slice ao4 m4 cap4))) (bl_alloc (Below.refl _ _) _) (by simp [go_sem, r1])
  simp [bodyPost, results, Tryd.results24, go_sem, e0, e1]
  obtain ⟨x1, x2⟩ := big_ret HY.out hB4.out (b := w.heap.size + 1) (by omega) ⟨_, r0⟩ s4 (.slice ao4 m4 cap4)
  exact ⟨x1.below (bl_alloc (Below.refl _ _) _), bl_alloc x2 _⟩
