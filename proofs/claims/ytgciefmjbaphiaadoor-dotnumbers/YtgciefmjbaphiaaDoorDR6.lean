/- The document's Planes of a list that is not too long. -/
import Derived.Test.YtgciefmjbaphiaaDoorDR5
import Derived.Deep.DeepCutAuto
namespace Go.Proofs.YtgciefmjbaphiaaDoor
open Go.RowKit

set_option maxHeartbeats 3200000 in
set_option maxRecDepth 100000 in
theorem rplanes_any (l : List Int) (N : Nat) (hN : l.length = N) (ao : Option Addr) (cap : Nat) (w : World) (h1 : N ≤ 16777216) (hy : ∀ y ∈ l, -128 ≤ y ∧ y ≤ 127) (h : R8 w ao l) :
    Calls Tryd.prog 32 #[.slice ao N cap] w fun e w' => ∃ G : Nat → Option Addr × Nat, e = .returned (.tuple #[pv (fun p => ⟨N, (G p).1, nw N, (G p).2, bn (plb l p) N⟩), .int .i64 0]) ∧ (∀ p, p < 8 → w'.ownsRow (w.heap.size + 1) 69 1 (.slice (G p).1 (nw N) (G p).2) (nw N) (wl (bn (plb l p) N) (nw N))) ∧ Below w.heap.size w w' := by
  have HR := hid1 h
  have HY := hid1 hy
  have HL := hid1 hN
  have hb := nw_bd h1
  clear h hy hN
  go_enter Tryd.func32, Tryd.ntmps32
  go_wp2_with fail
  go_loopw [5] (fun i wr => ∃ (k : Nat) (G : Nat → Option Addr × Nat), k ≤ 8 ∧ i = .int .i64 k ∧ wr.rowIs w.heap.size 36 16 (pfc (fun _ => zb)) ∧ wr.rowIs (w.heap.size + 1) 36 16 (pfc (frv N G k)) ∧ (∀ p, p < k → wr.ownsRow (w.heap.size + 2) 69 1 (.slice (G p).1 (nw N) (G p).2) (nw N) (wl (bn (plb l p) N) (nw N))) ∧ Below w.heap.size w wr)
    (fun i _ => 8 - (intOf i).toNat)
  case atStart => exact ⟨0, fun _ => (none, 0), Nat.zero_le _, rfl, (p_new w (fun _ => zb) _).alloc _, by have := p_new (w.alloc (.cells #[.int .i64 0, .slice none 0 0, .int .i64 0, .slice none 0 0, .int .i64 0, .slice none 0 0, .int .i64 0, .slice none 0 0, .int .i64 0, .slice none 0 0, .int .i64 0, .slice none 0 0, .int .i64 0, .slice none 0 0, .int .i64 0, .slice none 0 0] 36)) (fun _ => zb) 36; rw [World.size_alloc] at this; exact this, fun p hp => by omega, bl_alloc (bl_alloc (Below.refl _ _) _) _⟩
  case round =>
    obtain ⟨k, G, hk, rfl, r2, r4, hG, B0⟩ := hrel
    have HG := hid1 hG
    have R2 := hid1 r2
    have R4 := hid1 r4
    have sz : w.heap.size + 2 ≤ wr.heap.size := by have := r4.lt; omega
    clear hG r2 r4
    by_cases hlt : k < 8
    · have ik : (k : Int) < 8 := by omega
      have ik0 : (0 : Int) ≤ (k : Int) := by omega
      go_wp2_with fail
      rename World => V
      go_loopw [6, 7] (fun v i wy => ∃ (u : Value) (q : Nat), q ≤ N ∧ v = u ∧ i = .int .i64 q ∧ wy.ownsRow V.heap.size 4 1 u q (bls (plb l k) q) ∧ Below V.heap.size V wy) (fun _ i _ => N - (intOf i).toNat)
      case atStart => exact ⟨_, 0, Nat.zero_le _, rfl, rfl, World.ownsRow_nil _ _ _ _, Below.refl _ _⟩
      case round =>
        rename World => Y
        obtain ⟨v, q, hq, ev, rfl, hown, BY⟩ := hrel
        replace ev := ev.symm
        subst ev
        have HO := hid1 hown
        have szY : V.heap.size ≤ Y.heap.size := BY.size
        clear hown
        by_cases hqn : q < N
        · obtain ⟨ga, oa, rfl, c8⟩ := HR.out q (by have := HL.out; omega)
          replace c8 := keepc BY (keepc B0 c8)
          have iq : (q : Int) < (N : Int) := by omega
          have iq0 : (0 : Int) ≤ (q : Int) := by omega
          have hb8 := HY.out (ia l q) (by unfold ia; rw [List.getD_eq_getElem?_getD, List.getElem?_eq_getElem (by have := HL.out; omega)]; exact List.getElem_mem _)
          obtain ⟨u, eu⟩ : ∃ u : Nat, (ia l q % 256).toNat = u := ⟨_, rfl⟩
          have HPL : Hid (plb l k q = u.testBit k) := hid1 (by unfold plb; rw [eu])
          have hu : u < 256 := by omega
          have hcs : (0 ≤ ia l q ∧ ia l q = (u : Int)) ∨ (ia l q < 0 ∧ ia l q + 256 = (u : Int)) := by omega
          generalize ia l q = x at *
          clear eu
          go_upto_if 30 with fail
          go_cut [8] (fun s wx => s = .int .i64 (u : Int) ∧ wx = Y)
          case first =>
            rcases hcs with ⟨hx0, hx1⟩ | ⟨hx0, hx1⟩
            · have hx2 : ¬ x < 0 := by omega
              go_wp2_with fail
              go_meet
              exact ⟨rfl, rfl⟩
            · go_wp2_with fail
              go_meet
              exact ⟨rfl, rfl⟩
          case rest =>
            obtain ⟨rfl, rfl⟩ := hcut
            clear hcs c8
            go_wp2_with fail
            go_loop [8, 9] (fun v j => ∃ t : Nat, t ≤ k ∧ j = .int .i64 t ∧ v = .int .i64 ((u / 2 ^ t : Nat) : Int)) (fun _ j => k - (intOf j).toNat)
            case atStart => exact ⟨0, Nat.zero_le _, rfl, by simp⟩
            case round =>
              obtain ⟨t, ht, rfl, rfl⟩ := hrel
              have hyt : u / 2 ^ t < 256 := Nat.lt_of_le_of_lt (Nat.div_le_self _ _) hu
              by_cases htk : t < k
              · have it : (t : Int) < (k : Int) := by omega
                have HH := hid1 (div_step u t)
                generalize u / 2 ^ t = y at *
                go_wp2_with fail
                exact ⟨⟨t + 1, by omega, by go_num, by rw [← HH.out]⟩, by simp [intOf]; omega⟩
              · have htk2 : t = k := by omega
                subst htk2
                have hbt : u.testBit t = decide (u / 2 ^ t % 2 = 1) := Nat.testBit_eq_decide_div_mod_eq
                rw [hbt] at HPL
                clear hbt
                generalize u / 2 ^ t = y at *
                have HBV : Hid (((y : Int) % 2 == 1) = plb l t q) := hid1 (by
                  rw [HPL.out, Bool.eq_iff_iff]
                  simp
                  omega)
                have y2 : (y : Int).tmod 2 = (y : Int) % 2 := Int.tmod_eq_emod_of_nonneg (by omega)
                have HLE : V.heap.size ≤ wc.heap.size := BY.size
                go_wp2_with (at_builtin; refine app_bool rfl _ _ rfl V.heap.size v (plb l t) q (by go_simp) (HO.out.alloc _) wc.heap.size ((y : Int) % 2 == 1) 1 (by go_simp) (by simp [go_sem]) (by omega) (by simp; omega) HBV.out ?_; intro v' w2 hown2 hgrow)
                have BQ := grown_below HO.out HLE hgrow
                exact ⟨⟨v', q + 1, by omega, rfl, by go_num, hown2, BY.trans BQ⟩, by simp [intOf]; omega⟩
        · have hqN : q = N := by omega
          subst hqN
          obtain ⟨bo, bc, rfl, hrb⟩ := rb_own HO.out
          have HRB := hid1 hrb
          clear hrb HO
          go_wp2_with fail
          refine (setL_any (plb l k) q bo bc Y h1 HRB.out).mono ?_
          rintro e w2 ⟨so, sc, rfl, hown2, hb2⟩
          have BZ := bl_step BY hb2
          have r2 := keepr BZ R2.out
          have r4 := keepr BZ R4.out
          have l4 := r4.lt
          have d0 := r4.cell (i := k * 2) (by omega)
          have d1 := r4.cell (i := k * 2 + 1) (by omega)
          have f0 := r4.frozen (k * 2)
          have f1 := r4.frozen (k * 2 + 1)
          have n2 : w.heap.size ≠ w.heap.size + 1 := by omega
          have B1 := bl_step B0 BZ
          have Q2 := hid1 r2
          have Q4 := hid1 r4
          have HO2 := hid1 (own_mono hown2 (base' := w.heap.size + 2) (by omega))
          have HBZ := hid1 BZ
          clear r2 r4 hown2 hb2 HRB R2 R4
          go_wp2_with fail
          refine ⟨⟨k + 1, updG G k (so, sc), by omega, by go_num, (Q2.out.setOther (a := ⟨w.heap.size + 1, k * 2, none⟩) n2 _).setOther (a := ⟨w.heap.size + 1, k * 2 + 1, none⟩) n2 _, ((Q4.out.set (k * 2) _).set (k * 2 + 1) _).congr fun j _ => frv_step (g := (so, sc)) j, fun p hp => ?_, bl_set (bl_set B1 (by omega) _) (by omega) _⟩, by simp [intOf]; omega⟩
          by_cases e : p = k
          · subst e
            rw [updG_same]
            exact ownsRow_setCell_below (ownsRow_setCell_below HO2.out (by show w.heap.size + 1 < w.heap.size + 2; omega) _) (by show w.heap.size + 1 < w.heap.size + 2; omega) _
          · rw [updG_ne e]
            exact ownsRow_setCell_below (ownsRow_setCell_below (own_keep (HG.out p (by omega)) HBZ.out) (by show w.heap.size + 1 < w.heap.size + 2; omega) _) (by show w.heap.size + 1 < w.heap.size + 2; omega) _
    · have hk8 : k = 8 := by omega
      subst hk8
      obtain ⟨a0, a1, a2, a3, a4, a5, a6, a7, a8, a9, a10, a11, a12, a13, a14, a15⟩ := c16 R4.out
      obtain ⟨d0, d1, d2, d3, d4, d5, d6, d7, d8, d9, d10, d11, d12, d13, d14, d15⟩ := c16 R2.out
      have f0 := R2.out.frozen 0
      have f1 := R2.out.frozen 1
      have f2 := R2.out.frozen 2
      have f3 := R2.out.frozen 3
      have f4 := R2.out.frozen 4
      have f5 := R2.out.frozen 5
      have f6 := R2.out.frozen 6
      have f7 := R2.out.frozen 7
      have f8 := R2.out.frozen 8
      have f9 := R2.out.frozen 9
      have f10 := R2.out.frozen 10
      have f11 := R2.out.frozen 11
      have f12 := R2.out.frozen 12
      have f13 := R2.out.frozen 13
      have f14 := R2.out.frozen 14
      have f15 := R2.out.frozen 15
      have lR := R2.out.lt
      simp only [frv, zb] at a0 d0 a1 d1 a2 d2 a3 d3 a4 d4 a5 d5 a6 d6 a7 d7 a8 d8 a9 d9 a10 d10 a11 d11 a12 d12 a13 d13 a14 d14 a15 d15
      clear HY HR HL sz
      go_wp2_with fail
      refine bodyPost_ret (v := .tuple #[pv (fun p => ⟨N, (G p).1, nw N, (G p).2, bn (plb l p) N⟩), .int .i64 0]) (by simp [results, Tryd.results32, go_sem, d0, d1, d2, d3, d4, d5, d6, d7, d8, d9, d10, d11, d12, d13, d14, d15]) rfl ⟨G, rfl, fun p hp => ?_, ?_⟩
      · iterate 16 (refine ownsRow_setCell_below ?_ (by show w.heap.size < w.heap.size + 1; omega) _)
        exact own_mono (HG.out p hp) (by omega)
      · iterate 16 (with_reducible refine bl_set ?_ (Nat.le_refl _) _)
        exact B0
end Go.Proofs.YtgciefmjbaphiaaDoor
