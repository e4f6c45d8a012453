/- bound: weights counted; a layer's reaches. -/
import Derived.Test.YtkodihmjjiadnaaNP5
import Derived.Test.YtkodihmjjiadnaaOB1
import Derived.Deep.RegionHeld3
namespace Go.Proofs.Ytkodihmjjiadnaa.Nn
open Go.RowKit

/-- How many of the first n are v. -/
def cnW (f : Nat → Int) (v : Int) : Nat → Nat
  | 0 => 0
  | n + 1 => cnW f v n + if f n = v then 1 else 0
theorem cnW_le (f : Nat → Int) (v : Int) : ∀ n, cnW f v n ≤ n
  | 0 => Nat.le_refl _
  | n + 1 => by have := cnW_le f v n; unfold cnW; split <;> omega
theorem cnW_two (f : Nat → Int) : ∀ n, cnW f 1 n + cnW f (-1) n ≤ n
  | 0 => Nat.le_refl _
  | n + 1 => by
    have := cnW_two f n
    simp only [cnW]
    by_cases h1 : f n = 1
    · rw [if_pos h1, if_neg (by omega)]; omega
    · rw [if_neg h1]; split <;> omega
theorem cnW_congr {f g : Nat → Int} {v : Int} : ∀ {n : Nat}, (∀ i, i < n → f i = g i) → cnW f v n = cnW g v n
  | 0, _ => rfl
  | n + 1, h => by simp only [cnW]; rw [h n (by omega), cnW_congr (n := n) fun i hi => h i (by omega)]
/-- The two cells of a tally under way. -/
def Dz (W : World) (g : Nat) (x y : Int) : Prop := W.rowIs g 117 2 (duf x y)
theorem Dz.one {W : World} {g : Nat} {x y : Int} (h : Dz W g x y) (u : Int) : Dz (W.setCell ⟨g, 0, none⟩ (.int .i64 u)) g u y := by
  have h1 : World.rowIs _ g _ 2 _ := World.rowIs.set h 0 (.int .i64 u)
  refine h1.congr fun i hi => ?_
  rcases i with _ | _ | i
  · rfl
  · rfl
  · omega
theorem Dz.two {W : World} {g : Nat} {x y : Int} (h : Dz W g x y) (u : Int) : Dz (W.setCell ⟨g, 1, none⟩ (.int .i64 u)) g x u := by
  have h1 : World.rowIs _ g _ 2 _ := World.rowIs.set h 1 (.int .i64 u)
  refine h1.congr fun i hi => ?_
  rcases i with _ | _ | i
  · rfl
  · rfl
  · omega
set_option maxHeartbeats 1600000 in
set_option maxRecDepth 100000 in
theorem ofWeights_any (ws : Nat → Int) (ao : Option Addr) (m cap : Nat) (w : World) (hm : m ≤ 16777216) (h : ∀ j, j < m → ∃ g o, ao = some ⟨g, o, none⟩ ∧ w.cell? ⟨g, o + j, none⟩ = some (.int .i8 (ws j))) :
    Calls Try.prog 79 #[.slice ao m cap] w fun e w' => e = .returned (duo (cnW ws 1 m : Nat) (cnW ws (-1) m : Nat)) ∧ Below w.heap.size w w' := by
  have HR := hid1 h
  clear h
  obtain ⟨b, hb0⟩ : ∃ b, w.heap.size = b := ⟨_, rfl⟩
  go_enter Try.func79, Try.ntmps79
  go_wp2_with fail
  go_loopw [8] (fun i wr => ∃ k : Nat, k ≤ m ∧ i = .int .i64 k ∧ Below w.heap.size w wr ∧ Hid (Dz wr b 0 0) ∧ Hid (Dz wr (b + 1) (cnW ws 1 k : Nat) (cnW ws (-1) k : Nat))) (fun i _ => m - (intOf i).toNat)
  case atStart => exact ⟨0, Nat.zero_le _, rfl, by repeat (first | (with_reducible exact Below.refl _ _) | (with_reducible refine bl_alloc ?_ _) | (with_reducible refine Below.drew ?_) | (with_reducible refine bl_drewN ?_ _) | (with_reducible refine bl_set ?_ (by omega) _) | (with_reducible refine bl_step ?_ (by assumption))), hid1 (by rw [← hb0]; exact (du_new w 0 0 _).alloc _), hid1 (by have := du_new (w.alloc (.cells #[.int .i64 0, .int .i64 0] 117)) 0 0 117; rw [show (w.alloc (.cells #[.int .i64 0, .int .i64 0] 117)).heap.size = b + 1 by simp [hb0]] at this; exact this)⟩
  case round =>
    obtain ⟨k, hk, rfl, BX, H0, H1⟩ := hrel
    by_cases hlt : k < m
    · obtain ⟨g, o, rfl, c8⟩ := HR.out k hlt
      have gb : g < b := by rw [← hb0]; exact lt_of_cell c8
      replace c8 := keepc BX c8
      have ik : (k : Int) < (m : Nat) := by omega
      have ik0 : (0 : Int) ≤ (k : Int) := by omega
      have p1 := cnW_le ws 1 k
      have p2 := cnW_le ws (-1) k
      have n1 : cnW ws 1 (k + 1) = cnW ws 1 k + if ws k = 1 then 1 else 0 := rfl
      have n2 : cnW ws (-1) (k + 1) = cnW ws (-1) k + if ws k = -1 then 1 else 0 := rfl
      have HN1 := hid1 n1
      have HN2 := hid1 n2
      clear n1 n2
      have d0 := du0 H1.out
      have d1 := du1 H1.out
      have f0 := H1.out.frozen 0
      have f1 := H1.out.frozen 1
      generalize hP : cnW ws 1 k = P at *
      generalize hQ : cnW ws (-1) k = Q at *
      generalize ws k = x at *
      have nb : g ≠ b + 1 := by omega
      by_cases h1 : x = 1
      · subst h1
        go_wp2_with fail
        exact ⟨⟨k + 1, by omega, by go_num, bl_set BX (by omega) _, hid1 (World.rowIs.setOther H0.out (by show b ≠ b + 1; omega) _), hid1 (by
          rw [HN1.out, HN2.out, if_pos rfl, if_neg (by decide)]
          have := H1.out.one ((P + 1 : Nat) : Int)
          simpa using this)⟩, by simp [intOf]; omega⟩
      · by_cases h2 : x = -1
        · subst h2
          go_wp2_with fail
          exact ⟨⟨k + 1, by omega, by go_num, bl_set BX (by omega) _, hid1 (World.rowIs.setOther H0.out (by show b ≠ b + 1; omega) _), hid1 (by
            rw [HN1.out, HN2.out, if_neg (by decide), if_pos rfl]
            have := H1.out.two ((Q + 1 : Nat) : Int)
            simpa using this)⟩, by simp [intOf]; omega⟩
        · go_wp2_with fail
          exact ⟨⟨k + 1, by omega, by go_num, BX, H0, hid1 (by rw [HN1.out, HN2.out, if_neg h1, if_neg h2]; exact H1.out)⟩, by simp [intOf]; omega⟩
    · have hkN : k = m := by omega
      subst hkN
      have d0 := du0 H1.out
      have d1 := du1 H1.out
      have e0 := du0 H0.out
      have e1 := du1 H0.out
      have f0 := H0.out.frozen 0
      have f1 := H0.out.frozen 1
      generalize hP : cnW ws 1 k = P at *
      generalize hQ : cnW ws (-1) k = Q at *
      have HP := hid1 hP
      have HQ := hid1 hQ
      clear hP hQ
      go_wp2_with fail
      refine bodyPost_ret (v := duo (P : Nat) (Q : Nat)) (by simp [results, Try.results79, go_sem, *]) rfl ⟨by rw [HP.out, HQ.out], ?_⟩
      exact bl_set (bl_set BX (by omega) _) (by omega) _
end Go.Proofs.Ytkodihmjjiadnaa.Nn
