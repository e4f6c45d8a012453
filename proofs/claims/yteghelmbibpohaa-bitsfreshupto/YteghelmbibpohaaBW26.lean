/- The document's own answers: And, Xor. -/
import Derived.Test.YteghelmbibpohaaBW25
namespace Go.Proofs.Yteghelmbibpohaa
open Go.RowKit

theorem bn_and {n A B : Nat} (hA : A < 2 ^ n) (_ : B < 2 ^ n) : bn (fun i => A.testBit i && B.testBit i) n = A &&& B := bn_ext (and_lt' hA) fun i _ => by simp
set_option maxHeartbeats 3200000 in
set_option maxRecDepth 100000 in
theorem rand_any (n A B : Nat) (ao bo : Option Addr) (ca cb : Nat) (w : World) (h1 : n ≤ 16777216) (hA : A < 2 ^ n) (hB : B < 2 ^ n) (ra : Ro w ao (nw n) A) (rb : Ro w bo (nw n) B) :
    Calls Try.prog 48 #[rv n ao (nw n) ca, rv n bo (nw n) cb] w fun e w' => ∃ g, e = .returned (.tuple #[rv n (some ⟨g, 0, none⟩) (nw n) (nw n), .int .i64 0]) ∧ w.heap.size ≤ g ∧ w'.rowIs g 35 (nw n) (wf (A &&& B)) ∧ Below w.heap.size w w' := by
  have HA := hid1 ra
  have HB := hid1 rb
  have hb := nw_bd h1
  have hle := nw_le n
  have hp : pairE n (nw n) A n (nw n) B = 0 := by unfold pairE; rw [chk_ok h1 hA, chk_ok h1 hB]; simp
  have HP := hid1 hp
  have HN := hid1 (bn_and hA hB)
  clear ra rb hA hB hp
  go_enter Try.func48, Try.ntmps48
  go_wp2_with fail
  refine gen_calls (fun W => W.heap.size = w.heap.size + 3 ∧ Below w.heap.size w W ∧ W.rowIs w.heap.size 27 2 (sf n ao (nw n) ca) ∧ W.rowIs (w.heap.size + 1) 27 2 (sf n bo (nw n) cb) ∧ W.rowIs (w.heap.size + 2) 27 2 (sf 0 none 0 0))
    ⟨by simp, bl_alloc (bl_alloc (bl_alloc (Below.refl _ _) _) _) _, ((row_new _ _ _ _ _ _).alloc _).alloc _, by have := (row_new (w.alloc (.cells #[.int .i64 n, .slice ao (nw n) ca] 27)) n bo (nw n) cb 27).alloc (.cells #[.int .i64 0, .slice none 0 0] 27); simpa using this,
     by have := row_new ((w.alloc (.cells #[.int .i64 n, .slice ao (nw n) ca] 27)).alloc (.cells #[.int .i64 n, .slice bo (nw n) cb] 27)) 0 none 0 0 27; simpa using this⟩ ?_
  rintro W ⟨z0, B0, ra, rb, r2⟩
  refine (rpair_any n n (nw n) (nw n) A B ao bo ca cb W (by omega) (by omega) (HA.out.below B0) (HB.out.below B0)).mono ?_
  rintro e w1 ⟨rfl, hb1⟩
  rw [HP.out]
  replace ra := keepr hb1 ra
  replace rb := keepr hb1 rb
  replace r2 := keepr hb1 r2
  have B1 := bl_step B0 hb1
  have z1 := hb1.size
  clear hb1 B0
  have c0 := sf_len ra
  have c1 := sf_ws ra
  go_wp2_with fail
  refine (rtruths_any n A ao ca w1 h1 (HA.out.below B1)).mono ?_
  rintro e w2 ⟨gt, rfl, hg, hrow, hb2⟩
  replace rb := keepr hb2 rb
  replace r2 := keepr hb2 r2
  have B2 := bl_step B1 hb2
  replace hrow := pm_zero (fun i => A.testBit i && B.testBit i) hrow
  clear hb2 B1 c0 c1 ra
  go_wp2_with fail
  go_loopw [8] (fun i wr => ∃ k : Nat, k ≤ n ∧ i = .int .i64 k ∧ wr.rowIs (w.heap.size + 1) 27 2 (sf n bo (nw n) cb) ∧ wr.rowIs (w.heap.size + 2) 27 2 (sf 0 none 0 0) ∧ wr.rowIs gt 4 n (bv (pm (fun i => A.testBit i) (fun i => A.testBit i && B.testBit i) k)) ∧ Below w.heap.size w wr) (fun i _ => n - (intOf i).toNat)
  case atStart => exact ⟨0, Nat.zero_le _, rfl, rb, r2, hrow, B2⟩
  case round =>
    clear hrow rb r2 B2
    obtain ⟨k, hk, rfl, rb, r2, hrow, hnx⟩ := hrel
    have ik0 : (0 : Int) ≤ (k : Int) := by omega
    by_cases hlt : k < n
    · have ik : (k : Int) < (n : Int) := by omega
      have fw := hrow.frozen k
      have cw := hrow.cell hlt
      simp only [bv, pm_at] at cw
      have cb0 := sf_len rb
      have cb1 := sf_ws rb
      have lb := rb.lt
      have lt := hrow.lt
      cases hA0 : A.testBit k
      · rw [hA0] at cw
        have HH := hid1 hrow
        have H2 := hid1 r2
        have GB := hid1 rb
        clear hrow r2 rb
        go_wp2_with fail
        exact ⟨⟨k + 1, by omega, by go_num, GB.out.setOther (a := ⟨gt, k, none⟩) (row_ne GB.out HH.out (by decide)) _, H2.out.setOther (a := ⟨gt, k, none⟩) (row_ne H2.out HH.out (by decide)) _, pm_step HH.out (by simp [hA0]), bl_set hnx (by omega) _⟩, by simp [intOf]; omega⟩
      · rw [hA0] at cw
        go_wp2_with fail
        refine (rbit_any n bo (nw n) cb B k wr (by omega) (HB.out.below hnx) (by omega)).mono ?_
        rintro e w3 ⟨rfl, hb3⟩
        replace rb := keepr hb3 rb
        replace r2 := keepr hb3 r2
        replace hrow := keepr hb3 hrow
        replace hnx := bl_step hnx hb3
        clear fw cw cb0 cb1 lb lt
        have fw := hrow.frozen k
        have cw := hrow.cell hlt
        have HH := hid1 hrow
        have H2 := hid1 r2
        have GB := hid1 rb
        clear hrow r2 rb hb3
        go_wp2_with fail
        exact ⟨⟨k + 1, by omega, by go_num, GB.out.setOther (a := ⟨gt, k, none⟩) (row_ne GB.out HH.out (by decide)) _, H2.out.setOther (a := ⟨gt, k, none⟩) (row_ne H2.out HH.out (by decide)) _, pm_step HH.out (by simp [hA0]), bl_set hnx (by omega) _⟩, by simp [intOf]; omega⟩
    · have hkN : k = n := by omega
      subst hkN
      have hfull := pm_full hrow
      go_wp2_with fail
      refine (rrow_any _ k _ k wr h1 (Rb.row hfull)).mono ?_
      rintro e w3 ⟨g, rfl, hg3, hrow1, hb3⟩
      rw [HN.out] at hrow1
      have hs := hnx.size
      replace r2 := keepr hb3 r2
      replace hnx := bl_step hnx hb3
      have c20 := sf_len r2
      have c21 := sf_ws r2
      have f0 := r2.frozen 0
      have f1 := r2.frozen 1
      have hne := row_ne hrow1 r2 (by decide)
      have HH := hid1 hrow1
      clear hrow hrow1 r2 hb3 hfull rb
      go_wp2_with fail
      exact bodyPost_ret (v := .tuple #[rv k (some ⟨g, 0, none⟩) (nw k) (nw k), .int .i64 0]) (by simp [results, Try.results48, go_sem, c20, c21]) rfl ⟨g, rfl, by omega, (HH.out.setOther (a := ⟨w.heap.size + 2, 0, none⟩) hne _).setOther (a := ⟨w.heap.size + 2, 1, none⟩) hne _, bl_set (bl_set hnx (by omega) _) (by omega) _⟩
end Go.Proofs.Yteghelmbibpohaa
