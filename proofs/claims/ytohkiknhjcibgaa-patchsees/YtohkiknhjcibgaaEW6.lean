/- PACKAGE patch: outline. -/
import Derived.Test.YtohkiknhjcibgaaEW1
import Derived.Test.YtohkiknhjcibgaaSW4
namespace Go.Proofs.Ytohkiknhjcibgaa
open Go.RowKit Go.Shelf

/-- outline's three first blocks. -/
theorem out_start (w : World) (h v c : Int) (ao : Option Addr) (m cap : Nat) (r s sy sx t l b q : Int) : ∃ W, ((w.alloc (.cells #[.int .i64 h, .int .i64 v, .int .i64 c, .slice ao m cap] 31)).alloc (.cells #[.int .i64 r, .int .i64 s, .int .i64 sy, .int .i64 sx, .int .i64 t, .int .i64 l, .int .i64 b, .int .i64 q] 37)).alloc (.cells #[.int .i64 0, .int .i64 0, .int .i64 0] 29) = W ∧
    W.heap.size = w.heap.size + 3 ∧ Below w.heap.size w W ∧ W.rowIs w.heap.size 31 4 (cf h v c ao m cap) ∧ Sg.Wn W (w.heap.size + 1) 0 r s sy sx t l b q ∧ W.rowIs (w.heap.size + 2) 29 3 (hf 0 0 0) := by
  refine ⟨_, rfl, by simp, bl_alloc (bl_alloc (bl_alloc (Below.refl _ _) _) _) _, ((cu_new w _ _ _ _ _ _ _).alloc _).alloc _, ?_, ?_⟩
  · exact (Sg.wn_new' (by simp)).keep (bl_alloc (Below.refl _ _) _)
  · have := hf_new ((w.alloc (.cells #[.int .i64 h, .int .i64 v, .int .i64 c, .slice ao m cap] 31)).alloc (.cells #[.int .i64 r, .int .i64 s, .int .i64 sy, .int .i64 sx, .int .i64 t, .int .i64 l, .int .i64 b, .int .i64 q] 37)) 0 0 0 29
    rwa [World.size_alloc, World.size_alloc] at this
theorem cuk_zeroP {h v c : Int} {m N : Nat} (k : cuk h v c m N = 0) : ∃ H V C : Nat, h = H ∧ v = V ∧ c = C ∧ (1 ≤ H ∧ H ≤ 4096) ∧ (1 ≤ V ∧ V ≤ 4096) ∧ (1 ≤ C ∧ C ≤ 4096) ∧ H * V * C ≤ 16777216 ∧ Sg.chk H V C = 0 ∧ m = H * V * nw C ∧ Pok (H * V) C N := by
  unfold cuk at k
  by_cases k0 : Sg.chk h v c = 0
  · obtain ⟨H, V, C, rfl, rfl, rfl, hH, hV, hC, hb⟩ := chk_nat k0
    rw [if_pos k0, Int.toNat_natCast, Int.toNat_natCast, Int.toNat_natCast] at k
    by_cases k1 : m = H * V * nw C
    · rw [if_pos k1] at k
      by_cases k2 : Pok (H * V) C N
      · exact ⟨H, V, C, rfl, rfl, rfl, hH, hV, hC, hb, k0, k1, k2⟩
      · rw [if_neg k2] at k; omega
    · rw [if_neg k1] at k; omega
  · rw [if_neg k0] at k; exact absurd k k0
theorem sl_nat {h v c r s sy sx t l b q : Int} (k : Sg.slE h v c r s sy sx t l b q 1 = 0) : ∃ A B : Nat, A ≤ 4096 ∧ B ≤ 4096 ∧ Sg.slV h v c r s sy sx t l b q 1 = Sg.sle A B 1 0 := by
  have e : Sg.chk (Sg.stN h t b r sy) (Sg.stN v l q s sx) 1 = 0 := by
    have k' := k
    unfold Sg.slE at k'
    by_cases h1 : Sg.chk h v c ≠ 0
    · rw [if_pos h1] at k'; exact absurd k' h1
    · rw [if_neg h1, if_neg (by omega)] at k'
      by_cases h2 : ¬ Sg.WOk r s sy sx t l b q
      · rw [if_pos h2] at k'; omega
      · rw [if_neg h2] at k'
        by_cases h3 : Sg.mn2 (Sg.stN h t b r sy) (Sg.stN v l q s sx) = 0
        · rw [if_pos h3] at k'; omega
        · rw [if_neg h3] at k'; exact k'
  obtain ⟨A, B, C, eA, eB, _, hA, hB, _⟩ := chk_nat e
  refine ⟨A, B, hA.2, hB.2, ?_⟩
  unfold Sg.slV
  rw [if_pos k, eA, eB]
theorem wok_nat {r s sy sx t l b q : Int} (k : Sg.wiE r s sy sx t l b q = 0) : ∃ R S : Nat, r = R ∧ s = S ∧ R ≤ 15 ∧ S ≤ 15 := by
  unfold Sg.wiE at k
  by_cases h : Sg.WOk r s sy sx t l b q
  · obtain ⟨⟨h1, _⟩, ⟨h2, _⟩⟩ := h
    exact ⟨r.toNat, s.toNat, by omega, by omega, by omega, by omega⟩
  · rw [if_neg h] at k; omega
set_option maxHeartbeats 3200000 in
set_option maxRecDepth 100000 in
theorem outline_any (h v c : Int) (ao : Option Addr) (m cap N : Nat) (r s sy sx t l b q bd : Int) (w : World) (hmc : m ≤ cap) (hcap : cap ≤ 9223372036854775807) (rd : Wr w ao m N) (ans : Value)
    (E1 : cuk h v c m N ≠ 0 → ans = Sg.sle 0 0 0 (cuk h v c m N)) (E2 : cuk h v c m N = 0 → Sg.wiE r s sy sx t l b q ≠ 0 → ans = Sg.sle 0 0 0 (Sg.wiE r s sy sx t l b q)) (E3 : cuk h v c m N = 0 → Sg.wiE r s sy sx t l b q = 0 → (bd < -1 ∨ 1 < bd) → ans = Sg.sle 0 0 0 56)
    (E4 : ∀ E, cuk h v c m N = 0 → Sg.wiE r s sy sx t l b q = 0 → (-1 ≤ bd ∧ bd ≤ 1) → Sg.slV h v c r s sy sx t l b q 1 = Sg.sle 0 0 0 E → E ≠ 0 → ans = Sg.sle 0 0 0 E)
    (E5 : ∀ H V C R S A B : Nat, cuk h v c m N = 0 → Sg.wiE r s sy sx t l b q = 0 → (-1 ≤ bd ∧ bd ≤ 1) → Sg.slV h v c r s sy sx t l b q 1 = Sg.sle A B 1 0 → h = H → v = V → c = C → r = R → s = S → 4194304 < A * B * R * S * nw C → ans = Sg.sle 0 0 0 31)
    (E6 : ∀ H V C R S A B : Nat, cuk h v c m N = 0 → Sg.wiE r s sy sx t l b q = 0 → (-1 ≤ bd ∧ bd ≤ 1) → Sg.slV h v c r s sy sx t l b q 1 = Sg.sle A B 1 0 → h = H → v = V → c = C → r = R → s = S → A * B * R * S * nw C ≤ 4194304 → ans = Sg.sle A B 1 0) :
    Calls Try.prog 14 #[cuv h v c ao m cap, Sg.win r s sy sx t l b q, .int .i64 bd] w fun e w' => e = .returned ans ∧ Below w.heap.size w w' := by
  have HC := hid1 (fun W r' => ccheck_any h v c ao m cap N W hmc hcap r')
  have HW := hid1 (fun W => Sg.window_any r s sy sx t l b q W)
  have HS := hid1 (fun W => Sg.slide_any h v c r s sy sx t l b q 1 W)
  have RD := hid1 rd
  clear rd
  by_cases k1 : cuk h v c m N = 0
  · rw [k1] at HC
    by_cases k2 : Sg.wiE r s sy sx t l b q = 0
    · rw [k2] at HW
      have E3' := E3 k1 k2
      have E4' := fun E => E4 E k1 k2
      have E5' := fun H V C R S A B => E5 H V C R S A B k1 k2
      have E6' := fun H V C R S A B => E6 H V C R S A B k1 k2
      clear E1 E2 E3 E4 E5 E6
      by_cases k3 : bd < -1 ∨ 1 < bd
      · obtain rfl := E3' k3
        clear E3' E4' E5' E6' HS
        go_enter Try.func14, Try.ntmps14
        go_wp2_with fail
        refine gen_calls (fun W => W.heap.size = w.heap.size + 3 ∧ Below w.heap.size w W ∧ W.rowIs w.heap.size 31 4 (cf h v c ao m cap) ∧ Sg.Wn W (w.heap.size + 1) 0 r s sy sx t l b q ∧ W.rowIs (w.heap.size + 2) 29 3 (hf 0 0 0)) (by obtain ⟨X, rfl, z⟩ := out_start w h v c ao m cap r s sy sx t l b q; exact z) ?_
        rintro W ⟨z0, B0, b0, b1, b2⟩
        refine (HC.out W (RD.out.below B0)).mono ?_
        rintro e w1 ⟨rfl, hb⟩
        replace b0 := keepr hb b0
        replace b1 := b1.keep hb
        replace b2 := keepr hb b2
        have B1 := bl_step B0 hb
        clear hb B0
        have b1' := b1
        obtain ⟨n0, n1, n2, n3, n4, n5, n6, n7⟩ := b1'
        simp only [Nat.zero_add] at n1 n2 n3 n4 n5 n6 n7
        go_wp2_with fail
        refine (HW.out w1).mono ?_
        rintro e w2 ⟨rfl, hb⟩
        replace b0 := keepr hb b0
        replace b1 := b1.keep hb
        replace b2 := keepr hb b2
        have B2 := bl_step B1 hb
        clear hb B1 n0 n1 n2 n3 n4 n5 n6 n7
        have f0 := b2.frozen 0
        have f1 := b2.frozen 1
        have f2 := b2.frozen 2
        have d0 := hf0 b2
        have d1 := hf1 b2
        have d2 := hf2 b2
        rcases k3 with k3 | k3
        · go_wp2_with fail
          exact bodyPost_ret (v := Sg.sle 0 0 0 56) (by simp [results, Try.results14, go_sem, d0, d1, d2]) rfl ⟨rfl, bl_set (bl_set (bl_set B2 (by omega) _) (by omega) _) (by omega) _⟩
        · have k4 : ¬ bd < -1 := by omega
          go_wp2_with fail
          exact bodyPost_ret (v := Sg.sle 0 0 0 56) (by simp [results, Try.results14, go_sem, d0, d1, d2]) rfl ⟨rfl, bl_set (bl_set (bl_set B2 (by omega) _) (by omega) _) (by omega) _⟩
      · have k3' : -1 ≤ bd ∧ bd ≤ 1 := by omega
        have k5 : ¬ bd < -1 := by omega
        have k6 : ¬ 1 < bd := by omega
        by_cases k4 : Sg.slE h v c r s sy sx t l b q 1 = 0
        · obtain ⟨H, V, C, eh, ev, ec, hH, hV, hC, -⟩ := cuk_zeroP k1
          obtain ⟨A, B, hA, hB, hSV⟩ : ∃ A B : Nat, A ≤ 4096 ∧ B ≤ 4096 ∧ Sg.slV h v c r s sy sx t l b q 1 = Sg.sle A B 1 0 := sl_nat k4
          obtain ⟨R, S, eR, eS, hR, hS⟩ := wok_nat k2
          rw [hSV] at HS
          have HWF : Hid (∀ W, Calls Try.prog 25 #[.int .i64 c] W fun e w' => e = .returned (.int .i64 (nw C)) ∧ w' = W) := fun W => by rw [ec]; exact pwordsFor_any C (by omega) W
          have hd1 : nw C ≤ 64 := by unfold nw; omega
          obtain ⟨p1, q1⟩ : ∃ p, A * B = p := ⟨_, rfl⟩
          obtain ⟨p2, q2⟩ : ∃ p, p1 * R = p := ⟨_, rfl⟩
          obtain ⟨p3, q3⟩ : ∃ p, p2 * S = p := ⟨_, rfl⟩
          obtain ⟨p4, q4⟩ : ∃ p, p3 * nw C = p := ⟨_, rfl⟩
          have l1 : p1 ≤ 16777216 := by rw [← q1]; exact Nat.mul_le_mul hA hB
          have l2 : p2 ≤ 251658240 := by rw [← q2]; exact Nat.mul_le_mul l1 hR
          have l3 : p3 ≤ 3774873600 := by rw [← q3]; exact Nat.mul_le_mul l2 hS
          have l4 : p4 ≤ 241591910400 := by rw [← q4]; exact Nat.mul_le_mul l3 hd1
          have i1 : (A : Int) * (B : Int) = (p1 : Int) := by rw [← q1]; push_cast; rfl
          have i2 : (p1 : Int) * r = (p2 : Int) := by rw [← q2, eR]; push_cast; rfl
          have i3 : (p2 : Int) * s = (p3 : Int) := by rw [← q3, eS]; push_cast; rfl
          have i4 : (p3 : Int) * (nw C : Int) = (p4 : Int) := by rw [← q4]; push_cast; rfl
          have w1' : IntKind.i64.wrap (p1 : Int) = (p1 : Int) := by rw [IntKind.wrap_i64]; omega
          have w2' : IntKind.i64.wrap (p2 : Int) = (p2 : Int) := by rw [IntKind.wrap_i64]; omega
          have w3' : IntKind.i64.wrap (p3 : Int) = (p3 : Int) := by rw [IntKind.wrap_i64]; omega
          have w4' : IntKind.i64.wrap (p4 : Int) = (p4 : Int) := by rw [IntKind.wrap_i64]; omega
          have hans : (4194304 < p4 ∧ ans = Sg.sle 0 0 0 31) ∨ (p4 ≤ 4194304 ∧ ans = Sg.sle A B 1 0) := by
            by_cases h4 : 4194304 < p4
            · exact .inl ⟨h4, E5' H V C R S A B k3' hSV eh ev ec eR eS (by rw [q1, q2, q3, q4]; exact h4)⟩
            · exact .inr ⟨by omega, E6' H V C R S A B k3' hSV eh ev ec eR eS (by rw [q1, q2, q3, q4]; omega)⟩
          have HANS := hid1 hans
          clear E3' E4' E5' E6' hSV k4 k3' k1 k2 eh ev ec eR eS q1 q2 q3 q4 hans
          go_enter Try.func14, Try.ntmps14
          go_wp2_with fail
          refine gen_calls (fun W => W.heap.size = w.heap.size + 3 ∧ Below w.heap.size w W ∧ W.rowIs w.heap.size 31 4 (cf h v c ao m cap) ∧ Sg.Wn W (w.heap.size + 1) 0 r s sy sx t l b q ∧ W.rowIs (w.heap.size + 2) 29 3 (hf 0 0 0)) (by obtain ⟨X, rfl, z⟩ := out_start w h v c ao m cap r s sy sx t l b q; exact z) ?_
          rintro W ⟨z0, B0, b0, b1, b2⟩
          refine (HC.out W (RD.out.below B0)).mono ?_
          rintro e w1 ⟨rfl, hb⟩
          replace b0 := keepr hb b0
          replace b1 := b1.keep hb
          replace b2 := keepr hb b2
          have B1 := bl_step B0 hb
          clear hb B0
          have b1' := b1
          obtain ⟨n0, n1, n2, n3, n4, n5, n6, n7⟩ := b1'
          simp only [Nat.zero_add] at n1 n2 n3 n4 n5 n6 n7
          go_wp2_with fail
          refine (HW.out w1).mono ?_
          rintro e w2 ⟨rfl, hb⟩
          replace b0 := keepr hb b0
          replace b1 := b1.keep hb
          replace b2 := keepr hb b2
          have B2 := bl_step B1 hb
          clear hb B1 n0 n1 n2 n3 n4 n5 n6 n7
          have b1' := b1
          obtain ⟨n0, n1, n2, n3, n4, n5, n6, n7⟩ := b1'
          simp only [Nat.zero_add] at n1 n2 n3 n4 n5 n6 n7
          have e0 := cf0 b0
          have e1 := cf1 b0
          have e2 := cf2 b0
          go_wp2_with fail
          refine (HS.out w2).mono ?_
          rintro e w3 ⟨rfl, hb⟩
          replace b0 := keepr hb b0
          replace b1 := b1.keep hb
          replace b2 := keepr hb b2
          have B3 := bl_step B2 hb
          have z3 := hb.size
          have lb2 := b2.lt
          clear hb B2 n0 n1 n2 n3 n4 n5 n6 n7 e0 e1 e2
          go_upto_region 12 with fail
          refine gen_world (fun X => X.rowIs w.heap.size 31 4 (cf h v c ao m cap) ∧ Sg.Wn X (w.heap.size + 1) 0 r s sy sx t l b q ∧ X.rowIs (w.heap.size + 2) 29 3 (hf 0 0 0) ∧ X.rowIs w3.heap.size 29 3 (hf A B 1) ∧ Below w.heap.size w X) ⟨b0.alloc _, b1.keep (bl_alloc (Below.refl _ _) _), b2.alloc _, hf_new _ _ _ _ _, bl_alloc B3 _⟩ ?_
          clear b0 b1 b2 B3
          rintro X ⟨b0, b1, b2, b3, BX⟩
          obtain ⟨n0, n1, _⟩ := b1
          simp only [Nat.zero_add] at n1
          have e2 := cf2 b0
          have g0 := hf0 b3
          have g1 := hf1 b3
          have g2 := hf2 b3
          have HB2 := hid1 b2
          have HB3 := hid1 b3
          have HBX := hid1 BX
          clear b0 b2 b3 BX
          refine still_tail 16 (by kernel_rfl) ?_
          simp only [List.take_succ_cons, List.take_zero, List.drop_succ_cons, List.drop_zero]
          repeat still_step
          still_call (HWF.out _)
          repeat still_step
          refine wpStill_nil ?_
          have b2 := HB2.out
          have hne : w.heap.size + 2 ≠ w3.heap.size := by omega
          have f0 := b2.frozen 0
          have f1 := b2.frozen 1
          have f2 := b2.frozen 2
          have d0 := hf0 b2
          have d1 := hf1 b2
          have d2 := hf2 b2
          clear b2
          rcases HANS.out with ⟨h4, rfl⟩ | ⟨h4, rfl⟩
          · have i5 : (4194304 : Int) < (p4 : Int) := by omega
            go_wp2_with fail
            exact bodyPost_ret (v := Sg.sle 0 0 0 31) (by simp [results, Try.results14, go_sem, d0, d1, d2]) rfl ⟨rfl, bl_set (bl_set (bl_set HBX.out.drew (by omega) _) (by omega) _) (by omega) _⟩
          · have i5 : ¬ (4194304 : Int) < (p4 : Int) := by omega
            go_wp2_with fail
            exact bodyPost_ret (v := Sg.sle A B 1 0) (by simp [results, Try.results14, go_sem, d0, d1, d2]) rfl ⟨rfl, bl_set (bl_set (bl_set HBX.out.drew (by omega) _) (by omega) _) (by omega) _⟩
        · obtain ⟨E, hE, hE0⟩ : ∃ E, Sg.slV h v c r s sy sx t l b q 1 = Sg.sle 0 0 0 E ∧ E ≠ 0 := ⟨_, by unfold Sg.slV; rw [if_neg k4], k4⟩
          obtain rfl := E4' E k3' hE hE0
          rw [hE] at HS
          have hE1 : decide (E = 0) = false := by simpa using hE0
          clear E3' E4' E5' E6' hE k4 k3' k1 k2
          go_enter Try.func14, Try.ntmps14
          go_wp2_with fail
          refine gen_calls (fun W => W.heap.size = w.heap.size + 3 ∧ Below w.heap.size w W ∧ W.rowIs w.heap.size 31 4 (cf h v c ao m cap) ∧ Sg.Wn W (w.heap.size + 1) 0 r s sy sx t l b q ∧ W.rowIs (w.heap.size + 2) 29 3 (hf 0 0 0)) (by obtain ⟨X, rfl, z⟩ := out_start w h v c ao m cap r s sy sx t l b q; exact z) ?_
          rintro W ⟨z0, B0, b0, b1, b2⟩
          refine (HC.out W (RD.out.below B0)).mono ?_
          rintro e w1 ⟨rfl, hb⟩
          replace b0 := keepr hb b0
          replace b1 := b1.keep hb
          replace b2 := keepr hb b2
          have B1 := bl_step B0 hb
          clear hb B0
          have b1' := b1
          obtain ⟨n0, n1, n2, n3, n4, n5, n6, n7⟩ := b1'
          simp only [Nat.zero_add] at n1 n2 n3 n4 n5 n6 n7
          go_wp2_with fail
          refine (HW.out w1).mono ?_
          rintro e w2 ⟨rfl, hb⟩
          replace b0 := keepr hb b0
          replace b1 := b1.keep hb
          replace b2 := keepr hb b2
          have B2 := bl_step B1 hb
          clear hb B1 n0 n1 n2 n3 n4 n5 n6 n7
          have b1' := b1
          obtain ⟨n0, n1, n2, n3, n4, n5, n6, n7⟩ := b1'
          simp only [Nat.zero_add] at n1 n2 n3 n4 n5 n6 n7
          have e0 := cf0 b0
          have e1 := cf1 b0
          have e2 := cf2 b0
          go_wp2_with fail
          refine (HS.out w2).mono ?_
          rintro e w3 ⟨rfl, hb⟩
          replace b2 := keepr hb b2
          have B3 := bl_step B2 hb
          have z3 := hb.size
          have lb2 := b2.lt
          clear hb B2 n0 n1 n2 n3 n4 n5 n6 n7 e0 e1 e2 b0 b1
          have f0 := b2.frozen 0
          have f1 := b2.frozen 1
          have f2 := b2.frozen 2
          have d0 := hf0 b2
          have d1 := hf1 b2
          have d2 := hf2 b2
          go_wp2_with fail
          exact bodyPost_ret (v := Sg.sle 0 0 0 E) (by simp [results, Try.results14, go_sem, d0, d1, d2, lb2]) rfl ⟨rfl, bl_alloc (bl_set (bl_set (bl_set B3 (by omega) _) (by omega) _) (by omega) _) _⟩
    · obtain rfl := E2 k1 k2
      clear E1 E2 E3 E4 E5 E6 HS
      generalize Sg.wiE r s sy sx t l b q = E at HW k2
      have k2' : decide (E = 0) = false := by simpa using k2
      go_enter Try.func14, Try.ntmps14
      go_wp2_with fail
      refine gen_calls (fun W => W.heap.size = w.heap.size + 3 ∧ Below w.heap.size w W ∧ W.rowIs w.heap.size 31 4 (cf h v c ao m cap) ∧ Sg.Wn W (w.heap.size + 1) 0 r s sy sx t l b q ∧ W.rowIs (w.heap.size + 2) 29 3 (hf 0 0 0)) (by obtain ⟨X, rfl, z⟩ := out_start w h v c ao m cap r s sy sx t l b q; exact z) ?_
      rintro W ⟨z0, B0, b0, b1, b2⟩
      refine (HC.out W (RD.out.below B0)).mono ?_
      rintro e w1 ⟨rfl, hb⟩
      replace b0 := keepr hb b0
      replace b1 := b1.keep hb
      replace b2 := keepr hb b2
      have B1 := bl_step B0 hb
      clear hb B0
      have b1' := b1
      obtain ⟨n0, n1, n2, n3, n4, n5, n6, n7⟩ := b1'
      simp only [Nat.zero_add] at n1 n2 n3 n4 n5 n6 n7
      go_wp2_with fail
      refine (HW.out w1).mono ?_
      rintro e w2 ⟨rfl, hb⟩
      replace b0 := keepr hb b0
      replace b1 := b1.keep hb
      replace b2 := keepr hb b2
      have B2 := bl_step B1 hb
      clear hb B1 n0 n1 n2 n3 n4 n5 n6 n7
      have f0 := b2.frozen 0
      have f1 := b2.frozen 1
      have f2 := b2.frozen 2
      have d0 := hf0 b2
      have d1 := hf1 b2
      have d2 := hf2 b2
      go_wp2_with fail
      exact bodyPost_ret (v := Sg.sle 0 0 0 E) (by simp [results, Try.results14, go_sem, d0, d1, d2]) rfl ⟨rfl, bl_set (bl_set (bl_set B2 (by omega) _) (by omega) _) (by omega) _⟩
  · obtain rfl := E1 k1
    clear E1 E2 E3 E4 E5 E6
    generalize cuk h v c m N = E at HC k1
    have k1' : decide (E = 0) = false := by simpa using k1
    go_enter Try.func14, Try.ntmps14
    go_wp2_with fail
    refine gen_calls (fun W => W.heap.size = w.heap.size + 3 ∧ Below w.heap.size w W ∧ W.rowIs w.heap.size 31 4 (cf h v c ao m cap) ∧ Sg.Wn W (w.heap.size + 1) 0 r s sy sx t l b q ∧ W.rowIs (w.heap.size + 2) 29 3 (hf 0 0 0)) (by obtain ⟨X, rfl, z⟩ := out_start w h v c ao m cap r s sy sx t l b q; exact z) ?_
    rintro W ⟨z0, B0, b0, b1, b2⟩
    refine (HC.out W (RD.out.below B0)).mono ?_
    rintro e w1 ⟨rfl, hb⟩
    replace b2 := keepr hb b2
    have B1 := bl_step B0 hb
    clear hb B0 b0 b1
    have f0 := b2.frozen 0
    have f1 := b2.frozen 1
    have f2 := b2.frozen 2
    have d0 := hf0 b2
    have d1 := hf1 b2
    have d2 := hf2 b2
    go_wp2_with fail
    exact bodyPost_ret (v := Sg.sle 0 0 0 E) (by simp [results, Try.results14, go_sem, d0, d1, d2]) rfl ⟨rfl, bl_set (bl_set (bl_set B1 (by omega) _) (by omega) _) (by omega) _⟩
end Go.Proofs.Ytohkiknhjcibgaa
