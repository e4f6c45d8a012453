/- CubeTurned. -/
import Derived.Test.YtncmcldiodpnpaaKL2
namespace Go.Proofs.Ytncmcldiodpnpaa
open Go.RowKit Go.Shelf

theorem pl_one {P d : Nat} (h : P < 2 ^ (64 * d)) : pl P d 0 = P := by
  unfold pl; rw [Nat.zero_mul, Nat.mul_zero, Nat.pow_zero, Nat.div_one, Nat.mod_eq_of_lt h]
theorem js_one (s : Nat) (P : Nat → Nat) : js s P 1 = P 0 := by
  rw [js_succ]; simp [js, jn]
theorem chk_one {n : Nat} (h : 1 ≤ n ∧ n ≤ 4096) : Sg.chk (1 : Nat) (1 : Nat) n = 0 := by
  unfold Sg.chk
  rw [if_pos ⟨by omega, by omega, by omega⟩, if_neg (by simp; omega)]
theorem pok_one {n P : Nat} (h : P < 2 ^ n) : Pok (1 * 1) n P := by
  intro i hi
  have : i = 0 := by omega
  subst this
  rw [pl_one (lt_nw h)]; exact h
theorem cuk_one {n P : Nat} (hn : 1 ≤ n ∧ n ≤ 4096) (h : P < 2 ^ n) : cuk (1 : Nat) (1 : Nat) n (nw n) P = 0 := by
  unfold cuk
  rw [if_pos (chk_one hn)]
  simp only [Int.toNat_natCast]
  rw [if_pos (by omega), if_pos (pok_one h)]
theorem Wr.nil (w : World) (ao : Option Addr) : Wr w ao 0 0 := ⟨by simp, fun k hk => absurd hk (by simp)⟩
set_option maxHeartbeats 1600000 in
set_option maxRecDepth 100000 in
theorem turned_long (l : List Int) (n : Nat) (hl : l.length = n) (ao : Option Addr) (cap : Nat) (w : World) (h1 : 16777216 < n) (h2 : n ≤ 9223372036854775807) :
    Calls Try.prog 3 #[.slice ao n cap] w fun e w' => e = .returned (.bool true) ∧ Below w.heap.size w w' := by
  subst hl
  have HP := hid1 (pack_long l ao cap · h1 h2)
  have h1' : (l.length : Int) > 16777216 := by omega
  go_enter Try.func3, Try.ntmps3
  go_wp2_with fail
  refine (cbegun_any w).mono ?_
  rintro e w1 ⟨rfl, B1⟩
  go_wp2_with fail
  refine (HP.out w1).mono ?_
  rintro e w2 ⟨rfl, hb⟩
  have B2 := bl_step B1 hb
  clear hb B1
  go_wp2_with fail
  go_ret
  exact ⟨rfl, bl_alloc B2 _⟩
set_option maxHeartbeats 1600000 in
set_option maxRecDepth 100000 in
theorem turned_out (l : List Int) (n : Nat) (hl : l.length = n) (ao : Option Addr) (cap : Nat) (w : World) (h1 : n ≤ 16777216) (h2 : n < 1 ∨ 4096 < n) (rd : R8 w ao l) :
    Calls Try.prog 3 #[.slice ao n cap] w fun e w' => e = .returned (.bool true) ∧ Below w.heap.size w w' := by
  have HP := hid1 (fun W r => pack_any l n hl ao cap W h1 r)
  have hb := nw_bd h1
  have hPK := pk_lt l n
  have HT := hid1 (fun g W r => turn_bad n (some ⟨g, 0, none⟩) (nw n) (nw n) (pk l n) W (by omega) r)
  have hE : tuE n (nw n) (pk l n) = 30 := by
    unfold tuE
    rw [chk_ok h1 hPK, if_pos rfl, if_pos (by omega)]
  rw [hE] at HT
  have RD := hid1 rd
  clear rd hE
  go_enter Try.func3, Try.ntmps3
  go_wp2_with fail
  refine (cbegun_any w).mono ?_
  rintro e w1 ⟨rfl, B1⟩
  go_wp2_with fail
  refine (HP.out w1 (RD.out.below B1)).mono ?_
  rintro e w2 ⟨g, rfl, hg, row, hb⟩
  have B2 := bl_step B1 hb
  have WG := Wr.row row (lt_nw hPK)
  clear hb B1 row HP
  go_wp2_with fail
  refine gen_calls (fun X => Wr X (some ⟨g, 0, none⟩) (nw n) (pk l n) ∧ Below w.heap.size w X) ⟨WG.below (bl_alloc (Below.refl _ _) _), bl_alloc B2 _⟩ ?_
  clear WG B2
  rintro X ⟨WG, BX⟩
  refine (HT.out g X WG (by decide)).mono ?_
  rintro e w3 ⟨rfl, hb⟩
  have B3 := bl_step BX hb
  clear hb BX HT WG
  by_cases t1 : n < 1
  · have t1' : (n : Int) < 1 := by omega
    go_wp2_with fail
    refine (cubes_same 0 0 0 0 0 none none 0 0 _ (by decide) (Wr.nil _ _) (Wr.nil _ _)).mono ?_
    rintro e w4 ⟨rfl, hb⟩
    have B4 := bl_step (bl_alloc B3 _) hb
    go_wp2_with fail
    go_ret
    exact ⟨rfl, B4⟩
  · have t1' : ¬ (n : Int) < 1 := by omega
    have t2' : (n : Int) > 4096 := by omega
    go_wp2_with fail
    refine (cubes_same 0 0 0 0 0 none none 0 0 _ (by decide) (Wr.nil _ _) (Wr.nil _ _)).mono ?_
    rintro e w4 ⟨rfl, hb⟩
    have B4 := bl_step (bl_alloc B3 _) hb
    go_wp2_with fail
    go_ret
    exact ⟨rfl, B4⟩
set_option maxHeartbeats 3200000 in
set_option maxRecDepth 100000 in
theorem turned_in (l : List Int) (n : Nat) (hl : l.length = n) (ao : Option Addr) (cap : Nat) (w : World) (hn : 1 ≤ n ∧ n ≤ 4096) (rd : R8 w ao l) :
    Calls Try.prog 3 #[.slice ao n cap] w fun e w' => e = .returned (.bool true) ∧ Below w.heap.size w w' := by
  have h1 : n ≤ 16777216 := by omega
  have HP := hid1 (fun W r => pack_any l n hl ao cap W h1 r)
  have hb := nw_bd h1
  have hPK := pk_lt l n
  obtain ⟨P, eP⟩ : ∃ P, pk l n = P := ⟨_, rfl⟩
  rw [eP] at HP hPK
  clear eP
  have hP64 := lt_nw hPK
  have HT := hid1 (fun g cap W r => turn_ok n g 0 (nw n) cap P W hn rfl hPK r)
  have HF := hid1 (fun G K W hK hK2 r => cflat_ok 1 1 n G 0 (nw n) K P W (by decide) (by decide) hn (by omega) (cuk_one hn hPK) (by omega) hK hK2 (pok_one hPK) r)
  have HA := hid1 (fun G K W hK hK2 r => at_ok 1 1 n G 0 (nw n) K P 0 0 W (by decide) (by decide) hn (chk_one hn) (cuk_one hn hPK) (by omega) hK hK2 (by decide) (by decide) r (nw n) rfl)
  rw [show js n (pl P (nw n)) (1 * 1) = P by rw [Nat.one_mul, js_one, pl_one hP64], show 1 * 1 * n = n by omega] at HF
  rw [show pl P (nw n) (0 * 1 + 0) = P by rw [Nat.zero_mul, Nat.zero_add, pl_one hP64]] at HA
  simp only [show ((1 : Nat) : Int) = 1 from rfl, show ((0 : Nat) : Int) = 0 from rfl] at HF HA
  have RD := hid1 rd
  clear rd
  have t1 : ¬ (n : Int) < 1 := by omega
  have t2 : ¬ (n : Int) > 4096 := by omega
  have hm : nw n ≤ 9223372036854775807 := by omega
  obtain ⟨m, em⟩ : ∃ m, nw n = m := ⟨_, rfl⟩
  rw [em] at HP HT HF HA hm hP64
  clear em hb
  go_enter Try.func3, Try.ntmps3
  go_wp2_with fail
  refine (cbegun_any w).mono ?_
  rintro e w1 ⟨rfl, B1⟩
  go_wp2_with fail
  refine (HP.out w1 (RD.out.below B1)).mono ?_
  rintro e w2 ⟨g, rfl, hg, row, hb⟩
  have B2 := bl_step B1 hb
  have WG := Wr.row row hP64
  clear hb B1 row HP
  go_wp2_with fail
  refine gen_calls (fun X => X.rowIs w2.heap.size 26 2 (sf n (some ⟨g, 0, none⟩) m m) ∧ Wr X (some ⟨g, 0, none⟩) m P ∧ Below w.heap.size w X) ⟨row_new _ _ _ _ _ _, WG.below (bl_alloc (Below.refl _ _) _), bl_alloc B2 _⟩ ?_
  clear WG B2
  rintro X ⟨q0, WG, BX⟩
  refine (HT.out g m X WG).mono ?_
  rintro e w3 ⟨G, K, rfl, hG, hK, hK2, _, WC, hb⟩
  replace q0 := keepr hb q0
  replace WG := WG.below hb
  have B3 := bl_step BX hb
  clear hb BX hG
  go_wp2_with fail
  refine gen_calls (fun X => X.rowIs w2.heap.size 26 2 (sf n (some ⟨g, 0, none⟩) m m) ∧ X.rowIs w3.heap.size 33 4 (cf 1 1 n (some ⟨G, 0, none⟩) m K) ∧ Wr X (some ⟨g, 0, none⟩) m P ∧ Wr X (some ⟨G, 0, none⟩) m P ∧ Below w.heap.size w X) ⟨q0.alloc _, cu_new _ _ _ _ _ _ _ _, WG.below (bl_alloc (Below.refl _ _) _), WC.below (bl_alloc (Below.refl _ _) _), bl_alloc B3 _⟩ ?_
  clear WG WC B3 q0
  rintro X ⟨q0, q1, WG, WC, BX⟩
  refine (HF.out G K X hK hK2 WC).mono ?_
  rintro e w4 ⟨F, rfl, hF, row, hb⟩
  replace q0 := keepr hb q0
  replace q1 := keepr hb q1
  replace WG := WG.below hb
  replace WC := WC.below hb
  have WF := Wr.row row hP64
  have B4 := bl_step BX hb
  clear hb BX row hF
  have e0 := cf0 q1
  have e1 := cf1 q1
  have e2 := cf2 q1
  have e3 := cf3 q1
  have l1 := q1.lt
  go_wp2_with fail
  refine gen_calls (fun X => X.rowIs w2.heap.size 26 2 (sf n (some ⟨g, 0, none⟩) m m) ∧ X.rowIs w3.heap.size 33 4 (cf 1 1 n (some ⟨G, 0, none⟩) m K) ∧ X.rowIs w4.heap.size 26 2 (sf n (some ⟨F, 0, none⟩) m m) ∧ Wr X (some ⟨g, 0, none⟩) m P ∧ Wr X (some ⟨G, 0, none⟩) m P ∧ Wr X (some ⟨F, 0, none⟩) m P ∧ Below w.heap.size w X) ⟨q0.alloc _, q1.alloc _, row_new _ _ _ _ _ _, WG.below (bl_alloc (Below.refl _ _) _), WC.below (bl_alloc (Below.refl _ _) _), WF.below (bl_alloc (Below.refl _ _) _), bl_alloc B4 _⟩ ?_
  clear WG WC WF B4 q0 q1 e0 e1 e2 e3 l1
  rintro X ⟨q0, q1, q2, WG, WC, WF, BX⟩
  refine (HA.out G K X hK hK2 WC).mono ?_
  rintro e w5 ⟨A, J, rfl, hA, hJ, hJ2, _, WA, hb⟩
  replace q0 := keepr hb q0
  replace q1 := keepr hb q1
  replace q2 := keepr hb q2
  replace WG := WG.below hb
  replace WC := WC.below hb
  replace WF := WF.below hb
  have B5 := bl_step BX hb
  clear hb BX hA
  have e0 := sf_len q2
  have e1 := sf_ws q2
  have l1 := q2.lt
  go_wp2_with fail
  refine gen_calls (fun X => X.rowIs w2.heap.size 26 2 (sf n (some ⟨g, 0, none⟩) m m) ∧ X.rowIs w3.heap.size 33 4 (cf 1 1 n (some ⟨G, 0, none⟩) m K) ∧ X.rowIs w4.heap.size 26 2 (sf n (some ⟨F, 0, none⟩) m m) ∧ X.rowIs w5.heap.size 26 2 (sf n (some ⟨A, 0, none⟩) m J) ∧ Wr X (some ⟨g, 0, none⟩) m P ∧ Wr X (some ⟨G, 0, none⟩) m P ∧ Wr X (some ⟨F, 0, none⟩) m P ∧ Wr X (some ⟨A, 0, none⟩) m P ∧ Below w.heap.size w X) ⟨q0.alloc _, q1.alloc _, q2.alloc _, row_new _ _ _ _ _ _, WG.below (bl_alloc (Below.refl _ _) _), WC.below (bl_alloc (Below.refl _ _) _), WF.below (bl_alloc (Below.refl _ _) _), WA.below (bl_alloc (Below.refl _ _) _), bl_alloc B5 _⟩ ?_
  clear WG WC WF WA B5 q0 q1 q2 e0 e1 l1
  rintro X ⟨q0, q1, q2, q3, WG, WC, WF, WA, BX⟩
  refine (HT.out F m X WF).mono ?_
  rintro e w6 ⟨T, I, rfl, hT, hI, hI2, _, WT, hb⟩
  replace q0 := keepr hb q0
  replace q1 := keepr hb q1
  replace q2 := keepr hb q2
  replace q3 := keepr hb q3
  replace WG := WG.below hb
  replace WC := WC.below hb
  replace WF := WF.below hb
  replace WA := WA.below hb
  have B6 := bl_step BX hb
  clear hb BX hT
  have e0 := cf0 q1
  have e1 := cf1 q1
  have e2 := cf2 q1
  have e3 := cf3 q1
  have e4 := sf_len q2
  have e5 := sf_ws q2
  have e6 := sf_len q0
  have e7 := sf_ws q0
  have l1 := q1.lt
  have l2 := q2.lt
  have l0 := q0.lt
  go_wp2_with fail
  refine gen_calls (fun X => X.rowIs w2.heap.size 26 2 (sf n (some ⟨g, 0, none⟩) m m) ∧ X.rowIs w3.heap.size 33 4 (cf 1 1 n (some ⟨G, 0, none⟩) m K) ∧ X.rowIs w5.heap.size 26 2 (sf n (some ⟨A, 0, none⟩) m J) ∧ X.rowIs w6.heap.size 33 4 (cf 1 1 n (some ⟨T, 0, none⟩) m I) ∧ Wr X (some ⟨g, 0, none⟩) m P ∧ Wr X (some ⟨G, 0, none⟩) m P ∧ Wr X (some ⟨F, 0, none⟩) m P ∧ Wr X (some ⟨A, 0, none⟩) m P ∧ Wr X (some ⟨T, 0, none⟩) m P ∧ Below w.heap.size w X) ⟨q0.alloc _, q1.alloc _, q3.alloc _, cu_new _ _ _ _ _ _ _ _, WG.below (bl_alloc (Below.refl _ _) _), WC.below (bl_alloc (Below.refl _ _) _), WF.below (bl_alloc (Below.refl _ _) _), WA.below (bl_alloc (Below.refl _ _) _), WT.below (bl_alloc (Below.refl _ _) _), bl_alloc B6 _⟩ ?_
  clear WG WC WF WA WT B6 q0 q1 q2 q3 e0 e1 e2 e3 e4 e5 e6 e7 l0 l1 l2
  rintro X ⟨q0, q1, q3, q4, WG, WC, WF, WA, WT, BX⟩
  refine (rows_same n m P _ _ _ _ X hm WF WG).mono ?_
  rintro e w7 ⟨rfl, hb⟩
  replace q0 := keepr hb q0
  replace q1 := keepr hb q1
  replace q3 := keepr hb q3
  replace q4 := keepr hb q4
  replace WG := WG.below hb
  replace WC := WC.below hb
  replace WA := WA.below hb
  replace WT := WT.below hb
  have B7 := bl_step BX hb
  clear hb BX WF
  have e4 := sf_len q3
  have e5 := sf_ws q3
  have e6 := sf_len q0
  have e7 := sf_ws q0
  go_wp2_with fail
  refine (rows_same n m P _ _ _ _ w7 hm WA WG).mono ?_
  rintro e w8 ⟨rfl, hb⟩
  replace q1 := keepr hb q1
  replace q4 := keepr hb q4
  replace WC := WC.below hb
  replace WT := WT.below hb
  have B8 := bl_step B7 hb
  clear hb B7 WA WG q0 q3 e4 e5 e6 e7
  have e0 := cf0 q1
  have e1 := cf1 q1
  have e2 := cf2 q1
  have e3 := cf3 q1
  have e4 := cf0 q4
  have e5 := cf1 q4
  have e6 := cf2 q4
  have e7 := cf3 q4
  go_wp2_with fail
  refine (cubes_same 1 1 n m P _ _ _ _ w8 hm WT WC).mono ?_
  rintro e w9 ⟨rfl, hb⟩
  have B9 := bl_step B8 hb
  clear hb B8 WT WC q1 q4 e0 e1 e2 e3 e4 e5 e6 e7
  go_wp2_with fail
  go_ret
  exact ⟨rfl, B9⟩
theorem cubeTurned_any (l : List Int) (ao : Option Addr) (cap : Nat) (w : World) (hl : l.length ≤ cap) (hc : cap ≤ 140737488351232) (rd : R8 w ao l) :
    Calls Try.prog 3 #[.slice ao l.length cap] w fun e w' => e = .returned (.bool true) ∧ Below w.heap.size w w' := by
  by_cases h1 : l.length ≤ 16777216
  · by_cases h2 : l.length < 1 ∨ 4096 < l.length
    · exact turned_out l l.length rfl ao cap w h1 h2 rd
    · exact turned_in l l.length rfl ao cap w (by omega) rd
  · exact turned_long l l.length rfl ao cap w (by omega) (by omega)
end Go.Proofs.Ytncmcldiodpnpaa
