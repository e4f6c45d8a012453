/- CubeBack, where Pack packs. -/
import Derived.Test.YtncmcldiodpnpaaKD3
namespace Go.Proofs.Ytncmcldiodpnpaa
open Go.RowKit Go.Shelf

theorem kpD {Z Y : World} {b z : Nat} {h v c q : Int} {ao : Option Addr} {m K : Nat} (k : Z.rowIs b 33 4 (cf h v c ao m K)) (r : Z.cell? ⟨z, 1, none⟩ = some (.int .i64 q)) (hB : Below Z.heap.size Z Y) :
    (Y.cell? ⟨b, 0, none⟩ = some (.int .i64 h) ∧ Y.cell? ⟨b, 1, none⟩ = some (.int .i64 v) ∧ Y.cell? ⟨b, 2, none⟩ = some (.int .i64 c) ∧ Y.cell? ⟨b, 3, none⟩ = some (.slice ao m K)) ∧ Y.cell? ⟨z, 1, none⟩ = some (.int .i64 q) :=
  ⟨⟨cf0 (keepr hB k), cf1 (keepr hB k), cf2 (keepr hB k), cf3 (keepr hB k)⟩, keepc hB r⟩
theorem own_putD {w : World} {base : Nat} {e : TypeId} {g n c b : Nat} {xs : List Value} (h : w.ownsRow base e 1 (.slice (some ⟨g, 0, none⟩) n c) n xs) (hne : g ≠ b) (k : Nat) (u : Value) : (w.setCell ⟨b, k, none⟩ u).ownsRow base e 1 (.slice (some ⟨g, 0, none⟩) n c) n xs := by
  have hb := (But.refl b w).set (o := k) u
  exact h.kept (row := some b) ⟨hb.os, hb.tape, hb.output, hb.size, fun q hq hn => hb.block q hq (fun e => hn (by rw [e]))⟩ (by simp [Value.ownBlock]; exact hne)
set_option maxHeartbeats 6400000 in
set_option maxRecDepth 100000 in
theorem back_ok (H V C : Nat) (l : List Int) (n : Nat) (hl : l.length = n) (g o cap : Nat) (w : World) (hH : 1 ≤ H ∧ H ≤ 4096) (hV : 1 ≤ V ∧ V ≤ 4096) (hC : 1 ≤ C ∧ C ≤ 4096) (hn : n = H * V * C) (hn2 : n ≤ 16777216) (hcap : n ≤ cap) (hcap2 : cap ≤ 9223372036854775807) (k : Sg.chk H V C = 0)
    (rd : R8 w (some ⟨g, o, none⟩) l) :
    Calls Try.prog 5 #[Sg.shp H V C, .slice (some ⟨g, o, none⟩) n cap] w fun e w' => e = .returned (.bool true) ∧ Below w.heap.size w w' := by
  obtain ⟨M, eM⟩ : ∃ M, H * V * nw C = M := ⟨_, rfl⟩
  obtain ⟨P, eP⟩ : ∃ P, H * V = P := ⟨_, rfl⟩
  have hM := (wo_bd hH.2 hV.2 hC.2).2
  have hPb := (wo_bd hH.2 hV.2 hC.2).1
  have hP0 : 0 < P := by rw [← eP]; exact Nat.mul_pos (by omega) (by omega)
  obtain ⟨N, eN⟩ : ∃ N, cN l C P = N := ⟨_, rfl⟩
  obtain ⟨Q, eQ⟩ : ∃ Q, pk l n = Q := ⟨_, rfl⟩
  have hNM : N < 2 ^ (64 * M) := by rw [← eN, ← eM, eP]; exact cN_lt l C P
  have hQn : Q < 2 ^ n := by rw [← eQ]; exact pk_lt l n
  have hQ := lt_nw hQn
  have hpok : Pok P C N := by rw [← eN]; exact cN_pok l C P
  have hcuk : cuk H V C M N = 0 := by have := cN_cuk (l := l) k; rw [eM, eP, eN] at this; exact this
  have eF : js C (pl N (nw C)) P = Q := by rw [← eN, ← eQ, cN_flat (by omega), hn, eP]
  have HP := hid1 (fun W r => cpack_ok H V C l n hl g o cap W hH hV hC hn hn2 hcap hcap2 k M eM r)
  rw [show js (64 * nw C) (sp l C) (H * V) = N by rw [eP]; exact eN] at HP
  have HU := hid1 (fun G W r => cunpack_ok H V C G 0 M M N W hH hV hC (by omega) hcuk eM.symm (Nat.le_refl _) (by omega) r)
  rw [← hn] at HU
  have HC := hid1 (fun G W r => ccheck_any H V C (some ⟨G, 0, none⟩) M M N W (Nat.le_refl _) (by omega) r)
  rw [hcuk] at HC
  have HP2 := hid1 (fun G W r => cpack_ok H V C (uL l n) n (uL_len l n) G 0 n W hH hV hC hn hn2 (Nat.le_refl _) (by omega) k M eM r)
  rw [show js (64 * nw C) (sp (uL l n) C) (H * V) = N by rw [eP]; have := cN_again (l := l) (C := C) (P := P); rw [← eP, ← hn, eP, eN] at this; exact this] at HP2
  have HF := hid1 (fun G W r => cflat_ok H V C G 0 M M N W hH hV hC (by omega) hcuk eM.symm (Nat.le_refl _) (by omega) (by rw [eP]; exact hpok) r)
  rw [← hn, eP, eF] at HF
  have HB := hid1 (fun W r => pack_any l n hl (some ⟨g, o, none⟩) cap W hn2 r)
  rw [eQ] at HB
  have HUV : Hid (∀ j, j < n → uv N C j = if 0 < ia l j then 1 else -1) := fun j hj => by rw [← eN]; exact cN_uv (by omega) (by rw [← eP, ← hn]; exact hj)
  have HUR : Hid (∀ W G, W.rowIs G 52 n (fun j => .int .i8 (uv N C j)) → R8 W (some ⟨G, 0, none⟩) (uL l n)) := fun W G r j hj => by
    rw [uL_len] at hj
    exact ⟨G, 0, rfl, by rw [Nat.zero_add, uL_at hj, ← HUV.out j hj]; exact r.cell hj⟩
  have hd1 : nw C ≤ 64 := by unfold nw; omega
  obtain ⟨d, ed⟩ : ∃ d, nw C = d := ⟨_, rfl⟩
  have HA := hid1 (fun G y x W (hy : y < H) (hx : x < V) r => at_ok H V C G 0 M M N y x W hH hV hC k hcuk eM.symm (Nat.le_refl _) (by omega) hy hx r d ed)
  have HJ : Hid (∀ (u : Value) (l : List (Nat × Nat)) (W W0 : World), Pb W0 W u l C d N → l.length = P → P ≤ 4096 → ∃ gl cl, u = .slice (some ⟨gl, 0, none⟩) P cl ∧ Calls Try.prog 23 #[.slice (some ⟨gl, 0, none⟩) P cl] W fun e w' => ∃ g, e = .returned (.tuple #[rv n (some ⟨g, 0, none⟩) (nw n) (nw n), .int .i64 0]) ∧ W.heap.size ≤ g ∧ w'.rowIs g 75 (nw n) (wf Q) ∧ Below W.heap.size W w') := fun u l W W0 hp hl hP => by
    obtain ⟨gl, cl, e, js⟩ := hp.js hl hP0 ed hC.2 hpok
    refine ⟨gl, cl, e, ?_⟩
    have e1 : off (fun _ => C) P = n := by rw [off_const, hn, eP]
    have := join_any P gl cl _ _ _ _ W (by omega) js (by rw [e1]; exact hn2)
    rw [e1, show jn (fun _ => C) (fun i => pl N d i) P = Q by rw [← ed]; exact eF] at this
    exact this
  have HPN : Hid (P ≤ n) := by rw [hn, ← eP]; exact Nat.le_mul_of_pos_right _ (by omega)
  have RD := hid1 rd
  have HL := hid1 hl
  have hmn : nw n ≤ 9223372036854775807 := by unfold nw; omega
  obtain ⟨m, em⟩ : ∃ m, nw n = m := ⟨_, rfl⟩
  rw [em] at HF HB HJ hmn hQ
  have EP := hid1 eP
  have iP : (H : Int) * (V : Int) = (P : Int) := by rw [← eP]; simp
  have iP0 : (0 : Int) ≤ (P : Int) := by omega
  have iP1 : (P : Int) ≤ 16777216 := by omega
  have hMM : M ≤ 9223372036854775807 := by omega
  clear rd hl hpok hcuk eF eN eQ eM eP hM hn em ed k hQn hPb
  go_enter Try.func5, Try.ntmps5
  go_wp2_with fail
  refine gen_calls (fun W => W.rowIs w.heap.size 31 3 (hf H V C) ∧ Below w.heap.size w W) ⟨hf_new w H V C _, bl_alloc (Below.refl _ _) _⟩ ?_
  rintro W ⟨q0, B0⟩
  refine (cbegun_any W).mono ?_
  rintro e w1 ⟨rfl, hb⟩
  replace q0 := keepr hb q0
  have B1 := bl_step B0 hb
  clear hb B0
  have c0 := hf0 q0
  have c1 := hf1 q0
  have c2 := hf2 q0
  go_wp2_with fail
  refine (HP.out w1 (RD.out.below B1)).mono ?_
  rintro e w2 ⟨G, rfl, hG, row, hb⟩
  replace q0 := keepr hb q0
  have B2 := bl_step B1 hb
  have WC := Wr.row row hNM
  clear hb B1 c0 c1 c2 row HP hG
  have c0 := hf0 q0
  have c1 := hf1 q0
  have c2 := hf2 q0
  have l0 := q0.lt
  go_wp2_with fail
  refine gen_calls (fun X => X.rowIs w.heap.size 31 3 (hf H V C) ∧ X.rowIs w2.heap.size 33 4 (cf H V C (some ⟨G, 0, none⟩) M M) ∧ Wr X (some ⟨G, 0, none⟩) M N ∧ Below w.heap.size w X) ⟨q0.alloc _, cu_new _ _ _ _ _ _ _ _, WC.below (bl_alloc (Below.refl _ _) _), bl_alloc B2 _⟩ ?_
  clear q0 WC B2 c0 c1 c2 l0
  rintro X ⟨q0, q1, WC, BX⟩
  refine (HU.out G X WC).mono ?_
  rintro e w3 ⟨U, rfl, hU, rowU, hb⟩
  replace q0 := keepr hb q0
  replace q1 := keepr hb q1
  replace WC := WC.below hb
  have B3 := bl_step BX hb
  clear hb BX hU HU
  have c0 := hf0 q0
  have c1 := hf1 q0
  have c2 := hf2 q0
  have e0 := cf0 q1
  have e1 := cf1 q1
  have e2 := cf2 q1
  have e3 := cf3 q1
  go_wp2_with fail
  refine (HC.out G w3 WC).mono ?_
  rintro e w4 ⟨rfl, hb⟩
  replace q0 := keepr hb q0
  replace q1 := keepr hb q1
  replace WC := WC.below hb
  replace rowU := keepr hb rowU
  have B4 := bl_step B3 hb
  clear hb B3 c0 c1 c2 e0 e1 e2 e3 HC
  have c0 := hf0 q0
  have c1 := hf1 q0
  have c2 := hf2 q0
  have e0 := cf0 q1
  have e1 := cf1 q1
  have e2 := cf2 q1
  have e3 := cf3 q1
  have RU := hid1 rowU
  have Q0 := hid1 q0
  have Q1 := hid1 q1
  have HWC := hid1 WC
  have HB4 := hid1 B4
  clear rowU WC B4
  go_wp2_with fail
  clear q0 q1 c0 c1 c2 e0 e1 e2 e3
  go_loopw [11] (fun i wr => ∃ k : Nat, k ≤ n ∧ i = .int .i64 k ∧ Below w4.heap.size w4 wr) (fun i _ => n - (intOf i).toNat)
  case atStart => exact ⟨0, Nat.zero_le _, rfl, Below.refl _ _⟩
  case round =>
    obtain ⟨k, hk, rfl, hnx⟩ := hrel
    have ik0 : (0 : Int) ≤ (k : Int) := by omega
    by_cases hlt : k < n
    · have ik : (k : Int) < (n : Int) := by omega
      obtain ⟨ga, oa, ea, c8⟩ := RD.out k (by rw [HL.out]; omega)
      cases ea
      replace c8 := keepc (bl_step HB4.out hnx) c8
      have d8 := (keepr hnx RU.out).cell hlt
      have e1 := HUV.out k hlt
      simp only [e1] at d8
      clear e1
      by_cases h0 : 0 < ia l k
      · rw [if_pos h0] at d8
        have g1 : decide (0 < ia l k) = true := by simpa using h0
        go_wp2_with fail
        go_quiet (fail)
        go_wp2
        exact ⟨⟨k + 1, by omega, by go_num, bl_drewN hnx _⟩, by simp [intOf]; omega⟩
      · rw [if_neg h0] at d8
        have g1 : decide (0 < ia l k) = false := by simpa using h0
        go_wp2_with fail
        go_quiet (fail)
        go_wp2
        exact ⟨⟨k + 1, by omega, by go_num, bl_drewN hnx _⟩, by simp [intOf]; omega⟩
    · have hkN : k = n := by omega
      subst hkN
      have rowU := keepr hnx RU.out
      have q0 := keepr hnx Q0.out
      have q1 := keepr hnx Q1.out
      have WC := HWC.out.below hnx
      have B5 := bl_step HB4.out hnx
      clear hnx hlt hk ik0 RU Q0 Q1 HWC HB4 HUV
      have c0 := hf0 q0
      have c1 := hf1 q0
      have c2 := hf2 q0
      go_wp2_with fail
      refine (HP2.out U wr (HUR.out wr U rowU)).mono ?_
      rintro e w5 ⟨G2, rfl, hG2, row, hb⟩
      replace q0 := keepr hb q0
      replace q1 := keepr hb q1
      replace WC := WC.below hb
      have WD := Wr.row row hNM
      have B6 := bl_step B5 hb
      clear hb B5 row hG2 rowU HUR HP2 c0 c1 c2
      have e0 := cf0 q1
      have e1 := cf1 q1
      have e2 := cf2 q1
      have e3 := cf3 q1
      have l1 := q1.lt
      go_wp2_with fail
      refine gen_calls (fun X => X.rowIs w.heap.size 31 3 (hf H V C) ∧ X.rowIs w2.heap.size 33 4 (cf H V C (some ⟨G, 0, none⟩) M M) ∧ X.rowIs w5.heap.size 33 4 (cf H V C (some ⟨G2, 0, none⟩) M M) ∧ Wr X (some ⟨G, 0, none⟩) M N ∧ Wr X (some ⟨G2, 0, none⟩) M N ∧ Below w.heap.size w X) ⟨q0.alloc _, q1.alloc _, cu_new _ _ _ _ _ _ _ _, WC.below (bl_alloc (Below.refl _ _) _), WD.below (bl_alloc (Below.refl _ _) _), bl_alloc B6 _⟩ ?_
      clear q0 q1 WC WD B6 e0 e1 e2 e3 l1
      rintro X ⟨q0, q1, q2, WC, WD, BX⟩
      refine (HF.out G X WC).mono ?_
      rintro e w6 ⟨F, rfl, hF, row, hb⟩
      replace q0 := keepr hb q0
      replace q1 := keepr hb q1
      replace q2 := keepr hb q2
      replace WC := WC.below hb
      replace WD := WD.below hb
      have WF := Wr.row row hQ
      have B7 := bl_step BX hb
      clear hb BX row hF HF
      go_wp2_with fail
      refine gen_calls (fun X => X.rowIs w.heap.size 31 3 (hf H V C) ∧ X.rowIs w2.heap.size 33 4 (cf H V C (some ⟨G, 0, none⟩) M M) ∧ X.rowIs w5.heap.size 33 4 (cf H V C (some ⟨G2, 0, none⟩) M M) ∧ X.rowIs w6.heap.size 26 2 (sf k (some ⟨F, 0, none⟩) m m) ∧ Wr X (some ⟨G, 0, none⟩) M N ∧ Wr X (some ⟨G2, 0, none⟩) M N ∧ Wr X (some ⟨F, 0, none⟩) m Q ∧ Below w.heap.size w X) ⟨q0.alloc _, q1.alloc _, q2.alloc _, row_new _ _ _ _ _ _, WC.below (bl_alloc (Below.refl _ _) _), WD.below (bl_alloc (Below.refl _ _) _), WF.below (bl_alloc (Below.refl _ _) _), bl_alloc B7 _⟩ ?_
      clear q0 q1 q2 WC WD WF B7
      rintro X ⟨q0, q1, q2, q3, WC, WD, WF, BX⟩
      refine (HB.out X (RD.out.below BX)).mono ?_
      rintro e w7 ⟨A, rfl, hA, row, hb⟩
      replace q0 := keepr hb q0
      replace q1 := keepr hb q1
      replace q2 := keepr hb q2
      replace q3 := keepr hb q3
      replace WC := WC.below hb
      replace WD := WD.below hb
      replace WF := WF.below hb
      have WA := Wr.row row hQ
      have B8 := bl_step BX hb
      clear hb BX row hA HB
      have e0 := cf0 q1
      have e1 := cf1 q1
      have e2 := cf2 q1
      have e3 := cf3 q1
      have l1 := q1.lt
      have f0 := cf0 q2
      have f1 := cf1 q2
      have f2 := cf2 q2
      have f3 := cf3 q2
      have l2 := q2.lt
      go_wp2_with fail
      refine gen_calls (fun X => X.rowIs w.heap.size 31 3 (hf H V C) ∧ X.rowIs w2.heap.size 33 4 (cf H V C (some ⟨G, 0, none⟩) M M) ∧ X.rowIs w6.heap.size 26 2 (sf k (some ⟨F, 0, none⟩) m m) ∧ X.rowIs w7.heap.size 26 2 (sf k (some ⟨A, 0, none⟩) m m) ∧ Wr X (some ⟨G, 0, none⟩) M N ∧ Wr X (some ⟨G2, 0, none⟩) M N ∧ Wr X (some ⟨F, 0, none⟩) m Q ∧ Wr X (some ⟨A, 0, none⟩) m Q ∧ Below w.heap.size w X) ⟨q0.alloc _, q1.alloc _, q3.alloc _, row_new _ _ _ _ _ _, WC.below (bl_alloc (Below.refl _ _) _), WD.below (bl_alloc (Below.refl _ _) _), WF.below (bl_alloc (Below.refl _ _) _), WA.below (bl_alloc (Below.refl _ _) _), bl_alloc B8 _⟩ ?_
      clear q0 q1 q2 q3 WC WD WF WA B8 e0 e1 e2 e3 l1 f0 f1 f2 f3 l2
      rintro X ⟨q0, q1, q3, q4, WC, WD, WF, WA, BX⟩
      refine (cubes_same H V C M N _ _ _ _ X hMM WC WD).mono ?_
      rintro e w8 ⟨rfl, hb⟩
      replace q0 := keepr hb q0
      replace q1 := keepr hb q1
      replace q3 := keepr hb q3
      replace q4 := keepr hb q4
      replace WC := WC.below hb
      replace WF := WF.below hb
      replace WA := WA.below hb
      have B9 := bl_step BX hb
      clear hb BX WD
      have e0 := sf_len q3
      have e1 := sf_ws q3
      have e2 := sf_len q4
      have e3 := sf_ws q4
      go_wp2_with fail
      refine (rows_same k m Q _ _ _ _ w8 hmn WF WA).mono ?_
      rintro e w9 ⟨rfl, hb⟩
      replace q0 := keepr hb q0
      replace q1 := keepr hb q1
      replace q3 := keepr hb q3
      replace WC := WC.below hb
      replace WF := WF.below hb
      have B10 := bl_step B9 hb
      clear hb B9 WA q4 e0 e1 e2 e3
      have c0 := hf0 q0
      have c1 := hf1 q0
      have c2 := hf2 q0
      by_cases hP : P ≤ 4096
      · have iP2 : (P : Int) ≤ 4096 := by omega
        have Q0 := hid1 q0
        have Q1 := hid1 q1
        have Q3 := hid1 q3
        have HWC := hid1 WC
        have HWF := hid1 WF
        have HB10 := hid1 B10
        clear WC WF B10
        go_wp2_with fail
        clear q0 q1 q3 c0 c1 c2
        go_loopw [18, 19] (fun v x wr => ∃ (u : Value) (ls : List (Nat × Nat)) (i : Nat), v = u ∧ ls.length = i ∧ i ≤ P ∧ x = .int .i64 i ∧ Pb w9 wr u ls C d N) (fun _ x _ => P - (intOf x).toNat)
        case atStart => exact ⟨_, [], 0, rfl, rfl, Nat.zero_le _, rfl, Pb.nil _ _ _ _⟩
        case round =>
          obtain ⟨v, ls, i, ev, hli, hi, rfl, hp⟩ := hrel
          replace ev := ev.symm
          subst ev
          have HLI := hid1 hli
          have hB := hp.b
          have HPB := hid1 hp
          have q0 := keepr hB Q0.out
          have q1 := keepr hB Q1.out
          have c0 := hf0 q0
          have c1 := hf1 q0
          have c2 := hf2 q0
          have ii0 : (0 : Int) ≤ (i : Int) := by omega
          by_cases hlt : i < P
          · have ii : (i : Int) < (P : Int) := by omega
            have e0 := cf0 q1
            have e1 := cf1 q1
            have e2 := cf2 q1
            have e3 := cf3 q1
            have hy : i / V < H := Nat.div_lt_of_lt_mul (by rw [Nat.mul_comm, EP.out]; exact hlt)
            have hx : i % V < V := Nat.mod_lt _ (by omega)
            have hyx : i / V * V + i % V = i := by rw [Nat.mul_comm]; exact Nat.div_add_mod i V
            obtain ⟨y, ey⟩ : ∃ y, i / V = y := ⟨_, rfl⟩
            obtain ⟨x, ex⟩ : ∃ x, i % V = x := ⟨_, rfl⟩
            rw [ey] at hy hyx
            rw [ex] at hx hyx
            have iy : (i : Int) / (V : Int) = (y : Int) := by rw [← ey]; simp
            have ix : (i : Int) % (V : Int) = (x : Int) := by rw [← ex]; simp
            have ixt : (i : Int).tmod (V : Int) = (x : Int) := by rw [Int.tmod_eq_emod_of_nonneg (by omega), ix]
            have iy1 : (y : Int) ≤ 4096 := by omega
            have ix0 : (0 : Int) ≤ (x : Int) := by omega
            have ix1 : (x : Int) ≤ 4096 := by omega
            have iV : ¬ (V : Int) = 0 := by omega
            have iV' : ¬ V = 0 := by omega
            have wy : IntKind.i64.wrap (y : Int) = (y : Int) := by rw [IntKind.wrap_i64]; omega
            have wx : IntKind.i64.wrap (x : Int) = (x : Int) := by rw [IntKind.wrap_i64]; omega
            have iV1 : (0 : Int) < (V : Int) := by omega
            have iy0 : (0 : Int) ≤ (y : Int) := by omega
            have HYX := hid1 hyx
            have QQ0 := hid1 q0
            have QQ1 := hid1 q1
            clear hp hli hyx ey ex
            have HWR := hid1 (HWC.out.below hB)
            have hfo := follows
            clear q0 q1
            go_wp2_with fail
            go_cut [20, 21] from 161 to 195 (fun s1 s2 wx => ∃ bB G' K b, s1 = .pointer (some ⟨bB, 0, none⟩) ∧ s2 = .int .i64 0 ∧ wx.rowIs bB 26 2 (sf C (some ⟨G', 0, none⟩) d K) ∧ wx.ownsRow b 75 1 (.slice (some ⟨G', 0, none⟩) d K) d (wl (pl N d i) d) ∧ Below wr.heap.size wr wx)
            case first =>
              go_region_held3 (fun Y => (Y.cell? ⟨w2.heap.size, 0, none⟩ = some (.int .i64 H) ∧ Y.cell? ⟨w2.heap.size, 1, none⟩ = some (.int .i64 V) ∧ Y.cell? ⟨w2.heap.size, 2, none⟩ = some (.int .i64 C) ∧ Y.cell? ⟨w2.heap.size, 3, none⟩ = some (.slice (some ⟨G, 0, none⟩) M M)) ∧ Y.cell? ⟨w.heap.size, 1, none⟩ = some (.int .i64 V))
                (((try dsimp only); (with_reducible refine kpD (Z := wr) QQ1.out c1 ?_); repeat (first | (with_reducible exact Below.refl _ _) | (with_reducible assumption) | (with_reducible refine Below.drew ?_) | (with_reducible refine bl_alloc ?_ _) | (with_reducible refine bl_set ?_ (Nat.le_refl _) _))))
                ((go_at_call 14; refine (HA.out G y x _ hy hx (HWR.out.below (by repeat (first | (with_reducible exact Below.refl _ _) | (with_reducible refine Below.drew ?_) | (with_reducible refine bl_alloc ?_ _))))).mono ?_; rintro e y1 ⟨G', K, rfl, hG', hK, hK2, own, _, hb⟩; have HOW := hid1 own; have by1 : Below wr.heap.size wr y1 := (by first | exact bl_step (Below.refl _ _).drew hb | exact bl_step (bl_alloc (Below.refl _ _) _).drew hb); (try (have VR := keepr hb (row_new wr 0 none 0 0 26).drew; have v0 := sf_len VR; have v1 := sf_ws VR; have f0 := VR.frozen 0; have f1 := VR.frozen 1; have HVR := hid1 VR; clear VR)); clear own hb))
              all_goals (refine kmeet_of (by assumption) ?_; go_meet)
              · exact ⟨y1.heap.size, G', K, _, rfl, rfl, row_new _ _ _ _ _ _, by rw [← HYX.out]; exact HOW.out.alloc _, bl_alloc by1 _⟩
              · have hne : G' ≠ wr.heap.size := by
                  simp at hG'
                  omega
                exact ⟨wr.heap.size, G', K, _, rfl, rfl, rs_set HVR.out C (some ⟨G', 0, none⟩) d K, by rw [← HYX.out]; exact own_putD (own_putD HOW.out hne 0 _) hne 1 _, bl_set (bl_set by1 (Nat.le_refl _) _) (Nat.le_refl _) _⟩
            case rest =>
              obtain ⟨bB, G', K, b0, rfl, rfl, QB, own, Bc⟩ := hcut
              have PB := HPB.out.keep Bc
              have c2' := keepc Bc c2
              have s0 := sf_len QB
              have s1 := sf_ws QB
              have hlb : ls.length ≤ 16777216 := by rw [HLI.out]; omega
              have hsz := PB.b.size
              have HO := hid1 PB.o
              have HOW := hid1 own
              have HPB2 := hid1 PB
              clear HPB QQ0 QQ1 HWR own QB Bc c0 c1 c2 e0 e1 e2 e3 PB HA
              go_wp2_with (at_builtin; refine appBg rfl _ _ rfl w9.heap.size v C d ls (by go_simp) HO.out G' K (by go_simp) hlb hsz ?_; intro v' w' hown hgrow)
              exact ⟨⟨v', ls ++ [(G', K)], i + 1, rfl, by simp [HLI.out], by omega, by go_num, HPB2.out.push HLI.out HOW.out hown hgrow⟩, by simp [intOf]; omega⟩
          · have hkP : i = P := by omega
            subst hkP
            obtain ⟨gl, cl, ev, hc⟩ := HJ.out v ls wr w9 hp hli hP
            subst ev
            have HJN := hid1 hc
            have q3 := keepr hB Q3.out
            have WF := HWF.out.below hB
            have B11 := bl_step HB10.out hB
            clear HJ hp hc q0 q1 HPB Q0 Q1 Q3 HWC HWF HB10 hB
            go_wp2_with fail
            refine (HJN.out).mono ?_
            rintro e w11 ⟨J, rfl, hJ, row, hb⟩
            replace q3 := keepr hb q3
            replace WF := WF.below hb
            have WJ := Wr.row row hQ
            have B12 := bl_step B11 hb
            clear hb B11 row hJ c0 c1 c2
            have s0 := sf_len q3
            have s1 := sf_ws q3
            have l3 := q3.lt
            go_wp2_with fail
            refine gen_calls (fun X => Wr X (some ⟨J, 0, none⟩) m Q ∧ Wr X (some ⟨F, 0, none⟩) m Q ∧ Below w.heap.size w X) ⟨WJ.below (bl_alloc (Below.refl _ _) _), WF.below (bl_alloc (Below.refl _ _) _), bl_alloc B12 _⟩ ?_
            clear WJ WF B12 q3 s0 s1 l3
            rintro X ⟨WJ, WF, BX⟩
            refine (rows_same k m Q _ _ _ _ X hmn WJ WF).mono ?_
            rintro e w12 ⟨rfl, hb⟩
            have B13 := bl_step BX hb
            clear hb BX WJ WF
            go_wp2_with fail
            go_ret
            exact ⟨rfl, B13⟩
      · have iP2 : (P : Int) > 4096 := by omega
        go_wp2_with fail
        go_ret
        exact ⟨rfl, B10⟩
theorem cubeBack_any (h v c : Int) (l : List Int) (ao : Option Addr) (cap : Nat) (w : World) (hl : l.length ≤ cap) (hc : cap ≤ 140737488351232) (rd : R8 w ao l) :
    Calls Try.prog 5 #[Sg.shp h v c, .slice ao l.length cap] w fun e w' => e = .returned (.bool true) ∧ Below w.heap.size w w' := by
  by_cases k : Sg.chk h v c = 0
  · by_cases e : (l.length : Int) = Sg.elN h v c
    · obtain ⟨H, V, C, rfl, rfl, rfl, hH, hV, hC, hb⟩ := chk_nat k
      rw [elN_nat k] at e
      have e' : l.length = H * V * C := by omega
      have hn0 : 0 < l.length := by rw [e']; exact Nat.mul_pos (Nat.mul_pos (by omega) (by omega)) (by omega)
      obtain ⟨g, o, rfl, _⟩ := rd 0 hn0
      exact back_ok H V C l l.length rfl g o cap w hH hV hC e' (by omega) hl (by omega) k rd
    · exact back_fit h v c l.length ao cap w k e
  · exact back_shape h v c l.length ao cap w k
end Go.Proofs.Ytncmcldiodpnpaa
