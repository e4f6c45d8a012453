/- THE DOCUMENT'S OWN Read (heddleref8), walked. -/
import Derived.Test.YtbpglkhgggokcaaDoorCR4
namespace Go.Proofs.YtbpglkhgggokcaaDoor
open Go.RowKit

set_option maxHeartbeats 3200000 in
set_option maxRecDepth 100000 in
theorem rread_some (m : Nat) (ao : Option Addr) (cap : Nat) (l : List Nat) (w : World) (hb : By w ao l) (hc : l.length ≤ cap) (hc2 : cap ≤ 9223372036854775807) (hl : l.length ≤ 16777216) :
    Calls Tryd.prog 21 #[.int .u32 m, .slice ao l.length cap] w fun x w' =>
      (readE m l = 0 → ∃ v xs, x = .returned (.tuple #[v, .int .i64 0]) ∧ Fw w' w.heap.size v xs (readV l)) ∧ (readE m l ≠ 0 → x = .returned (.tuple #[.slice none 0 0, .int .i64 (readE m l : Nat)])) ∧ Below w.heap.size w w' := by
  obtain ⟨i0, hi, hz0, hz1, hz2⟩ := info_parts info_chunk
  have HB := hid1 hb
  have i1 : ¬ (16777216 : Int) < (l.length : Int) := by omega
  have HC := head_cases m l (by omega)
  obtain ⟨N, eN⟩ : ∃ N, l.length = N := ⟨_, rfl⟩
  have EN := hid1 eN
  rw [eN] at HC hc hl i1 ⊢
  obtain ⟨E, eE⟩ : ∃ E, readE m l = E := ⟨_, rfl⟩
  have RV0 : Hid (readV l = rdV (ckN l) (l.drop 12)) := hid1 rfl
  obtain ⟨V, eV⟩ : ∃ V, readV l = V := ⟨_, rfl⟩
  rw [eE] at HC ⊢
  rw [eV] at RV0 ⊢
  clear hb eN eE eV
  rcases HC with ⟨h1, he⟩ | HC
  · have j1 : (N : Int) < 12 := by omega
    have HE := hid1 he
    clear he
    go_enter Tryd.func21, Tryd.ntmps21
    go_wp2
    go_ret2
    exact ⟨fun h => absurd (HE.out.symm.trans h) (by decide), fun _ => by rw [HE.out]; rfl, Below.refl _ _⟩
  · have h12 : 12 ≤ N := by rcases HC with h | h | h | h <;> exact h.1
    have j1 : ¬ (N : Int) < 12 := by omega
    obtain ⟨g, o, rfl⟩ := fst_some HB.out (by rw [EN.out]; omega)
    have n1 : ¬ cap = 0 := by omega
    have j8 : (8 : Int) ≤ (cap : Int) := by omega
    have RN := hid1 (fun p W (hp : p + 4 ≤ N) (hW : Below w.heap.size w W) => rnumber_any (some ⟨g, o, none⟩) N cap p l W EN.out hp (by omega) (HB.out.keep hW))
    have T8 : Hid ((l.take 8).length = 8) := hid1 (by rw [List.length_take, EN.out]; omega)
    go_enter Tryd.func21, Tryd.ntmps21
    go_wp2_with fail
    refine gen_calls (fun W => Below w.heap.size w W ∧ Bys W (some ⟨w.heap.size, 0, none⟩) [l.take 8]) ⟨bl_alloc (Below.refl _ _) _, ?_⟩ ?_
    · have h := bys_one w (some ⟨g, o, none⟩) (l.take 8) cap 25 (HB.out.take 8)
      rw [T8.out] at h
      exact h
    · rintro W1 ⟨B1, y1⟩
      refine (rsum_one w.heap.size 1 (l.take 8) W1 (by rw [T8.out]; decide) y1).mono ?_
      rintro e w2 ⟨rfl, rfl⟩
      obtain ⟨s, es⟩ : ∃ s, crc (l.take 8) = s := ⟨_, rfl⟩
      rw [es] at HC ⊢
      clear y1 es
      go_wp2_with fail
      refine (RN.out 8 w2 (by omega) B1).mono ?_
      rintro e w3 ⟨rfl, b3⟩
      have B3 := bl_step B1 b3
      obtain ⟨t, et⟩ : ∃ t, num (l.drop 8) = t := ⟨_, rfl⟩
      rw [et] at HC ⊢
      clear b3 et B1
      rcases HC with ⟨-, h2, he⟩ | HC
      · have k1 : ¬ (s : Int) = (t : Int) := by omega
        have HE := hid1 he
        clear he
        go_wp2
        go_ret2
        exact ⟨fun h => absurd (HE.out.symm.trans h) (by decide), fun _ => by rw [HE.out]; rfl, B3⟩
      · have h2 : s = t := by rcases HC with h | h | h <;> exact h.2.1
        subst h2
        go_wp2_with fail
        refine (RN.out 0 w3 (by omega) B3).mono ?_
        rintro e w4 ⟨rfl, b4⟩
        have B4 := bl_step B3 b4
        rw [List.drop_zero]
        obtain ⟨u, eu⟩ : ∃ u, num l = u := ⟨_, rfl⟩
        rw [eu] at HC ⊢
        clear b4 eu B3
        rcases HC with ⟨-, -, h3, he⟩ | HC
        · have k1 : ¬ (u : Int) = (m : Int) := by omega
          have HE := hid1 he
          clear he
          go_wp2
          go_ret2
          exact ⟨fun h => absurd (HE.out.symm.trans h) (by decide), fun _ => by rw [HE.out]; rfl, B4⟩
        · have h3 : u = m := by rcases HC with h | h <;> exact h.2.2.1
          subst h3
          go_wp2_with fail
          refine (RN.out 4 w4 (by omega) B4).mono ?_
          rintro e w5 ⟨rfl, b5⟩
          have B5 := bl_step B4 b5
          have LN : ckN l < 4294967296 := num_lt fun x hx => HB.out.byte x (List.mem_of_mem_drop hx)
          rw [show num (l.drop 4) = ckN l from rfl]
          have RV := RV0
          obtain ⟨q, eq⟩ : ∃ q, ckN l = q := ⟨_, rfl⟩
          rw [eq] at HC LN RV
          rw [eq]
          have wq : IntKind.i64.wrap (q : Int) = (q : Int) := iw_id (by omega) (by omega)
          have wq2 : wrap64 (q : Int) = (q : Int) := wr_id (by omega) (by omega)
          have WQ := hid1 wq
          clear b5 eq B4
          rcases HC with ⟨-, -, -, h4, he⟩ | ⟨-, -, -, h4, he⟩
          · have k1 : (1024 : Int) < (q : Int) := by omega
            have HE := hid1 he
            clear he
            go_wp2
            go_ret2
            exact ⟨fun h => absurd (HE.out.symm.trans h) (by decide), fun _ => by rw [HE.out]; rfl, B5⟩
          · have k1 : ¬ (1024 : Int) < (q : Int) := by omega
            have HE := hid1 he
            clear he RV0
            clear wq2
            go_wp2_with fail
            clear wq
            go_loopw [8, 9, 10] (fun pv v i wr => ∃ (k p : Nat) (pre : List Ck) (xs : List Value) (a : Option Addr) (n c : Nat), k ≤ q ∧ p ≤ N ∧ i = .int .i64 k ∧ pv = .int .i64 p ∧ v = .slice a n c ∧ Hid (pre.length = k) ∧ Hid (Fw wr w.heap.size (.slice a n c) xs pre) ∧ Hid (E = rdE (q - k) (l.drop p) ∧ V = pre ++ rdV (q - k) (l.drop p)) ∧ Below w.heap.size w wr) (fun _ _ i _ => q - (intOf i).toNat)
            case atStart => exact ⟨0, 12, [], [], none, 0, 0, Nat.zero_le _, h12, rfl, rfl, rfl, hid1 rfl, hid1 (Fw.nil _ _), hid1 ⟨HE.out, RV.out⟩, B5⟩
            case round =>
              clear HE RV B5
              obtain ⟨k, p, pre, xs, a, n, c, hk, hp, rfl, rfl, rfl, HP, HF, HE, B6⟩ := hrel
              have ik0 : (0 : Int) ≤ (k : Int) := by omega
              by_cases hlt : k < q
              · have ik : (k : Int) < (q : Int) := by omega
                obtain ⟨r, er⟩ : ∃ r, l.drop p = r := ⟨_, rfl⟩
                have rl : r.length = N - p := by rw [← er, List.length_drop, EN.out]
                obtain ⟨d, ed⟩ : ∃ d, N - p = d := ⟨_, rfl⟩
                rw [ed] at rl
                obtain ⟨j, hj⟩ : ∃ j, q - k = j + 1 := ⟨q - k - 1, by omega⟩
                have he := HE.out
                rw [hj, er] at he
                simp only [rdE, rdV] at he
                obtain ⟨he1, he2⟩ := he
                have CC := ck_cases r
                rw [rl] at CC
                have f1 : (N : Int) - (p : Int) = (d : Int) := by omega
                have ER := hid1 er
                have HP2 : q - (k + 1) = j := by omega
                clear HE er hj
                rcases CC with ⟨g1, ge⟩ | CC
                · rw [ge, if_neg (by decide)] at he1
                  have x1 : (d : Int) < 12 := by omega
                  have HE := hid1 he1
                  clear he1 he2 ge
                  go_wp2
                  go_ret2
                  exact ⟨fun h => absurd (HE.out.symm.trans h) (by decide), fun _ => by rw [HE.out]; rfl, B6⟩
                · have d12 : 12 ≤ d := by rcases CC with h | h | h | h <;> omega
                  have x1 : ¬ (d : Int) < 12 := by omega
                  obtain ⟨p8, ep8⟩ : ∃ x, p + 8 = x := ⟨_, rfl⟩
                  obtain ⟨p4, ep4⟩ : ∃ x, p + 4 = x := ⟨_, rfl⟩
                  have f2 : (p : Int) + 8 = (p8 : Int) := by omega
                  have f3 : (p : Int) + 4 = (p4 : Int) := by omega
                  have y0 : (0 : Int) ≤ (p : Int) := by omega
                  have y1 : (p : Int) ≤ (p8 : Int) := by omega
                  have y2 : (p8 : Int) ≤ (cap : Int) := by omega
                  have y3 : ¬ cap = p := by omega
                  have y4 : ¬ cap ≤ p := by omega
                  have y5 : ¬ cap - p = 0 := by omega
                  have y6 : p8 - p = 8 := by omega
                  have y7 : p8 + 4 ≤ N := by omega
                  have y8 : p4 + 4 ≤ N := by omega
                  have y9 : p + 4 ≤ N := by omega
                  have N8 : Hid (num (l.drop p8) = num (r.drop 8)) := hid1 (by rw [← ep8, num_at, ER.out])
                  have N4 : Hid (num (l.drop p4) = ckN r) := hid1 (by rw [← ep4, num_at, ER.out]; rfl)
                  have R8 : Hid ((r.take 8).length = 8) := hid1 (by rw [List.length_take, rl]; omega)
                  have YR : Hid (∀ W, Below w.heap.size w W → By W (some ⟨g, o + p, none⟩) r) := hid1 fun W hW => by rw [← ER.out]; exact (HB.out.keep hW).drop p
                  clear ep8 ep4
                  go_wp2_with fail
                  refine gen_calls (fun W => Below wr.heap.size wr W ∧ Bys W (some ⟨wr.heap.size, 0, none⟩) [r.take 8]) ⟨bl_alloc (Below.refl _ _) _, ?_⟩ ?_
                  · have h := bys_one wr (some ⟨g, o + p, none⟩) (r.take 8) (cap - p) 25 ((YR.out wr B6).take 8)
                    rw [R8.out] at h
                    exact h
                  · rintro W7 ⟨b7, z7⟩
                    have B7 := bl_step B6 b7
                    refine (rsum_one wr.heap.size 1 (r.take 8) W7 (by rw [R8.out]; decide) z7).mono ?_
                    rintro e w8 ⟨rfl, rfl⟩
                    obtain ⟨s1, es1⟩ : ∃ s1, crc (r.take 8) = s1 := ⟨_, rfl⟩
                    rw [es1] at CC ⊢
                    clear z7 es1
                    go_wp2_with fail
                    refine (RN.out p8 w8 y7 B7).mono ?_
                    rintro e w9 ⟨rfl, b9⟩
                    have B9 := bl_step B7 b9
                    have b79 := bl_step b7 b9
                    rw [N8.out]
                    obtain ⟨t1, et1⟩ : ∃ t1, num (r.drop 8) = t1 := ⟨_, rfl⟩
                    rw [et1] at CC ⊢
                    clear b9 et1 B7 b7
                    rcases CC with ⟨-, g2, ge⟩ | CC
                    · rw [ge, if_neg (by decide)] at he1
                      have x2 : ¬ (s1 : Int) = (t1 : Int) := by omega
                      have HE := hid1 he1
                      clear he1 he2 ge
                      go_wp2
                      go_ret2
                      exact ⟨fun h => absurd (HE.out.symm.trans h) (by decide), fun _ => by rw [HE.out]; rfl, B9⟩
                    · have g2 : s1 = t1 := by rcases CC with h | h | h <;> exact h.2.1
                      subst g2
                      go_wp2_with fail
                      refine (RN.out p4 w9 y8 B9).mono ?_
                      rintro e w10 ⟨rfl, b10⟩
                      have B10 := bl_step B9 b10
                      have b710 := bl_step b79 b10
                      rw [N4.out]
                      have LN2 : ckN r < 4294967296 := num_lt fun x hx => by
                        have h1 := List.mem_of_mem_drop hx
                        rw [← ER.out] at h1
                        exact HB.out.byte x (List.mem_of_mem_drop h1)
                      have EV1 : Hid (ckV r = (num r, (r.drop 12).take (ckN r))) := hid1 rfl
                      have ER1 : Hid (ckR r = (r.drop 12).drop (ckN r + 4)) := hid1 rfl
                      obtain ⟨nn, enn⟩ : ∃ x, ckN r = x := ⟨_, rfl⟩
                      rw [enn] at CC LN2 EV1 ER1 ⊢
                      have wn := iw_id (x := (nn : Int)) (by omega) (by omega)
                      obtain ⟨n4, en4⟩ : ∃ x, nn + 4 = x := ⟨_, rfl⟩
                      obtain ⟨d2, ed2⟩ : ∃ x, d - 12 = x := ⟨_, rfl⟩
                      have f4 : (nn : Int) + 4 = (n4 : Int) := by omega
                      have f5 : (d : Int) - 12 = (d2 : Int) := by omega
                      have WN := hid1 wn
                      clear b10 B9 b79 enn wn
                      rcases CC with ⟨-, -, g3, ge⟩ | CC
                      · rw [ge, if_neg (by decide)] at he1
                        have x3 : (d2 : Int) < (n4 : Int) := by omega
                        have HE := hid1 he1
                        clear he1 he2 ge
                        have wn := WN.out
                        go_wp2
                        go_ret2
                        exact ⟨fun h => absurd (HE.out.symm.trans h) (by decide), fun _ => by rw [HE.out]; rfl, B10⟩
                      · have g3 : 16 + nn ≤ d := by rcases CC with h | h <;> exact h.1
                        have x3 : ¬ (d2 : Int) < (n4 : Int) := by omega
                        obtain ⟨p12, e12⟩ : ∃ x, p + 12 = x := ⟨_, rfl⟩
                        obtain ⟨pe, epe⟩ : ∃ x, p12 + nn = x := ⟨_, rfl⟩
                        have f6 : (p : Int) + 12 = (p12 : Int) := by omega
                        have f7 : (p12 : Int) + (nn : Int) = (pe : Int) := by omega
                        have v0 : (0 : Int) ≤ (p12 : Int) := by omega
                        have v1 : (p12 : Int) ≤ (pe : Int) := by omega
                        have v2 : (pe : Int) ≤ (cap : Int) := by omega
                        have v3 : ¬ cap = p12 := by omega
                        have v4 : ¬ cap ≤ p12 := by omega
                        have v5 : ¬ cap - p12 = 0 := by omega
                        have v6 : pe - p12 = nn := by omega
                        have v7 : pe + 4 ≤ N := by omega
                        have NE : Hid (num (l.drop pe) = num ((r.drop 12).drop nn)) := hid1 (by rw [← epe, ← e12, num_at, ← List.drop_drop (i := 12) (j := p), ER.out])
                        have BL : Hid (((r.drop 12).take nn).length = nn) := hid1 (by rw [List.length_take, List.length_drop, rl]; omega)
                        have YB : Hid (∀ W, Below w.heap.size w W → By W (some ⟨g, o + p12, none⟩) ((r.drop 12).take nn)) := hid1 fun W hW => by
                          have h := ((YR.out W hW).drop 12).take nn
                          rw [show o + p + 12 = o + p12 by omega] at h
                          exact h
                        obtain ⟨Y, eY⟩ : ∃ Y, (r.drop 12).take nn = Y := ⟨_, rfl⟩
                        rw [eY] at CC BL YB EV1
                        have nb : nn ≤ 1099511627776 := by omega
                        have wn := WN.out
                        clear eY
                        go_wp2_with ((at_builtin; refine wp_copyn8 rfl (.const (.slice none 0 0)) (.tmp 79) rfl (by go_simp) (some ⟨g, o + p12, none⟩) nn (cap - p12) Y (by go_simp) BL.out (YB.out _ B10) nb ?_; intro v11 w11 own11 gr11; obtain ⟨a11, m11, c11, rfl⟩ := own_is own11; have O11 := hid1 own11; have b11 := grown_bel gr11; clear own11 gr11))
                        have YB8 : ∀ x ∈ Y, x < 256 := (YB.out _ B10).byte
                        obtain ⟨rfl, -, z11⟩ := own_slice8 O11.out YB8
                        have B11 := bl_step B10 b11
                        have b711 := bl_step b710 b11
                        clear wn
                        refine gen_calls (fun W => Below w11.heap.size w11 W ∧ Bys W (some ⟨w11.heap.size, 0, none⟩) [Y]) ⟨bl_alloc (Below.refl _ _) _, bys_one _ _ _ _ _ z11⟩ ?_
                        rintro W12 ⟨b12, z12⟩
                        refine (rsum_one w11.heap.size 1 Y W12 (by rw [BL.out]; omega) z12).mono ?_
                        rintro e w13 ⟨rfl, rfl⟩
                        obtain ⟨s2, es2⟩ : ∃ x, crc Y = x := ⟨_, rfl⟩
                        rw [es2] at CC ⊢
                        have B13 := bl_step B11 b12
                        clear z12 es2
                        have wn := WN.out
                        go_wp2_with fail
                        refine (RN.out pe w13 v7 B13).mono ?_
                        rintro e w14 ⟨rfl, b14⟩
                        have B14 := bl_step B13 b14
                        have b1114 := bl_step b12 b14
                        rw [NE.out]
                        obtain ⟨t2, et2⟩ : ∃ x, num ((r.drop 12).drop nn) = x := ⟨_, rfl⟩
                        rw [et2] at CC ⊢
                        clear b14 et2 B13 b12 wn
                        rcases CC with ⟨-, -, g4, ge⟩ | ⟨-, -, g4, ge⟩
                        · rw [ge, if_neg (by decide)] at he1
                          have x4 : ¬ (s2 : Int) = (t2 : Int) := by omega
                          have HE := hid1 he1
                          clear he1 he2 ge
                          go_wp2
                          go_ret2
                          exact ⟨fun h => absurd (HE.out.symm.trans h) (by decide), fun _ => by rw [HE.out]; rfl, B14⟩
                        · subst g4
                          rw [ge, if_pos rfl] at he1
                          rw [EV1.out] at he2
                          rw [ER1.out] at he1 he2
                          go_wp2_with fail
                          refine (RN.out p w14 y9 B14).mono ?_
                          rintro e w15 ⟨rfl, b15⟩
                          have B15 := bl_step B14 b15
                          have b1115 := bl_step b1114 b15
                          rw [ER.out]
                          have LT : num r < 4294967296 := num_lt fun x hx => by
                            rw [← ER.out] at hx
                            exact HB.out.byte x (List.mem_of_mem_drop hx)
                          obtain ⟨tg, etg⟩ : ∃ x, num r = x := ⟨_, rfl⟩
                          rw [etg] at he2 LT ⊢
                          have O15 := hid1 (own_mono (own_keep (S := fun _ => False) (BP.bel b1115) O11.out (fun _ _ h => h)) B10.size)
                          have F15 := hid1 (HF.out.keep (bl_step b711 b1115))
                          have z15 := B15.size
                          obtain ⟨p16, e16⟩ : ∃ x, p + 16 = x := ⟨_, rfl⟩
                          obtain ⟨pn, epn⟩ : ∃ x, p16 + nn = x := ⟨_, rfl⟩
                          have f8 : (p : Int) + 16 = (p16 : Int) := by omega
                          have f9 : (p16 : Int) + (nn : Int) = (pn : Int) := by omega
                          have hpl : pre.length ≤ 1024 := by have := HP.out; omega
                          have pnN : pn ≤ N := by omega
                          have HD : Hid ((r.drop 12).drop (nn + 4) = l.drop pn) := hid1 (by rw [← ER.out, List.drop_drop, List.drop_drop]; congr 1; omega)
                          have HE2 := hid1 he1
                          have HV2 := hid1 he2
                          clear he1 he2 ge etg B14 b1114 b15 b1115 B11 b711 b11 O11 e16 epn
                          go_wp2_with ((at_builtin; refine wpList_append_own _ rfl _ _ 27 rfl w.heap.size 44 i0 (.agg #[.int .u32 0, .slice none 0 0]) 2 32 und_chunks hi hz0 hz1 hz2 rfl (by decide) (.slice a n c) pre.length xs (by go_simp) (F15.out.own.alloc _) ⟨w15.heap.size, 0, none⟩ 1 1 [.int .u32 (tg : Nat), .slice a11 Y.length c11] (by go_simp) rfl (cell_chunk_new w15 _ _ _) (fun u hu => by simp at hu; rcases hu with rfl | rfl <;> rfl) (by unfold maxLen; omega) (by omega) (by simp; omega) ?_; intro v16 w16 own16 gr16 _; obtain ⟨a16, m16, c16, rfl⟩ := own_is own16; have O16 := hid1 own16; have G16 := hid1 gr16; clear own16 gr16))
                          have AX : BP (fun b => (Value.slice a n c).ownBlock = some b) w15 w16 := (BP.bel (S := fun b => (Value.slice a n c).ownBlock = some b) (bl_alloc (Below.refl _ _) _)).trans (BP.grown G16.out) fun x _ hx => hx.symm
                          have F16 := F15.out.push (c := (tg, Y)) (bv := .slice a11 Y.length c11) (by have := O15.out; rw [← BL.out] at this; exact this) ⟨LT, YB8⟩ (by show Y.length ≤ _; rw [BL.out]; omega) O16.out AX
                          have B16 : Below w.heap.size w w16 := bl_bp B15 AX fun x hx hb => by have := (F15.out.own.lt x hb).1; omega
                          refine ⟨⟨k + 1, pn, pre ++ [(tg, Y)], _, a16, m16, c16, by omega, pnN, by go_num, rfl, rfl, hid1 (by simp [HP.out]), hid1 F16, hid1 ⟨?_, ?_⟩, B16⟩, by simp [intOf]; omega⟩
                          · rw [HP2, ← HD.out]; exact HE2.out
                          · rw [HP2, ← HD.out, HV2.out]; simp
              · obtain rfl : k = q := by omega
                have he := HE.out
                rw [Nat.sub_self] at he
                simp only [rdE, rdV, List.append_nil] at he
                obtain ⟨he1, he2⟩ := he
                by_cases hpe : p < N
                · have x1 : (p : Int) < (N : Int) := by omega
                  have hne : l.drop p ≠ [] := by
                    intro h
                    have := congrArg List.length h
                    rw [List.length_drop, EN.out] at this
                    simp at this
                    omega
                  rw [if_neg hne] at he1
                  have HE2 := hid1 he1
                  clear he1 he2 HE
                  go_wp2
                  go_ret2
                  exact ⟨fun h => absurd (HE2.out.symm.trans h) (by decide), fun _ => by rw [HE2.out]; rfl, B6⟩
                · have x1 : ¬ (p : Int) < (N : Int) := by omega
                  have hne : l.drop p = [] := List.drop_eq_nil_of_le (by rw [EN.out]; omega)
                  rw [if_pos hne] at he1
                  have HE2 := hid1 he1
                  have HV2 := hid1 he2
                  clear he1 he2 HE
                  go_wp2
                  go_ret2
                  exact ⟨fun _ => ⟨_, rfl, xs, by rw [HV2.out]; exact HF.out⟩, fun h => absurd HE2.out h, B6⟩
/-- The document's Read, of all bytes. -/
theorem rread_any (m : Nat) (ao : Option Addr) (cap : Nat) (l : List Nat) (w : World) (hb : By w ao l) (hc : l.length ≤ cap) (hc2 : cap ≤ 9223372036854775807) :
    Calls Tryd.prog 21 #[.int .u32 m, .slice ao l.length cap] w fun x w' =>
      (readE m l = 0 → ∃ v xs, x = .returned (.tuple #[v, .int .i64 0]) ∧ Fw w' w.heap.size v xs (readV l)) ∧ (readE m l ≠ 0 → x = .returned (.tuple #[.slice none 0 0, .int .i64 (readE m l : Nat)])) ∧ Below w.heap.size w w' := by
  by_cases hl : l.length ≤ 16777216
  · exact rread_some m ao cap l w hb hc hc2 hl
  · have e : readE m l = 2 := by unfold readE; rw [if_pos (by omega)]
    refine (rread_long m ao l.length cap w (by omega)).mono ?_
    rintro x w' ⟨rfl, rfl⟩
    exact ⟨fun h => absurd (e.symm.trans h) (by decide), fun _ => by rw [e]; rfl, Below.refl _ _⟩
end Go.Proofs.YtbpglkhgggokcaaDoor
