/- BitsWhole. -/
import Derived.Test.YteghelmbibpohaaBW10
import Derived.Test.YteghelmbibpohaaBM5
import Derived.Deep.AppendLies
namespace Go.Proofs.Yteghelmbibpohaa
open Go.RowKit

theorem info_i8 : (Try.prog.info? 24).map (fun i => (i.zero, i.size, i.bytes)) = some (some (.int .i8 0), 1, 1) := by kernel_rfl
theorem und_i8s : Try.prog.underlying 23 = some (.slice 24) := by kernel_rfl
set_option maxHeartbeats 800000 in
set_option maxRecDepth 100000 in
/-- Another number of words. -/
theorem check_words (n : Nat) (ao : Option Addr) (m cap : Nat) (w : World) (h1 : n ≤ 16777216) (_ : m ≤ 9223372036854775807) (h : m ≠ nw n) :
    Calls Try.prog 14 #[rv n ao m cap] w fun e w' => e = .returned (.int .i64 20) ∧ Below w.heap.size w w' := by
  have hb := nw_bd h1
  have i0 : (0 : Int) ≤ (n : Int) := by omega
  have i1 : (n : Int) ≤ 16777216 := by omega
  go_enter Try.func14, Try.ntmps14
  go_wp2
  go_quiet ((go_at_call 38; exact Calls.quiet_of_same (wordsFor_any _ (by omega) _)))
  go_wp2
  go_ret
  exact ⟨rfl, bl_drewN (bl_alloc (Below.refl _ _) _) _⟩
theorem r8_zero {w : World} {g K : Nat} (h : w.rowIs g 24 K (fun _ => .int .i8 0)) : R8 w (some ⟨g, 0, none⟩) (List.replicate K 0) := by
  intro k hk
  have hk' : k < K := by simpa using hk
  exact ⟨g, 0, rfl, by rw [Nat.zero_add, ia_rep]; exact h.cell hk'⟩

def rowL (f : Nat → Value) (m : Nat) : List Value := (List.range m).map f
theorem rowL_len (f : Nat → Value) (m : Nat) : (rowL f m).length = m * 1 := by simp [rowL]
theorem rowL_get {f : Nat → Value} {m j : Nat} {u : Value} (h : (rowL f m)[j]? = some u) : j < m ∧ u = f j := by
  unfold rowL at h
  rw [List.getElem?_map, Option.map_eq_some_iff] at h
  obtain ⟨x, hx, rfl⟩ := h
  obtain ⟨h1, h2⟩ := List.getElem?_eq_some_iff.1 hx
  simp at h1 h2
  subst h2
  exact ⟨h1, rfl⟩
theorem rowL_at {f : Nat → Value} {m j : Nat} (h : j < m) (v : Value) : (rowL f m ++ [v])[j]? = some (f j) := by
  rw [List.getElem?_append_left (by simpa [rowL] using h)]
  simp [rowL, h]
theorem rowL_last (f : Nat → Value) (m : Nat) (v : Value) : (rowL f m ++ [v])[m]? = some v := by
  rw [List.getElem?_append_right (by simp [rowL])]
  simp [rowL]
theorem rowL_wf {N m : Nat} : ∀ u ∈ rowL (wf N) m, u.oneCell' = true := by
  intro u hu
  obtain ⟨j, hj, e⟩ := List.getElem_of_mem hu
  obtain ⟨_, rfl⟩ := rowL_get (List.getElem?_eq_some_iff.2 ⟨hj, e⟩)
  rfl
/-- An own row, as a row of cells. -/
theorem own_row {w : World} {base e : Nat} {v : Value} {n : Nat} {xs : List Value} (h : w.ownsRow base e 1 v n xs) (hn : 0 < n) :
    ∃ g cap f, v = .slice (some ⟨g, 0, none⟩) n cap ∧ base ≤ g ∧ n ≤ cap ∧ cap ≤ maxLen ∧ w.rowIs g e cap f ∧ ∀ k, k < n → xs[k]? = some (f k) := by
  rcases h.2 with ⟨_, h0⟩ | ⟨g, cap, cur, hv, hb, hg, h4, h5, h6, h7⟩
  · omega
  · refine ⟨g, cap, fun k => cur[k]?.getD undef, hv, hb, h4, h5, ⟨cur, hg, by omega, fun i hi => ?_⟩, fun k hk => ?_⟩
    · simp [Array.getElem?_eq_getElem (show i < cur.size by omega)]
    · rw [← h7, Nat.mul_one, List.getElem?_take_of_lt hk]
      simp [Array.getElem?_eq_getElem (show k < cur.size by omega)]

set_option maxHeartbeats 4000000 in
set_option maxRecDepth 100000 in
theorem whole_walk (n : Int) (hn : -9223372036854775808 ≤ n ∧ n ≤ 9223372036854775807) (w : World) :
    Calls Try.prog 4 #[.int .i64 n] w fun e w' => e = .returned (.bool true) ∧ Below w.heap.size w w' := by
  obtain ⟨n1, n2⟩ := hn
  obtain ⟨i0, hi, hz0, hz1, hz2⟩ := info_parts info_i8
  obtain ⟨K, hK1, hK⟩ : ∃ K : Nat, K < 3000 ∧ ((n < 0 ∧ (-1 - n) % 3000 = (K : Int)) ∨ (0 ≤ n ∧ n % 3000 = (K : Int))) := by
    by_cases h : n < 0
    · exact ⟨((-1 - n) % 3000).toNat, by omega, .inl ⟨h, by omega⟩⟩
    · exact ⟨(n % 3000).toNat, by omega, .inr ⟨by omega, by omega⟩⟩
  have iK0 : (0 : Int) ≤ (K : Int) := by omega
  have iK1 : (K : Int) < 3000 := by omega
  have hb : nw K ≤ 47 := by unfold nw; omega
  have eK : ((K : Int) + 63) / 64 = (nw K : Nat) := by unfold nw; omega
  obtain ⟨j0, hj, hy0, hy1, hy2⟩ := info_parts info_u64
  rcases hK with ⟨h0, hK⟩ | ⟨h0, hK⟩
  all_goals
    go_enter Try.func4, Try.ntmps4
    go_wp2_with fail
    refine (begun_any _).mono ?_
    rintro e w0 ⟨rfl, B0⟩
    go_wp2_with (refine wpList_make_row _ rfl _ _ 23 rfl 24 i0 (.int .i8 0) und_i8s hi hz0 hz1 rfl .i64 .i64 K (by rw [← hK]; rfl) (by rw [← hK]; rfl) (by rw [hz2]; omega) (by omega) ?_)
    refine gen_calls (fun W => Below w.heap.size w W ∧ R8 W (some ⟨w0.heap.size, 0, none⟩) (List.replicate K 0)) ⟨bl_alloc B0 _, r8_zero (World.rowIs_made _ _ _ _)⟩ ?_
    clear B0
    rintro W ⟨B0, hr⟩
    refine (made_any (List.replicate K 0) K (by simp) _ _ W (by omega) hr).mono ?_
    rintro e w1 ⟨g1, rfl, _, hrow1, hb1⟩
    rw [pk_none (fun i => by rw [ia_rep]; decide) K] at hrow1
    have B1 := bl_step B0 hb1
    clear hb1 B0 hr
    go_wp2_with fail
    refine gen_calls (fun W => Below w.heap.size w W ∧ Rd W (some ⟨g1, 0, none⟩) (nw K) 0) ⟨bl_alloc B1 _, Rd.row (hrow1.alloc _) (zero_lt _)⟩ ?_
    clear B1 hrow1
    rintro W1 ⟨B1, hr⟩
    refine (not_any K 0 _ _ W1 (by omega) (zero_lt K) hr).mono ?_
    rintro e w2 ⟨g2, rfl, _, hrow2, hb2⟩
    have B2 := bl_step B1 hb2
    clear hb2 B1 hr
    go_wp2_with fail
    refine gen_calls (fun W => Below w.heap.size w W ∧ W.rowIs w2.heap.size 27 2 (sf K (some ⟨g2, 0, none⟩) (nw K) (nw K)) ∧ W.rowIs g2 35 (nw K) (wf (nt K 0))) ⟨bl_alloc B2 _, row_new _ _ _ _ _ _, hrow2.alloc _⟩ ?_
    clear B2 hrow2
    rintro W2 ⟨B2, r6, hrow⟩
    refine (lcount_any K (nt K 0) _ _ W2 (by omega) (nt_lt K 0) (Rd.row hrow (lt_nw (nt_lt K 0)))).mono ?_
    rintro e w3 ⟨rfl, hb3⟩
    rw [pc_full]
    have B3 := bl_step B2 hb3
    replace r6 := keepr hb3 r6
    replace hrow := keepr hb3 hrow
    have c61 := sf_ws r6
    have HR := hid1 hrow
    have H6 := hid1 r6
    clear hb3 B2 r6 hrow
    go_wp2_with fail
    go_loop [8] (fun i => ∃ k : Nat, k ≤ nw K ∧ i = .int .i64 k) (fun i => nw K - (intOf i).toNat)
    case atStart => exact ⟨0, Nat.zero_le _, rfl⟩
    case round =>
      obtain ⟨k, hk, rfl⟩ := hrel
      have ik0 : (0 : Int) ≤ (k : Int) := by omega
      by_cases hlt : k < nw K
      · have ik : (k : Int) < (nw K : Nat) := by omega
        have cw := HR.out.cell hlt
        unfold wf at cw
        by_cases hl : k + 1 = nw K
        · have e1 : wd (nt K 0) k = tl K := by rw [show k = nw K - 1 by omega]; exact last_word (by unfold nw at hlt; omega)
          rw [e1] at cw
          clear e1
          have e2 : (nw K : Int) - 1 = (k : Int) := by omega
          have HT := hid1 (tail_pos K (by unfold nw at hlt; omega) (by omega))
          go_wp2_with fail
          refine (HT.out _).mono ?_
          rintro e w4 ⟨rfl, rfl⟩
          go_wp2_with fail
          exact ⟨⟨k + 1, by omega, by go_num⟩, by simp [intOf]; omega⟩
        · have e1 := full_word (n := K) (k := k) (by omega)
          rw [e1] at cw
          clear e1
          have e2 : ¬ (k : Int) = (nw K : Int) - 1 := by omega
          go_wp2_with fail
          exact ⟨⟨k + 1, by omega, by go_num⟩, by simp [intOf]; omega⟩
      · have hkN : k = nw K := by omega
        subst hkN
        have HC := hid1 (fun j u (h : (rowL (wf (nt K 0)) (nw K))[j]? = some u) => (show w3.cell? ((⟨g2, 0, none⟩ : Addr).add j) = some u by
          obtain ⟨h1, rfl⟩ := rowL_get h
          have h2 := HR.out.cell h1
          by_cases h3 : j = 0
          · subst h3; exact h2
          · simp [Addr.add, h3, h2]))
        go_wp2_with (first
          | (at_builtin; refine wpList_append_own _ rfl _ _ 25 rfl w3.heap.size 35 j0 (.int .u64 0) 1 8 und_u64s hj hy0 hy1 hy2 rfl (by decide) (.slice none 0 0) 0 [] rfl (World.ownsRow_nil _ _ _ _) ⟨g2, 0, none⟩ (nw K) (nw K) (rowL (wf (nt K 0)) (nw K)) (by go_simp) (rowL_len _ _) HC.out rowL_wf (by unfold maxLen; omega) (by omega) (Nat.le_refl _) ?_; intro vA wA hownA hgrowA hnilA; rw [Nat.zero_add, List.nil_append] at hownA; have hsA := hgrowA.size)
          | (at_builtin; refine wpList_append_own _ rfl _ _ 25 rfl w3.heap.size 35 j0 (.int .u64 0) 1 8 und_u64s hj hy0 hy1 hy2 rfl (by decide) vA (nw K) (rowL (wf (nt K 0)) (nw K)) (by go_simp) (hownA.alloc _) ⟨wA.heap.size, 0, none⟩ 1 1 [.int .u64 0] (by go_simp) rfl (cell_one_new _ _ _) (fun x hx => by simp at hx; subst hx; rfl) (by unfold maxLen; omega) (by omega) (by simp; omega) ?_; intro vB wB hownB hgrowB hnilB; obtain ⟨g4, cap4, f4, rfl, hg4, hle4, hcap4, hrow4, hf4⟩ := own_row hownB (by omega)))
        have B4 : Below w3.heap.size w3 wB := (((Below.refl _ _).grown hgrowA (Nat.le_refl _) (fun _ h => by cases h)).alloc hsA _).grown hgrowB (by simp; omega) (fun q hq => (hownA.lt q hq).1)
        have BB := bl_step B3 B4
        have r6 := keepr B4 H6.out
        have hcell : ∀ k, k < nw K → f4 k = wf (nt K 0) k := fun k hk => Option.some.inj ((hf4 k (by omega)).symm.trans (rowL_at hk _))
        have HF := hid1 hcell
        have HR4 := hid1 hrow4
        clear hownA hgrowA hnilA hsA hownB hgrowB hnilB hf4 hcell B4 hrow4 HC c61
        refine (check_words K _ (nw K + 1) cap4 wB (by omega) (by omega) (by omega)).mono ?_
        rintro e w5 ⟨rfl, hb5⟩
        replace r6 := keepr hb5 r6
        replace HR4 := hid1 (keepr hb5 HR4.out)
        replace BB := bl_step BB hb5
        have c61 := sf_ws r6
        replace H6 := hid1 r6
        clear r6 hb5
        rcases Nat.eq_zero_or_pos K with hK0 | hK0
        · subst hK0
          go_wp2_with fail
          refine (tail_none 0 (by omega) _).mono ?_
          rintro e w6 ⟨rfl, rfl⟩
          go_wp2_with fail
          go_ret
          exact ⟨rfl, BB⟩
        · obtain ⟨L, hL⟩ : ∃ L, nw K = L + 1 := ⟨nw K - 1, by unfold nw; omega⟩
          have eL : IntKind.i64.wrap ((nw K : Int) - 1) = (L : Int) := by rw [IntKind.wrap_i64]; omega
          have iL0 : (0 : Int) ≤ (L : Int) := by omega
          have iL1 : (L : Int) < (nw K : Nat) + 1 := by omega
          have iL2 : L ≤ cap4 := by omega
          have iL3 : (L : Int) ≤ (cap4 : Int) := by omega
          go_wp2_with fail
          refine (check_words K _ L cap4 w5 (by omega) (by omega) (by omega)).mono ?_
          rintro e w6 ⟨rfl, hb6⟩
          have r6 := keepr hb6 H6.out
          have hrow4 := keepr hb6 HR4.out
          replace BB := bl_step BB hb6
          clear hb6 c61 H6 HR4
          obtain ⟨r, hr⟩ : ∃ r : Nat, K % 64 = r := ⟨_, rfl⟩
          have er : (K : Int) % 64 = (r : Int) := by omega
          by_cases hr0 : 0 < r
          · have ir0 : (0 : Int) < (r : Int) := by omega
            have ir1 : (r : Int) ≤ 63 := by omega
            have er' : (K : Int).tmod 64 = (r : Int) := by rw [Int.tmod_eq_emod_of_nonneg (by omega)]; exact er
            have c61 := sf_ws r6
            have hw1 : IntKind.i64.wrap (L : Int) = L := by rw [IntKind.wrap_i64]; omega
            have cw := hrow4.cell (show L < cap4 by omega)
            have e1 : wd (nt K 0) L = tl K := by rw [show L = nw K - 1 by omega]; exact last_word hK0
            rw [HF.out L (by omega)] at cw
            unfold wf at cw
            rw [e1] at cw
            have fw := hrow4.frozen L
            have g4lt := hrow4.lt
            have HT := tl_more (K := K) (by omega)
            rw [hr] at HT
            have HT1 := tl_lt (K + 1)
            have HO : Hid (IntKind.u64.wrap ((tl K : Int) + IntKind.u64.wrap (2 ^ r)) = ((tl (K + 1) : Nat) : Int)) := by
              have e2 : IntKind.u64.wrap (2 ^ r) = ((2 ^ r : Nat) : Int) := by
                rw [show ((2 : Int) ^ r) = ((2 ^ r : Nat) : Int) by simp, IntKind.wrap_u64]
                generalize 2 ^ r = y at *; omega
              rw [e2, IntKind.wrap_u64]
              generalize 2 ^ r = y at *
              show _ = _
              omega
            have iL4 : (L : Int) < (L : Int) + 1 + 1 := by omega
            have HH := hid1 hrow4
            have H6 := hid1 r6
            have H1 := hid1 e1
            clear hrow4 r6 e1 HT HT1
            go_wp2_with fail
            refine still_tail 17 (by kernel_rfl) ?_
            simp only [List.take_succ_cons, List.take_zero, List.drop_succ_cons, List.drop_zero]
            repeat still_step
            refine wpStill_nil ?_
            have hne := row_ne H6.out HH.out (by decide)
            have c62 := sf_ws (H6.out.setOther (a := ⟨g4, L, none⟩) hne (.int .u64 (IntKind.u64.wrap ((tl K : Int) + IntKind.u64.wrap (2 ^ r)))))
            have iL5 : L + 1 ≤ cap4 := by omega
            go_wp2_with fail
            have HL := hid1 hL
            have hrow7 := (HH.out.set L (.int .u64 (IntKind.u64.wrap ((tl K : Int) + IntKind.u64.wrap (2 ^ r))))).drew
            have hfl := HF.out
            have hrd : Rd ((w6.setCell ⟨g4, L, none⟩ (.int .u64 (IntKind.u64.wrap ((tl K : Int) + IntKind.u64.wrap (2 ^ r))))).drew) (some ⟨g4, 0, none⟩) (L + 1) (nt (K + 1) 0) := by
              have en : nw (K + 1) = L + 1 := by rw [nw_more (by omega), hL]
              refine ⟨by rw [← en]; exact lt_nw (nt_lt _ _), fun _ => ⟨g4, rfl, fun k hk => (hrow7.cell (by omega)).trans (congrArg some ?_)⟩⟩
              by_cases e : k = L
              · subst e
                rw [if_pos rfl, HO.out]
                have e3 := last_word (n := K + 1) (by omega)
                rw [en, Nat.add_sub_cancel] at e3
                simp only [wf, e3]
              · rw [if_neg e, hfl k (by omega)]
                simp only [wf]
                rw [full_word (by omega), full_word (by omega)]
            have hck : chk (K : Int) (L + 1) (nt (K + 1) 0) = 20 := by
              unfold chk
              rw [if_neg (by omega), if_neg (by omega), Int.toNat_natCast, hL, if_neg (by simp), if_neg (big_one K)]
            refine (check_any K _ (L + 1) cap4 (nt (K + 1) 0) _ (by omega) hrd).mono ?_
            rintro e w7 ⟨rfl, hb7⟩
            rw [hck]
            clear hck hrd hfl hrow7 HL
            go_wp2_with fail
            go_ret
            exact ⟨rfl, bl_step (bl_set BB (by have := B3.size; omega) _).drew hb7⟩
          · have er0 : (r : Int) = 0 := by omega
            go_wp2_with fail
            go_ret
            exact ⟨rfl, BB⟩
end Go.Proofs.Yteghelmbibpohaa
