/- The document's own answer: Join of rows that may be. -/
import Derived.Test.YteghelmbibpohaaBW28
namespace Go.Proofs.Yteghelmbibpohaa
open Go.RowKit

structure Jr (w : World) (lo : Option Addr) (J : Nat) (n N : Nat → Nat) (ad : Nat → Option Addr) (cp : Nat → Nat) : Prop where
  at_ : ∀ j, j < J → ∃ gl ol, lo = some ⟨gl, ol, none⟩ ∧ w.cell? ⟨gl, ol + j * 2, none⟩ = some (.int .i64 (n j : Nat)) ∧ w.cell? ⟨gl, ol + j * 2 + 1, none⟩ = some (.slice (ad j) (nw (n j)) (cp j))
  rd : ∀ j, j < J → Ro w (ad j) (nw (n j)) (N j)
  lt : ∀ j, j < J → N j < 2 ^ n j
  le : ∀ j, j < J → n j ≤ 16777216
theorem Jr.below {w w' : World} {lo : Option Addr} {J : Nat} {n N : Nat → Nat} {ad : Nat → Option Addr} {cp : Nat → Nat} (h : Jr w lo J n N ad cp) (hb : Below w.heap.size w w') : Jr w' lo J n N ad cp :=
  ⟨fun j hj => by obtain ⟨gl, ol, e, c, d⟩ := h.at_ j hj; exact ⟨gl, ol, e, keepc hb c, keepc hb d⟩, fun j hj => (h.rd j hj).below hb, h.lt, h.le⟩
theorem rowL_bv {f : Nat → Bool} {m : Nat} : ∀ u ∈ rowL (bv f) m, u.oneCell' = true := by
  intro u hu
  obtain ⟨j, hj, e⟩ := List.getElem_of_mem hu
  obtain ⟨_, rfl⟩ := rowL_get (List.getElem?_eq_some_iff.2 ⟨hj, e⟩)
  rfl
/-- One row more, as truth values. -/
theorem join_list {n N : Nat → Nat} {j : Nat} (h : ∀ i, i < j → N i < 2 ^ n i) :
    rowL (bv fun i => (jn n N j).testBit i) (off n j) ++ rowL (bv fun i => (N j).testBit i) (n j) = rowL (bv fun i => (jn n N (j + 1)).testBit i) (off n (j + 1)) := by
  have hl := jn_lt j h
  refine List.ext_getElem? fun i => ?_
  have e : ∀ i, (jn n N (j + 1)).testBit i = ((jn n N j).testBit i || (decide (off n j ≤ i) && (N j).testBit (i - off n j))) := fun i => by simp only [jn]; rw [Nat.testBit_or, mul_bit]
  have eo : off n (j + 1) = off n j + n j := rfl
  unfold rowL
  by_cases h1 : i < off n j
  · rw [List.getElem?_append_left (by simpa using h1)]
    have h2 : i < off n (j + 1) := by omega
    have h3 : ¬ off n j ≤ i := by omega
    simp [h1, h2, e, h3]
  · rw [List.getElem?_append_right (by simp; omega)]
    by_cases h2 : i < off n (j + 1)
    · have h3 : i - off n j < n j := by omega
      have h4 : off n j ≤ i := by omega
      simp [h2, h3, e, h4, bit_above hl h4]
    · have h3 : ¬ i - off n j < n j := by omega
      simp [h2, h3]
theorem rb_own {w : World} {base : Nat} {v : Value} {n : Nat} {f : Nat → Bool} (h : w.ownsRow base 4 1 v n (rowL (bv f) n)) : ∃ ao cap, v = .slice ao n cap ∧ Rb w ao n f := by
  rcases Nat.eq_zero_or_pos n with h0 | h0
  · rcases h.2 with ⟨h1, _⟩ | ⟨g, cap, cur, hv, _⟩
    · exact ⟨none, 0, by rw [h0]; exact h1, fun k hk => absurd hk (by omega)⟩
    · exact ⟨_, cap, hv, fun k hk => absurd hk (by omega)⟩
  · obtain ⟨g, cap, q, hv, _, _, _, hr, hf⟩ := own_row h h0
    refine ⟨_, cap, hv, fun k hk => ⟨g, 0, rfl, ?_⟩⟩
    rw [Nat.zero_add]
    have h2 := hf k hk
    unfold rowL at h2
    rw [List.getElem?_map, List.getElem?_range hk] at h2
    exact (hr.cell (by omega)).trans h2.symm
theorem own_below {w w' : World} {base e : Nat} {v : Value} {n : Nat} {xs : List Value} (h : w.ownsRow base e 1 v n xs) (hb : Below w.heap.size w w') : w'.ownsRow base e 1 v n xs := by
  refine ⟨h.1, ?_⟩
  rcases h.2 with h2 | ⟨g, cap, cur, hv, hbase, hg, h4⟩
  · exact .inl h2
  · exact .inr ⟨g, cap, cur, hv, hbase, (hb.block g (Array.getElem?_eq_some_iff.1 hg).1).trans hg, h4⟩
theorem own_ne {w : World} {base e b t n k : Nat} {v : Value} {xs : List Value} {f : Nat → Value} (h : w.ownsRow base e 1 v n xs) (r : w.rowIs b t k f) (ht : e ≠ t) : v.ownBlock ≠ some b := by
  rcases h.2 with ⟨rfl, _⟩ | ⟨g, cap, cur, rfl, _, hg, _⟩
  · simp [Value.ownBlock]
  · intro e1
    simp [Value.ownBlock] at e1
    subst e1
    obtain ⟨c, hc, _⟩ := r
    rw [hg] at hc
    exact ht (by injection hc with hc; injection hc)
set_option maxHeartbeats 3200000 in
set_option maxRecDepth 100000 in
theorem rjoin_any (J : Nat) (lo : Option Addr) (cl : Nat) (n N : Nat → Nat) (ad : Nat → Option Addr) (cp : Nat → Nat) (w : World) (hJ : J ≤ 1048576) (h : Jr w lo J n N ad cp) (hT : off n J ≤ 16777216) :
    Calls Try.prog 53 #[.slice lo J cl] w fun e w' => ∃ g, e = .returned (.tuple #[rv (off n J) (some ⟨g, 0, none⟩) (nw (off n J)) (nw (off n J)), .int .i64 0]) ∧ w.heap.size ≤ g ∧ w'.rowIs g 35 (nw (off n J)) (wf (jn n N J)) ∧ Below w.heap.size w w' := by
  obtain ⟨i0, hi, hz0, hz1, hz2⟩ := info_parts info_bool
  have HJ := hid1 h
  have HT := hid1 (fun j (hj : j ≤ J) => Nat.le_trans (off_mono n hj) hT)
  have HL := hid1 (fun j (hj : j ≤ J) => join_list (n := n) (N := N) (j := j) (fun i hi => h.lt i (by omega)))
  have HBN := hid1 (bn_of (jn n N J) (off n J) (jn_lt J h.lt))
  clear h
  go_enter Try.func53, Try.ntmps53
  go_wp2_with fail
  go_loopw [5] (fun i wr => ∃ k : Nat, k ≤ J ∧ i = .int .i64 k ∧ wr.rowIs w.heap.size 27 2 (sf 0 none 0 0) ∧ Below w.heap.size w wr) (fun i _ => J - (intOf i).toNat)
  case atStart => exact ⟨0, Nat.zero_le _, rfl, row_new _ _ _ _ _ _, bl_alloc (Below.refl _ _) _⟩
  case round =>
    obtain ⟨k, hk, rfl, r2, hnx⟩ := hrel
    have ik0 : (0 : Int) ≤ (k : Int) := by omega
    by_cases hlt : k < J
    · have ik : (k : Int) < (J : Int) := by omega
      have JS := HJ.out.below hnx
      obtain ⟨gl, ol, rfl, c0, c1⟩ := JS.at_ k hlt
      have HC := hid1 (rcheck_any (n k) (ad k) (nw (n k)) (cp k) (N k) wr (by have := nw_bd (JS.le k hlt); omega) (JS.rd k hlt))
      rw [chk_ok (JS.le k hlt) (JS.lt k hlt)] at HC
      clear JS
      generalize n k = nk at *
      generalize ad k = adk at *
      generalize cp k = cpk at *
      go_wp2_with fail
      refine HC.out.mono ?_
      rintro e w1 ⟨rfl, hb1⟩
      replace hnx := bl_step hnx hb1
      have H2 := hid1 (keepr hb1 r2)
      clear hb1 r2 c0 c1
      go_wp2_with fail
      exact ⟨⟨k + 1, by omega, by go_num, H2.out, hnx⟩, by simp [intOf]; omega⟩
    · have hkJ : k = J := by omega
      subst hkJ
      clear hk hlt ik0
      go_wp2_with fail
      go_loop [4, 7] (fun s i => ∃ j : Nat, j ≤ k ∧ i = .int .i64 j ∧ s = .int .i64 (off n j : Nat)) (fun _ i => k - (intOf i).toNat)
      case atStart => exact ⟨0, Nat.zero_le _, rfl, rfl⟩
      case round =>
        obtain ⟨j, hj, rfl, rfl⟩ := hrel
        have ij0 : (0 : Int) ≤ (j : Int) := by omega
        by_cases hlt : j < k
        · have ij : (j : Int) < (k : Int) := by omega
          have JS := HJ.out.below hnx
          obtain ⟨gl, ol, rfl, c0, c1⟩ := JS.at_ j hlt
          have HS : Hid (off n (j + 1) = off n j + n j) := rfl
          have ho := HT.out j (by omega)
          have ho1 := HT.out (j + 1) (by omega)
          rw [HS.out] at ho1
          clear JS c1
          generalize n j = nj at *
          generalize off n j = oj at *
          have io0 : (0 : Int) ≤ (oj : Int) := by omega
          have io1 : (oj : Int) ≤ 16777216 := by omega
          have in0 : (0 : Int) ≤ (nj : Int) := by omega
          have in1 : (nj : Int) ≤ 16777216 := by omega
          have io2 : (oj : Int) + (nj : Int) ≤ 16777216 := by omega
          go_wp2_with fail
          exact ⟨⟨j + 1, by omega, by go_num, by rw [HS.out]; go_num⟩, by simp [intOf]; omega⟩
        · have hjk : j = k := by omega
          subst hjk
          clear hj hlt ij0
          go_wp2_with fail
          go_loopw [8, 9] (fun v i wq => ∃ (q : Nat) (ao : Option Addr) (ct : Nat), q ≤ j ∧ i = .int .i64 q ∧ v = .slice ao (off n q) ct ∧ wq.ownsRow w.heap.size 4 1 (.slice ao (off n q) ct) (off n q) (rowL (bv fun i => (jn n N q).testBit i) (off n q)) ∧ wq.rowIs w.heap.size 27 2 (sf 0 none 0 0) ∧ Below w.heap.size w wq) (fun _ i _ => j - (intOf i).toNat)
          case atStart => exact ⟨0, none, 0, Nat.zero_le _, rfl, rfl, World.ownsRow_nil _ _ _ _, r2, hnx⟩
          case round =>
            clear r2 hnx
            obtain ⟨q, ao, ct, hq, rfl, rfl, hown, r2, hnx⟩ := hrel
            have iq0 : (0 : Int) ≤ (q : Int) := by omega
            by_cases hlt : q < j
            · have iq : (q : Int) < (j : Int) := by omega
              have JS := HJ.out.below hnx
              obtain ⟨gl, ol, rfl, c0, c1⟩ := JS.at_ q hlt
              have HTR := hid1 (rtruths_any (n q) (N q) (ad q) (cp q) wr (JS.le q hlt) (JS.rd q hlt))
              have HS : Hid (off n (q + 1) = off n q + n q) := rfl
              have HLq := hid1 (HL.out q (by omega))
              have ho := HT.out q (by omega)
              have ho1 := HT.out (q + 1) (by omega)
              rw [HS.out] at ho1 HLq
              have hs := hnx.size
              clear JS
              generalize n q = nq at *
              generalize hof : off n q = oq at *
              generalize ad q = adq at *
              generalize cp q = cpq at *
              clear hof
              go_wp2_with fail
              refine HTR.out.mono ?_
              rintro e w1 ⟨gT, rfl, hgT, hrowT, hb1⟩
              have hown1 : w1.ownsRow w.heap.size 4 1 (.slice ao oq ct) oq (rowL (bv fun i => (jn n N q).testBit i) oq) := own_below hown hb1
              have H2 := hid1 (keepr hb1 r2)
              have hnx1 := bl_step hnx hb1
              have HCELL := hid1 (fun j u (h : (rowL (bv fun i => (N q).testBit i) nq)[j]? = some u) => (show w1.cell? ((⟨gT, 0, none⟩ : Addr).add j) = some u by
                obtain ⟨h1, rfl⟩ := rowL_get h
                have h2 := hrowT.cell h1
                by_cases h3 : j = 0
                · subst h3; exact h2
                · simp [Addr.add, h3, h2]))
              clear hb1 r2 c0 c1 hown hnx
              go_wp2_with ((at_builtin; refine wpList_append_own _ rfl _ _ 89 rfl w.heap.size 4 i0 (.bool false) 1 1 und_bools hi hz0 hz1 hz2 rfl (by decide) (.slice ao oq ct) oq _ (by go_simp) hown1 ⟨gT, 0, none⟩ nq nq (rowL (bv fun i => (N q).testBit i) nq) (by go_simp) (rowL_len _ _) HCELL.out rowL_bv (by unfold maxLen; omega) (by omega) hnx1.size ?_; intro v' w3 hown' hgrow3 hnil3))
              rw [HLq.out] at hown'
              obtain ⟨ao', ct', rfl, _⟩ := rb_own hown'
              refine ⟨⟨q + 1, ao', ct', by omega, by go_num, by rw [HS.out], by rw [HS.out]; exact hown', ?_, hnx1.grown hgrow3 hnx1.size (fun k hk => (hown1.lt k hk).1)⟩, by simp [intOf]; omega⟩
              refine H2.out.of_block (hgrow3.block _ H2.out.lt ?_)
              exact fun e => own_ne hown1 H2.out (by decide) e.symm
            · have hqj : q = j := by omega
              subst hqj
              obtain ⟨ao', ct', e1, hrb⟩ := rb_own hown
              injection e1 with e1 e2 e3
              subst e1 e3
              go_wp2_with fail
              refine (rrow_any _ (off n q) _ _ wr hT hrb).mono ?_
              rintro e w1 ⟨g, rfl, hg, hrow, hb1⟩
              rw [HBN.out] at hrow
              have hs := hnx.size
              replace hnx := bl_step hnx hb1
              replace r2 := keepr hb1 r2
              have c20 := sf_len r2
              have c21 := sf_ws r2
              have f0 := r2.frozen 0
              have f1 := r2.frozen 1
              have hne := row_ne hrow r2 (by decide)
              have HH := hid1 hrow
              clear hrow r2 hb1 hrb hown
              go_wp2_with fail
              exact bodyPost_ret (v := .tuple #[rv (off n q) (some ⟨g, 0, none⟩) (nw (off n q)) (nw (off n q)), .int .i64 0]) (by simp [results, Try.results53, go_sem, c20, c21]) rfl ⟨g, rfl, by omega, (HH.out.setOther (a := ⟨w.heap.size, 0, none⟩) hne _).setOther (a := ⟨w.heap.size, 1, none⟩) hne _, bl_set (bl_set hnx (by omega) _) (by omega) _⟩

set_option maxHeartbeats 3200000 in
set_option maxRecDepth 100000 in
theorem rjoin_long (J : Nat) (lo : Option Addr) (cl : Nat) (n N : Nat → Nat) (ad : Nat → Option Addr) (cp : Nat → Nat) (w : World) (hJ : J ≤ 1048576) (h : Jr w lo J n N ad cp) (hT : 16777216 < off n J) :
    Calls Try.prog 53 #[.slice lo J cl] w fun e w' => e = .returned (.tuple #[rv 0 none 0 0, .int .i64 2]) ∧ Below w.heap.size w w' := by
  have HJ := hid1 h
  clear h
  go_enter Try.func53, Try.ntmps53
  go_wp2_with fail
  go_loopw [5] (fun i wr => ∃ k : Nat, k ≤ J ∧ i = .int .i64 k ∧ wr.rowIs w.heap.size 27 2 (sf 0 none 0 0) ∧ Below w.heap.size w wr) (fun i _ => J - (intOf i).toNat)
  case atStart => exact ⟨0, Nat.zero_le _, rfl, row_new _ _ _ _ _ _, bl_alloc (Below.refl _ _) _⟩
  case round =>
    obtain ⟨k, hk, rfl, r2, hnx⟩ := hrel
    have ik0 : (0 : Int) ≤ (k : Int) := by omega
    by_cases hlt : k < J
    · have ik : (k : Int) < (J : Int) := by omega
      have JS := HJ.out.below hnx
      obtain ⟨gl, ol, rfl, c0, c1⟩ := JS.at_ k hlt
      have HC := hid1 (rcheck_any (n k) (ad k) (nw (n k)) (cp k) (N k) wr (by have := nw_bd (JS.le k hlt); omega) (JS.rd k hlt))
      rw [chk_ok (JS.le k hlt) (JS.lt k hlt)] at HC
      clear JS
      generalize n k = nk at *
      generalize ad k = adk at *
      generalize cp k = cpk at *
      go_wp2_with fail
      refine HC.out.mono ?_
      rintro e w1 ⟨rfl, hb1⟩
      replace hnx := bl_step hnx hb1
      have H2 := hid1 (keepr hb1 r2)
      clear hb1 r2 c0 c1
      go_wp2_with fail
      exact ⟨⟨k + 1, by omega, by go_num, H2.out, hnx⟩, by simp [intOf]; omega⟩
    · have hkJ : k = J := by omega
      subst hkJ
      clear hk hlt ik0
      go_wp2_with fail
      go_loop [4, 7] (fun s i => ∃ j : Nat, j ≤ k ∧ i = .int .i64 j ∧ s = .int .i64 (off n j : Nat) ∧ off n j ≤ 16777216) (fun _ i => k - (intOf i).toNat)
      case atStart => exact ⟨0, Nat.zero_le _, rfl, rfl, by simp [off]⟩
      case round =>
        obtain ⟨j, hj, rfl, rfl, ho⟩ := hrel
        have ij0 : (0 : Int) ≤ (j : Int) := by omega
        have hlt : j < k := by
          refine Nat.lt_of_le_of_ne hj fun e => ?_
          subst e
          omega
        have ij : (j : Int) < (k : Int) := by omega
        have JS := HJ.out.below hnx
        obtain ⟨gl, ol, rfl, c0, c1⟩ := JS.at_ j hlt
        have hnj := JS.le j hlt
        have HS : Hid (off n (j + 1) = off n j + n j) := rfl
        clear JS c1
        generalize n j = nj at *
        generalize off n j = oj at *
        have io0 : (0 : Int) ≤ (oj : Int) := by omega
        have io1 : (oj : Int) ≤ 16777216 := by omega
        have in0 : (0 : Int) ≤ (nj : Int) := by omega
        have in1 : (nj : Int) ≤ 16777216 := by omega
        by_cases hov : oj + nj ≤ 16777216
        · have io2 : (oj : Int) + (nj : Int) ≤ 16777216 := by omega
          go_wp2_with fail
          exact ⟨⟨j + 1, by omega, by go_num, by rw [HS.out]; go_num, by rw [HS.out]; exact hov⟩, by simp [intOf]; omega⟩
        · have io2 : (16777216 : Int) < (oj : Int) + (nj : Int) := by omega
          have c20 := sf_len r2
          have c21 := sf_ws r2
          have f0 := r2.frozen 0
          have f1 := r2.frozen 1
          go_wp2_with fail
          exact bodyPost_ret (v := .tuple #[rv 0 none 0 0, .int .i64 2]) (by simp [results, Try.results53, go_sem, c20, c21]) rfl ⟨rfl, bl_set (bl_set hnx (by omega) _) (by omega) _⟩
end Go.Proofs.Yteghelmbibpohaa
