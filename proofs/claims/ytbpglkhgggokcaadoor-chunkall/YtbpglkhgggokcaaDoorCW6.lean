/- CHUNKS: the reader: head, open, end. -/
import Derived.Test.YtbpglkhgggokcaaDoorCW5
namespace Go.Proofs.YtbpglkhgggokcaaDoor
open Go.RowKit

theorem num_take {l : List Nat} {n : Nat} (h : 4 ≤ n) : num (l.take n) = num l := by
  unfold num
  simp only [List.getD_eq_getElem?_getD, List.getElem?_take, show 0 < n by omega, show 1 < n by omega, show 2 < n by omega, show 3 < n by omega, if_true]
theorem num_take8 (l : List Nat) : num ((l.take 8).drop 4) = num (l.drop 4) := by
  rw [List.drop_take]
  exact num_take (by decide)
theorem smE_short {n : Nat} {l : List Nat} (h : l.length < n + 4) : smE n l = 80 := by unfold smE; rw [if_pos h]
theorem smE_good {n : Nat} {l : List Nat} (h : n + 4 ≤ l.length) (e : crc (l.take n) = num (l.drop n)) : smE n l = 0 := by unfold smE; rw [if_neg (by omega), if_pos e]
theorem smE_wrong {n : Nat} {l : List Nat} (h : n + 4 ≤ l.length) (e : crc (l.take n) ≠ num (l.drop n)) : smE n l = 81 := by unfold smE; rw [if_neg (by omega), if_neg e]
/-- summed, all at once: what is right. -/
theorem summed_good (r n : Nat) (l : List Nat) (w : World) (LD : Laid w) (hr : r ≠ 0) (h : Rs w r l) (hn : n ≤ 4294967296) (hs : smE n l = 0) :
    Calls Tryd.prog 36 #[rp r, .int .i64 n] w fun x w' => (∃ ao cap, x = .returned (.slice ao n cap) ∧ By w' ao (l.take n) ∧ n + 4 ≤ cap ∧ Rs w' r (l.drop (n + 4))) ∧ BP (· = r) w w' := by
  have h1 : n + 4 ≤ l.length := by
    refine Classical.byContradiction fun hc => ?_
    rw [smE_short (by omega)] at hs
    exact absurd hs (by decide)
  have h2 : crc (l.take n) = num (l.drop n) := by
    refine Classical.byContradiction fun hc => ?_
    rw [smE_wrong h1 hc] at hs
    exact absurd hs (by decide)
  refine (summed_long r n l w LD hr h hn h1).mono ?_
  rintro e w1 ⟨⟨ao, cap, rfl, b, c, g, _⟩, bp⟩
  exact ⟨⟨ao, cap, rfl, b, c, g h2⟩, bp⟩
/-- summed, all at once: what is not. -/
theorem summed_fault (r n : Nat) (l : List Nat) (w : World) (LD : Laid w) (hr : r ≠ 0) (h : Rs w r l) (hn : n ≤ 4294967296) (hs : smE n l ≠ 0) :
    Calls Tryd.prog 36 #[rp r, .int .i64 n] w fun x w' => (∃ ao m cap, x = .returned (.slice ao m cap)) ∧ Rf w' r (smE n l : Nat) ∧ BP (· = r) w w' := by
  by_cases h1 : n + 4 ≤ l.length
  · have h2 : crc (l.take n) ≠ num (l.drop n) := fun h2 => hs (smE_good h1 h2)
    rw [smE_wrong h1 h2]
    refine (summed_long r n l w LD hr h hn h1).mono ?_
    rintro e w1 ⟨⟨ao, cap, rfl, _, _, _, g⟩, bp⟩
    exact ⟨⟨ao, n, cap, rfl⟩, g h2, bp⟩
  · rw [smE_short (by omega)]
    refine (summed_short r n l w h hn (by omega)).mono ?_
    rintro e w1 ⟨rfl, g, bp⟩
    exact ⟨⟨none, 0, 0, rfl⟩, g, bp⟩
theorem Rs.row {W : World} {r : Nat} {l : List Nat} (h : Rs W r l) : Rf W r 0 := by
  obtain ⟨ao, cap, h1, _⟩ := h
  exact ⟨ao, _, cap, h1⟩
theorem Rf.fault {W : World} {r : Nat} {e : Int} (h : Rf W r e) : W.cell? ⟨r, 1, none⟩ = some (.int .i64 e) := by
  obtain ⟨ao, n, cap, h1⟩ := h
  exact rf_fault h1
set_option maxHeartbeats 1600000 in
set_option maxRecDepth 100000 in
theorem head_fault (r : Nat) (l : List Nat) (w : World) (LD : Laid w) (hr : r ≠ 0) (h : Rs w r l) (hs : smE 8 l ≠ 0) :
    Calls Tryd.prog 34 #[rp r] w fun x w' => x = .returned (.tuple #[.int .u32 0, .int .i64 0]) ∧ Rf w' r (smE 8 l : Nat) ∧ BP (· = r) w w' := by
  have H := hid1 h
  have LL := hid1 LD
  have SF := hid1 (summed_fault r 8 l w LD hr h (by decide) hs)
  obtain ⟨e, ee⟩ : ∃ e, smE 8 l = e := ⟨_, rfl⟩
  rw [ee] at SF hs ⊢
  have hs' : ¬ (e : Int) = 0 := by omega
  clear h LD ee
  go_enter Tryd.func34, Tryd.ntmps34
  go_wp2_with fail
  refine SF.out.mono ?_
  rintro x w1 ⟨⟨ao, m, cap, rfl⟩, f, bp⟩
  have c1 := f.fault
  have FF := hid1 f
  clear f
  go_wp2_with fail
  go_ret2
  exact ⟨rfl, FF.out, bp⟩
set_option maxHeartbeats 1600000 in
set_option maxRecDepth 100000 in
theorem head_good (r : Nat) (l : List Nat) (w : World) (LD : Laid w) (hr : r ≠ 0) (h : Rs w r l) (hs : smE 8 l = 0) :
    Calls Tryd.prog 34 #[rp r] w fun x w' => x = .returned (.tuple #[.int .u32 (num l : Nat), .int .i64 (ckN l : Nat)]) ∧ Rs w' r (l.drop 12) ∧ BP (· = r) w w' := by
  have SG := hid1 (summed_good r 8 l w LD hr h (by decide) hs)
  have E1 : Hid (num (l.take 8) = num l) := hid1 (num_take (by decide))
  have E2 : Hid (num ((l.take 8).drop 4) = ckN l) := hid1 (num_take8 l)
  have bl : l.length ≥ 12 := by
    refine Classical.byContradiction fun hc => ?_
    rw [smE_short (by omega)] at hs
    exact absurd hs (by decide)
  have LN : Hid (ckN l < 4294967296) := hid1 (by
    obtain ⟨ao, cap, _, hb, _⟩ := h
    exact num_lt fun x hx => hb.byte x (List.mem_of_mem_drop hx))
  have LT : Hid (4 ≤ (l.take 8).length ∧ 4 ≤ ((l.take 8).drop 4).length) := hid1 (by simp; omega)
  clear h LD hs
  go_enter Tryd.func34, Tryd.ntmps34
  go_wp2_with fail
  refine SG.out.mono ?_
  rintro x w1 ⟨⟨ao, cap, rfl, hb, hc, hR⟩, bp⟩
  obtain ⟨g, o, rfl⟩ := fst_some hb (by simp; omega)
  have c1 := hR.row.fault
  have RR := hid1 hR
  have HB := hid1 hb
  clear hR hb SG
  have j0 : ¬ cap = 4 := by omega
  have j1 : ¬ cap ≤ 4 := by omega
  have j2 : ¬ cap - 4 = 0 := by omega
  have j3 : (4 : Int) ≤ (cap : Int) := by omega
  have N1 := hid1 (fun X (h1 : Below w1.heap.size w1 X) => number_any (some ⟨g, o, none⟩) 8 cap (l.take 8) X LT.out.1 (by omega) (HB.out.keep h1))
  have N2 := hid1 (fun X (h1 : Below w1.heap.size w1 X) => number_any (some ⟨g, o + 4, none⟩) 4 (cap - 4) ((l.take 8).drop 4) X LT.out.2 (by omega) ((HB.out.keep h1).drop 4))
  rw [E1.out] at N1
  rw [E2.out] at N2
  obtain ⟨q, eq⟩ : ∃ q, ckN l = q := ⟨_, rfl⟩
  obtain ⟨p, ep⟩ : ∃ p, num l = p := ⟨_, rfl⟩
  rw [eq] at N2 LN
  rw [ep] at N1
  have wq : wrap64 (q : Int) = (q : Int) := by unfold wrap64; have := LN.out; omega
  have WQ : Hid (IntKind.i64.wrap (q : Int) = (q : Int)) := hid1 (by have := LN.out; simp [IntKind.wrap, IntKind.signed, IntKind.bits]; omega)
  have EQ := hid1 eq
  have EP := hid1 ep
  clear eq ep E1 E2 LT HB
  go_wp2_with fail
  go_region_with (first
    | (go_at_call 37; refine (N2.out _ hX).mono ?_; rintro e wN ⟨rfl, hN0⟩; have hN := bl_step hX hN0; clear hN0)
    | (go_at_call 37; refine (N1.out _ (by first | exact Below.refl _ _ | exact (Below.refl _ _).drew)).mono ?_; rintro e wM ⟨rfl, hM0⟩; have hX : Below w1.heap.size w1 wM := bl_step (by first | exact Below.refl _ _ | exact (Below.refl _ _).drew) hM0; clear hM0))
  all_goals
    have HN := hid1 hN
    clear hN hX
    go_wp2
    go_ret2
    refine ⟨?_, RR.out.keep HN.out, bp.step HN.out⟩
    rw [EP.out, EQ.out]
    simp [go_sem, WQ.out]
set_option maxHeartbeats 1600000 in
set_option maxRecDepth 100000 in
theorem end_any (r : Nat) (l : List Nat) (w : World) (h : Rs w r l) :
    Calls Tryd.prog 27 #[rp r] w fun x w' => x = .returned (.tuple #[]) ∧ Rf w' r (if l = [] then 0 else 82) ∧ BP (· = r) w w' := by
  obtain ⟨ao, cap, h, hb, hc, hc2, hz⟩ := h
  have c0 := rf_left h
  have HR := hid1 h
  clear h
  by_cases hl : l = []
  · subst hl
    go_enter Tryd.func27, Tryd.ntmps27
    go_wp2_with fail
    refine (refuse_no r 0 cap ao _ 0 82 w HR.out (.inl (by simp))).mono ?_
    rintro e w1 ⟨rfl, rfl⟩
    go_wp2_with fail
    refine bodyPost_end (v := .tuple #[]) (by simp [results, go_sem]) rfl ?_
    exact ⟨rfl, ⟨_, _, _, HR.out⟩, BP.refl _ _⟩
  · have hp : 0 < l.length := List.length_pos_iff.2 hl
    rw [if_neg hl]
    go_enter Tryd.func27, Tryd.ntmps27
    go_wp2_with fail
    refine (refuse_yes' r l.length cap ao 82 _ (by simp) w HR.out).mono ?_
    rintro e w1 ⟨rfl, h1, bp⟩
    go_wp2_with fail
    refine bodyPost_end (v := .tuple #[]) (by simp [results, go_sem]) rfl ?_
    exact ⟨rfl, ⟨_, _, _, h1⟩, bp⟩
set_option maxHeartbeats 1600000 in
set_option maxRecDepth 100000 in
theorem open_good (r m : Nat) (l : List Nat) (w : World) (LD : Laid w) (hr : r ≠ 0) (h : Rs w r l) (hs : opE m l = 0) :
    Calls Tryd.prog 25 #[rp r, .int .u32 m] w fun x w' => x = .returned (.int .i64 (ckN l : Nat)) ∧ Rs w' r (l.drop 12) ∧ BP (· = r) w w' := by
  unfold opE at hs
  by_cases h1 : smE 8 l = 0
  · rw [if_pos h1] at hs
    by_cases h2 : num l = m
    · rw [if_pos h2] at hs
      by_cases h3 : 1024 < ckN l
      · rw [if_pos h3] at hs; exact absurd hs (by decide)
      · have HG := hid1 (head_good r l w LD hr h h1)
        rw [h2] at HG
        obtain ⟨q, eq⟩ : ∃ q, ckN l = q := ⟨_, rfl⟩
        rw [eq] at HG h3 ⊢
        have i3 : ¬ (1024 : Int) < (q : Int) := by omega
        clear h LD hs h1 h2 eq
        go_enter Tryd.func25, Tryd.ntmps25
        go_wp2_with fail
        refine HG.out.mono ?_
        rintro x w1 ⟨rfl, hR, bp⟩
        obtain ⟨ao, n, cap, hrow⟩ := hR.row
        have c1 := rf_fault hrow
        have RR := hid1 hR
        have RW := hid1 hrow
        clear hR hrow
        go_wp2_with fail
        refine (refuse_no r n cap ao _ 0 82 w1 RW.out (.inl (by simp))).mono ?_
        rintro e w2 ⟨rfl, rfl⟩
        go_wp2_with fail
        refine (refuse_no r n cap ao _ 0 2 w2 RW.out (.inl (by simp [i3]))).mono ?_
        rintro e w3 ⟨rfl, rfl⟩
        go_wp2_with fail
        go_ret
        exact ⟨rfl, RR.out, bp⟩
    · rw [if_neg h2] at hs; exact absurd hs (by decide)
  · rw [if_neg h1] at hs; exact absurd hs h1
set_option maxHeartbeats 1600000 in
set_option maxRecDepth 100000 in
theorem open_fault (r m : Nat) (l : List Nat) (w : World) (LD : Laid w) (hr : r ≠ 0) (h : Rs w r l) (hs : opE m l ≠ 0) :
    Calls Tryd.prog 25 #[rp r, .int .u32 m] w fun x w' => x = .returned (.int .i64 0) ∧ Rf w' r (opE m l : Nat) ∧ BP (· = r) w w' := by
  by_cases h1 : smE 8 l = 0
  · have HG := hid1 (head_good r l w LD hr h h1)
    by_cases h2 : num l = m
    · have h3 : 1024 < ckN l := by
        refine Classical.byContradiction fun hc => ?_
        unfold opE at hs
        rw [if_pos h1, if_pos h2, if_neg hc] at hs
        exact hs rfl
      have ee : opE m l = 2 := by unfold opE; rw [if_pos h1, if_pos h2, if_pos h3]
      rw [ee]
      rw [h2] at HG
      obtain ⟨q, eq⟩ : ∃ q, ckN l = q := ⟨_, rfl⟩
      rw [eq] at HG h3
      have i3 : (1024 : Int) < (q : Int) := by omega
      clear h LD hs h1 h2 eq ee
      go_enter Tryd.func25, Tryd.ntmps25
      go_wp2_with fail
      refine HG.out.mono ?_
      rintro x w1 ⟨rfl, hR, bp⟩
      obtain ⟨ao, n, cap, hrow⟩ := hR.row
      have RW := hid1 hrow
      clear hR hrow
      go_wp2_with fail
      refine (refuse_no r n cap ao _ 0 82 w1 RW.out (.inl (by simp))).mono ?_
      rintro e w2 ⟨rfl, rfl⟩
      go_wp2_with fail
      refine (refuse_yes' r n cap ao 2 _ (by simp) w2 RW.out).mono ?_
      rintro e w3 ⟨rfl, h3, bp3⟩
      have c1 := rf_fault h3
      have R3 := hid1 h3
      clear h3
      go_wp2_with fail
      go_ret
      exact ⟨rfl, ⟨_, _, _, R3.out⟩, bp.trans bp3 fun _ _ h => h⟩
    · have ee : opE m l = 82 := by unfold opE; rw [if_pos h1, if_neg h2]
      rw [ee]
      obtain ⟨q, eq⟩ : ∃ q, ckN l = q := ⟨_, rfl⟩
      obtain ⟨p, ep⟩ : ∃ p, num l = p := ⟨_, rfl⟩
      rw [eq, ep] at HG
      rw [ep] at h2
      have i2 : ¬ (p : Int) = (m : Int) := by omega
      clear h LD hs h1 eq ep ee
      go_enter Tryd.func25, Tryd.ntmps25
      go_wp2_with fail
      refine HG.out.mono ?_
      rintro x w1 ⟨rfl, hR, bp⟩
      obtain ⟨ao, n, cap, hrow⟩ := hR.row
      have RW := hid1 hrow
      clear hR hrow
      go_wp2_with fail
      refine (refuse_yes' r n cap ao 82 _ (by simp only [bne_iff_ne]; omega) w1 RW.out).mono ?_
      rintro e w2 ⟨rfl, h2, bp2⟩
      have R2 := hid1 h2
      clear h2
      go_wp2_with fail
      refine (refuse_no r n cap ao _ 82 2 w2 R2.out (.inr (by decide))).mono ?_
      rintro e w3 ⟨rfl, rfl⟩
      have c1 := rf_fault R2.out
      go_wp2_with fail
      go_ret
      exact ⟨rfl, ⟨_, _, _, R2.out⟩, bp.trans bp2 fun _ _ h => h⟩
  · have ee : opE m l = smE 8 l := by unfold opE; rw [if_neg h1]
    rw [ee]
    have HF := hid1 (head_fault r l w LD hr h h1)
    obtain ⟨e, ee2⟩ : ∃ e, smE 8 l = e := ⟨_, rfl⟩
    rw [ee2] at HF h1 ⊢
    have h1' : ¬ (e : Int) = 0 := by omega
    clear h LD hs ee ee2
    go_enter Tryd.func25, Tryd.ntmps25
    go_wp2_with fail
    refine HF.out.mono ?_
    rintro x w1 ⟨rfl, ⟨ao, n, cap, hrow⟩, bp⟩
    have c1 := rf_fault hrow
    have RW := hid1 hrow
    clear hrow
    go_wp2_with fail
    refine (refuse_no r n cap ao _ e 82 w1 RW.out (.inr h1')).mono ?_
    rintro x w2 ⟨rfl, rfl⟩
    go_wp2_with fail
    refine (refuse_no r n cap ao _ e 2 w2 RW.out (.inr h1')).mono ?_
    rintro x w3 ⟨rfl, rfl⟩
    go_wp2_with fail
    go_ret
    exact ⟨rfl, ⟨_, _, _, RW.out⟩, bp⟩
end Go.Proofs.YtbpglkhgggokcaaDoor
