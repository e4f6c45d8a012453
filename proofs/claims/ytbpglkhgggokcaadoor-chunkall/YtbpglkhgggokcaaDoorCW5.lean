/- CHUNKS: the reader: summed. -/
import Derived.Test.YtbpglkhgggokcaaDoorCW4
namespace Go.Proofs.YtbpglkhgggokcaaDoor
open Go.RowKit

/-- The reader: the bytes that are left, no fault. -/
def Rs (W : World) (r : Nat) (l : List Nat) : Prop := ∃ ao cap, W.rowIs r 59 2 (rf ao l.length cap 0) ∧ By W ao l ∧ (l.length ≤ cap ∧ l.length ≤ 281474976710656) ∧ cap ≤ 9223372036854775807 ∧ ∀ p, ao = some p → l ≠ [] → p.block < r
/-- The reader behind a fault. -/
def Rf (W : World) (r : Nat) (e : Int) : Prop := ∃ ao n cap, W.rowIs r 59 2 (rf ao n cap e)
theorem Rs.keep {W X : World} {r : Nat} {l : List Nat} (h : Rs W r l) (hb : Below W.heap.size W X) : Rs X r l := by
  obtain ⟨ao, cap, h1, h2, h3⟩ := h
  exact ⟨ao, cap, keepr hb h1, h2.keep hb, h3⟩
theorem Rf.keep {W X : World} {r : Nat} {e : Int} (h : Rf W r e) (hb : Below W.heap.size W X) : Rf X r e := by
  obtain ⟨ao, n, cap, h1⟩ := h
  exact ⟨ao, n, cap, keepr hb h1⟩
set_option maxHeartbeats 800000 in
set_option maxRecDepth 100000 in
theorem summed_bad (r : Nat) (m : Int) (e0 : Int) (w : World) (h : Rf w r e0) (h0 : e0 ≠ 0) :
    Calls Tryd.prog 36 #[rp r, .int .i64 m] w fun x w' => x = .returned (.slice none 0 0) ∧ w' = w := by
  obtain ⟨ao, n, cap, h⟩ := h
  have c1 := rf_fault h
  have h0' : ¬ e0 = 0 := h0
  have HR := hid1 h
  clear h
  go_enter Tryd.func36, Tryd.ntmps36
  go_wp2_with fail
  refine (take_bad r n cap _ ao e0 w HR.out h0).mono ?_
  rintro e w1 ⟨rfl, rfl⟩
  go_wp2_with fail
  go_ret
  exact ⟨rfl, rfl⟩
set_option maxHeartbeats 800000 in
set_option maxRecDepth 100000 in
theorem summed_short (r n : Nat) (l : List Nat) (w : World) (h : Rs w r l) (hn : n ≤ 4294967296) (hs : l.length < n + 4) :
    Calls Tryd.prog 36 #[rp r, .int .i64 n] w fun x w' => x = .returned (.slice none 0 0) ∧ Rf w' r 80 ∧ BP (· = r) w w' := by
  obtain ⟨ao, cap, h, hb, hc, hc2, hz⟩ := h
  have HR := hid1 h
  have e1 : wrap64 ((n : Int) + 4) = ((n + 4 : Nat) : Int) := by unfold wrap64; omega
  clear h
  go_enter Tryd.func36, Tryd.ntmps36
  go_wp2_with fail
  refine (take_short r l.length cap (n + 4) ao w HR.out hs).mono ?_
  rintro e w1 ⟨rfl, h1, bp⟩
  have d1 := rf_fault h1
  have H1 := hid1 h1
  clear h1
  go_wp2_with fail
  go_ret
  exact ⟨rfl, ⟨_, _, _, H1.out⟩, bp⟩
theorem fst_some {W : World} {ao : Option Addr} {l : List Nat} (h : By W ao l) (hl : 0 < l.length) : ∃ g o, ao = some ⟨g, o, none⟩ := by
  obtain ⟨g, o, _, e, _⟩ := h.at hl
  exact ⟨g, o, e⟩
theorem rs_mk {W : World} {r g o o' m cap : Nat} {l : List Nat} (h : W.rowIs r 59 2 (rf (some ⟨g, o', none⟩) (l.length - m) (cap - m) 0)) (hb : By W (some ⟨g, o, none⟩) l) (ho : o' = o + m ∨ l.length ≤ m) (hc : l.length ≤ cap ∧ l.length ≤ 281474976710656) (hc2 : cap ≤ 9223372036854775807) (hz : g < r) : Rs W r (l.drop m) := by
  refine ⟨some ⟨g, o', none⟩, cap - m, by rw [List.length_drop]; exact h, ?_, by rw [List.length_drop]; omega, by omega, fun p hp _ => by injection hp with hp; subst hp; exact hz⟩
  rcases ho with rfl | ho
  · exact hb.drop m
  · rw [List.drop_eq_nil_of_le ho]
    exact By.nil _ _
set_option maxHeartbeats 1600000 in
set_option maxRecDepth 100000 in
theorem summed_long (r n : Nat) (l : List Nat) (w : World) (LD : Laid w) (hr : r ≠ 0) (h : Rs w r l) (hn : n ≤ 4294967296) (hs : n + 4 ≤ l.length) :
    Calls Tryd.prog 36 #[rp r, .int .i64 n] w fun x w' => (∃ ao cap, x = .returned (.slice ao n cap) ∧ By w' ao (l.take n) ∧ n + 4 ≤ cap ∧ (crc (l.take n) = num (l.drop n) → Rs w' r (l.drop (n + 4))) ∧ (crc (l.take n) ≠ num (l.drop n) → Rf w' r 81)) ∧ BP (· = r) w w' := by
  obtain ⟨ao, cap, h, hb, hc, hc2, hz⟩ := h
  obtain ⟨g, o, rfl⟩ := fst_some hb (by omega)
  have zg : g < r := hz _ rfl (by rintro rfl; simp at hs)
  have HR := hid1 h
  have HB := hid1 hb
  have LL := hid1 LD
  have AP := hid1 (rf_apart h hb _ rfl (by rintro rfl; simp at hs))
  have e1 : wrap64 ((n : Int) + 4) = ((n + 4 : Nat) : Int) := by unfold wrap64; omega
  clear h hb LD
  go_enter Tryd.func36, Tryd.ntmps36
  go_wp2_with fail
  refine (take_good r l.length cap (n + 4) g o w HR.out hs hc.1 (by omega)).mono ?_
  rintro e w1 ⟨rfl, ⟨o', h1, ho'⟩, bp⟩
  have d1 := rf_fault h1
  have H1 := hid1 h1
  have HB1 := hid1 (HB.out.bp bp fun p hp _ he => by
    injection hp with hp
    subst hp
    exact AP.out he)
  have L1 := hid1 (LL.out.bp bp (fun h => hr h.symm))
  clear h1 HB LL HR
  have j0 : (0 : Int) ≤ (n : Int) := by omega
  have j1 : (n : Int) ≤ ((n + 4 : Nat) : Int) := by omega
  have j2 : (n : Int) ≤ (cap : Int) := by omega
  have j3 : (n : Int) ≤ (n : Int) + 4 := by omega
  have j4 : ¬ cap ≤ n := by omega
  have j5 : ¬ cap - n = 0 := by omega
  have j6 : ¬ cap = n := by omega
  have YS : Hid (∀ t, Bys (w1.alloc (.cells #[.slice (some ⟨g, o, none⟩) n cap] t)).drew (some ⟨w1.heap.size, 0, none⟩) [l.take n]) := hid1 fun t => by
    have h0 := bys_one w1 (some ⟨g, o, none⟩) (l.take n) cap t (HB1.out.take n)
    rw [List.length_take, Nat.min_eq_left (by omega)] at h0
    exact h0
  have NB : Hid (∀ X, Below w1.heap.size w1 X → By X (some ⟨g, o + n, none⟩) (l.drop n)) := hid1 fun X hX => (HB1.out.keep hX).drop n
  have hl4 : 4 ≤ (l.drop n).length := by simp; omega
  have TL : Hid ((l.take n).length ≤ 9223372036854775807) := hid1 (by simp; omega)
  obtain ⟨c, ec⟩ : ∃ c, crc (l.take n) = c := ⟨_, rfl⟩
  obtain ⟨q, eq⟩ : ∃ q, num (l.drop n) = q := ⟨_, rfl⟩
  have SS := hid1 (fun X (h1 : Laid X) (h2 : Bys X (some ⟨w1.heap.size, 0, none⟩) [l.take n]) => sum_one w1.heap.size 1 (l.take n) X h1 TL.out h2)
  have NN := hid1 (fun X (h1 : Below w1.heap.size w1 X) => number_any (some ⟨g, o + n, none⟩) 4 (cap - n) (l.drop n) X hl4 (by omega) (NB.out X h1))
  rw [ec] at SS
  rw [eq] at NN
  have EC := hid1 ec
  have EQ := hid1 eq
  clear ec eq TL hl4 NB
  by_cases hq : c = q
  · subst hq
    go_wp2_with fail
    go_region_with (first
      | (go_at_call 35; refine (refuse_no r (l.length - (n + 4)) (cap - (n + 4)) _ false 0 81 _ (keepr hN H1.out) (.inl rfl)).mono ?_; rintro e wR ⟨rfl, rfl⟩)
      | (go_at_call 37; refine (NN.out _ hX).mono ?_; rintro e wN ⟨rfl, hN0⟩; have hN := bl_step hX hN0; clear hN0)
      | (go_at_call 11; refine gen_calls (fun X => Below w1.heap.size w1 X ∧ Bys X (some ⟨w1.heap.size, 0, none⟩) [l.take n]) ⟨(bl_alloc (Below.refl _ _) _).drew, YS.out _⟩ ?_; rintro X ⟨hX, yX⟩; refine (SS.out X (L1.out.on hX) yX).mono ?_; rintro e wS ⟨rfl, rfl⟩; clear yX))
    have HN := hid1 hN
    clear hN hX
    go_wp2
    go_ret
    exact ⟨⟨_, cap, rfl, (HB1.out.keep HN.out).take n, by omega, fun _ => rs_mk (keepr HN.out H1.out) (HB1.out.keep HN.out) ho' hc hc2 zg, fun h => absurd (EC.out.trans EQ.out.symm) h⟩, bp.step HN.out⟩
  · have hq2 : ¬ (c : Int) = (q : Int) := by omega
    go_wp2_with fail
    go_region_with (first
      | (go_at_call 35; refine (refuse_yes' r (l.length - (n + 4)) (cap - (n + 4)) _ 81 _ (by simp only [bne_iff_ne]; omega) _ (keepr hN H1.out)).mono ?_; rintro e wR ⟨rfl, hrow, hbp⟩)
      | (go_at_call 37; refine (NN.out _ hX).mono ?_; rintro e wN ⟨rfl, hN0⟩; have hN := bl_step hX hN0; clear hN0)
      | (go_at_call 11; refine gen_calls (fun X => Below w1.heap.size w1 X ∧ Bys X (some ⟨w1.heap.size, 0, none⟩) [l.take n]) ⟨(bl_alloc (Below.refl _ _) _).drew, YS.out _⟩ ?_; rintro X ⟨hX, yX⟩; refine (SS.out X (L1.out.on hX) yX).mono ?_; rintro e wS ⟨rfl, rfl⟩; clear yX))
    have HN := hid1 hN
    have HW := hid1 hrow
    have HP := hid1 hbp
    clear hN hX hrow hbp
    go_wp2
    go_ret
    refine ⟨⟨_, cap, rfl, ((HB1.out.keep HN.out).bp HP.out fun p hp _ he => ?_).take n, by omega, fun h => absurd (EC.out.symm.trans (h.trans EQ.out)) hq, fun _ => ⟨_, _, _, HW.out⟩⟩, (bp.step HN.out).trans HP.out fun _ _ h => h⟩
    injection hp with hp
    subst hp
    exact AP.out he
end Go.Proofs.YtbpglkhgggokcaaDoor
