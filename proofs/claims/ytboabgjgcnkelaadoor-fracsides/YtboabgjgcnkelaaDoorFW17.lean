/- FRACSIDES: THE WHOLE. -/
import Derived.Test.YtboabgjgcnkelaaDoorFW16
namespace Go.Proofs.YtboabgjgcnkelaaDoor
open Go.RowKit Go.Shelf

theorem tmS_bd {g : Int} (h : -2147483647 ≤ g ∧ g ≤ 2147483647) : 1 ≤ tmS g ∧ tmS g ≤ 2147483647 := by
  unfold tmS; split <;> (try split) <;> omega
theorem noE_is {gn gd bn bd mn md sn sd : Int} (hg : Fr gn gd) (hb : Fr bn bd) (hm : Fr mn md) (hs : Fr sn sd) (h1 : 1 ≤ sn) : noE gn gd bn bd mn md sn sd = 0 := by
  unfold noE; rw [if_pos ⟨hg, hb, hm, hs⟩]; exact if_neg (by omega)
theorem sum_sm (x : Int) : Sm (tmN x) := by
  have h := tmod_rng x (k := 2147483648) (by decide)
  unfold Sm tmN
  omega
theorem fsides_walk (gn gd bn bd mn md sn sd x y : Int) (w : World) (L : LaidP w) :
    Calls Tryd.prog 6 #[nm gn gd bn bd mn md sn sd, .int .i64 x, .int .i64 y] w fun e w' => e = .returned (.bool true) ∧ Below w.heap.size w w' := by
  have hg := tame_fr gn gd
  have hb := tame_fr bn bd
  have hm := tame_fr mn md
  have hs0 := tame_fr sn sd
  have hs1 := tmS_bd hs0.2.2
  have hs : Fr (tmS (tmN sn)) (tmD sd) := ⟨hs0.1, hs0.2.1, by omega, hs1.2⟩
  have HT := tamed_any gn gd bn bd mn md sn sd
  have HX := sum_any x
  have HY := sum_any y
  have sx := sum_sm x
  have sy := sum_sm y
  generalize tmS (tmN sn) = s at *
  generalize tmN gn = a at *
  generalize tmD gd = b at *
  generalize tmN bn = c at *
  generalize tmD bd = d at *
  generalize tmN mn = e at *
  generalize tmD md = f at *
  generalize tmD sd = h at *
  generalize tmN x = al at *
  generalize tmN y = be at *
  obtain ⟨lo, hi, hO, hle, slo, shi⟩ : ∃ lo hi, ((be < al ∧ lo = be ∧ hi = al) ∨ (¬ be < al ∧ lo = al ∧ hi = be)) ∧ lo ≤ hi ∧ Sm lo ∧ Sm hi := by
    by_cases k : be < al
    · exact ⟨be, al, Or.inl ⟨k, rfl, rfl⟩, by omega, sy, sx⟩
    · exact ⟨al, be, Or.inr ⟨k, rfl, rfl⟩, by omega, sx, sy⟩
  have n1 := noE_is hg hb hm hs hs1.1
  have PA := lplus_any a b c d e f s h lo n1 slo
  have PB := lplus_any a b c d e f s h hi n1 shi
  have hg' : Fr (-a) b := ⟨hg.1, hg.2.1, by have := hg.2.2.2; omega, by have := hg.2.2.1; omega⟩
  have hm' : Fr (-e) f := ⟨hm.1, hm.2.1, by have := hm.2.2.2; omega, by have := hm.2.2.1; omega⟩
  have slo' : Sm (-lo) := ⟨by have := slo.2; omega, by have := slo.1; omega⟩
  have PC := lplus_any (-a) b c d (-e) f s h (-lo) (noE_is hg' hb hm' hs hs1.1) slo'
  rw [nv_turn] at PC
  have hm2 : Fr lo 1 := ⟨by omega, by omega, slo.1, slo.2⟩
  have PD := lplus_any a b c d lo 1 s h lo (noE_is hg hb hm2 hs hs1.1) slo
  have eD : decide (0 ≤ nv a b c d lo 1 s h lo) = decide (0 ≤ c) := by
    have := nv_flat (gn := a) (gd := b) (bn := c) (bd := d) (mn := lo) (md := 1) (sn := s) (sd := h) (x := lo) hg.1 (by omega) hs1.1 (by rw [Int.mul_one, Int.sub_self, Int.mul_zero])
    exact decide_eq_decide.mpr this
  rw [eD] at PD
  refine fsides_core gn gd bn bd mn md sn sd x y a b c d e f s h al be lo hi _ _ (hid1 HT) (hid1 HX) (hid1 HY) (hid1 PA) (hid1 PB) (hid1 PC) (hid1 PD) (hid1 hO) hg.2.2.1 hg.2.2.2 hm.2.2.1 hm.2.2.2 slo.1 slo.2 (hid1 ?_) w L
  rcases Int.lt_trichotomy a 0 with k | k | k
  · right; left
    refine ⟨k, fun q => ?_⟩
    have := nv_down (gd := b) (x := lo) (y := hi) (show a ≤ 0 by omega) hb hm hs hle
    have := of_decide_eq_true q
    exact decide_eq_true (by omega)
  · right; right
    subst k
    have z (x : Int) : 0 * (x * f - e) = 0 := Int.zero_mul _
    exact ⟨rfl, decide_eq_decide.mpr (nv_flat hg.1 hm.1 hs1.1 (z lo)), decide_eq_decide.mpr (nv_flat hg.1 hm.1 hs1.1 (z hi))⟩
  · left
    refine ⟨k, fun q => ?_⟩
    have := nv_up (gd := b) (x := lo) (y := hi) (show 0 ≤ a by omega) hb hm hs hle
    have := of_decide_eq_true q
    exact decide_eq_true (by omega)
end Go.Proofs.YtboabgjgcnkelaaDoor
