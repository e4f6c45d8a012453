/- FRACSMALL: THE WHOLE. -/
import Derived.Test.YtboabgjgcnkelaaDoorFW10
namespace Go.Proofs.YtboabgjgcnkelaaDoor
open Go.RowKit Go.Shelf

theorem wrap_bd {x A : Int} (h : -A ≤ x ∧ x ≤ A) (hA : A ≤ 9000000000000000000) : wrap64 x = x := by unfold wrap64; omega
theorem fr_small {n d : Int} (h : -1000 ≤ n ∧ n ≤ 1000) (h2 : 1 ≤ d ∧ d ≤ 30) : Fr n d := ⟨h2.1, by omega, by omega, by omega⟩
theorem fsmall_walk (gn gd bn bd mn md sn sd x : Int) (w : World) (L : LaidP w) :
    Calls Tryd.prog 4 #[nm gn gd bn bd mn md sn sd, .int .i64 x] w fun e w' => e = .returned (.bool true) ∧ Below w.heap.size w w' := by
  obtain ⟨a1, a2, b1, b2⟩ := small_bd gn gd
  obtain ⟨c1, c2, d1, d2⟩ := small_bd bn bd
  obtain ⟨e1, e2, f1, f2⟩ := small_bd mn md
  obtain ⟨g1, g2, h1, h2⟩ := small_bd sn sd
  have hy := tmod_rng x (k := 10000) (by decide)
  have s1 : 1 ≤ (if smN sn < 0 then -smN sn else smN sn) + 1 ∧ (if smN sn < 0 then -smN sn else smN sn) + 1 ≤ 1000 := by split <;> omega
  have HP := fplus_any (smN gn) (smD gd) (smN bn) (smD bd) (smN mn) (smD md) ((if smN sn < 0 then -smN sn else smN sn) + 1) (smD sd) (x.tmod 10000)
  have n0 : noE (smN gn) (smD gd) (smN bn) (smD bd) (smN mn) (smD md) ((if smN sn < 0 then -smN sn else smN sn) + 1) (smD sd) = 0 := by
    unfold noE
    rw [if_pos ⟨fr_small ⟨by omega, by omega⟩ ⟨b1, b2⟩, fr_small ⟨by omega, by omega⟩ ⟨d1, d2⟩, fr_small ⟨by omega, by omega⟩ ⟨f1, f2⟩, fr_small ⟨by omega, s1.2⟩ ⟨h1, h2⟩⟩]
    exact if_neg (by omega)
  have y0 : Sm (x.tmod 10000) := ⟨by omega, by omega⟩
  have hE : plE (smN gn) (smD gd) (smN bn) (smD bd) (smN mn) (smD md) ((if smN sn < 0 then -smN sn else smN sn) + 1) (smD sd) (x.tmod 10000) = 0 := by
    unfold plE; rw [if_pos n0, if_pos y0]
  have hV : plV (smN gn) (smD gd) (smN bn) (smD bd) (smN mn) (smD md) ((if smN sn < 0 then -smN sn else smN sn) + 1) (smD sd) (x.tmod 10000) = decide (0 ≤ nv (smN gn) (smD gd) (smN bn) (smD bd) (smN mn) (smD md) ((if smN sn < 0 then -smN sn else smN sn) + 1) (smD sd) (x.tmod 10000)) := by
    unfold plV; rw [decide_eq_true n0, decide_eq_true y0]; rfl
  rw [hE, hV] at HP
  have HA := small_any gn gd
  have HB := small_any bn bd
  have HC := small_any mn md
  have HD := small_any sn sd
  clear hE hV n0 y0
  obtain ⟨s, es⟩ : ∃ s, (if smN sn < 0 then -smN sn else smN sn) + 1 = s := ⟨_, rfl⟩
  rw [es] at HP s1
  generalize smN gn = a at *
  generalize smD gd = b at *
  generalize smN bn = c at *
  generalize smD bd = d at *
  generalize smN mn = e at *
  generalize smD md = f at *
  generalize smN sn = g at *
  generalize smD sd = h at *
  obtain ⟨y, ey⟩ : ∃ y, x.tmod 10000 = y := ⟨_, rfl⟩
  rw [ey] at HP hy
  have m1 := bd_mul (A := 9999) (B := 30) (a := y) (b := f) ⟨by omega, by omega⟩ ⟨by omega, by omega⟩
  have m2 : -300969 ≤ y * f - e ∧ y * f - e ≤ 300969 := by omega
  have m3 := bd_mul (A := 999) (a := a) ⟨a1, a2⟩ m2
  have m4 := bd_mul m3 (B := 30) (b := h) ⟨by omega, by omega⟩
  have m5 := bd_mul m4 (B := 30) (b := d) ⟨by omega, by omega⟩
  have m6 := bd_mul (A := 999) (a := c) (B := 30) (b := b) ⟨c1, c2⟩ ⟨by omega, by omega⟩
  have m7 := bd_mul m6 (B := 30) (b := f) ⟨by omega, by omega⟩
  have m8 := bd_mul m7 (B := 1000) (b := s) ⟨by omega, s1.2⟩
  have m9 : -1000000000000 ≤ a * (y * f - e) * h * d + c * b * f * s ∧ a * (y * f - e) * h * d + c * b * f * s ≤ 1000000000000 := by omega
  exact fsmall_core gn gd bn bd mn md sn sd x a b c d e f g h s y _ _ _ _ _ _ _ _ _ _ (hid1 HA) (hid1 HB) (hid1 HC) (hid1 HD) (hid1 HP) g1 g2 es.symm ey
    (wrap_bd m1 (by omega)) (wrap_bd m2 (by omega)) (wrap_bd m3 (by omega)) (wrap_bd m4 (by omega)) (wrap_bd m5 (by omega)) (wrap_bd m6 (by omega)) (wrap_bd m7 (by omega)) (wrap_bd m8 (by omega)) (wrap_bd m9 (by omega)) rfl w L
end Go.Proofs.YtboabgjgcnkelaaDoor
