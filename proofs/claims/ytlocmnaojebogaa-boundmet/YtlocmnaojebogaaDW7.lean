/- Pack. -/
import Derived.Test.YtlocmnaojebogaaDW6
namespace Go.Proofs.Ytlocmnaojebogaa
open Go.RowKit

/-- All are weights. -/
def Wok (l : List Int) (N : Nat) : Prop := ∀ i, i < N → -1 ≤ ia l i ∧ ia l i ≤ 1
/-- Where a weight is not 0. -/
def nz (l : List Int) (i : Nat) : Bool := decide (ia l i ≠ 0)
def zb : Bt := ⟨0, none, 0, 0, 0⟩
theorem rw_zero {w : World} {b t : Nat} (h : w.rowIs b t 4 (qf zb zb)) : w.cell? ⟨b, 0, none⟩ = some (.int .i64 0) ∧ w.cell? ⟨b, 1, none⟩ = some (.slice none 0 0) ∧ w.cell? ⟨b, 2, none⟩ = some (.int .i64 0) ∧ w.cell? ⟨b, 3, none⟩ = some (.slice none 0 0) := ⟨q0 h, q1 h, q2 h, q3 h⟩
/-- A row of n bits in memory of its own. -/
abbrev ob (n g N : Nat) : Bt := ⟨n, some ⟨g, 0, none⟩, nw n, nw n, N⟩
theorem pk_pos {l : List Int} {k : Nat} (h : 0 < ia l k) : pk l (k + 1) = pk l k ||| 2 ^ k := by simp only [pk]; rw [if_pos h]
theorem pk_not {l : List Int} {k : Nat} (h : ¬ 0 < ia l k) : pk l (k + 1) = pk l k := by simp only [pk]; rw [if_neg h]; simp
theorem nz_set {l : List Int} {k : Nat} (h : ia l k ≠ 0) : bn (nz l) (k + 1) = bn (nz l) k ||| 2 ^ k := by simp only [bn]; rw [if_pos (by simp [nz, h])]
theorem nz_not {l : List Int} {k : Nat} (h : ia l k = 0) : bn (nz l) (k + 1) = bn (nz l) k := by simp only [bn]; rw [if_neg (by simp [nz, h])]; simp

set_option maxHeartbeats 800000 in
set_option maxRecDepth 100000 in
theorem dpack_long (N : Nat) (ao : Option Addr) (cap : Nat) (w : World) (h1 : 16777216 < N) (h2 : N ≤ 9223372036854775807) :
    Calls Try.prog 10 #[.slice ao N cap] w fun e w' => e = .returned (.tuple #[rwv zb zb, .int .i64 2]) ∧ Below w.heap.size w w' := by
  go_enter Try.func10, Try.ntmps10
  go_wp2
  refine bodyPost_ret (v := .tuple #[rwv zb zb, .int .i64 2]) (by simp [results, Try.results10, go_sem, zb]) rfl ⟨rfl, ?_⟩
  repeat (first | exact Below.refl _ _ | refine bl_alloc ?_ _ | refine bl_set ?_ (by omega) _)

set_option maxHeartbeats 3200000 in
set_option maxRecDepth 100000 in
theorem dpack_any (l : List Int) (N : Nat) (hN : l.length = N) (ao : Option Addr) (cap : Nat) (w : World) (h1 : N ≤ 16777216) (h : R8 w ao l) :
    Calls Try.prog 10 #[.slice ao N cap] w fun e w' =>
      (Wok l N ∧ ∃ g1 g2, e = .returned (.tuple #[rwv (ob N g1 (pk l N)) (ob N g2 (bn (nz l) N)), .int .i64 0]) ∧ w.heap.size ≤ g1 ∧ g1 < g2 ∧ w'.rowIs g1 98 (nw N) (wf (pk l N)) ∧ w'.rowIs g2 98 (nw N) (wf (bn (nz l) N)) ∧ Below w.heap.size w w') ∨
      (¬ Wok l N ∧ e = .returned (.tuple #[rwv zb zb, .int .i64 52]) ∧ Below w.heap.size w w') := by
  have HR := hid1 h
  clear h
  have hb := nw_bd h1
  go_enter Try.func10, Try.ntmps10
  go_wp2_with fail
  refine (dblank_any N h1 _).mono ?_
  rintro e w1 ⟨g1, rfl, hg1, hrow1, hbl1⟩
  have g10 : w.heap.size < g1 := by simp at hg1; omega
  have B1 : Below w.heap.size w w1 := bl_step (bl_alloc (Below.refl _ _) _) hbl1
  have r2 := keepr hbl1 (q_new w zb zb 34)
  clear hbl1 hg1
  go_wp2_with fail
  refine (dblank_any N h1 _).mono ?_
  rintro e w2 ⟨g2, rfl, hg2, hrow2, hbl2⟩
  have g21 : g1 < g2 := by have := hrow1.lt; omega
  replace B1 := bl_step B1 hbl2
  replace r2 := keepr hbl2 r2
  replace hrow1 := keepr hbl2 hrow1
  have z2 := hrow2.lt
  clear hbl2 hg2
  go_wp2_with fail
  go_loopw [20] (fun i wr => ∃ k : Nat, k ≤ N ∧ i = .int .i64 k ∧ Wok l k ∧ wr.rowIs g1 98 (nw N) (wf (pk l k)) ∧ wr.rowIs g2 98 (nw N) (wf (bn (nz l) k)) ∧ wr.rowIs w.heap.size 34 4 (qf zb zb) ∧ wr.rowIs w2.heap.size 34 4 (qf (ob N g1 0) (ob N g2 0)) ∧ Below w.heap.size w wr)
    (fun i _ => N - (intOf i).toNat)
  case atStart => exact ⟨0, Nat.zero_le _, rfl, fun i hi => by omega, hrow1.alloc _, hrow2.alloc _, r2.alloc _, q_new w2 (ob N g1 0) (ob N g2 0) _, bl_alloc B1 _⟩
  case round =>
    clear hrow1 hrow2 r2 B1
    obtain ⟨k, hk, rfl, hw, hrow1, hrow2, r2, r4, hnx⟩ := hrel
    have HW := hid1 hw
    clear hw
    by_cases hlt : k < N
    · obtain ⟨ga, oa, rfl, c8⟩ := HR.out k (by omega)
      replace c8 := keepc hnx c8
      have ik : (k : Int) < (N : Int) := by omega
      have ik0 : (0 : Int) ≤ (k : Int) := by omega
      have n14 := row_ne hrow1 r4 (by decide)
      have n12 := row_ne hrow1 r2 (by decide)
      have n24 := row_ne hrow2 r4 (by decide)
      have n22 := row_ne hrow2 r2 (by decide)
      have n1g : g1 ≠ g2 := by omega
      have c40 : wr.cell? ⟨w2.heap.size, 0, none⟩ = some (.int .i64 (N : Nat)) := q0 r4
      have c41 : wr.cell? ⟨w2.heap.size, 1, none⟩ = some (.slice (some ⟨g1, 0, none⟩) (nw N) (nw N)) := q1 r4
      have c42 : wr.cell? ⟨w2.heap.size, 2, none⟩ = some (.int .i64 (N : Nat)) := q2 r4
      have c43 : wr.cell? ⟨w2.heap.size, 3, none⟩ = some (.slice (some ⟨g2, 0, none⟩) (nw N) (nw N)) := q3 r4
      obtain ⟨v, ev⟩ : ∃ v, ia l k = v := ⟨_, rfl⟩
      by_cases hbad : v < -1 ∨ 1 < v
      · have hno : Hid (¬ Wok l N) := fun hw => by have := hw k hlt; omega
        have c20 := rw_zero r2
        obtain ⟨d0, d1, d2, d3⟩ := c20
        have f0 := r2.frozen 0
        have f1 := r2.frozen 1
        have f2 := r2.frozen 2
        have f3 := r2.frozen 3
        rw [ev] at c8
        have l2 := r2.lt
        clear hrow1 hrow2 r2 r4 c40 c41 c42 c43 ev HW
        rcases hbad with hv | hv
        · go_wp2_with fail
          refine bodyPost_ret (v := .tuple #[rwv zb zb, .int .i64 52]) (by simp [results, Try.results10, go_sem, zb, d0, d1, d2, d3]) rfl (Or.inr ⟨hno.out, rfl, ?_⟩)
          repeat (first | exact hnx | refine bl_set ?_ (Nat.le_refl _) _)
        · have hv' : ¬ v < -1 := by omega
          go_wp2_with fail
          refine bodyPost_ret (v := .tuple #[rwv zb zb, .int .i64 52]) (by simp [results, Try.results10, go_sem, zb, d0, d1, d2, d3]) rfl (Or.inr ⟨hno.out, rfl, ?_⟩)
          repeat (first | exact hnx | refine bl_set ?_ (Nat.le_refl _) _)
      · have hok : Hid (Wok l (k + 1)) := fun i hi => by
          by_cases e : i = k
          · subst e; omega
          · exact HW.out i (by omega)
        have v3 : v = 0 ∨ v = -1 ∨ v = 1 := by omega
        have R1 := hid1 hrow1
        have R2 := hid1 hrow2
        have Q2 := hid1 r2
        have Q4 := hid1 r4
        rw [ev] at c8
        clear hrow1 hrow2 r2 r4 hbad
        rcases v3 with rfl | rfl | rfl
        · have e1 := hid1 (pk_not (l := l) (k := k) (by omega))
          have e2 := hid1 (nz_not (l := l) (k := k) ev)
          clear ev
          go_wp2_with fail
          exact ⟨⟨k + 1, by omega, by go_num, hok.out, by rw [e1.out]; exact R1.out, by rw [e2.out]; exact R2.out, Q2.out, Q4.out, hnx⟩, by simp [intOf]; omega⟩
        · have e1 := hid1 (pk_not (l := l) (k := k) (by omega))
          have e2 := hid1 (nz_set (l := l) (k := k) (by omega))
          clear ev
          go_wp2_with fail
          refine (set_any N (bn (nz l) k) g2 (nw N) k wr h1 hlt R2.out).mono ?_
          rintro e w3 ⟨rfl, hrow2, but⟩
          have B3 := but.below (B := w.heap.size) (by omega) (by have := hnx.size; omega) hnx
          have R1' := hid1 (but.row n1g R1.out)
          have R2' := hid1 hrow2
          have Q2' := hid1 (but.row n22.symm Q2.out)
          have Q4' := hid1 (but.row n24.symm Q4.out)
          clear hrow2 but
          go_wp2_with fail
          exact ⟨⟨k + 1, by omega, by go_num, hok.out, by rw [e1.out]; exact R1'.out, by rw [e2.out]; exact R2'.out, Q2'.out, Q4'.out, B3⟩, by simp [intOf]; omega⟩
        · have e1 := hid1 (pk_pos (l := l) (k := k) (by omega))
          have e2 := hid1 (nz_set (l := l) (k := k) (by omega))
          clear ev
          go_wp2_with fail
          refine (set_any N (bn (nz l) k) g2 (nw N) k wr h1 hlt R2.out).mono ?_
          rintro e w3 ⟨rfl, hrow2, but⟩
          have B3 := but.below (B := w.heap.size) (by omega) (by have := hnx.size; omega) hnx
          have R1' := hid1 (but.row n1g R1.out)
          have R2' := hid1 hrow2
          have Q2' := hid1 (but.row n22.symm Q2.out)
          have Q4' := hid1 (but.row n24.symm Q4.out)
          clear hrow2 but c40 c41 c42 c43
          have c40 : w3.cell? ⟨w2.heap.size, 0, none⟩ = some (.int .i64 (N : Nat)) := q0 Q4'.out
          have c41 : w3.cell? ⟨w2.heap.size, 1, none⟩ = some (.slice (some ⟨g1, 0, none⟩) (nw N) (nw N)) := q1 Q4'.out
          go_wp2_with fail
          refine (set_any N (pk l k) g1 (nw N) k w3 h1 hlt R1'.out).mono ?_
          rintro e w4 ⟨rfl, hrow1, but⟩
          replace B3 := but.below (B := w.heap.size) (by omega) (by have := B3.size; omega) B3
          replace R2' := hid1 (but.row n1g.symm R2'.out)
          replace R1' := hid1 hrow1
          replace Q2' := hid1 (but.row n12.symm Q2'.out)
          replace Q4' := hid1 (but.row n14.symm Q4'.out)
          clear hrow1 but c40 c41
          go_wp2_with fail
          exact ⟨⟨k + 1, by omega, by go_num, hok.out, by rw [e1.out]; exact R1'.out, by rw [e2.out]; exact R2'.out, Q2'.out, Q4'.out, B3⟩, by simp [intOf]; omega⟩
    · have hkN : k = N := by omega
      subst hkN
      have n12 := row_ne hrow1 r2 (by decide)
      have n22 := row_ne hrow2 r2 (by decide)
      have c40 : wr.cell? ⟨w2.heap.size, 0, none⟩ = some (.int .i64 (k : Nat)) := q0 r4
      have c41 : wr.cell? ⟨w2.heap.size, 1, none⟩ = some (.slice (some ⟨g1, 0, none⟩) (nw k) (nw k)) := q1 r4
      have c42 : wr.cell? ⟨w2.heap.size, 2, none⟩ = some (.int .i64 (k : Nat)) := q2 r4
      have c43 : wr.cell? ⟨w2.heap.size, 3, none⟩ = some (.slice (some ⟨g2, 0, none⟩) (nw k) (nw k)) := q3 r4
      obtain ⟨d0, d1, d2, d3⟩ := rw_zero r2
      have f0 := r2.frozen 0
      have f1 := r2.frozen 1
      have f2 := r2.frozen 2
      have f3 := r2.frozen 3
      have l2 := r2.lt
      have R1 := hid1 hrow1
      have R2 := hid1 hrow2
      clear hrow1 hrow2 r2 r4
      go_wp2_with fail
      refine bodyPost_ret (v := .tuple #[rwv (ob k g1 (pk l k)) (ob k g2 (bn (nz l) k)), .int .i64 0]) (by simp [results, Try.results10, go_sem, d0, d1, d2, d3]) rfl (Or.inl ⟨HW.out, g1, g2, rfl, by omega, g21, ?_, ?_, ?_⟩)
      · exact (((R1.out.setOther (a := ⟨w.heap.size, 0, none⟩) n12 _).setOther (a := ⟨w.heap.size, 1, none⟩) n12 _).setOther (a := ⟨w.heap.size, 2, none⟩) n12 _).setOther (a := ⟨w.heap.size, 3, none⟩) n12 _
      · exact (((R2.out.setOther (a := ⟨w.heap.size, 0, none⟩) n22 _).setOther (a := ⟨w.heap.size, 1, none⟩) n22 _).setOther (a := ⟨w.heap.size, 2, none⟩) n22 _).setOther (a := ⟨w.heap.size, 3, none⟩) n22 _
      · repeat (first | exact hnx | refine bl_set ?_ (Nat.le_refl _) _)
end Go.Proofs.Ytlocmnaojebogaa
