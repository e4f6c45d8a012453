/- planeOf, Planes. -/
import Derived.Test.YtpinmfhabbcflabDoorDW7
namespace Go.Proofs.YtpinmfhabbcflabDoor
open Go.RowKit

/-- Bit p of a number of eight bits. -/
def plb (l : List Int) (p i : Nat) : Bool := ((ia l i % 256).toNat).testBit p
theorem plb_is (v : Int) (p : Nat) : (bits .and .u8 (v % 256 / 2 ^ p) 1 == 1) = ((v % 256).toNat).testBit p := by
  have e : v % 256 = (((v % 256).toNat : Nat) : Int) := by omega
  have hx : (v % 256).toNat < 256 := by omega
  generalize (v % 256).toNat = x at *
  rw [e]
  have e2 : (x : Int) / 2 ^ p = ((x / 2 ^ p : Nat) : Int) := by simp
  rw [e2]
  have e3 : bits .and .u8 ((x / 2 ^ p : Nat) : Int) 1 = _ := u8_and_nat (x / 2 ^ p) 1 (Nat.lt_of_le_of_lt (Nat.div_le_self _ _) hx) (by decide)
  rw [e3, Nat.and_one_is_mod, Nat.testBit_eq_decide_div_mod_eq]
  rcases Nat.mod_two_eq_zero_or_one (x / 2 ^ p) with h | h <;> simp [h]
theorem bn_set {f : Nat → Bool} {k : Nat} (h : f k = true) : bn f (k + 1) = bn f k ||| 2 ^ k := by simp only [bn]; rw [if_pos h]
theorem bn_not {f : Nat → Bool} {k : Nat} (h : f k = false) : bn f (k + 1) = bn f k := by simp only [bn]; rw [if_neg (by simp [h])]; simp

set_option maxHeartbeats 1600000 in
set_option maxRecDepth 100000 in
theorem planeOf_any (p : Nat) (hp : p < 8) (l : List Int) (N : Nat) (hN : l.length = N) (ao : Option Addr) (cap : Nat) (w : World) (h1 : N ≤ 16777216) (h : R8 w ao l) :
    Calls Tryd.prog 42 #[.int .i64 p, .slice ao N cap] w fun e w' => ∃ g, e = .returned (rv N (some ⟨g, 0, none⟩) (nw N) (nw N)) ∧ w.heap.size ≤ g ∧ w'.rowIs g 55 (nw N) (wf (bn (plb l p) N)) ∧ Below w.heap.size w w' := by
  have HR := hid1 h
  clear h
  have hb := nw_bd h1
  have ip0 : (0 : Int) ≤ (p : Int) := by omega
  have ip1 : (p : Int) < 8 := by omega
  go_enter Tryd.func42, Tryd.ntmps42
  go_wp2_with fail
  refine (dblank_any N h1 _).mono ?_
  rintro e w1 ⟨g, rfl, hg, hrow, hbl⟩
  have g0 : w.heap.size < g := by simp at hg; omega
  have g1 : g < w1.heap.size := hrow.lt
  have B1 : Below w.heap.size w w1 := bl_step (bl_alloc (Below.refl _ _) _) hbl
  have r2 := keepr hbl (row_new w 0 none 0 0 31)
  go_wp2_with fail
  go_loopw [13] (fun i wr => ∃ k : Nat, k ≤ N ∧ i = .int .i64 k ∧ wr.rowIs g 55 (nw N) (wf (bn (plb l p) k)) ∧ wr.rowIs w.heap.size 31 2 (sf 0 none 0 0) ∧ wr.rowIs w1.heap.size 31 2 (sf N (some ⟨g, 0, none⟩) (nw N) (nw N)) ∧ Below w.heap.size w wr)
    (fun i _ => N - (intOf i).toNat)
  case atStart => exact ⟨0, Nat.zero_le _, rfl, hrow.alloc _, r2.alloc _, row_new _ _ _ _ _ _, bl_alloc B1 _⟩
  case round =>
    clear hrow r2 B1 hbl hg
    obtain ⟨k, hk, rfl, hrow, r2, r4, hnx⟩ := hrel
    by_cases hlt : k < N
    · obtain ⟨ga, oa, rfl, c8⟩ := HR.out k (by omega)
      replace c8 := keepc hnx c8
      have ik : (k : Int) < (N : Int) := by omega
      have ik0 : (0 : Int) ≤ (k : Int) := by omega
      have hpl := plb_is (ia l k) p
      have c40 := sf_len r4
      have c41 := sf_ws r4
      have n4 := row_ne r4 hrow (by decide)
      have n2 := row_ne r2 hrow (by decide)
      have HH := hid1 hrow
      have H2 := hid1 r2
      have H4 := hid1 r4
      clear hrow r2 r4
      cases hpb : plb l p k
      · have e1 := hid1 (bn_not hpb)
        unfold plb at hpb
        rw [hpb] at hpl
        generalize ia l k = v at *
        clear hpb
        go_wp2_with fail
        exact ⟨⟨k + 1, by omega, by go_num, by rw [e1.out]; exact HH.out, H2.out, H4.out, hnx⟩, by simp [intOf]; omega⟩
      · have e1 := hid1 (bn_set hpb)
        unfold plb at hpb
        rw [hpb] at hpl
        generalize ia l k = v at *
        clear hpb
        go_wp2_with fail
        refine (set_any N (bn (plb l p) k) g (nw N) k wr h1 hlt HH.out).mono ?_
        rintro e w3 ⟨rfl, hrow, but⟩
        have B3 := but.below (B := w.heap.size) (by omega) (by have := hnx.size; omega) hnx
        have R' := hid1 hrow
        have Q2' := hid1 (but.row n2 H2.out)
        have Q4' := hid1 (but.row n4 H4.out)
        clear hrow but
        go_wp2_with fail
        exact ⟨⟨k + 1, by omega, by go_num, by rw [e1.out]; exact R'.out, Q2'.out, Q4'.out, B3⟩, by simp [intOf]; omega⟩
    · have hkN : k = N := by omega
      subst hkN
      have c40 := sf_len r4
      have c41 := sf_ws r4
      have c20 := sf_len r2
      have c21 := sf_ws r2
      have f0 := r2.frozen 0
      have f1 := r2.frozen 1
      have HH := hid1 hrow
      have H2 := hid1 r2
      clear hrow r2 r4
      go_wp2_with fail
      have hne := row_ne HH.out H2.out (by decide)
      refine bodyPost_ret (v := rv k (some ⟨g, 0, none⟩) (nw k) (nw k)) (by simp [results, Tryd.results42, go_sem, c20, c21]) rfl ⟨g, rfl, by omega, (HH.out.setOther (a := ⟨w.heap.size, 0, none⟩) hne _).setOther (a := ⟨w.heap.size, 1, none⟩) hne _, bl_set (bl_set hnx (Nat.le_refl _) _) (Nat.le_refl _) _⟩
end Go.Proofs.YtpinmfhabbcflabDoor
