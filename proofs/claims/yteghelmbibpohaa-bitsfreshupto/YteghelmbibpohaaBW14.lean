/- Unpack, EqSigns. -/
import Derived.Test.YteghelmbibpohaaBW12
namespace Go.Proofs.Yteghelmbibpohaa
open Go.RowKit

/-- A bit as a small number. -/
def sg (N k : Nat) : Int := if N.testBit k then 1 else -1
def gf (N : Nat) : Nat → Value := fun k => .int .i8 (sg N k)
/-- The first i numbers, 0 behind them. -/
def qf (N i : Nat) : Nat → Value := fun k => if k < i then gf N k else .int .i8 0
theorem qrow_step {w : World} {g m N i : Nat} {v : Value} (h : w.rowIs g 24 m (qf N i)) (e : v = gf N i) : (w.setCell ⟨g, i, none⟩ v).rowIs g 24 m (qf N (i + 1)) := by
  subst e
  refine (h.set i _).congr fun j _ => ?_
  unfold qf
  by_cases e : j = i
  · subst e; simp
  · rw [if_neg e]
    by_cases h : j < i
    · rw [if_pos h, if_pos (by omega)]
    · rw [if_neg h, if_neg (by omega)]
theorem qrow_full {w : World} {g m N : Nat} (h : w.rowIs g 24 m (qf N m)) : w.rowIs g 24 m (gf N) := h.congr fun k hk => by simp [qf, hk]
theorem bit_of (N q r : Nat) (hr : r < 64) : wd N q / 2 ^ r &&& 1 = (N.testBit (64 * q + r)).toNat := by
  have h := wd_bit N q r
  simp only [hr, decide_true, Bool.true_and] at h
  rw [← h, Nat.testBit_eq_decide_div_mod_eq, Nat.and_one_is_mod]
  rcases Nat.mod_two_eq_zero_or_one (wd N q / 2 ^ r) with e | e <;> simp [e]
theorem sg_int (N q r : Nat) (hr : r < 64) : IntKind.i8.wrap (IntKind.i8.wrap (2 * IntKind.i8.wrap (bits .and .u64 ((wd N q : Int) / 2 ^ r) 1)) - 1) = sg N (64 * q + r) := by
  have e : bits .and .u64 ((wd N q / 2 ^ r : Nat) : Int) 1 = ((wd N q / 2 ^ r &&& 1 : Nat) : Int) := and_u64 (wd N q / 2 ^ r) 1 (Nat.lt_of_le_of_lt (Nat.div_le_self _ _) (wd_lt _ _)) (by decide)
  rw [shr_int, e, bit_of N q r hr]
  unfold sg
  cases N.testBit (64 * q + r) <;> decide
set_option maxHeartbeats 1600000 in
set_option maxRecDepth 100000 in
theorem unpack_any (n N : Nat) (ao : Option Addr) (cap : Nat) (w : World) (h1 : n ≤ 16777216) (hN : N < 2 ^ n) (h : Rd w ao (nw n) N) :
    Calls Try.prog 20 #[rv n ao (nw n) cap] w fun e w' => ∃ g, e = .returned (.tuple #[.slice (some ⟨g, 0, none⟩) n n, .int .i64 0]) ∧ w.heap.size ≤ g ∧ w'.rowIs g 24 n (gf N) ∧ Below w.heap.size w w' := by
  obtain ⟨i0, hi, hz0, hz1, hz2⟩ := info_parts info_i8
  have HR := hid1 h
  have hb := nw_bd h1
  have HC := hid1 (chk_ok h1 hN)
  clear h hN
  go_enter Try.func20, Try.ntmps20
  go_wp2_with fail
  refine gen_calls (fun W => W.heap.size = w.heap.size + 1 ∧ Below w.heap.size w W ∧ W.rowIs w.heap.size 27 2 (sf n ao (nw n) cap)) ⟨by simp, bl_alloc (Below.refl _ _) _, row_new _ _ _ _ _ _⟩ ?_
  rintro W ⟨z0, B0, r1⟩
  refine (check_any n ao (nw n) cap N W (by omega) (HR.out.below B0)).mono ?_
  rintro e w1 ⟨rfl, hb1⟩
  rw [HC.out]
  replace r1 := keepr hb1 r1
  have B1 := bl_step B0 hb1
  have z1 := hb1.size
  clear hb1 B0
  have c0 := sf_len r1
  go_wp2_with (refine wpList_make_row _ rfl _ _ 23 rfl 24 i0 (.int .i8 0) und_i8s hi hz0 hz1 rfl .i64 .i64 n (by go_simp) (by go_simp) (by rw [hz2]; omega) (by omega) ?_)
  have hrow : (w1.alloc (.cells (madeCells #[.int .i8 0] n) 24)).rowIs w1.heap.size 24 n (qf N 0) := (World.rowIs_made w1 (.int .i8 0) n 24).congr fun k _ => by simp [qf]
  have l1 := r1.lt
  go_loopw [18] (fun i wr => ∃ k : Nat, k ≤ n ∧ i = .int .i64 k ∧ wr.rowIs w1.heap.size 24 n (qf N k) ∧ wr.rowIs w.heap.size 27 2 (sf n ao (nw n) cap) ∧ Below w.heap.size w wr)
    (fun i _ => n - (intOf i).toNat)
  case atStart => exact ⟨0, Nat.zero_le _, rfl, hrow, r1.alloc _, bl_alloc B1 _⟩
  case round =>
    clear hrow r1 B1 c0
    obtain ⟨k, hk, rfl, hrow, r1, hnx⟩ := hrel
    by_cases hlt : k < n
    · obtain ⟨q, r, hr, rfl⟩ : ∃ q r, r < 64 ∧ k = 64 * q + r := ⟨k / 64, k % 64, by omega, by omega⟩
      have q1 : q < nw n := by unfold nw; omega
      obtain ⟨ga, rfl, hc⟩ := (HR.out.below hnx).2 (by omega)
      have c8 := hc q q1
      unfold wf at c8
      have e1 : ((64 * q + r : Nat) : Int) / 64 = q := by omega
      have e2 : ((64 * q + r : Nat) : Int).tmod 64 = r := by rw [Int.tmod_eq_emod_of_nonneg (by omega)]; omega
      have e2' : ((64 * q + r : Nat) : Int) % 64 = r := by omega
      have e3 : IntKind.i64.wrap (q : Int) = q := by rw [IntKind.wrap_i64]; omega
      have iq0 : (0 : Int) ≤ (q : Int) := by omega
      have iq1 : (q : Int) < (nw n : Nat) := by omega
      have ir0 : (0 : Int) ≤ (r : Int) := by omega
      have ir1 : (r : Int) ≤ 63 := by omega
      have c11 := sf_ws r1
      have HX := hid1 (sg_int N q r hr)
      have H1 := hid1 r1
      have HH := hid1 hrow
      have cw := hrow.cell hlt
      have fw := hrow.frozen (64 * q + r)
      have ik0 : (0 : Int) ≤ ((64 * q + r : Nat) : Int) := by omega
      have ik : ((64 * q + r : Nat) : Int) < (n : Int) := by omega
      clear hrow r1 hc hr q1
      generalize hkk : 64 * q + r = k at *
      clear hkk
      go_wp2_with fail
      exact ⟨⟨k + 1, by omega, by go_num, qrow_step HH.out (by rw [HX.out]; rfl), H1.out.setOther (a := ⟨w1.heap.size, k, none⟩) (by show w.heap.size ≠ w1.heap.size; omega) _, bl_set hnx (by omega) _⟩, by simp [intOf]; omega⟩
    · have hkN : k = n := by omega
      subst hkN
      have HH := hid1 (qrow_full hrow)
      clear hrow r1
      go_wp2_with fail
      go_ret2
      exact ⟨_, rfl, by omega, HH.out, hnx⟩
/-- The slice reads as these signs. -/
def Rs (w : World) (ao : Option Addr) (m : Nat) (f : Nat → Value) : Prop := ∀ k, k < m → ∃ g o, ao = some ⟨g, o, none⟩ ∧ w.cell? ⟨g, o + k, none⟩ = some (f k)
theorem Rs.below {w w' : World} {ao : Option Addr} {m : Nat} {f : Nat → Value} (h : Rs w ao m f) (hb : Below w.heap.size w w') : Rs w' ao m f :=
  fun k hk => by obtain ⟨g, o, e, c⟩ := h k hk; exact ⟨g, o, e, keepc hb c⟩
set_option maxHeartbeats 800000 in
set_option maxRecDepth 100000 in
theorem eqs_same (m : Nat) (f : Nat → Int) (ao bo : Option Addr) (ca cb : Nat) (w : World) (hm : m ≤ 9223372036854775807) (ra : Rs w ao m (fun k => .int .i8 (f k))) (rb : Rs w bo m (fun k => .int .i8 (f k))) :
    Calls Try.prog 21 #[.slice ao m ca, .slice bo m cb] w fun e w' => e = .returned (.bool true) ∧ Below w.heap.size w w' := by
  have HA := hid1 ra
  have HB := hid1 rb
  clear ra rb
  go_enter Try.func21, Try.ntmps21
  go_wp2
  go_loopw [5] (fun i wr => ∃ k : Nat, k ≤ m ∧ i = .int .i64 k ∧ Below w.heap.size w wr) (fun i _ => m - (intOf i).toNat)
  case atStart => exact ⟨0, Nat.zero_le _, rfl, Below.refl _ _⟩
  case round =>
    obtain ⟨k, hk, rfl, hnx⟩ := hrel
    have ik0 : (0 : Int) ≤ (k : Int) := by omega
    by_cases hlt : k < m
    · obtain ⟨ga, oa, rfl, c8⟩ := (HA.out.below hnx) k hlt
      obtain ⟨gb, ob, rfl, d8⟩ := (HB.out.below hnx) k hlt
      have ik : (k : Int) < (m : Int) := by omega
      generalize f k = x at *
      go_wp2
      go_quiet (fail)
      go_wp2
      exact ⟨⟨k + 1, by omega, by go_num, bl_drewN hnx _⟩, by simp [intOf]; omega⟩
    · have hkN : k = m := by omega
      subst hkN
      go_wp2
      go_ret
      exact ⟨rfl, hnx⟩
end Go.Proofs.Yteghelmbibpohaa
