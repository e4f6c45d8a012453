/- The document's own answers of rows that may be: Pack, Unpack, Not, And, Xor, Count, Slice. -/
import Derived.Test.YteghelmbibpohaaBW22
namespace Go.Proofs.Yteghelmbibpohaa
open Go.RowKit

/-- Truth values of which the first i are others. -/
def pm (f g : Nat → Bool) (i : Nat) : Nat → Bool := fun k => if k < i then g k else f k
abbrev bv (f : Nat → Bool) : Nat → Value := fun k => .bool (f k)
theorem pm_zero {w : World} {b n : Nat} {f : Nat → Bool} (g : Nat → Bool) (h : w.rowIs b 4 n (bv f)) : w.rowIs b 4 n (bv (pm f g 0)) := h.congr fun k _ => by simp [pm]
theorem pm_full {w : World} {b n : Nat} {f g : Nat → Bool} (h : w.rowIs b 4 n (bv (pm f g n))) : w.rowIs b 4 n (bv g) := h.congr fun k hk => by simp [pm, hk]
theorem pm_at (f g : Nat → Bool) (i : Nat) : pm f g i i = f i := by simp [pm]
theorem pm_step {w : World} {b n i : Nat} {f g : Nat → Bool} {v : Value} (h : w.rowIs b 4 n (bv (pm f g i))) (e : v = .bool (g i)) : (w.setCell ⟨b, i, none⟩ v).rowIs b 4 n (bv (pm f g (i + 1))) := by
  subst e
  refine (h.set i _).congr fun j _ => ?_
  simp only [bv, pm]
  by_cases e : j = i
  · subst e; simp
  · rw [if_neg e]
    by_cases h : j < i
    · rw [if_pos h, if_pos (by omega)]
    · rw [if_neg h, if_neg (by omega)]
theorem bn_pk (l : List Int) (n : Nat) : bn (fun i => decide (0 < ia l i)) n = pk l n := by
  refine Nat.eq_of_testBit_eq fun i => ?_
  rw [bn_bit, pk_bit]

set_option maxHeartbeats 1600000 in
set_option maxRecDepth 100000 in
theorem rpack_long (l : List Int) (ao : Option Addr) (cap : Nat) (w : World) (h1 : 16777216 < l.length) (h2 : l.length ≤ 9223372036854775807) :
    Calls Try.prog 44 #[.slice ao l.length cap] w fun e w' => e = .returned (.tuple #[rv 0 none 0 0, .int .i64 2]) ∧ Below w.heap.size w w' := by
  go_enter Try.func44, Try.ntmps44
  go_wp2
  refine bodyPost_ret (v := .tuple #[rv 0 none 0 0, .int .i64 2]) (by simp [results, Try.results44, go_sem]) rfl ⟨rfl, ?_⟩
  first | exact bl_alloc (Below.refl _ _) _ | exact bl_set (bl_set (bl_alloc (Below.refl _ _) _) (by omega) _) (by omega) _
set_option maxHeartbeats 1600000 in
set_option maxRecDepth 100000 in
theorem rpack_any (l : List Int) (n : Nat) (hN : l.length = n) (ao : Option Addr) (cap : Nat) (w : World) (h1 : n ≤ 16777216) (h : R8 w ao l) :
    Calls Try.prog 44 #[.slice ao n cap] w fun e w' => ∃ g, e = .returned (.tuple #[rv n (some ⟨g, 0, none⟩) (nw n) (nw n), .int .i64 0]) ∧ w.heap.size ≤ g ∧ w'.rowIs g 35 (nw n) (wf (pk l n)) ∧ Below w.heap.size w w' := by
  obtain ⟨j0, hj, hy0, hy1, hy2⟩ := info_parts info_bool
  have HR := hid1 h
  have HL := hid1 hN
  clear h hN
  have in0 : (0 : Int) ≤ (n : Int) := by omega
  have in1 : (n : Int) ≤ 16777216 := by omega
  go_enter Try.func44, Try.ntmps44
  go_wp2_with ((refine wpList_make_row _ rfl _ _ 89 rfl 4 j0 (.bool false) und_bools hj hy0 hy1 rfl .i64 .i64 n (by go_simp) (by go_simp) (by rw [hy2]; omega) (by omega) ?_; refine gen_list' (fun W => W.heap.size = w.heap.size + 2 ∧ Below w.heap.size w W ∧ W.rowIs w.heap.size 27 2 (sf 0 none 0 0) ∧ W.rowIs (w.heap.size + 1) 4 n (bv (pm (fun _ => false) (fun i => decide (0 < ia l i)) 0))) ⟨by simp, bl_alloc (bl_alloc (Below.refl _ _) _) _, (row_new _ _ _ _ _ _).alloc _, by have h := World.rowIs_made (w.alloc (.cells #[.int .i64 0, .slice none 0 0] 27)) (.bool false) n 4; have h2 := h.congr (g := bv (pm (fun _ => false) (fun i => decide (0 < ia l i)) 0)) (fun k _ => by simp [pm]); simpa using h2⟩ ?_; rintro W0 ⟨z0, B0, r2, hrow⟩))
  go_loopw [5] (fun i wr => ∃ k : Nat, k ≤ n ∧ i = .int .i64 k ∧ w.heap.size + 2 ≤ wr.heap.size ∧ wr.rowIs w.heap.size 27 2 (sf 0 none 0 0) ∧ wr.rowIs (w.heap.size + 1) 4 n (bv (pm (fun _ => false) (fun i => decide (0 < ia l i)) k)) ∧ Below w.heap.size w wr) (fun i _ => n - (intOf i).toNat)
  case atStart => exact ⟨0, Nat.zero_le _, rfl, by omega, r2, hrow, B0⟩
  case round =>
    clear r2 hrow B0
    obtain ⟨k, hk, rfl, zr, r2, hrow, hnx⟩ := hrel
    have ik0 : (0 : Int) ≤ (k : Int) := by omega
    by_cases hlt : k < n
    · obtain ⟨ga, oa, rfl, c8⟩ := HR.out k (by rw [HL.out]; exact hlt)
      replace c8 := keepc hnx c8
      have ik : (k : Int) < (n : Int) := by omega
      have fw := hrow.frozen k
      have cw := hrow.cell hlt
      have HH := hid1 hrow
      have H2 := hid1 r2
      clear hrow r2
      go_wp2_with fail
      exact ⟨⟨k + 1, by omega, by go_num, by simpa using zr, H2.out.setOther (a := ⟨w.heap.size + 1, k, none⟩) (by show w.heap.size ≠ w.heap.size + 1; omega) _, pm_step HH.out rfl, bl_set hnx (by omega) _⟩, by simp [intOf]; omega⟩
    · have hkN : k = n := by omega
      subst hkN
      have hfull := pm_full hrow
      go_wp2_with fail
      refine (rrow_any _ k _ k wr h1 (Rb.row hfull)).mono ?_
      rintro e w1 ⟨g, rfl, hg, hrow1, hb1⟩
      rw [bn_pk] at hrow1
      replace r2 := keepr hb1 r2
      replace hnx := bl_step hnx hb1
      have c20 := sf_len r2
      have c21 := sf_ws r2
      have f0 := r2.frozen 0
      have f1 := r2.frozen 1
      have hne := row_ne hrow1 r2 (by decide)
      have HH := hid1 hrow1
      clear hrow hrow1 r2 hb1 hfull
      go_wp2_with fail
      exact bodyPost_ret (v := .tuple #[rv k (some ⟨g, 0, none⟩) (nw k) (nw k), .int .i64 0]) (by simp [results, Try.results44, go_sem, c20, c21]) rfl ⟨g, rfl, by omega, (HH.out.setOther (a := ⟨w.heap.size, 0, none⟩) hne _).setOther (a := ⟨w.heap.size, 1, none⟩) hne _, bl_set (bl_set hnx (by omega) _) (by omega) _⟩
end Go.Proofs.Yteghelmbibpohaa
