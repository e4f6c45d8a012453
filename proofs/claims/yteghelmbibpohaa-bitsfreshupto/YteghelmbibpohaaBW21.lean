/- The document's own answers: Row, Truths. -/
import Derived.Test.YteghelmbibpohaaBW20
namespace Go.Proofs.Yteghelmbibpohaa
open Go.RowKit

/-- The slice reads as these truth values. -/
def Rb (w : World) (ao : Option Addr) (n : Nat) (f : Nat → Bool) : Prop := ∀ k, k < n → ∃ g o, ao = some ⟨g, o, none⟩ ∧ w.cell? ⟨g, o + k, none⟩ = some (.bool (f k))
theorem Rb.below {w w' : World} {ao : Option Addr} {n : Nat} {f : Nat → Bool} (h : Rb w ao n f) (hb : Below w.heap.size w w') : Rb w' ao n f :=
  fun k hk => by obtain ⟨g, o, e, c⟩ := h k hk; exact ⟨g, o, e, keepc hb c⟩
theorem Rb.row {w : World} {g n : Nat} {f : Nat → Bool} (h : w.rowIs g 4 n (fun k => .bool (f k))) : Rb w (some ⟨g, 0, none⟩) n f :=
  fun k hk => ⟨g, 0, rfl, by rw [Nat.zero_add]; exact h.cell hk⟩
theorem info_bool : (Try.prog.info? 4).map (fun i => (i.zero, i.size, i.bytes)) = some (some (.bool false), 1, 1) := by kernel_rfl
theorem und_bools : Try.prog.underlying 89 = some (.slice 4) := by kernel_rfl
theorem add_u64 {x r : Nat} (hx : x < 2 ^ r) (hr : r < 64) : IntKind.u64.wrap ((x : Int) + IntKind.u64.wrap (2 ^ r)) = ((x ||| 2 ^ r : Nat) : Int) := by
  have h1 : 2 ^ (r + 1) ≤ 2 ^ 64 := pow_mono (by omega)
  rw [Nat.pow_succ, ← two64] at h1
  rw [← add_or hx, show ((2 : Int) ^ r) = ((2 ^ r : Nat) : Int) by simp]
  generalize 2 ^ r = y at *
  rw [IntKind.wrap_u64, IntKind.wrap_u64]
  omega

set_option maxHeartbeats 1600000 in
set_option maxRecDepth 100000 in
theorem rrow_any (f : Nat → Bool) (n : Nat) (ao : Option Addr) (cap : Nat) (w : World) (h1 : n ≤ 16777216) (h : Rb w ao n f) :
    Calls Try.prog 60 #[.slice ao n cap] w fun e w' => ∃ g, e = .returned (rv n (some ⟨g, 0, none⟩) (nw n) (nw n)) ∧ w.heap.size ≤ g ∧ w'.rowIs g 35 (nw n) (wf (bn f n)) ∧ Below w.heap.size w w' := by
  obtain ⟨j0, hj, hy0, hy1, hy2⟩ := info_parts info_u64
  have HR := hid1 h
  clear h
  have hb := nw_bd h1
  have en : ((n : Int) + 63) / 64 = (nw n : Nat) := by unfold nw; omega
  have in0 : (0 : Int) ≤ (n : Int) := by omega
  have in1 : (n : Int) ≤ 16777216 := by omega
  go_enter Try.func60, Try.ntmps60
  go_wp2_with ((refine wpList_make_row _ rfl _ _ 25 rfl 35 j0 (.int .u64 0) und_u64s hj hy0 hy1 rfl .i64 .i64 (nw n) (by go_simp) (by go_simp) (by rw [hy2]; omega) (by omega) ?_; refine gen_list' (fun W => W.heap.size = w.heap.size + 2 ∧ Below w.heap.size w W ∧ W.rowIs w.heap.size 27 2 (sf 0 none 0 0) ∧ W.rowIs (w.heap.size + 1) 35 (nw n) (wf 0)) ⟨by simp, bl_alloc (bl_alloc (Below.refl _ _) _) _, (row_new _ _ _ _ _ _).alloc _, by have h := World.rowIs_made (w.alloc (.cells #[.int .i64 0, .slice none 0 0] 27)) (.int .u64 0) (nw n) 35; have h2 := h.congr (g := wf 0) (fun k _ => by simp [wf, wd_zero]); simpa using h2⟩ ?_; rintro W0 ⟨z0, B0, r2, hrow⟩))
  clear en
  go_loopw [4] (fun i wr => ∃ k : Nat, k ≤ n ∧ i = .int .i64 k ∧ wr.rowIs w.heap.size 27 2 (sf 0 none 0 0) ∧ wr.rowIs (w.heap.size + 1) 35 (nw n) (wf (bn f k)) ∧ Below w.heap.size w wr) (fun i _ => n - (intOf i).toNat)
  case atStart => exact ⟨0, Nat.zero_le _, rfl, r2, hrow, B0⟩
  case round =>
    clear r2 hrow B0
    obtain ⟨k, hk, rfl, r2, hrow, hnx⟩ := hrel
    have ik0 : (0 : Int) ≤ (k : Int) := by omega
    by_cases hlt : k < n
    · obtain ⟨ga, oa, rfl, c8⟩ := HR.out k hlt
      replace c8 := keepc hnx c8
      have ik : (k : Int) < (n : Int) := by omega
      have HP := hid1 (bn_wd f k)
      have HE : Hid (bn f (k + 1) = bn f k ||| (if f k then 2 ^ k else 0)) := rfl
      cases hf : f k
      · rw [hf] at c8
        have HH := hid1 hrow
        have H2 := hid1 r2
        have HF := hid1 hf
        clear hrow r2 hf
        go_wp2_with fail
        exact ⟨⟨k + 1, by omega, by go_num, H2.out, by rw [HE.out, HF.out]; simpa using HH.out, hnx⟩, by simp [intOf]; omega⟩
      · rw [hf] at c8
        have HX := bn_free f k
        obtain ⟨q, hq⟩ : ∃ q : Nat, k / 64 = q := ⟨_, rfl⟩
        obtain ⟨r, hr⟩ : ∃ r : Nat, k % 64 = r := ⟨_, rfl⟩
        have eq : (k : Int) / 64 = (q : Int) := by omega
        have er : (k : Int) % 64 = (r : Int) := by omega
        have er' : (k : Int).tmod 64 = (r : Int) := by rw [Int.tmod_eq_emod_of_nonneg (by omega)]; exact er
        have q1 : q < nw n := by unfold nw; omega
        have iq0 : (0 : Int) ≤ (q : Int) := by omega
        have iq1 : (q : Int) < (nw n : Nat) := by omega
        have ir0 : (0 : Int) ≤ (r : Int) := by omega
        have ir1 : (r : Int) ≤ 63 := by omega
        have wq : IntKind.i64.wrap (q : Int) = q := by rw [IntKind.wrap_i64]; omega
        have cw := hrow.cell q1
        have fw := hrow.frozen q
        unfold wf at cw
        rw [hq, hr] at HP HX
        have HO := hid1 (add_u64 HX (by omega))
        have HH := hid1 hrow
        have H2 := hid1 r2
        have HF := hid1 hf
        clear hrow r2 hf hq hr HX
        go_wp2_with fail
        refine still_tail 13 (by kernel_rfl) ?_
        simp only [List.take_succ_cons, List.take_zero, List.drop_succ_cons, List.drop_zero]
        repeat still_step
        refine wpStill_nil ?_
        go_wp2
        refine ⟨⟨k + 1, by omega, by go_num, H2.out.setOther (a := ⟨w.heap.size + 1, q, none⟩) (by show w.heap.size ≠ w.heap.size + 1; omega) _, (HH.out.set q _).congr fun j _ => ?_, (bl_set hnx (by omega) _).drew⟩, by simp [intOf]; omega⟩
        simp only [wf]
        rw [HP.out j, HF.out, if_pos rfl]
        by_cases e : j = q
        · subst e
          rw [if_pos rfl, if_pos rfl, HO.out]
        · rw [if_neg e, if_neg e]
    · have hkN : k = n := by omega
      subst hkN
      have c20 := sf_len r2
      have c21 := sf_ws r2
      have f0 := r2.frozen 0
      have f1 := r2.frozen 1
      have hne := row_ne hrow r2 (by decide)
      have HH := hid1 hrow
      clear hrow r2
      go_wp2_with fail
      exact bodyPost_ret (v := rv k (some ⟨w.heap.size + 1, 0, none⟩) (nw k) (nw k)) (by simp [results, Try.results60, go_sem, c20, c21]) rfl ⟨_, rfl, by omega, (HH.out.setOther (a := ⟨w.heap.size, 0, none⟩) hne _).setOther (a := ⟨w.heap.size, 1, none⟩) hne _, bl_set (bl_set hnx (by omega) _) (by omega) _⟩

/-- The first i truth values, false behind them. -/
def tf (f : Nat → Bool) (i : Nat) : Nat → Value := fun k => if k < i then .bool (f k) else .bool false
theorem trow_step {w : World} {g m i : Nat} {f : Nat → Bool} {v : Value} (h : w.rowIs g 4 m (tf f i)) (e : v = .bool (f i)) : (w.setCell ⟨g, i, none⟩ v).rowIs g 4 m (tf f (i + 1)) := by
  subst e
  refine (h.set i _).congr fun j _ => ?_
  unfold tf
  by_cases e : j = i
  · subst e; simp
  · rw [if_neg e]
    by_cases h : j < i
    · rw [if_pos h, if_pos (by omega)]
    · rw [if_neg h, if_neg (by omega)]
theorem trow_full {w : World} {g m : Nat} {f : Nat → Bool} (h : w.rowIs g 4 m (tf f m)) : w.rowIs g 4 m (fun k => .bool (f k)) := h.congr fun k hk => by simp [tf, hk]
set_option maxHeartbeats 1600000 in
set_option maxRecDepth 100000 in
theorem rtruths_any (n N : Nat) (ao : Option Addr) (cap : Nat) (w : World) (h1 : n ≤ 16777216) (h : Ro w ao (nw n) N) :
    Calls Try.prog 63 #[rv n ao (nw n) cap] w fun e w' => ∃ g, e = .returned (.slice (some ⟨g, 0, none⟩) n n) ∧ w.heap.size ≤ g ∧ w'.rowIs g 4 n (fun k => .bool (N.testBit k)) ∧ Below w.heap.size w w' := by
  obtain ⟨j0, hj, hy0, hy1, hy2⟩ := info_parts info_bool
  have HR := hid1 h
  clear h
  have hb := nw_bd h1
  have hle := nw_le n
  have in0 : (0 : Int) ≤ (n : Int) := by omega
  have in1 : (n : Int) ≤ 16777216 := by omega
  go_enter Try.func63, Try.ntmps63
  go_wp2_with ((refine wpList_make_row _ rfl _ _ 89 rfl 4 j0 (.bool false) und_bools hj hy0 hy1 rfl .i64 .i64 n (by go_simp) (by go_simp) (by rw [hy2]; omega) (by omega) ?_; refine gen_list' (fun W => Below w.heap.size w W ∧ W.rowIs w.heap.size 27 2 (sf n ao (nw n) cap) ∧ W.rowIs (w.heap.size + 1) 4 n (tf (fun k => N.testBit k) 0)) ⟨bl_alloc (bl_alloc (Below.refl _ _) _) _, (row_new _ _ _ _ _ _).alloc _, by have h := World.rowIs_made (w.alloc (.cells #[.int .i64 n, .slice ao (nw n) cap] 27)) (.bool false) n 4; have h2 := h.congr (g := tf (fun k => N.testBit k) 0) (fun k _ => by simp [tf]); simpa using h2⟩ ?_; rintro W0 ⟨B0, r1, hrow⟩))
  go_loopw [4] (fun i wr => ∃ k : Nat, k ≤ n ∧ i = .int .i64 k ∧ wr.rowIs w.heap.size 27 2 (sf n ao (nw n) cap) ∧ wr.rowIs (w.heap.size + 1) 4 n (tf (fun k => N.testBit k) k) ∧ Below w.heap.size w wr) (fun i _ => n - (intOf i).toNat)
  case atStart => exact ⟨0, Nat.zero_le _, rfl, r1, hrow, B0⟩
  case round =>
    clear r1 hrow B0
    obtain ⟨k, hk, rfl, r1, hrow, hnx⟩ := hrel
    have ik0 : (0 : Int) ≤ (k : Int) := by omega
    have c0 := sf_len r1
    have c1 := sf_ws r1
    by_cases hlt : k < n
    · have ik : (k : Int) < (n : Int) := by omega
      have hs := hnx.size
      go_wp2_with fail
      refine (rbit_any n ao (nw n) cap N k wr (by omega) (HR.out.below hnx) (by omega)).mono ?_
      rintro e w1 ⟨rfl, hb1⟩
      replace r1 := keepr hb1 r1
      replace hrow := keepr hb1 hrow
      replace hnx := bl_step hnx hb1
      have fw := hrow.frozen k
      have cw := hrow.cell hlt
      have H1 := hid1 r1
      have HH := hid1 hrow
      clear r1 hrow hb1 c0 c1
      go_wp2_with fail
      exact ⟨⟨k + 1, by omega, by go_num, H1.out.setOther (a := ⟨w.heap.size + 1, k, none⟩) (by show w.heap.size ≠ w.heap.size + 1; omega) _, trow_step HH.out rfl, bl_set hnx (by omega) _⟩, by simp [intOf]; omega⟩
    · have hkN : k = n := by omega
      subst hkN
      have HH := hid1 (trow_full hrow)
      clear hrow r1
      go_wp2_with fail
      go_ret
      exact ⟨_, rfl, by omega, HH.out, hnx⟩
end Go.Proofs.Yteghelmbibpohaa
