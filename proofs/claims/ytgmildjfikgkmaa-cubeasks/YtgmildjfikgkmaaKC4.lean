/- THE DOCUMENT'S OWN Row, Flat. -/
import Derived.Test.YtgmildjfikgkmaaKC3
namespace Go.Proofs.Ytgmildjfikgkmaa
open Go.RowKit Go.Shelf

set_option maxHeartbeats 1600000 in
set_option maxRecDepth 100000 in
theorem rrow_any (l : List Int) (n : Nat) (hl : l.length = n) (ao : Option Addr) (cap : Nat) (w : World) (h1 : n ≤ 16777216) (rd : R8 w ao l) :
    Calls Try.prog 64 #[.slice ao n cap] w fun e w' => ∃ G, e = .returned (rv n (some ⟨G, 0, none⟩) (nw n) (nw n)) ∧ w.heap.size ≤ G ∧ w'.rowIs G 75 (nw n) (wf (pk l n)) ∧ Below w.heap.size w w' := by
  obtain ⟨i0, hi, hz0, hz1, hz2⟩ := info_parts info_u64
  have HD := hid1 (deep_any n h1)
  have hb := nw_bd h1
  have HR := hid1 rd
  clear rd
  have HQ1 : Hid (∀ k, k < n → k / 64 < nw n) := hid1 fun k hk => by unfold nw; omega
  obtain ⟨d, hd⟩ : ∃ d, nw n = d := ⟨_, rfl⟩
  rw [hd] at HD hb HQ1 ⊢
  clear hd
  go_enter Try.func64, Try.ntmps64
  go_wp2_with (first | (go_at_call 53; refine (HD.out _).mono ?_; rintro e w2 ⟨rfl, rfl⟩) | (refine wpList_make_row _ rfl _ _ 24 rfl 75 i0 (.int .u64 0) und_u64s hi hz0 hz1 rfl .i64 .i64 d (by go_simp) (by go_simp) (by rw [hz2]; omega) (by omega) ?_))
  have A1 : (((w.alloc (.cells #[.int .i64 0, .slice none 0 0] 26)).alloc (.cells (madeCells #[.int .u64 0] d) 75)).alloc (.cells #[.int .i64 n, .slice (some ⟨w.heap.size + 1, 0, none⟩) d d] 26)).rowIs w.heap.size 26 2 (sf 0 none 0 0) := ((row_new w 0 none 0 0 _).alloc _).alloc _
  have A2 : (((w.alloc (.cells #[.int .i64 0, .slice none 0 0] 26)).alloc (.cells (madeCells #[.int .u64 0] d) 75)).alloc (.cells #[.int .i64 n, .slice (some ⟨w.heap.size + 1, 0, none⟩) d d] 26)).rowIs (w.heap.size + 1) 75 d (wf (pk l 0)) := by
    have := World.rowIs_made (w.alloc (.cells #[.int .i64 0, .slice none 0 0] 26)) (.int .u64 0) d 75
    rw [World.size_alloc] at this
    exact (this.alloc _).congr fun j _ => by simp [wf, wd_zero, pk]
  have A3 : (((w.alloc (.cells #[.int .i64 0, .slice none 0 0] 26)).alloc (.cells (madeCells #[.int .u64 0] d) 75)).alloc (.cells #[.int .i64 n, .slice (some ⟨w.heap.size + 1, 0, none⟩) d d] 26)).rowIs (w.heap.size + 2) 26 2 (sf n (some ⟨w.heap.size + 1, 0, none⟩) d d) := by
    have := row_new ((w.alloc (.cells #[.int .i64 0, .slice none 0 0] 26)).alloc (.cells (madeCells #[.int .u64 0] d) 75)) n (some ⟨w.heap.size + 1, 0, none⟩) d d 26
    rw [World.size_alloc, World.size_alloc] at this
    exact this
  have A4 := bl_alloc (bl_alloc (bl_alloc (Below.refl w.heap.size w) (.cells #[.int .i64 0, .slice none 0 0] 26)) (.cells (madeCells #[.int .u64 0] d) 75)) (.cells #[.int .i64 n, .slice (some ⟨w.heap.size + 1, 0, none⟩) d d] 26)
  go_loopw [4] (fun i wr => ∃ k : Nat, k ≤ n ∧ i = .int .i64 k ∧ wr.rowIs w.heap.size 26 2 (sf 0 none 0 0) ∧ wr.rowIs (w.heap.size + 1) 75 d (wf (pk l k)) ∧ wr.rowIs (w.heap.size + 2) 26 2 (sf n (some ⟨w.heap.size + 1, 0, none⟩) d d) ∧ Below w.heap.size w wr) (fun i _ => n - (intOf i).toNat)
  case atStart => exact ⟨0, Nat.zero_le _, rfl, A1, A2, A3, A4⟩
  case round =>
    clear A1 A2 A3 A4 HD
    obtain ⟨k, hk, rfl, q0, q1, q2, hnx⟩ := hrel
    by_cases hlt : k < n
    · obtain ⟨ga, oa, rfl, c8⟩ := (HR.out.below hnx) k (by omega)
      have ik : (k : Int) < (n : Nat) := by omega
      have ik0 : (0 : Int) ≤ (k : Int) := by omega
      have HP := hid1 (pk_wd l k)
      by_cases h0 : 0 < ia l k
      · obtain ⟨q, hq⟩ : ∃ q : Nat, k / 64 = q := ⟨_, rfl⟩
        obtain ⟨r, hr⟩ : ∃ r : Nat, k % 64 = r := ⟨_, rfl⟩
        have eq : (k : Int) / 64 = (q : Int) := by omega
        have eq' : (k : Int).tdiv 64 = (q : Int) := by rw [Int.tdiv_eq_ediv_of_nonneg (by omega)]; exact eq
        have er : (k : Int) % 64 = (r : Int) := by omega
        have er' : (k : Int).tmod 64 = (r : Int) := by rw [Int.tmod_eq_emod_of_nonneg (by omega)]; exact er
        have q1' : q < d := by rw [← hq]; exact HQ1.out k hlt
        have iq0 : (0 : Int) ≤ (q : Int) := by omega
        have iq1 : (q : Int) < (d : Nat) := by omega
        have ir0 : (0 : Int) ≤ (r : Int) := by omega
        have ir1 : (r : Int) ≤ 63 := by omega
        have wq : IntKind.i64.wrap (q : Int) = q := by rw [IntKind.wrap_i64]; omega
        have cw := q1.cell q1'
        have fw := q1.frozen q
        have c41 : wr.cell? ⟨w.heap.size + 1 + 1, 1, none⟩ = _ := sf_ws q2
        have c41' := sf_ws q2
        unfold wf at cw
        have hx := wd_lt (pk l k) q
        rw [hq, hr] at HP
        have H64 : (2 : Nat) ^ r < 18446744073709551616 := by rw [two64]; exact Nat.pow_lt_pow_right (by decide) (by omega)
        have HO : Hid (bits .or .u64 (wd (pk l k) q : Nat) (IntKind.u64.wrap (2 ^ r)) = ((wd (pk l k) q ||| 2 ^ r : Nat) : Int)) := by
          have e : IntKind.u64.wrap (2 ^ r) = ((2 ^ r : Nat) : Int) := by
            rw [show ((2 : Int) ^ r) = ((2 ^ r : Nat) : Int) by simp, IntKind.wrap_u64]
            generalize 2 ^ r = y at *; omega
          rw [e]; exact or_u64 _ _ hx H64
        have H0 := hid1 q0
        have H1 := hid1 q1
        have H2 := hid1 q2
        clear q0 q1 q2 hx H64 hq hr
        go_wp2_with fail
        refine still_tail 15 (by kernel_rfl) ?_
        simp only [List.take_succ_cons, List.take_zero, List.drop_succ_cons, List.drop_zero]
        repeat still_step
        refine wpStill_nil ?_
        go_wp2_with fail
        refine ⟨⟨k + 1, by omega, by go_num, (H0.out.setOther (a := ⟨w.heap.size + 1, q, none⟩) (by show w.heap.size ≠ w.heap.size + 1; omega) _).drew, ((H1.out.set q _).congr fun j _ => ?_).drew, (H2.out.setOther (a := ⟨w.heap.size + 1, q, none⟩) (by show w.heap.size + 2 ≠ w.heap.size + 1; omega) _).drew, (bl_set hnx (by omega) _).drew⟩, by simp [intOf]; omega⟩
        simp only [wf]
        rw [HP.out j, if_pos h0]
        by_cases e : j = q
        · subst e
          rw [if_pos rfl, if_pos rfl, HO.out]
        · rw [if_neg e, if_neg e]
      · have hp : pk l (k + 1) = pk l k := by simp only [pk]; rw [if_neg h0]; simp
        have H0 := hid1 q0
        have H1 := hid1 q1
        have H2 := hid1 q2
        have HE := hid1 hp
        clear q0 q1 q2 HP hp
        go_wp2_with fail
        exact ⟨⟨k + 1, by omega, by go_num, H0.out, by rw [HE.out]; exact H1.out, H2.out, hnx⟩, by simp [intOf]; omega⟩
    · have hkN : k = n := by omega
      subst hkN
      have c20 : wr.cell? ⟨w.heap.size + 1 + 1, 0, none⟩ = _ := sf_len q2
      have c21 : wr.cell? ⟨w.heap.size + 1 + 1, 1, none⟩ = _ := sf_ws q2
      have c20' := sf_len q2
      have c21' := sf_ws q2
      have c00 := sf_len q0
      have c01 := sf_ws q0
      have f0 := q0.frozen 0
      have f1 := q0.frozen 1
      have H0 := hid1 q0
      have H1 := hid1 q1
      clear q0 q1 q2
      go_wp2_with fail
      have hc := rs_set H0.out k (some ⟨w.heap.size + 1, 0, none⟩) d d
      have m0 := sf_len hc
      have m1 := sf_ws hc
      exact bodyPost_ret (v := rv k (some ⟨w.heap.size + 1, 0, none⟩) d d) (by simp [results, Try.results64, go_sem, m0, m1]) rfl ⟨w.heap.size + 1, rfl, by omega, (H1.out.setOther (a := ⟨w.heap.size, 0, none⟩) (by show w.heap.size + 1 ≠ w.heap.size; omega) _).setOther (a := ⟨w.heap.size, 1, none⟩) (by show w.heap.size + 1 ≠ w.heap.size; omega) _, bl_set (bl_set hnx (Nat.le_refl _) _) (Nat.le_refl _) _⟩
end Go.Proofs.Ytgmildjfikgkmaa
