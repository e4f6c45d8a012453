/- THE DOCUMENT'S OWN Flat, At. -/
import Derived.Test.YtgmildjfikgkmaaKC4
namespace Go.Proofs.Ytgmildjfikgkmaa
open Go.RowKit Go.Shelf

theorem uv_pos (N C j : Nat) : decide (0 < uv N C j) = (pl N (nw C) (j / C)).testBit (j % C) := by
  unfold uv sg
  cases (pl N (nw C) (j / C)).testBit (j % C) <;> simp
theorem pk_ul {N C n : Nat} (hC : 0 < C) (hp : Pok n C N) : pk (ul N C (n * C)) (n * C) = js C (pl N (nw C)) n := by
  refine Nat.eq_of_testBit_eq fun j => ?_
  rw [pk_bit, js_bit hC n hp]
  by_cases h : j < n * C
  · rw [ul_at h, uv_pos]
  · simp [h]
theorem pk_seg {N C n i : Nat} (hC : 0 < C) (hp : Pok n C N) (hi : i < n) : pk (((ul N C (n * C)).drop (i * C)).take C) C = pl N (nw C) i := by
  have hle : i * C + C ≤ n * C := by rw [← Nat.succ_mul]; exact Nat.mul_le_mul_right _ hi
  refine Nat.eq_of_testBit_eq fun j => ?_
  rw [pk_bit]
  by_cases h : j < C
  · have e1 : (i * C + j) / C = i := by rw [Nat.mul_comm, Nat.mul_add_div hC, Nat.div_eq_of_lt h, Nat.add_zero]
    have e2 : (i * C + j) % C = j := by rw [Nat.mul_comm, Nat.mul_add_mod, Nat.mod_eq_of_lt h]
    rw [ia_take h, ia_drop, ul_at (by omega), uv_pos, e1, e2]
    simp [h]
  · rw [bit_above (hp i hi) (i := j) (by omega)]
    simp [h]
theorem own_r8 {w : World} {base n cp : Nat} {ao : Option Addr} {l : List Int} (hl : l.length = n) (h : w.ownsRow base 52 1 (.slice ao n cp) n (i8s l)) : R8 w ao l ∧ n ≤ cp ∧ cp ≤ 9223372036854775807 := by
  subst hl
  obtain ⟨ao', cp', e, h1, h2, _, _, h3⟩ := r8_own h
  cases e
  exact ⟨h3, h1, by unfold maxLen at h2; omega⟩
set_option maxHeartbeats 1600000 in
set_option maxRecDepth 100000 in
theorem rflat_bad (h v c : Int) (ao : Option Addr) (m cap N : Nat) (w : World) (rd : Wr w ao m N) (k : cuk h v c m N ≠ 0) :
    Calls Try.prog 56 #[cuv h v c ao m cap] w fun e w' => e = .returned (.tuple #[rv 0 none 0 0, .int .i64 (cuk h v c m N)]) ∧ Below w.heap.size w w' := by
  obtain ⟨W, eW, z0, B0, q0, q1⟩ := at_start w h v c ao m cap
  have e0 := cf0 q0
  have e1 := cf1 q0
  have e2 := cf2 q0
  have e3 := cf3 q0
  have HC := hid1 (runpack_bad h v c ao m cap N W (rd.below B0) k)
  generalize cuk h v c m N = q at *
  go_enter Try.func56, Try.ntmps56
  go_wp2_with fail
  refine HC.out.mono ?_
  rintro e w1 ⟨rfl, hb⟩
  clear e0 e1 e2 e3 eW
  replace q1 := keepr hb q1
  have d0 := sf_len q1
  have d1 := sf_ws q1
  have f0 := q1.frozen 0
  have f1 := q1.frozen 1
  have B1 := bl_step B0 hb
  clear q0 q1 hb B0 HC
  go_wp2_with fail
  exact bodyPost_ret (v := .tuple #[rv 0 none 0 0, .int .i64 q]) (by simp [results, Try.results56, go_sem, d0, d1]) rfl ⟨rfl, bl_set (bl_set B1 (by omega) _) (by omega) _⟩
set_option maxHeartbeats 1600000 in
set_option maxRecDepth 100000 in
theorem rflat_ok (H V C g o m cap N T : Nat) (w : World) (hH : 1 ≤ H ∧ H ≤ 4096) (hV : 1 ≤ V ∧ V ≤ 4096) (hC : 1 ≤ C ∧ C ≤ 4096) (hT : T = H * V * C) (hT2 : T ≤ 16777216) (k : cuk H V C m N = 0) (hm : m = H * V * nw C) (hp : Pok (H * V) C N) (rd : Wr w (some ⟨g, o, none⟩) m N) :
    Calls Try.prog 56 #[cuv H V C (some ⟨g, o, none⟩) m cap] w fun e w' => ∃ G, e = .returned (.tuple #[rv T (some ⟨G, 0, none⟩) (nw T) (nw T), .int .i64 0]) ∧ w.heap.size ≤ G ∧ w'.rowIs G 75 (nw T) (wf (js C (pl N (nw C)) (H * V))) ∧ Below w.heap.size w w' := by
  obtain ⟨W, eW, z0, B0, q0, q1⟩ := at_start w H V C (some ⟨g, o, none⟩) m cap
  have e0 := cf0 q0
  have e1 := cf1 q0
  have e2 := cf2 q0
  have e3 := cf3 q0
  have HC := hid1 (runpack_ok H V C g o m cap N T W hH hV hC hT hT2 k hm (rd.below B0))
  have HPK : Hid (pk (ul N C T) T = js C (pl N (nw C)) (H * V)) := hid1 (by rw [hT]; exact pk_ul hC.1 hp)
  generalize js C (pl N (nw C)) (H * V) = FL at *
  clear hT k hm hp rd
  go_enter Try.func56, Try.ntmps56
  go_wp2_with fail
  refine HC.out.mono ?_
  rintro e w1 ⟨la, lc, rfl, own, hb⟩
  clear e0 e1 e2 e3 eW
  replace q1 := keepr hb q1
  have B1 := bl_step B0 hb
  have z1 := hb.size
  obtain ⟨r8, _, _⟩ := own_r8 (ul_len N C T) own
  clear q0 hb B0 HC own
  go_wp2_with fail
  refine (rrow_any (ul N C T) T (ul_len N C T) la lc w1 hT2 r8).mono ?_
  rintro e w2 ⟨G, rfl, hG, row, hb⟩
  replace q1 := keepr hb q1
  have B2 := bl_step B1 hb
  rw [HPK.out] at row
  have d0 := sf_len q1
  have d1 := sf_ws q1
  have f0 := q1.frozen 0
  have f1 := q1.frozen 1
  have H1 := hid1 q1
  have HR := hid1 row
  clear q1 row hb B1 r8
  go_wp2_with fail
  have hc := rs_set H1.out T (some ⟨G, 0, none⟩) (nw T) (nw T)
  have m0 := sf_len hc
  have m1 := sf_ws hc
  exact bodyPost_ret (v := .tuple #[rv T (some ⟨G, 0, none⟩) (nw T) (nw T), .int .i64 0]) (by simp [results, Try.results56, go_sem, m0, m1]) rfl ⟨G, rfl, by omega, (HR.out.setOther (a := ⟨w.heap.size + 1, 0, none⟩) (by show G ≠ w.heap.size + 1; omega) _).setOther (a := ⟨w.heap.size + 1, 1, none⟩) (by show G ≠ w.heap.size + 1; omega) _, bl_set (bl_set B2 (by omega) _) (by omega) _⟩
end Go.Proofs.Ytgmildjfikgkmaa
