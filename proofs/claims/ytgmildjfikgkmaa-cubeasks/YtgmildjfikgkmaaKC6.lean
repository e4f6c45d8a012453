/- THE DOCUMENT'S OWN At. -/
import Derived.Test.YtgmildjfikgkmaaKC5
namespace Go.Proofs.Ytgmildjfikgkmaa
open Go.RowKit Go.Shelf

set_option maxHeartbeats 1600000 in
set_option maxRecDepth 100000 in
theorem rat_chk (h v c y x : Int) (ao : Option Addr) (m cap N : Nat) (w : World) (rd : Wr w ao m N) (k : cuk h v c m N ≠ 0) :
    Calls Try.prog 58 #[cuv h v c ao m cap, .int .i64 y, .int .i64 x] w fun e w' => e = .returned (.tuple #[rv 0 none 0 0, .int .i64 (cuk h v c m N)]) ∧ Below w.heap.size w w' := by
  obtain ⟨W, eW, z0, B0, q0, q1⟩ := at_start w h v c ao m cap
  have e0 := cf0 q0
  have e1 := cf1 q0
  have e2 := cf2 q0
  have e3 := cf3 q0
  have HC := hid1 (rccheck_any h v c ao m cap N W (rd.below B0))
  generalize cuk h v c m N = q at *
  go_enter Try.func58, Try.ntmps58
  go_wp2_with fail
  refine HC.out.mono ?_
  rintro e w1 ⟨rfl, hb⟩
  clear e0 e1 e2 e3 eW
  replace q1 := keepr hb q1
  have d0 := sf_len q1
  have d1 := sf_ws q1
  have f0 := q1.frozen 0
  have f1 := q1.frozen 1
  have B1 := bl_step B0 hb
  clear q0 q1 hb B0 HC
  go_wp2_with fail
  exact bodyPost_ret (v := .tuple #[rv 0 none 0 0, .int .i64 q]) (by simp [results, Try.results58, go_sem, d0, d1]) rfl ⟨rfl, bl_set (bl_set B1 (by omega) _) (by omega) _⟩
set_option maxHeartbeats 1600000 in
set_option maxRecDepth 100000 in
theorem rat_arg (h v c y x : Int) (ao : Option Addr) (m cap N : Nat) (w : World) (rd : Wr w ao m N) (k : cuk h v c m N = 0) (hb : y < 0 ∨ h ≤ y ∨ x < 0 ∨ v ≤ x) :
    Calls Try.prog 58 #[cuv h v c ao m cap, .int .i64 y, .int .i64 x] w fun e w' => e = .returned (.tuple #[rv 0 none 0 0, .int .i64 1]) ∧ Below w.heap.size w w' := by
  obtain ⟨W, eW, z0, B0, q0, q1⟩ := at_start w h v c ao m cap
  have e0 := cf0 q0
  have e1 := cf1 q0
  have e2 := cf2 q0
  have e3 := cf3 q0
  have HC := hid1 (rccheck_any h v c ao m cap N W (rd.below B0))
  rw [k] at HC
  go_enter Try.func58, Try.ntmps58
  go_wp2_with fail
  refine HC.out.mono ?_
  rintro e w1 ⟨rfl, hb1⟩
  clear e0 e1 e2 e3 eW
  replace q0 := keepr hb1 q0
  replace q1 := keepr hb1 q1
  have e0 := cf0 q0
  have e1 := cf1 q0
  have d0 := sf_len q1
  have d1 := sf_ws q1
  have f0 := q1.frozen 0
  have f1 := q1.frozen 1
  have B1 := bl_step B0 hb1
  clear q0 q1 hb1 B0 HC
  by_cases h1 : y < 0
  · clear hb
    go_wp2_with fail
    exact bodyPost_ret (v := .tuple #[rv 0 none 0 0, .int .i64 1]) (by simp [results, Try.results58, go_sem, d0, d1]) rfl ⟨rfl, bl_set (bl_set B1 (by omega) _) (by omega) _⟩
  by_cases h2 : h ≤ y
  · clear hb
    go_wp2_with fail
    exact bodyPost_ret (v := .tuple #[rv 0 none 0 0, .int .i64 1]) (by simp [results, Try.results58, go_sem, d0, d1]) rfl ⟨rfl, bl_set (bl_set B1 (by omega) _) (by omega) _⟩
  by_cases h3 : x < 0
  · clear hb
    go_wp2_with fail
    exact bodyPost_ret (v := .tuple #[rv 0 none 0 0, .int .i64 1]) (by simp [results, Try.results58, go_sem, d0, d1]) rfl ⟨rfl, bl_set (bl_set B1 (by omega) _) (by omega) _⟩
  have h4 : v ≤ x := by omega
  clear hb
  go_wp2_with fail
  exact bodyPost_ret (v := .tuple #[rv 0 none 0 0, .int .i64 1]) (by simp [results, Try.results58, go_sem, d0, d1]) rfl ⟨rfl, bl_set (bl_set B1 (by omega) _) (by omega) _⟩
theorem r8_dropK {w : World} {g o : Nat} {l : List Int} (h : R8 w (some ⟨g, o, none⟩) l) (c : Nat) : R8 w (some ⟨g, o + c, none⟩) (l.drop c) := by
  intro k hk
  have hk' : c + k < l.length := by simp at hk; omega
  obtain ⟨g', o', e, cc⟩ := h (c + k) hk'
  cases e
  exact ⟨g, o + c, rfl, by rw [ia_drop, Nat.add_assoc]; exact cc⟩
set_option maxHeartbeats 1600000 in
set_option maxRecDepth 100000 in
theorem rat_ok (H V C g o m cap N T y x : Nat) (w : World) (hH : 1 ≤ H ∧ H ≤ 4096) (hV : 1 ≤ V ∧ V ≤ 4096) (hC : 1 ≤ C ∧ C ≤ 4096) (hT : T = H * V * C) (hT2 : T ≤ 16777216) (k : cuk H V C m N = 0) (hm : m = H * V * nw C) (hp : Pok (H * V) C N) (hy : y < H) (hx : x < V) (rd : Wr w (some ⟨g, o, none⟩) m N) :
    Calls Try.prog 58 #[cuv H V C (some ⟨g, o, none⟩) m cap, .int .i64 y, .int .i64 x] w fun e w' => ∃ G, e = .returned (.tuple #[rv C (some ⟨G, 0, none⟩) (nw C) (nw C), .int .i64 0]) ∧ w.heap.size ≤ G ∧ w'.rowIs G 75 (nw C) (wf (pl N (nw C) (y * V + x))) ∧ Below w.heap.size w w' := by
  obtain ⟨W, eW, z0, B0, q0, q1⟩ := at_start w H V C (some ⟨g, o, none⟩) m cap
  have e0 := cf0 q0
  have e1 := cf1 q0
  have e2 := cf2 q0
  have e3 := cf3 q0
  have HC := hid1 (rccheck_any H V C (some ⟨g, o, none⟩) m cap N W (rd.below B0))
  rw [k] at HC
  have HU := hid1 (fun W' (hb : Below w.heap.size w W') => runpack_ok H V C g o m cap N T W' hH hV hC hT hT2 k hm (rd.below hb))
  have hi : y * V + x < H * V := by
    have : (y + 1) * V ≤ H * V := Nat.mul_le_mul_right _ hy
    rw [Nat.succ_mul] at this
    omega
  have HPK : Hid (pk (((ul N C T).drop ((y * V + x) * C)).take C) C = pl N (nw C) (y * V + x)) := hid1 (by rw [hT]; exact pk_seg hC.1 hp hi)
  have hcT : (y * V + x) * C + C ≤ T := by
    rw [hT, ← Nat.succ_mul]; exact Nat.mul_le_mul_right _ hi
  have hyV : y * V ≤ 4096 * 4096 := Nat.mul_le_mul (by omega) hV.2
  have s1 : IntKind.i64.wrap ((y : Int) * (V : Int)) = ((y * V : Nat) : Int) := by
    rw [IntKind.wrap_i64]; push_cast; rw [← Int.natCast_mul]; omega
  have s2 : IntKind.i64.wrap (((y * V : Nat) : Int) + (x : Int)) = ((y * V + x : Nat) : Int) := by
    rw [IntKind.wrap_i64]; omega
  have s3 : IntKind.i64.wrap (((y * V + x : Nat) : Int) * (C : Int)) = (((y * V + x) * C : Nat) : Int) := by
    rw [IntKind.wrap_i64, ← Int.natCast_mul]; omega
  generalize pl N (nw C) (y * V + x) = PL at *
  obtain ⟨a, ha⟩ : ∃ a, y * V = a := ⟨_, rfl⟩
  rw [ha] at s1 s2 s3 hcT HPK
  obtain ⟨b, hb⟩ : ∃ b, a + x = b := ⟨_, rfl⟩
  rw [hb] at s2 s3 hcT HPK
  obtain ⟨i, hi'⟩ : ∃ i, b * C = i := ⟨_, rfl⟩
  rw [hi'] at s3 hcT HPK
  clear ha hb hi' hyV hi hT k hm hp rd
  have s4 : IntKind.i64.wrap ((i : Int) + (C : Int)) = ((i + C : Nat) : Int) := by rw [IntKind.wrap_i64]; omega
  go_enter Try.func58, Try.ntmps58
  go_wp2_with fail
  refine HC.out.mono ?_
  rintro e w1 ⟨rfl, hb⟩
  clear e0 e1 e2 e3 eW
  replace q0 := keepr hb q0
  replace q1 := keepr hb q1
  have B1 := bl_step B0 hb
  have z1 := hb.size
  clear hb B0 HC
  have e0 := cf0 q0
  have e1 := cf1 q0
  have e2 := cf2 q0
  have e3 := cf3 q0
  have n1 : ¬ (y : Int) < 0 := by omega
  have n2 : ¬ (H : Int) ≤ (y : Int) := by omega
  have n3 : ¬ (x : Int) < 0 := by omega
  have n4 : ¬ (V : Int) ≤ (x : Int) := by omega
  go_wp2_with fail
  refine (HU.out w1 B1).mono ?_
  rintro e w2 ⟨la, lc, rfl, own, hb⟩
  clear e0 e1 e2 e3
  replace q0 := keepr hb q0
  replace q1 := keepr hb q1
  have B2 := bl_step B1 hb
  have z2 := hb.size
  obtain ⟨r8, c1, c2⟩ := own_r8 (ul_len N C T) own
  obtain ⟨gl, ol, rfl, _⟩ := r8 0 (by rw [ul_len]; omega)
  have e0 := cf0 q0
  have e1 := cf1 q0
  have e2 := cf2 q0
  clear hb B1 HU own q0
  go_wp2_with fail
  have r8' := r8_take (r8_dropK r8 i) C
  have hln : (((ul N C T).drop i).take C).length = C := by rw [List.length_take, List.length_drop, ul_len]; omega
  refine (rrow_any (((ul N C T).drop i).take C) C hln (some ⟨gl, ol + i, none⟩) (lc - i) w2 (by omega) r8').mono ?_
  rintro e w3 ⟨G, rfl, hG, row, hb⟩
  replace q1 := keepr hb q1
  have B3 := bl_step B2 hb
  rw [HPK.out] at row
  have d0 := sf_len q1
  have d1 := sf_ws q1
  have f0 := q1.frozen 0
  have f1 := q1.frozen 1
  have H1 := hid1 q1
  have HR := hid1 row
  clear q1 row hb B2 r8 r8' e0 e1 e2
  go_wp2_with fail
  have hc := rs_set H1.out C (some ⟨G, 0, none⟩) (nw C) (nw C)
  have m0 := sf_len hc
  have m1 := sf_ws hc
  exact bodyPost_ret (v := .tuple #[rv C (some ⟨G, 0, none⟩) (nw C) (nw C), .int .i64 0]) (by simp [results, Try.results58, go_sem, m0, m1]) rfl ⟨G, rfl, by omega, (HR.out.setOther (a := ⟨w.heap.size + 1, 0, none⟩) (by show G ≠ w.heap.size + 1; omega) _).setOther (a := ⟨w.heap.size + 1, 1, none⟩) (by show G ≠ w.heap.size + 1; omega) _, bl_set (bl_set B3 (by omega) _) (by omega) _⟩
end Go.Proofs.Ytgmildjfikgkmaa
