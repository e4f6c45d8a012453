import Derived.Test.YtgmildjfikgkmaaKC5
import Derived.Deep.RegionHeld3
import Derived.Deep.DeepCutAuto
import Derived.Test.YtgmildjfikgkmaaBP1
import Derived.ChangeSlices
import Derived.Deep.Slices
namespace Go.Proofs.Ytgmildjfikgkmaa
open Go.RowKit Go.Shelf

set_option maxHeartbeats 1600000 in
set_option maxRecDepth 100000 in
theorem rat_chk (h v c y x : Int) (ao : Option Addr) (m cap N : Nat) (w : World) (rd : Wr w ao m N) (k : cuk h v c m N ≠ 0) :
    Calls Try.prog 58 #[cuv h v c ao m cap, .int .i64 y, .int .i64 x] w fun e w' => e = .returned (.tuple #[rv 0 none 0 0, .int .i64 (cuk h v c m N)]) ∧ Below w.heap.size w w' := by
  obtain ⟨W, eW, z0, B0, q0, q1⟩ := at_start w h v c ao m cap
  have e0 := cf0 q0
  have e1 := cf1 q0
  have e2 := cf2 q0
  have e3 := cf3 q0
  have HC := hid1 (rccheck_any h v c ao m cap N W (rd.below B0))
  generalize cuk h v c m N = q at *
  go_enter Try.func58, Try.ntmps58
  go_wp2_with fail
  refine HC.out.mono ?_
  rintro e w1 ⟨rfl, hb⟩
  clear e0 e1 e2 e3 eW
  replace q1 := keepr hb q1
  have d0 := sf_len q1
  have d1 := sf_ws q1
  have f0 := q1.frozen 0
  have f1 := q1.frozen 1
  have B1 := bl_step B0 hb
  clear q0 q1 hb B0 HC
  go_wp2_with fail
  exact bodyPost_ret (v := .tuple #[rv 0 none 0 0, .int .i64 q]) (by simp [results, Try.results58, go_sem, d0, d1]) rfl ⟨rfl, bl_set (bl_set B1 (by omega) _) (by omega) _⟩
set_option maxHeartbeats 1600000 in
set_option maxRecDepth 100000 in
theorem rat_arg (h v c y x : Int) (ao : Option Addr) (m cap N : Nat) (w : World) (rd : Wr w ao m N) (k : cuk h v c m N = 0) (hb : y < 0 ∨ h ≤ y ∨ x < 0 ∨ v ≤ x) :
    Calls Try.prog 58 #[cuv h v c ao m cap, .int .i64 y, .int .i64 x] w fun e w' => e = .returned (.tuple #[rv 0 none 0 0, .int .i64 1]) ∧ Below w.heap.size w w' := by
  obtain ⟨W, eW, z0, B0, q0, q1⟩ := at_start w h v c ao m cap
  have e0 := cf0 q0
  have e1 := cf1 q0
  have e2 := cf2 q0
  have e3 := cf3 q0
  have HC := hid1 (rccheck_any h v c ao m cap N W (rd.below B0))
  rw [k] at HC
  go_enter Try.func58, Try.ntmps58
  go_wp2_with fail
  refine HC.out.mono ?_
  rintro e w1 ⟨rfl, hb1⟩
  clear e0 e1 e2 e3 eW
  replace q0 := keepr hb1 q0
  replace q1 := keepr hb1 q1
  have e0 := cf0 q0
  have e1 := cf1 q0
  have d0 := sf_len q1
  have d1 := sf_ws q1
  have f0 := q1.frozen 0
  have f1 := q1.frozen 1
  have B1 := bl_step B0 hb1
  clear q0 q1 hb1 B0 HC
  by_cases h1 : y < 0
  · clear hb
    go_wp2_with fail
    exact bodyPost_ret (v := .tuple #[rv 0 none 0 0, .int .i64 1]) (by simp [results, Try.results58, go_sem, d0, d1]) rfl ⟨rfl, bl_set (bl_set B1 (by omega) _) (by omega) _⟩
  by_cases h2 : h ≤ y
  · clear hb
    go_wp2_with fail
    exact bodyPost_ret (v := .tuple #[rv 0 none 0 0, .int .i64 1]) (by simp [results, Try.results58, go_sem, d0, d1]) rfl ⟨rfl, bl_set (bl_set B1 (by omega) _) (by omega) _⟩
  by_cases h3 : x < 0
  · clear hb
    go_wp2_with fail
    exact bodyPost_ret (v := .tuple #[rv 0 none 0 0, .int .i64 1]) (by simp [results, Try.results58, go_sem, d0, d1]) rfl ⟨rfl, bl_set (bl_set B1 (by omega) _) (by omega) _⟩
  have h4 : v ≤ x := by omega
  clear hb
  go_wp2_with fail
  exact bodyPost_ret (v := .tuple #[rv 0 none 0 0, .int .i64 1]) (by simp [results, Try.results58, go_sem, d0, d1]) rfl ⟨rfl, bl_set (bl_set B1 (by omega) _) (by omega) _⟩
theorem r8_dropK {w : World} {g o : Nat} {l : List Int} (h : R8 w (some ⟨g, o, none⟩) l) (c : Nat) : R8 w (some ⟨g, o + c, none⟩) (l.drop c) := by
  intro k hk
  have hk' : c + k < l.length := by simp at hk; omega
  obtain ⟨g', o', e, cc⟩ := h (c + k) hk'
  cases e
  exact ⟨g, o + c, rfl, by rw [ia_drop, Nat.add_assoc]; exact cc⟩
set_option maxHeartbeats 1600000 in
set_option maxRecDepth 100000 in
theorem rat_ok (H V C g o m cap N T y x : Nat) (w : World) (hH : 1 ≤ H ∧ H ≤ 4096) (hV : 1 ≤ V ∧ V ≤ 4096) (hC : 1 ≤ C ∧ C ≤ 4096) (hT : T = H * V * C) (hT2 : T ≤ 16777216) (k : cuk H V C m N = 0) (hm : m = H * V * nw C) (hp : Pok (H * V) C N) (hy : y < H) (hx : x < V) (rd : Wr w (some ⟨g, o, none⟩) m N) :
    Calls Try.prog 58 #[cuv H V C (some ⟨g, o, none⟩) m cap, .int .i64 y, .int .i64 x] w fun e w' => ∃ G, e = .returned (.tuple #[rv C (some ⟨G, 0, none⟩) (nw C) (nw C), .int .i64 0]) ∧ w.heap.size ≤ G ∧ w'.rowIs G 75 (nw C) (wf (pl N (nw C) (y * V + x))) ∧ Below w.heap.size w w' := by
  obtain ⟨W, eW, z0, B0, q0, q1⟩ := at_start w H V C (some ⟨g, o, none⟩) m cap
  have e0 := cf0 q0
  have e1 := cf1 q0
  have e2 := cf2 q0
  have e3 := cf3 q0
  have HC := hid1 (rccheck_any H V C (some ⟨g, o, none⟩) m cap N W (rd.below B0))
  rw [k] at HC
  have HU := hid1 (fun W' (hb : Below w.heap.size w W') => runpack_ok H V C g o m cap N T W' hH hV hC hT hT2 k hm (rd.below hb))
  have hi : y * V + x < H * V := by
    have : (y + 1) * V ≤ H * V := Nat.mul_le_mul_right _ hy
    rw [Nat.succ_mul] at this
    omega
  have HPK : Hid (pk (((ul N C T).drop ((y * V + x) * C)).take C) C = pl N (nw C) (y * V + x)) := hid1 (by rw [hT]; exact pk_seg hC.1 hp hi)
  have hcT : (y * V + x) * C + C ≤ T := by
    rw [hT, ← Nat.succ_mul]; exact Nat.mul_le_mul_right _ hi
  have hyV : y * V ≤ 4096 * 4096 := Nat.mul_le_mul (by omega) hV.2
  have s1 : IntKind.i64.wrap ((y : Int) * (V : Int)) = ((y * V : Nat) : Int) := by
    rw [IntKind.wrap_i64]; push_cast; rw [← Int.natCast_mul]; omega
  have s2 : IntKind.i64.wrap (((y * V : Nat) : Int) + (x : Int)) = ((y * V + x : Nat) : Int) := by
    rw [IntKind.wrap_i64]; omega
  have s3 : IntKind.i64.wrap (((y * V + x : Nat) : Int) * (C : Int)) = (((y * V + x) * C : Nat) : Int) := by
    rw [IntKind.wrap_i64, ← Int.natCast_mul]; omega
  generalize pl N (nw C) (y * V + x) = PL at *
  obtain ⟨a, ha⟩ : ∃ a, y * V = a := ⟨_, rfl⟩
  rw [ha] at s1 s2 s3 hcT HPK
  obtain ⟨b, hb⟩ : ∃ b, a + x = b := ⟨_, rfl⟩
  rw [hb] at s2 s3 hcT HPK
  obtain ⟨i, hi'⟩ : ∃ i, b * C = i := ⟨_, rfl⟩
  rw [hi'] at s3 hcT HPK
  clear ha hb hi' hyV hi hT k hm hp rd
  have s4 : IntKind.i64.wrap ((i : Int) + (C : Int)) = ((i + C : Nat) : Int) := by rw [IntKind.wrap_i64]; omega
  go_enter Try.func58, Try.ntmps58
  go_wp2_with fail
  refine HC.out.mono ?_
  rintro e w1 ⟨rfl, hb⟩
  clear e0 e1 e2 e3 eW
  replace q0 := keepr hb q0
  replace q1 := keepr hb q1
  have B1 := bl_step B0 hb
  have z1 := hb.size
  clear hb B0 HC
  have e0 := cf0 q0
  have e1 := cf1 q0
  have e2 := cf2 q0
  have e3 := cf3 q0
  have n1 : ¬ (y : Int) < 0 := by omega
  have n2 : ¬ (H : Int) ≤ (y : Int) := by omega
  have n3 : ¬ (x : Int) < 0 := by omega
  have n4 : ¬ (V : Int) ≤ (x : Int) := by omega
  go_wp2_with fail
  refine (HU.out w1 B1).mono ?_
  rintro e w2 ⟨la, lc, rfl, own, hb⟩
  clear e0 e1 e2 e3
  replace q0 := keepr hb q0
  replace q1 := keepr hb q1
  have B2 := bl_step B1 hb
  have z2 := hb.size
  obtain ⟨r8, c1, c2⟩ := own_r8 (ul_len N C T) own
  obtain ⟨gl, ol, rfl, _⟩ := r8 0 (by rw [ul_len]; omega)
  have e0 := cf0 q0
  have e1 := cf1 q0
  have e2 := cf2 q0
  clear hb B1 HU own q0
  go_wp2_with fail
  have r8' := r8_take (r8_dropK r8 i) C
  have hln : (((ul N C T).drop i).take C).length = C := by rw [List.length_take, List.length_drop, ul_len]; omega
  refine (rrow_any (((ul N C T).drop i).take C) C hln (some ⟨gl, ol + i, none⟩) (lc - i) w2 (by omega) r8').mono ?_
  rintro e w3 ⟨G, rfl, hG, row, hb⟩
  replace q1 := keepr hb q1
  have B3 := bl_step B2 hb
  rw [HPK.out] at row
  have d0 := sf_len q1
  have d1 := sf_ws q1
  have f0 := q1.frozen 0
  have f1 := q1.frozen 1
  have H1 := hid1 q1
  have HR := hid1 row
  clear q1 row hb B2 r8 r8' e0 e1 e2
  go_wp2_with fail
  have hc := rs_set H1.out C (some ⟨G, 0, none⟩) (nw C) (nw C)
  have m0 := sf_len hc
  have m1 := sf_ws hc
  exact bodyPost_ret (v := .tuple #[rv C (some ⟨G, 0, none⟩) (nw C) (nw C), .int .i64 0]) (by simp [results, Try.results58, go_sem, m0, m1]) rfl ⟨G, rfl, by omega, (HR.out.setOther (a := ⟨w.heap.size + 1, 0, none⟩) (by show G ≠ w.heap.size + 1; omega) _).setOther (a := ⟨w.heap.size + 1, 1, none⟩) (by show G ≠ w.heap.size + 1; omega) _, bl_set (bl_set B3 (by omega) _) (by omega) _⟩
end Go.Proofs.Ytgmildjfikgkmaa

namespace Go.Proofs.Ytgmildjfikgkmaa
open Go.RowKit Go.Shelf

theorem cuk_zeroA {h v c : Int} {m N : Nat} (k : cuk h v c m N = 0) : ∃ H V C : Nat, h = H ∧ v = V ∧ c = C ∧ (1 ≤ H ∧ H ≤ 4096) ∧ (1 ≤ V ∧ V ≤ 4096) ∧ (1 ≤ C ∧ C ≤ 4096) ∧ H * V * C ≤ 16777216 ∧ Sg.chk H V C = 0 ∧ m = H * V * nw C ∧ Pok (H * V) C N := by
  unfold cuk at k
  by_cases k0 : Sg.chk h v c = 0
  · obtain ⟨H, V, C, rfl, rfl, rfl, hH, hV, hC, hb⟩ := chk_nat k0
    rw [if_pos k0, Int.toNat_natCast, Int.toNat_natCast, Int.toNat_natCast] at k
    by_cases k1 : m = H * V * nw C
    · rw [if_pos k1] at k
      by_cases k2 : Pok (H * V) C N
      · exact ⟨H, V, C, rfl, rfl, rfl, hH, hV, hC, hb, k0, k1, k2⟩
      · rw [if_neg k2] at k; omega
    · rw [if_neg k1] at k; omega
  · rw [if_neg k0] at k; exact absurd k k0
theorem cuk_some {w : World} {ao : Option Addr} {H V C m N : Nat} (hH : 1 ≤ H) (hV : 1 ≤ V) (hC : 1 ≤ C) (hm : m = H * V * nw C) (rd : Wr w ao m N) : ∃ g o, ao = some ⟨g, o, none⟩ := by
  have hpos : 0 < m := by
    rw [hm]
    exact Nat.mul_pos (Nat.mul_pos (by omega) (by omega)) (by unfold nw; omega)
  obtain ⟨g, o, e, _⟩ := rd.2 0 hpos
  exact ⟨g, o, e⟩
theorem wr_nilK (w : World) (ao : Option Addr) : Wr w ao 0 0 := ⟨by simp, fun k hk => absurd hk (by simp)⟩
theorem rs_nilK (w : World) (ao : Option Addr) (f : Nat → Value) : Rs w ao 0 f := fun k hk => absurd hk (by simp)
/-- How many values Unpack answers. -/
def uT (h v c : Int) (m N : Nat) : Nat := if cuk h v c m N = 0 then h.toNat * v.toNat * c.toNat else 0
theorem uT_le (h v c : Int) (m N : Nat) : uT h v c m N ≤ 16777216 := by
  unfold uT
  by_cases k : cuk h v c m N = 0
  · obtain ⟨H, V, C, rfl, rfl, rfl, _, _, _, hb, _⟩ := cuk_zeroA k
    rw [if_pos k, Int.toNat_natCast, Int.toNat_natCast, Int.toNat_natCast]; exact hb
  · rw [if_neg k]; omega
theorem unpack_all (h v c : Int) (ao : Option Addr) (m cap N : Nat) (w : World) (hmc : m ≤ cap) (hcap : cap ≤ 9223372036854775807) (rd : Wr w ao m N) (E : Int) (T : Nat) (hE : cuk h v c m N = E) (hT : uT h v c m N = T) :
    Calls Try.prog 21 #[cuv h v c ao m cap] w fun e w' => ∃ bo K, e = .returned (.tuple #[.slice bo T K, .int .i64 E]) ∧ Rs w' bo T (fun k => .int .i8 (uv N c.toNat k)) ∧ Below w.heap.size w w' := by
  subst hE hT
  unfold uT
  by_cases k : cuk h v c m N = 0
  · obtain ⟨H, V, C, rfl, rfl, rfl, hH, hV, hC, hb, k0, hm, hp⟩ := cuk_zeroA k
    obtain ⟨g, o, rfl⟩ := cuk_some hH.1 hV.1 hC.1 hm rd
    rw [if_pos k, Int.toNat_natCast, Int.toNat_natCast, Int.toNat_natCast]
    refine (cunpack_ok H V C g o m cap N w hH hV hC hb k hm hmc hcap rd).mono ?_
    rintro e w' ⟨G, rfl, _, row, hb'⟩
    exact ⟨_, _, by rw [k], Rs.row row, hb'⟩
  · rw [if_neg k]
    refine (cunpack_bad h v c ao m cap N w hmc hcap rd k).mono ?_
    rintro e w' ⟨rfl, hb⟩
    exact ⟨_, _, rfl, rs_nilK _ _ _, hb⟩
theorem runpack_all (h v c : Int) (ao : Option Addr) (m cap N : Nat) (w : World) (rd : Wr w ao m N) (E : Int) (T : Nat) (hE : cuk h v c m N = E) (hT : uT h v c m N = T) :
    Calls Try.prog 55 #[cuv h v c ao m cap] w fun e w' => ∃ bo K, e = .returned (.tuple #[.slice bo T K, .int .i64 E]) ∧ Rs w' bo T (fun k => .int .i8 (uv N c.toNat k)) ∧ Below w.heap.size w w' := by
  subst hE hT
  unfold uT
  by_cases k : cuk h v c m N = 0
  · obtain ⟨H, V, C, rfl, rfl, rfl, hH, hV, hC, hb, k0, hm, hp⟩ := cuk_zeroA k
    obtain ⟨g, o, rfl⟩ := cuk_some hH.1 hV.1 hC.1 hm rd
    rw [if_pos k, Int.toNat_natCast, Int.toNat_natCast, Int.toNat_natCast]
    refine (runpack_ok H V C g o m cap N _ w hH hV hC rfl hb k hm rd).mono ?_
    rintro e w' ⟨la, lc, rfl, own, hb'⟩
    refine ⟨_, _, by rw [k], ?_, hb'⟩
    obtain ⟨r8, _, _⟩ := own_r8 (ul_len N C _) own
    intro j hj
    obtain ⟨g', o', e, cc⟩ := r8 j (by rw [ul_len]; exact hj)
    exact ⟨g', o', e, by rw [cc, ul_at hj]⟩
  · rw [if_neg k]
    refine (runpack_bad h v c ao m cap N w rd k).mono ?_
    rintro e w' ⟨rfl, hb⟩
    exact ⟨_, _, rfl, rs_nilK _ _ _, hb⟩
/-- What Flat answers: its length, its words, the number that they make. -/
def fS (h v c : Int) (m N : Nat) : Int × Nat × Nat := if cuk h v c m N = 0 then ((h.toNat * v.toNat * c.toNat : Nat), nw (h.toNat * v.toNat * c.toNat), js c.toNat (pl N (nw c.toNat)) (h.toNat * v.toNat)) else (0, 0, 0)
theorem flat_lt {H V C N : Nat} (hp : Pok (H * V) C N) : js C (pl N (nw C)) (H * V) < 2 ^ (64 * nw (H * V * C)) :=
  Nat.lt_of_lt_of_le (js_lt (s := C) (fun i hi => hp i hi)) (pow_mono (nw_le (H * V * C)))
theorem flat_all (h v c : Int) (ao : Option Addr) (m cap N : Nat) (w : World) (hmc : m ≤ cap) (hcap : cap ≤ 9223372036854775807) (rd : Wr w ao m N) (E n : Int) (k' P : Nat) (hE : cuk h v c m N = E) (hS : fS h v c m N = (n, k', P)) :
    Calls Try.prog 13 #[cuv h v c ao m cap] w fun e w' => ∃ bo K, e = .returned (.tuple #[rv n bo k' K, .int .i64 E]) ∧ Wr w' bo k' P ∧ Below w.heap.size w w' := by
  subst hE
  unfold fS at hS
  by_cases k : cuk h v c m N = 0
  · obtain ⟨H, V, C, rfl, rfl, rfl, hH, hV, hC, hb, k0, hm, hp⟩ := cuk_zeroA k
    obtain ⟨g, o, rfl⟩ := cuk_some hH.1 hV.1 hC.1 hm rd
    rw [if_pos k, Int.toNat_natCast, Int.toNat_natCast, Int.toNat_natCast] at hS
    cases hS
    refine (cflat_ok H V C g o m cap N w hH hV hC hb k hm hmc hcap hp rd).mono ?_
    rintro e w' ⟨G, rfl, _, row, hb'⟩
    exact ⟨_, _, by rw [k], Wr.row row (flat_lt hp), hb'⟩
  · rw [if_neg k] at hS
    cases hS
    refine (cflat_bad h v c ao m cap N w hmc hcap rd k).mono ?_
    rintro e w' ⟨rfl, hb⟩
    exact ⟨_, _, rfl, wr_nilK _ _, hb⟩
theorem rflat_all (h v c : Int) (ao : Option Addr) (m cap N : Nat) (w : World) (rd : Wr w ao m N) (E n : Int) (k' P : Nat) (hE : cuk h v c m N = E) (hS : fS h v c m N = (n, k', P)) :
    Calls Try.prog 56 #[cuv h v c ao m cap] w fun e w' => ∃ bo K, e = .returned (.tuple #[rv n bo k' K, .int .i64 E]) ∧ Wr w' bo k' P ∧ Below w.heap.size w w' := by
  subst hE
  unfold fS at hS
  by_cases k : cuk h v c m N = 0
  · obtain ⟨H, V, C, rfl, rfl, rfl, hH, hV, hC, hb, k0, hm, hp⟩ := cuk_zeroA k
    obtain ⟨g, o, rfl⟩ := cuk_some hH.1 hV.1 hC.1 hm rd
    rw [if_pos k, Int.toNat_natCast, Int.toNat_natCast, Int.toNat_natCast] at hS
    cases hS
    refine (rflat_ok H V C g o m cap N _ w hH hV hC rfl hb k hm hp rd).mono ?_
    rintro e w' ⟨G, rfl, _, row, hb'⟩
    exact ⟨_, _, by rw [k], Wr.row row (flat_lt hp), hb'⟩
  · rw [if_neg k] at hS
    cases hS
    refine (rflat_bad h v c ao m cap N w rd k).mono ?_
    rintro e w' ⟨rfl, hb⟩
    exact ⟨_, _, rfl, wr_nilK _ _, hb⟩
theorem fS_le {h v c : Int} {m N : Nat} {n : Int} {k P : Nat} (hS : fS h v c m N = (n, k, P)) : k ≤ 16777216 := by
  unfold fS at hS
  by_cases k : cuk h v c m N = 0
  · obtain ⟨H, V, C, rfl, rfl, rfl, _, _, _, hb, _⟩ := cuk_zeroA k
    rw [if_pos k, Int.toNat_natCast, Int.toNat_natCast, Int.toNat_natCast] at hS
    cases hS
    unfold nw; omega
  · rw [if_neg k] at hS; cases hS; omega
/-- What At answers. -/
def aS (h v c y x : Int) (m N : Nat) : Int × Nat × Nat := if atE h v c y x m N = 0 then (c, nw c.toNat, pl N (nw c.toNat) (y.toNat * v.toNat + x.toNat)) else (0, 0, 0)
theorem atE_zero {h v c y x : Int} {m N : Nat} (k : atE h v c y x m N = 0) : cuk h v c m N = 0 ∧ (0 ≤ y ∧ y < h) ∧ (0 ≤ x ∧ x < v) := by
  unfold atE at k
  by_cases k0 : cuk h v c m N = 0
  · rw [if_pos k0] at k
    obtain ⟨H, V, C, rfl, rfl, rfl, _, _, _, _, k1, _⟩ := cuk_zeroA k0
    unfold Sg.ixE at k
    rw [if_pos k1] at k
    by_cases k2 : Sg.Inn H V C y x 0
    · exact ⟨k0, k2.1, k2.2.1⟩
    · rw [if_neg k2] at k; omega
  · rw [if_neg k0] at k; exact absurd k k0
theorem at_all (h v c y x : Int) (ao : Option Addr) (m cap N : Nat) (w : World) (hmc : m ≤ cap) (hcap : cap ≤ 9223372036854775807) (rd : Wr w ao m N) (E n : Int) (k' P : Nat) (hE : atE h v c y x m N = E) (hS : aS h v c y x m N = (n, k', P)) :
    Calls Try.prog 14 #[cuv h v c ao m cap, .int .i64 y, .int .i64 x] w fun e w' => ∃ bo K, e = .returned (.tuple #[rv n bo k' K, .int .i64 E]) ∧ Wr w' bo k' P ∧ (∀ g o, bo = some ⟨g, o, none⟩ → w.heap.size ≤ g) ∧ Below w.heap.size w w' := by
  subst hE
  unfold aS at hS
  by_cases k : atE h v c y x m N = 0
  · obtain ⟨k0, hy, hx⟩ := atE_zero k
    obtain ⟨H, V, C, rfl, rfl, rfl, hH, hV, hC, hb, k1, hm, hp⟩ := cuk_zeroA k0
    obtain ⟨g, o, rfl⟩ := cuk_some hH.1 hV.1 hC.1 hm rd
    obtain ⟨y, rfl⟩ := Int.eq_ofNat_of_zero_le hy.1
    obtain ⟨x, rfl⟩ := Int.eq_ofNat_of_zero_le hx.1
    rw [if_pos k, Int.toNat_natCast, Int.toNat_natCast, Int.toNat_natCast, Int.toNat_natCast] at hS
    cases hS
    refine (at_ok H V C g o m cap N y x w hH hV hC k1 k0 hm hmc hcap (by omega) (by omega) rd _ rfl).mono ?_
    rintro e w' ⟨G, K, rfl, hG, _, _, _, wr, hb'⟩
    exact ⟨_, _, by rw [k], wr, fun g o e => (by cases e; exact hG), hb'⟩
  · rw [if_neg k] at hS
    cases hS
    refine (at_bad h v c y x ao m cap N w hmc hcap rd k).mono ?_
    rintro e w' ⟨rfl, hb⟩
    exact ⟨_, _, rfl, wr_nilK _ _, fun g o e => (by cases e), hb⟩
theorem rat_all (h v c y x : Int) (ao : Option Addr) (m cap N : Nat) (w : World) (rd : Wr w ao m N) (E n : Int) (k' P : Nat) (hE : atE h v c y x m N = E) (hS : aS h v c y x m N = (n, k', P)) :
    Calls Try.prog 58 #[cuv h v c ao m cap, .int .i64 y, .int .i64 x] w fun e w' => ∃ bo K, e = .returned (.tuple #[rv n bo k' K, .int .i64 E]) ∧ Wr w' bo k' P ∧ (∀ g o, bo = some ⟨g, o, none⟩ → w.heap.size ≤ g) ∧ Below w.heap.size w w' := by
  subst hE
  unfold aS at hS
  by_cases k : atE h v c y x m N = 0
  · obtain ⟨k0, hy, hx⟩ := atE_zero k
    obtain ⟨H, V, C, rfl, rfl, rfl, hH, hV, hC, hb, k1, hm, hp⟩ := cuk_zeroA k0
    obtain ⟨g, o, rfl⟩ := cuk_some hH.1 hV.1 hC.1 hm rd
    obtain ⟨y, rfl⟩ := Int.eq_ofNat_of_zero_le hy.1
    obtain ⟨x, rfl⟩ := Int.eq_ofNat_of_zero_le hx.1
    rw [if_pos k, Int.toNat_natCast, Int.toNat_natCast, Int.toNat_natCast, Int.toNat_natCast] at hS
    cases hS
    refine (rat_ok H V C g o m cap N _ y x w hH hV hC rfl hb k0 hm hp (by omega) (by omega) rd).mono ?_
    rintro e w' ⟨G, rfl, hG, row, hb'⟩
    exact ⟨_, _, by rw [k], Wr.row row (pl_lt N (nw C) _), fun g o e => (by cases e; exact hG), hb'⟩
  · rw [if_neg k] at hS
    cases hS
    by_cases k0 : cuk h v c m N = 0
    · obtain ⟨H, V, C, rfl, rfl, rfl, hH, hV, hC, hb, k1, hm, hp⟩ := cuk_zeroA k0
      have k2 : ¬ Sg.Inn H V C y x 0 := by
        intro k2
        apply k
        unfold atE Sg.ixE
        rw [if_pos k0, if_pos k1, if_pos k2]
      have e1 : atE H V C y x m N = 1 := by
        unfold atE Sg.ixE
        rw [if_pos k0, if_pos k1, if_neg k2]
      rw [e1]
      refine (rat_arg H V C y x ao m cap N w rd k0 ?_).mono ?_
      · unfold Sg.Inn at k2; omega
      · rintro e w' ⟨rfl, hb⟩
        exact ⟨_, _, rfl, wr_nilK _ _, fun g o e => (by cases e), hb⟩
    · have e1 : atE h v c y x m N = cuk h v c m N := by unfold atE; rw [if_neg k0]
      rw [e1]
      refine (rat_chk h v c y x ao m cap N w rd k0).mono ?_
      rintro e w' ⟨rfl, hb⟩
      exact ⟨_, _, rfl, wr_nilK _ _, fun g o e => (by cases e), hb⟩
theorem aS_le {h v c y x : Int} {m N : Nat} {n : Int} {k P : Nat} (hS : aS h v c y x m N = (n, k, P)) : k ≤ 16777216 := by
  unfold aS at hS
  by_cases k : atE h v c y x m N = 0
  · obtain ⟨H, V, C, rfl, rfl, rfl, _, _, hC, _⟩ := cuk_zeroA (atE_zero k).1
    rw [if_pos k, Int.toNat_natCast] at hS
    cases hS
    unfold nw; omega
  · rw [if_neg k] at hS; cases hS; omega
end Go.Proofs.Ytgmildjfikgkmaa

namespace Go.Proofs.Ytgmildjfikgkmaa
open Go.RowKit Go.Shelf

theorem Rs.belowK {w w' : World} {ao : Option Addr} {m : Nat} {f : Nat → Value} (h : Rs w ao m f) (hb : Below w.heap.size w w') : Rs w' ao m f := fun k hk => by
  obtain ⟨g, o, e, c⟩ := h k hk
  exact ⟨g, o, e, keepc hb c⟩
theorem kpQ {Z Y : World} {b t : Nat} {h v c : Int} {xo : Option Addr} {m xc : Nat} (q : Z.rowIs b t 4 (cf h v c xo m xc)) (hB : Below Z.heap.size Z Y) :
    Y.cell? ⟨b, 0, none⟩ = some (.int .i64 h) ∧ Y.cell? ⟨b, 1, none⟩ = some (.int .i64 v) ∧ Y.cell? ⟨b, 2, none⟩ = some (.int .i64 c) ∧ Y.cell? ⟨b, 3, none⟩ = some (.slice xo m xc) :=
  ⟨cf0 (keepr hB q), cf1 (keepr hB q), cf2 (keepr hB q), cf3 (keepr hB q)⟩
theorem kpR {Z Y : World} {ba bb bM b t1 t2 t3 t4 : Nat} {n : Int} {ao bo : Option Addr} {kk ak bk : Nat} {h v c : Int} {mo xo : Option Addr} {m mc xc : Nat} (qa : Z.rowIs ba t1 2 (sf n ao kk ak)) (qb : Z.rowIs bb t2 2 (sf n bo kk bk)) (qm : Z.rowIs bM t3 4 (cf h v c mo m mc)) (q : Z.rowIs b t4 4 (cf h v c xo m xc)) (hB : Below Z.heap.size Z Y) :
    (Y.cell? ⟨ba, 0, none⟩ = some (.int .i64 n) ∧ Y.cell? ⟨ba, 1, none⟩ = some (.slice ao kk ak)) ∧ (Y.cell? ⟨bb, 0, none⟩ = some (.int .i64 n) ∧ Y.cell? ⟨bb, 1, none⟩ = some (.slice bo kk bk)) ∧ (Y.cell? ⟨bM, 0, none⟩ = some (.int .i64 h) ∧ Y.cell? ⟨bM, 1, none⟩ = some (.int .i64 v) ∧ Y.cell? ⟨bM, 2, none⟩ = some (.int .i64 c) ∧ Y.cell? ⟨bM, 3, none⟩ = some (.slice mo m mc)) ∧ (Y.cell? ⟨b, 0, none⟩ = some (.int .i64 h) ∧ Y.cell? ⟨b, 1, none⟩ = some (.int .i64 v) ∧ Y.cell? ⟨b, 2, none⟩ = some (.int .i64 c) ∧ Y.cell? ⟨b, 3, none⟩ = some (.slice xo m xc)) :=
  ⟨⟨sf_len (keepr hB qa), sf_ws (keepr hB qa)⟩, ⟨sf_len (keepr hB qb), sf_ws (keepr hB qb)⟩, kpQ qm hB, kpQ q hB⟩
theorem wr_putK {w : World} {bo : Option Addr} {m N b : Nat} (h : Wr w bo m N) (hb : ∀ g o, bo = some ⟨g, o, none⟩ → g ≠ b) (k : Nat) (u : Value) : Wr (w.setCell ⟨b, k, none⟩ u) bo m N :=
  ⟨h.1, fun j hj => by
    obtain ⟨g, o, e, c⟩ := h.2 j hj
    exact ⟨g, o, e, ((But.refl b w).set u).cell (hb g o e) c⟩⟩
theorem kpS {Z Y : World} {b t g1 o1 g2 o2 : Nat} {h v c : Int} {xo : Option Addr} {m xc : Nat} {a d : Int} (q : Z.rowIs b t 4 (cf h v c xo m xc)) (k1 : Z.cell? ⟨g1, o1, none⟩ = some (.int .i64 a)) (k2 : Z.cell? ⟨g2, o2, none⟩ = some (.int .i64 d)) (hB : Below Z.heap.size Z Y) :
    (Y.cell? ⟨b, 0, none⟩ = some (.int .i64 h) ∧ Y.cell? ⟨b, 1, none⟩ = some (.int .i64 v) ∧ Y.cell? ⟨b, 2, none⟩ = some (.int .i64 c) ∧ Y.cell? ⟨b, 3, none⟩ = some (.slice xo m xc)) ∧ Y.cell? ⟨g1, o1, none⟩ = some (.int .i64 a) ∧ Y.cell? ⟨g2, o2, none⟩ = some (.int .i64 d) :=
  ⟨kpQ q hB, keepc hB k1, keepc hB k2⟩
theorem cu_start (w : World) (h v c : Int) (ao : Option Addr) (m cap : Nat) : ∃ W, (w.alloc (.cells #[.int .i64 h, .int .i64 v, .int .i64 c, .slice ao m cap] 33)) = W ∧
    W.heap.size = w.heap.size + 1 ∧ Below w.heap.size w W ∧ W.rowIs w.heap.size 33 4 (cf h v c ao m cap) :=
  ⟨_, rfl, by simp, bl_alloc (Below.refl _ _) _, cu_new w _ _ _ _ _ _ _⟩
set_option maxHeartbeats 3200000 in
set_option maxRecDepth 100000 in
theorem asked_any (h v c : Int) (xo : Option Addr) (m xc N : Nat) (yo zo : Option Addr) (L ca M cb : Nat) (fy fx : Nat → Int) (w : World) (hm : m ≤ 17592186043904) (hL : L ≤ 9223372036854775807) (hM : M ≤ 9223372036854775807) (rd : Wr w xo m N) (ry : Rs w yo L (fun k => .int .i64 (fy k))) (rx : Rs w zo M (fun k => .int .i64 (fx k))) :
    Calls Try.prog 27 #[cuv h v c xo m xc, .slice yo L ca, .slice zo M cb] w fun e w' => e = .returned (.bool true) ∧ Below w.heap.size w w' := by
  obtain ⟨W, eW, z0, B0, q0⟩ := cu_start w h v c xo m xc
  have HRD := hid1 rd
  have HRY := hid1 ry
  have HRX := hid1 rx
  clear rd ry rx
  have e0 := cf0 q0
  have e1 := cf1 q0
  have e2 := cf2 q0
  have e3 := cf3 q0
  have HQ0 := hid1 q0
  have HB0 := hid1 B0
  clear q0 B0
  have hfo := follows
  go_enter Try.func27, Try.ntmps27
  go_upto_region 1 with fail
  have lw : w.heap.size < W.heap.size := by omega
  clear z0 eW
  go_cut [7] from 21 to 125 (fun s7 wx => ∃ G bM, s7 = .pointer (some ⟨bM, 0, none⟩) ∧ wx.rowIs G 75 (m + 66) (rmf N m) ∧ wx.rowIs bM 33 4 (cf h v c (some ⟨G, 0, none⟩) m (m + 66)) ∧ Below W.heap.size W wx)
  case first =>
    go_region_held3 (fun Y => Y.cell? ⟨w.heap.size, 0, none⟩ = some (.int .i64 h) ∧ Y.cell? ⟨w.heap.size, 1, none⟩ = some (.int .i64 v) ∧ Y.cell? ⟨w.heap.size, 2, none⟩ = some (.int .i64 c) ∧ Y.cell? ⟨w.heap.size, 3, none⟩ = some (.slice xo m xc))
      (((try dsimp only); (with_reducible refine kpQ (Z := W) HQ0.out ?_); repeat (first | (with_reducible exact Below.refl _ _) | (with_reducible assumption) | (with_reducible refine Below.drew ?_) | (with_reducible refine bl_alloc ?_ _) | (with_reducible refine bl_set ?_ (Nat.le_refl _) _))))
      ((go_at_call 24; refine (roomy_any m N xo xc _ hm ((HRD.out.below HB0.out).below (by repeat (first | (with_reducible exact Below.refl _ _) | (with_reducible refine Below.drew ?_) | (with_reducible refine bl_alloc ?_ _))))).mono ?_; rintro e y1 ⟨G, rfl, hG, hrow, hb⟩; have HRW := hid1 hrow; have HBB := hid1 hb; have by1 : Below W.heap.size W y1 := (by first | exact bl_step (Below.refl _ _).drew hb | exact bl_step (bl_alloc (Below.refl _ _) _).drew hb); have zG := hG; (try (have VR := keepr HBB.out (cu_new W 0 0 0 none 0 0 33).drew; have v0 := cf0 VR; have v1 := cf1 VR; have v2 := cf2 VR; have v3 := cf3 VR; have f0 := VR.frozen 0; have f1 := VR.frozen 1; have f2 := VR.frozen 2; have f3 := VR.frozen 3; have HVR := hid1 VR; clear VR)); clear hrow hb hG))
    all_goals (refine kmeet_of (by assumption) ?_; go_meet)
    · exact ⟨G, y1.heap.size, rfl, HRW.out.alloc _, cu_new _ _ _ _ _ _ _ _, bl_alloc by1 _⟩
    · have zG' : W.heap.size + 1 ≤ G := by simpa using zG
      have hne : G ≠ W.heap.size := by omega
      exact ⟨G, W.heap.size, rfl, (((HRW.out.setOther (a := ⟨W.heap.size, 0, none⟩) hne _).setOther (a := ⟨W.heap.size, 1, none⟩) hne _).setOther (a := ⟨W.heap.size, 2, none⟩) hne _).setOther (a := ⟨W.heap.size, 3, none⟩) hne _, cf_set HVR.out h v c (some ⟨G, 0, none⟩) m (m + 66), bl_set (bl_set (bl_set (bl_set by1 (Nat.le_refl _) _) (Nat.le_refl _) _) (Nat.le_refl _) _) (Nat.le_refl _) _⟩
  case rest =>
    obtain ⟨G, bM, rfl, RG, RM, Bc⟩ := hcut
    have RC := keepr Bc HQ0.out
    have WX := (HRD.out.below HB0.out).below Bc
    have B2 := bl_step HB0.out Bc
    clear HRD HQ0 HB0 Bc e0 e1 e2 e3
    obtain ⟨T, hT⟩ : ∃ T, uT h v c m N = T := ⟨_, rfl⟩
    obtain ⟨n, kk, P, hS⟩ : ∃ n kk P, fS h v c m N = (n, kk, P) := ⟨_, _, _, rfl⟩
    obtain ⟨E, hE⟩ : ∃ E, cuk h v c m N = E := ⟨_, rfl⟩
    have hTl : T ≤ 16777216 := by rw [← hT]; exact uT_le _ _ _ _ _
    have hkk := fS_le hS
    have HU := hid1 (fun g W r => unpack_all h v c (some ⟨g, 0, none⟩) m (m + 66) N W (by omega) (by omega) r E T hE hT)
    have HRU := hid1 (fun W r => runpack_all h v c xo m xc N W r E T hE hT)
    have HF := hid1 (fun g W r => flat_all h v c (some ⟨g, 0, none⟩) m (m + 66) N W (by omega) (by omega) r E n kk P hE hS)
    have HRF := hid1 (fun W r => rflat_all h v c xo m xc N W r E n kk P hE hS)
    have HC := hid1 (fun g W (r : Wr W (some ⟨g, 0, none⟩) m N) => ccheck_any h v c (some ⟨g, 0, none⟩) m (m + 66) N W (by omega) (by omega) r)
    have HRC := hid1 (fun W (r : Wr W xo m N) => rccheck_any h v c xo m xc N W r)
    rw [hE] at HC HRC
    clear hS hE hT
    have q0 := cf0 RM
    have q1 := cf1 RM
    have q2 := cf2 RM
    have q3 := cf3 RM
    have HWX := hid1 WX
    have HRG := hid1 RG
    have HRC' := hid1 RC
    have HB2 := hid1 B2
    have HRM := hid1 RM
    clear WX RG RC B2 RM
    go_wp2_with fail
    refine (HU.out G wc (rm_wr HRG.out HWX.out.1)).mono ?_
    rintro e w3 ⟨lo, lk, rfl, rl, hb⟩
    replace HRG := hid1 (keepr hb HRG.out)
    replace HRM := hid1 (keepr hb HRM.out)
    replace HRC' := hid1 (keepr hb HRC'.out)
    replace HWX := hid1 (HWX.out.below hb)
    replace HB2 := hid1 (bl_step HB2.out hb)
    clear hb q0 q1 q2 q3 HU
    have q0 := cf0 HRC'.out
    have q1 := cf1 HRC'.out
    have q2 := cf2 HRC'.out
    have q3 := cf3 HRC'.out
    go_wp2_with fail
    refine (HRU.out w3 HWX.out).mono ?_
    rintro e w4 ⟨lo2, lk2, rfl, rl2, hb⟩
    replace HRG := hid1 (keepr hb HRG.out)
    replace HRM := hid1 (keepr hb HRM.out)
    replace HRC' := hid1 (keepr hb HRC'.out)
    replace HWX := hid1 (HWX.out.below hb)
    replace HB2 := hid1 (bl_step HB2.out hb)
    replace rl := rl.belowK hb
    clear hb q0 q1 q2 q3 HRU
    have q0 := cf0 HRM.out
    have q1 := cf1 HRM.out
    have q2 := cf2 HRM.out
    have q3 := cf3 HRM.out
    have H1 := hid1 rl
    have H2 := hid1 rl2
    clear rl rl2
    go_wp2_with fail
    refine (HF.out G w4 (rm_wr HRG.out HWX.out.1)).mono ?_
    rintro e w5 ⟨ao, ak, rfl, WA, hb⟩
    replace HRG := hid1 (keepr hb HRG.out)
    replace HRM := hid1 (keepr hb HRM.out)
    replace HRC' := hid1 (keepr hb HRC'.out)
    replace HWX := hid1 (HWX.out.below hb)
    replace HB2 := hid1 (bl_step HB2.out hb)
    replace H1 := hid1 (H1.out.belowK hb)
    replace H2 := hid1 (H2.out.belowK hb)
    clear hb q0 q1 q2 q3 HF
    have q0 := cf0 HRC'.out
    have q1 := cf1 HRC'.out
    have q2 := cf2 HRC'.out
    have q3 := cf3 HRC'.out
    have lc := HRC'.out.lt
    have HWA := hid1 WA
    clear WA
    go_wp2_with fail
    refine gen_calls (fun Y => Y.rowIs w5.heap.size 26 2 (sf n ao kk ak) ∧ Wr Y ao kk P ∧ Rs Y lo T (fun k => .int .i8 (uv N c.toNat k)) ∧ Rs Y lo2 T (fun k => .int .i8 (uv N c.toNat k)) ∧ Y.rowIs G 75 (m + 66) (rmf N m) ∧ Y.rowIs bM 33 4 (cf h v c (some ⟨G, 0, none⟩) m (m + 66)) ∧ Y.rowIs w.heap.size 33 4 (cf h v c xo m xc) ∧ Wr Y xo m N ∧ Below w.heap.size w Y) ⟨row_new _ _ _ _ _ _, HWA.out.below (bl_alloc (Below.refl _ _) _), H1.out.belowK (bl_alloc (Below.refl _ _) _), H2.out.belowK (bl_alloc (Below.refl _ _) _), HRG.out.alloc _, HRM.out.alloc _, HRC'.out.alloc _, HWX.out.below (bl_alloc (Below.refl _ _) _), bl_alloc HB2.out _⟩ ?_
    clear HWA H1 H2 HRG HRM HRC' HWX HB2 q0 q1 q2 q3 lc
    rintro Y ⟨QA, WA, R1, R2, RG, RM, RC, WX, BY⟩
    refine (HRF.out Y WX).mono ?_
    rintro e w6 ⟨bo, bk, rfl, WB, hb⟩
    replace QA := keepr hb QA
    replace WA := WA.below hb
    replace R1 := R1.belowK hb
    replace R2 := R2.belowK hb
    replace RG := keepr hb RG
    replace RM := keepr hb RM
    replace RC := keepr hb RC
    replace WX := WX.below hb
    replace BY := bl_step BY hb
    clear hb HRF
    go_upto_region 6 with fail
    refine gen_world (fun Z => Z.rowIs w5.heap.size 26 2 (sf n ao kk ak) ∧ Z.rowIs w6.heap.size 26 2 (sf n bo kk bk) ∧ Wr Z ao kk P ∧ Wr Z bo kk P ∧ Rs Z lo T (fun k => .int .i8 (uv N c.toNat k)) ∧ Rs Z lo2 T (fun k => .int .i8 (uv N c.toNat k)) ∧ Z.rowIs G 75 (m + 66) (rmf N m) ∧ Z.rowIs bM 33 4 (cf h v c (some ⟨G, 0, none⟩) m (m + 66)) ∧ Z.rowIs w.heap.size 33 4 (cf h v c xo m xc) ∧ Wr Z xo m N ∧ Below w.heap.size w Z) ⟨QA.alloc _, row_new _ _ _ _ _ _, WA.below (bl_alloc (Below.refl _ _) _), WB.below (bl_alloc (Below.refl _ _) _), R1.belowK (bl_alloc (Below.refl _ _) _), R2.belowK (bl_alloc (Below.refl _ _) _), RG.alloc _, RM.alloc _, RC.alloc _, WX.below (bl_alloc (Below.refl _ _) _), bl_alloc BY _⟩ ?_
    clear QA WA WB R1 R2 RG RM RC WX BY
    rintro Z ⟨QA, QB, WA, WB, R1, R2, RG, RM, RC, WX, BZ⟩
    have HQA := hid1 QA
    have HQB := hid1 QB
    have HWA := hid1 WA
    have HWB := hid1 WB
    have H1 := hid1 R1
    have H2 := hid1 R2
    have HRG := hid1 RG
    have HRM := hid1 RM
    have HRC' := hid1 RC
    have HWX := hid1 WX
    have HBZ := hid1 BZ
    clear QA QB WA WB R1 R2 RG RM RC WX BZ
    have HhT : Hid (T ≤ 9223372036854775807) := hid1 (by omega)
    have Hhk : Hid (kk ≤ 9223372036854775807) := hid1 (by omega)
    go_region_held3 (fun Y => (Y.cell? ⟨w5.heap.size, 0, none⟩ = some (.int .i64 n) ∧ Y.cell? ⟨w5.heap.size, 1, none⟩ = some (.slice ao kk ak)) ∧ (Y.cell? ⟨w6.heap.size, 0, none⟩ = some (.int .i64 n) ∧ Y.cell? ⟨w6.heap.size, 1, none⟩ = some (.slice bo kk bk)) ∧ (Y.cell? ⟨bM, 0, none⟩ = some (.int .i64 h) ∧ Y.cell? ⟨bM, 1, none⟩ = some (.int .i64 v) ∧ Y.cell? ⟨bM, 2, none⟩ = some (.int .i64 c) ∧ Y.cell? ⟨bM, 3, none⟩ = some (.slice (some ⟨G, 0, none⟩) m (m + 66))) ∧ (Y.cell? ⟨w.heap.size, 0, none⟩ = some (.int .i64 h) ∧ Y.cell? ⟨w.heap.size, 1, none⟩ = some (.int .i64 v) ∧ Y.cell? ⟨w.heap.size, 2, none⟩ = some (.int .i64 c) ∧ Y.cell? ⟨w.heap.size, 3, none⟩ = some (.slice xo m xc)))
      (((try dsimp only); (with_reducible refine kpR (Z := Z) HQA.out HQB.out HRM.out HRC'.out ?_); repeat (first | (with_reducible exact Below.refl _ _) | (with_reducible assumption) | (with_reducible refine Below.drew ?_))))
      (first
      | (go_at_call 57; refine (HRC.out _ (HWX.out.below by3)).mono ?_; rintro e y4 ⟨rfl, hb4⟩; have by4 : Below Z.heap.size Z y4 := bl_step by3 hb4; clear hb4)
      | (go_at_call 22; refine (HC.out G _ (rm_wr (keepr by2 HRG.out) HWX.out.1)).mono ?_; rintro e y3 ⟨rfl, hb3⟩; have by3 : Below Z.heap.size Z y3 := bl_step by2 hb3; clear hb3)
      | (go_at_call 15; refine (rows_same n kk P ao bo ak bk _ Hhk.out (HWA.out.below by1) (HWB.out.below by1)).mono ?_; rintro e y2 ⟨rfl, hb2⟩; have by2 : Below Z.heap.size Z y2 := bl_step by1 hb2; clear hb2)
      | (go_at_call 34; refine (vals_same T (uv N c.toNat) lo lo2 lk lk2 _ HhT.out (H1.out.belowK (Below.refl _ _).drew) (H2.out.belowK (Below.refl _ _).drew)).mono ?_; rintro e y1 ⟨rfl, hb1⟩; have by1 : Below Z.heap.size Z y1 := bl_step (Below.refl _ _).drew hb1; clear hb1))
    replace HRG := hid1 (keepr by4 HRG.out)
    replace HRM := hid1 (keepr by4 HRM.out)
    replace HRC' := hid1 (keepr by4 HRC'.out)
    replace HWX := hid1 (HWX.out.below by4)
    replace HBZ := hid1 (bl_step HBZ.out by4)
    clear HQA HQB HWA HWB H1 H2 by1 by2 by3 by4 HC HRC
    go_wp2_with fail
    go_loopw [16] (fun i wr => ∃ k : Nat, k ≤ L ∧ k ≤ M ∧ i = .int .i64 k ∧ wr.rowIs G 75 (m + 66) (rmf N m) ∧ wr.rowIs bM 33 4 (cf h v c (some ⟨G, 0, none⟩) m (m + 66)) ∧ wr.rowIs w.heap.size 33 4 (cf h v c xo m xc) ∧ Wr wr xo m N ∧ Below w.heap.size w wr) (fun i _ => L - (intOf i).toNat)
    case atStart => exact ⟨0, Nat.zero_le _, Nat.zero_le _, rfl, HRG.out, HRM.out, HRC'.out, HWX.out, HBZ.out⟩
    case round =>
      clear HRG HRM HRC' HWX HBZ
      obtain ⟨k, hk, hk2, rfl, RG, RM, RC, WX, hnx⟩ := hrel
      have HRG := hid1 RG
      have HRM := hid1 RM
      have HRC' := hid1 RC
      have HWX := hid1 WX
      have HNX := hid1 hnx
      have ik0 : (0 : Int) ≤ (k : Int) := by omega
      by_cases hb2 : k < L ∧ k < M
      · obtain ⟨hlt, hlm⟩ := hb2
        have ik : (k : Int) < (L : Nat) := by omega
        have ikm : (k : Int) < (M : Nat) := by omega
        obtain ⟨gy, oy, rfl, cy⟩ := (HRY.out.belowK hnx) k hlt
        obtain ⟨gx, ox, rfl, cx⟩ := (HRX.out.belowK hnx) k hlm
        clear RG RM RC WX hnx
        have HCY := hid1 cy
        have HCX := hid1 cx
        have lgy := lt_of_cell cy
        have lgx := lt_of_cell cx
        obtain ⟨n2, k2, P2, hS2⟩ : ∃ n2 k2 P2, aS h v c (fy k) (fx k) m N = (n2, k2, P2) := ⟨_, _, _, rfl⟩
        obtain ⟨E2, hE2⟩ : ∃ E2, atE h v c (fy k) (fx k) m N = E2 := ⟨_, rfl⟩
        have hk22 := aS_le hS2
        have HA1 := hid1 (fun W r => at_all h v c (fy k) (fx k) (some ⟨G, 0, none⟩) m (m + 66) N W (by omega) (by omega) r E2 n2 k2 P2 hE2 hS2)
        have HA2 := hid1 (fun W r => rat_all h v c (fy k) (fx k) xo m xc N W r E2 n2 k2 P2 hE2 hS2)
        clear hS2 hE2
        have q0 := cf0 HRM.out
        have q1 := cf1 HRM.out
        have q2 := cf2 HRM.out
        have q3 := cf3 HRM.out
        go_upto_region 11 with fail
        go_cut [17, 18] from 74 to 120 (fun s1 s2 wx => ∃ bB bo2 K2, s1 = .pointer (some ⟨bB, 0, none⟩) ∧ s2 = .int .i64 E2 ∧ wx.rowIs bB 26 2 (sf n2 bo2 k2 K2) ∧ Wr wx bo2 k2 P2 ∧ Below wr.heap.size wr wx)
        case first =>
          go_region_held3 (fun Y => (Y.cell? ⟨bM, 0, none⟩ = some (.int .i64 h) ∧ Y.cell? ⟨bM, 1, none⟩ = some (.int .i64 v) ∧ Y.cell? ⟨bM, 2, none⟩ = some (.int .i64 c) ∧ Y.cell? ⟨bM, 3, none⟩ = some (.slice (some ⟨G, 0, none⟩) m (m + 66))) ∧ Y.cell? ⟨gy, oy + k, none⟩ = some (.int .i64 (fy k)) ∧ Y.cell? ⟨gx, ox + k, none⟩ = some (.int .i64 (fx k)))
            (((try dsimp only); (with_reducible refine kpS (Z := wr) HRM.out HCY.out HCX.out ?_); repeat (first | (with_reducible exact Below.refl _ _) | (with_reducible assumption) | (with_reducible refine Below.drew ?_) | (with_reducible refine bl_alloc ?_ _) | (with_reducible refine bl_set ?_ (Nat.le_refl _) _))))
            ((go_at_call 14; refine (HA1.out _ (rm_wr (keepr (by repeat (first | (with_reducible exact Below.refl _ _) | (with_reducible refine Below.drew ?_) | (with_reducible refine bl_alloc ?_ _))) HRG.out) HWX.out.1)).mono ?_; rintro e y1 ⟨bo2, K2, rfl, wr2, hpl, hb⟩; have HWR := hid1 wr2; have by1 : Below wr.heap.size wr y1 := (by first | exact bl_step (Below.refl _ _).drew hb | exact bl_step (bl_alloc (Below.refl _ _) _).drew hb); (try (have VR := keepr hb (row_new wr 0 none 0 0 26).drew; have v0 := sf_len VR; have v1 := sf_ws VR; have f0 := VR.frozen 0; have f1 := VR.frozen 1; have HVR := hid1 VR; clear VR)); clear wr2 hb))
          all_goals (refine kmeet_of (by assumption) ?_; go_meet)
          · exact ⟨y1.heap.size, bo2, K2, rfl, rfl, row_new _ _ _ _ _ _, HWR.out.below (bl_alloc (Below.refl _ _) _), bl_alloc by1 _⟩
          · have hne : ∀ g o, bo2 = some ⟨g, o, none⟩ → g ≠ wr.heap.size := fun g o e => by
              have := hpl g o e
              simp at this
              omega
            exact ⟨wr.heap.size, bo2, K2, rfl, rfl, rs_set HVR.out n2 bo2 k2 K2, wr_putK (wr_putK HWR.out hne 0 _) hne 1 _, bl_set (bl_set by1 (Nat.le_refl _) _) (Nat.le_refl _) _⟩
        case rest =>
          obtain ⟨bA, ao2, KA, rfl, rfl, QA, WA, Bc⟩ := hcut
          replace HRG := hid1 (keepr Bc HRG.out)
          replace HRM := hid1 (keepr Bc HRM.out)
          replace HRC' := hid1 (keepr Bc HRC'.out)
          replace HWX := hid1 (HWX.out.below Bc)
          replace HCY := hid1 (keepc Bc HCY.out)
          replace HCX := hid1 (keepc Bc HCX.out)
          replace HNX := hid1 (bl_step HNX.out Bc)
          have HQA := hid1 QA
          have HWA := hid1 WA
          clear QA WA Bc q0 q1 q2 q3 cy cx lgy lgx HA1
          have q0 := cf0 HRC'.out
          have q1 := cf1 HRC'.out
          have q2 := cf2 HRC'.out
          have q3 := cf3 HRC'.out
          have cy := HCY.out
          have cx := HCX.out
          have lgy := lt_of_cell cy
          have lgx := lt_of_cell cx
          go_upto_region 12 with fail
          go_cut [19, 20] from 74 to 120 (fun s1 s2 wx => ∃ bB bo2 K2, s1 = .pointer (some ⟨bB, 0, none⟩) ∧ s2 = .int .i64 E2 ∧ wx.rowIs bB 26 2 (sf n2 bo2 k2 K2) ∧ Wr wx bo2 k2 P2 ∧ Below wc.heap.size wc wx)
          case first =>
            go_region_held3 (fun Y => (Y.cell? ⟨w.heap.size, 0, none⟩ = some (.int .i64 h) ∧ Y.cell? ⟨w.heap.size, 1, none⟩ = some (.int .i64 v) ∧ Y.cell? ⟨w.heap.size, 2, none⟩ = some (.int .i64 c) ∧ Y.cell? ⟨w.heap.size, 3, none⟩ = some (.slice xo m xc)) ∧ Y.cell? ⟨gy, oy + k, none⟩ = some (.int .i64 (fy k)) ∧ Y.cell? ⟨gx, ox + k, none⟩ = some (.int .i64 (fx k)))
              (((try dsimp only); (with_reducible refine kpS (Z := wc) HRC'.out HCY.out HCX.out ?_); repeat (first | (with_reducible exact Below.refl _ _) | (with_reducible assumption) | (with_reducible refine Below.drew ?_) | (with_reducible refine bl_alloc ?_ _) | (with_reducible refine bl_set ?_ (Nat.le_refl _) _))))
              ((go_at_call 58; refine (HA2.out _ (HWX.out.below (by repeat (first | (with_reducible exact Below.refl _ _) | (with_reducible refine Below.drew ?_) | (with_reducible refine bl_alloc ?_ _))))).mono ?_; rintro e y1 ⟨bo2, K2, rfl, wr2, hpl, hb⟩; have HWR := hid1 wr2; have by1 : Below wc.heap.size wc y1 := (by first | exact bl_step (Below.refl _ _).drew hb | exact bl_step (bl_alloc (Below.refl _ _) _).drew hb); (try (have VR := keepr hb (row_new wc 0 none 0 0 26).drew; have v0 := sf_len VR; have v1 := sf_ws VR; have f0 := VR.frozen 0; have f1 := VR.frozen 1; have HVR := hid1 VR; clear VR)); clear wr2 hb))
            all_goals (refine kmeet_of (by assumption) ?_; go_meet)
            · exact ⟨y1.heap.size, bo2, K2, rfl, rfl, row_new _ _ _ _ _ _, HWR.out.below (bl_alloc (Below.refl _ _) _), bl_alloc by1 _⟩
            · have hne : ∀ g o, bo2 = some ⟨g, o, none⟩ → g ≠ wc.heap.size := fun g o e => by
                have := hpl g o e
                simp at this
                omega
              exact ⟨wc.heap.size, bo2, K2, rfl, rfl, rs_set HVR.out n2 bo2 k2 K2, wr_putK (wr_putK HWR.out hne 0 _) hne 1 _, bl_set (bl_set by1 (Nat.le_refl _) _) (Nat.le_refl _) _⟩
          case rest =>
            obtain ⟨bB, bo2, KB, rfl, rfl, QB, WB, Bc⟩ := hcut
            replace HRG := hid1 (keepr Bc HRG.out)
            replace HRM := hid1 (keepr Bc HRM.out)
            replace HRC' := hid1 (keepr Bc HRC'.out)
            replace HWX := hid1 (HWX.out.below Bc)
            replace HNX := hid1 (bl_step HNX.out Bc)
            replace HQA := hid1 (keepr Bc HQA.out)
            replace HWA := hid1 (HWA.out.below Bc)
            clear Bc q0 q1 q2 q3 cy cx lgy lgx HA2 HCY HCX
            have q0 := sf_len HQA.out
            have q1 := sf_ws HQA.out
            have q2 := sf_len QB
            have q3 := sf_ws QB
            go_wp2_with fail
            refine (rows_same n2 k2 P2 _ _ _ _ _ (by omega) HWA.out WB).mono ?_
            rintro e w9 ⟨rfl, hb⟩
            have RG := keepr hb HRG.out
            have RM := keepr hb HRM.out
            have RC := keepr hb HRC'.out
            have WX := HWX.out.below hb
            have BZ := bl_step HNX.out hb
            clear hb q0 q1 q2 q3 QB WB HQA HWA HRG HRM HRC' HWX HNX
            go_wp2_with fail
            exact ⟨⟨k + 1, by omega, by omega, by go_num, RG, RM, RC, WX, BZ⟩, by simp [intOf]; omega⟩
      · have q3 := cf3 RM
        have p3 := cf3 RC
        clear RG RM RC WX hnx HRM HRC' HRY HRX
        by_cases hkL : k = L
        · subst hkL
          go_wp2_with fail
          refine (kept_true m N G xo xc wr hm HRG.out HWX.out).mono ?_
          rintro e w9 ⟨rfl, hb⟩
          have BZ := bl_step HNX.out hb
          go_wp2_with fail
          go_ret
          exact ⟨rfl, BZ⟩
        · have hkM : k = M := by omega
          have ik : (k : Int) < (L : Nat) := by omega
          clear hkL
          subst hkM
          go_wp2_with fail
          refine (kept_true m N G xo xc wr hm HRG.out HWX.out).mono ?_
          rintro e w9 ⟨rfl, hb⟩
          have BZ := bl_step HNX.out hb
          go_wp2_with fail
          go_ret
          exact ⟨rfl, BZ⟩
end Go.Proofs.Ytgmildjfikgkmaa

namespace Go.Proofs.Ytgmildjfikgkmaa
open Go.RowKit Go.Shelf

/-- A list of cubes in memory. -/
def Lq (w : World) (ao : Option Addr) (L : Nat) : Prop := ∀ i, i < L → ∃ g o h v c xo m xc N, ao = some ⟨g, o, none⟩ ∧ (w.cell? ⟨g, o + i * 4, none⟩ = some (.int .i64 h) ∧ w.cell? ⟨g, o + i * 4 + 1, none⟩ = some (.int .i64 v) ∧ w.cell? ⟨g, o + i * 4 + 2, none⟩ = some (.int .i64 c) ∧ w.cell? ⟨g, o + i * 4 + 3, none⟩ = some (.slice xo m xc)) ∧ Wr w xo m N ∧ m ≤ 17592186043904
theorem Lq.below {W X : World} {ao : Option Addr} {L : Nat} (h : Lq W ao L) (hb : Below W.heap.size W X) : Lq X ao L := fun i hi => by
  obtain ⟨g, o, hh, v, c, xo, m, xc, N, e, ⟨a, b, d, f⟩, wr, hm⟩ := h i hi
  exact ⟨g, o, hh, v, c, xo, m, xc, N, e, ⟨keepc hb a, keepc hb b, keepc hb d, keepc hb f⟩, wr.below hb, hm⟩
theorem und_cubes : Try.prog.underlying 59 = some (.slice 33) := by kernel_rfl
set_option maxHeartbeats 1600000 in
set_option maxRecDepth 100000 in
theorem cubeAsks_any (ao : Option Addr) (Q cq : Nat) (yo zo : Option Addr) (L ca M cb : Nat) (fy fx : Nat → Int) (w : World) (hQ : Q ≤ 9223372036854775807) (hL : L ≤ 9223372036854775807) (hM : M ≤ 9223372036854775807) (rd : Lq w ao Q) (ry : Rs w yo L (fun k => .int .i64 (fy k))) (rx : Rs w zo M (fun k => .int .i64 (fx k))) :
    Calls Try.prog 7 #[.slice ao Q cq, .slice yo L ca, .slice zo M cb] w fun e w' => e = .returned (.bool true) ∧ Below w.heap.size w w' := by
  have RD := hid1 rd
  have RY := hid1 ry
  have RX := hid1 rx
  clear rd ry rx
  go_enter Try.func7, Try.ntmps7
  go_wp2_with fail
  refine (cbegun_any w).mono ?_
  rintro e w1 ⟨rfl, B1⟩
  go_wp2_with fail
  go_loopw [7] (fun i wr => ∃ k : Nat, k ≤ Q ∧ i = .int .i64 k ∧ Below w.heap.size w wr) (fun i _ => Q - (intOf i).toNat)
  case atStart => exact ⟨0, Nat.zero_le _, rfl, B1⟩
  case round =>
    clear B1
    obtain ⟨k, hk, rfl, hnx⟩ := hrel
    by_cases hlt : k < Q
    · obtain ⟨g, o, h, v, c, xo, m, xc, N, rfl, ⟨c0, c1, c2, c3⟩, wx, hm⟩ := (RD.out.below hnx) k hlt
      have HA := hid1 (asked_any h v c xo m xc N yo zo L ca M cb fy fx wr hm hL hM wx (RY.out.belowK hnx) (RX.out.belowK hnx))
      have ik : (k : Int) < (Q : Nat) := by omega
      have ik0 : (0 : Int) ≤ (k : Int) := by omega
      clear wx
      go_wp2_with fail
      refine HA.out.mono ?_
      rintro e w2 ⟨rfl, hb⟩
      have B2 := bl_step hnx hb
      clear hb hnx c0 c1 c2 c3 HA
      go_wp2_with fail
      exact ⟨⟨k + 1, by omega, by go_num, B2⟩, by simp [intOf]; omega⟩
    · have hkQ : k = Q := by omega
      subst hkQ
      go_wp2_with fail
      go_ret
      exact ⟨rfl, hnx⟩
end Go.Proofs.Ytgmildjfikgkmaa

namespace Go.Proofs.Ytgmildjfikgkmaa
open Go.ChangeShapes Go.WideShapes Go.ChangeAt Go.RowKit
set_option maxRecDepth 100000

theorem max_is : maxLen = 9223372036854775807 := by decide
theorem add_at (b o n : Nat) : Addr.add ⟨b, o, none⟩ n = ⟨b, o + n, none⟩ := by
  unfold Addr.add
  by_cases h : n = 0
  · subst h; rfl
  · rw [if_neg h]
theorem u64_of_wf {x : Int} (h : (Lit.int .u64 x).wf = true) : 0 ≤ x ∧ x < 18446744073709551616 := by
  simp [Lit.wf, IntKind.min, IntKind.max, IntKind.signed, IntKind.bits] at h
  exact ⟨by omega, by omega⟩
theorem cells_u64 : Try.prog.cellsOf 75 = 1 := by kernel_rfl
theorem cells_int : Try.prog.cellsOf 3 = 1 := by kernel_rfl
theorem cells_us : Try.prog.cellsOf 24 = 1 := by kernel_rfl
theorem bytes_u64 : Try.prog.bytesOf 75 = 8 := by kernel_rfl
theorem num_gen (B : Nat) (hB : 0 < B) (f : Nat → Nat) : ∀ m, (∀ k, k < m → f k < B) → ∃ N, N < B ^ m ∧ ∀ k, k < m → N / B ^ k % B = f k
  | 0, _ => ⟨0, by simp, fun k hk => absurd hk (by omega)⟩
  | m + 1, h => by
    obtain ⟨N, h1, h2⟩ := num_gen B hB f m fun k hk => h k (by omega)
    have hm := h m (by omega)
    have hp : 0 < B ^ m := Nat.pow_pos hB
    refine ⟨N + B ^ m * f m, ?_, fun k hk => ?_⟩
    · have h3 : B ^ m * (f m + 1) ≤ B ^ m * B := Nat.mul_le_mul_left _ (by omega)
      rw [Nat.mul_add, Nat.mul_one] at h3
      rw [Nat.pow_succ]
      omega
    · by_cases hkm : k = m
      · subst hkm
        rw [Nat.add_mul_div_left _ _ hp, Nat.div_eq_of_lt h1, Nat.zero_add, Nat.mod_eq_of_lt hm]
      · have hlt : k < m := by omega
        obtain ⟨q, rfl⟩ : ∃ q, m = k + (q + 1) := ⟨m - k - 1, by omega⟩
        have e : B ^ (k + (q + 1)) * f (k + (q + 1)) = B ^ k * (B * (B ^ q * f (k + (q + 1)))) := by
          rw [Nat.pow_add, Nat.pow_succ, Nat.mul_comm (B ^ q) B]
          simp only [Nat.mul_assoc]
        rw [e, Nat.add_mul_div_left _ _ (Nat.pow_pos hB), Nat.add_mul_mod_self_left]
        exact h2 k hlt
theorem num_of (f : Nat → Nat) (m : Nat) (h : ∀ k, k < m → f k < 18446744073709551616) : ∃ N, N < 2 ^ (64 * m) ∧ ∀ k, k < m → wd N k = f k := by
  obtain ⟨N, h1, h2⟩ := num_gen (2 ^ 64) (Nat.pow_pos (by decide)) f m (by rw [← two64]; exact h)
  refine ⟨N, by rw [Nat.pow_mul]; exact h1, fun k hk => ?_⟩
  have h3 := h2 k hk
  rw [← Nat.pow_mul, ← two64] at h3
  exact h3
theorem weightsAll_mem {H : Type} {P : Program} {e : TypeId} : ∀ {l : List (DataW H)} {d : DataW H}, d ∈ l → ∀ n ∈ d.weights P e, n ∈ DataW.weightsAll P e l
  | x :: l, d, hd, n, hn => by
    rw [DataW.weightsAll, List.mem_append]
    rcases List.mem_cons.mp hd with rfl | h
    · exact Or.inl hn
    · exact Or.inr (weightsAll_mem h n hn)
theorem fld {H : Type} {enc : TypeId × Value → H} {P : Program} {w : World} {base : Nat} {sp : Nat → Bool} {held : Bool} {t : TypeId} {fs : Array Field} {fuel : Nat} {cs : List Value} {x : DataW H × List MemPlace}
    (ht : P.underlying t = some (.struct fs)) (h : DataW.trod enc P w base sp held fuel t cs = some x) (i : Nat) (f : Field) (hi : fs[i]? = some f) :
    ∃ n y, DataW.trod enc P w base sp held n f.type ((cs.drop f.offset).take (P.cellsOf f.type)) = some y := by
  obtain ⟨xs, n, _, _, _, hxl, hf⟩ := DataW.trod_struct ht h
  have g := hf i f hi
  have hlt : i < xs.length := by
    rw [hxl]
    exact (Array.getElem?_eq_some_iff.1 hi).1
  rw [List.getElem?_eq_getElem hlt] at g
  exact ⟨n, _, g⟩
theorem fldI {H : Type} {enc : TypeId × Value → H} {P : Program} {w : World} {base : Nat} {sp : Nat → Bool} {held : Bool} {t : TypeId} {fs : Array Field} {fuel : Nat} {cs : List Value} {x : DataW H × List MemPlace}
    (ht : P.underlying t = some (.struct fs)) (h : DataW.trod enc P w base sp held fuel t cs = some x) (i : Nat) (f : Field) (hi : fs[i]? = some f) (hu : P.underlying f.type = some (.int .i64)) (hc : P.cellsOf f.type = 1) :
    ∃ z : Int, (cs.drop f.offset).take 1 = [.int .i64 z] := by
  obtain ⟨n, y, g⟩ := fld ht h i f hi
  rw [hc] at g
  obtain ⟨z, e, _⟩ := DataW.trod_int hu g
  exact ⟨z, e⟩
theorem cells_shp : Try.prog.cellsOf 31 = 3 := by kernel_rfl
theorem len3 {l : List Value} (h : l.length = 3) : ∃ a b c, l = [a, b, c] := by
  match l, h with
  | [a, b, c], _ => exact ⟨a, b, c, rfl⟩
theorem shape_cells {H : Type} {enc : TypeId × Value → H} {w : World} {base : Nat} {sp : Nat → Bool} {held : Bool} {fuel : Nat} {cs : List Value} {x : DataW H × List MemPlace}
    (h : DataW.trod enc Try.prog w base sp held fuel 31 cs = some x) : ∃ a b c : Int, cs = [.int .i64 a, .int .i64 b, .int .i64 c] := by
  have hl : cs.length = 3 := by
    obtain ⟨_, _, _, _, hlen, _, _⟩ := DataW.trod_struct Try.underlying31 h
    exact hlen.trans cells_shp
  obtain ⟨z0, e0⟩ := fldI Try.underlying31 h 0 _ rfl Try.underlying3 cells_int
  obtain ⟨z1, e1⟩ := fldI Try.underlying31 h 1 _ rfl Try.underlying3 cells_int
  obtain ⟨z2, e2⟩ := fldI Try.underlying31 h 2 _ rfl Try.underlying3 cells_int
  obtain ⟨a, b, c, rfl⟩ := len3 hl
  simp at e0 e1 e2
  subst e0 e1 e2
  exact ⟨z0, z1, z2, rfl⟩
theorem open_list {H : Type} {enc : TypeId × Value → H} {W : World} {base : Nat} {t e : TypeId} {N : Nat} {v : Value} {d : DataW H} {p : List MemPlace} (ht : Try.prog.underlying t = some (.slice e)) (hN : Try.prog.cellsOf e = N) (hpos : 0 < N)
    (hv : Value.okWide Try.prog W .any base t v) (h : DataW.Trod enc Try.prog W 0 (fun _ => true) true t v d p) :
    ∃ (ao : Option Addr) (m cap : Nat), v = .slice ao m cap ∧ m ≤ 9223372036854775807 ∧ ∀ k, k < m → ∃ (g o n : Nat) (cs : List Value) (y : DataW H × List MemPlace), ao = some ⟨g, o, none⟩ ∧ DataW.trod enc Try.prog W 0 (fun _ => true) true n e cs = some y ∧ cs.length = N ∧
      ∀ j, j < N → W.cell? ⟨g, o + k * N + j, none⟩ = cs[j]? := by
  obtain ⟨a0, len, cap, rfl⟩ := okWide_slice ht hv
  obtain ⟨fuel, hf⟩ := h
  rcases Deep.open_slice ht hf with ⟨hc, hx⟩ | ⟨a, len', cap', mm, n, D, Pl, hc, _, hl, hm, hmm, hx, hcell⟩
  · simp [Value.cells] at hc
    obtain ⟨rfl, rfl, rfl⟩ := hc
    exact ⟨none, 0, 0, rfl, by omega, fun k hk => absurd hk (by omega)⟩
  · simp [Value.cells] at hc
    obtain ⟨rfl, rfl, rfl⟩ := hc
    simp only [if_true] at hmm
    refine ⟨some a, len, cap, rfl, by have := max_is; omega, fun k hk => ?_⟩
    obtain ⟨b, o, s⟩ := a
    obtain rfl : s = none := by
      obtain ⟨cs0, h0, _⟩ := hcell 0 (by omega)
      rw [hN] at h0
      obtain ⟨_, hlen, hc0⟩ := World.cells?_some h0
      have e0 := hc0 0 hpos
      rw [Deep.add_add, List.getElem?_eq_getElem (by omega)] at e0
      have := World.cell?_spot e0
      simpa [Addr.add] using this
    obtain ⟨cs, h1, h2⟩ := hcell k (by omega)
    rw [hN] at h1
    obtain ⟨_, hlen, hc1⟩ := World.cells?_some h1
    refine ⟨b, o, n, cs, _, rfl, h2, hlen, fun j hj => ?_⟩
    have := hc1 j hj
    rw [Deep.add_add, add_at, ← Nat.add_assoc] at this
    exact this
section
variable {H : Type} {enc : TypeId × Value → H} {W : World} {fuel : Nat} {cs : List Value} {x : DataW H × List MemPlace}
theorem open_words (h : DataW.trod enc Try.prog W 0 (fun _ => true) true fuel 24 cs = some x) :
    ∃ (ao : Option Addr) (m cap N : Nat), cs = [.slice ao m cap] ∧ m ≤ cap ∧ cap ≤ 9223372036854775807 ∧ N < 2 ^ (64 * m) ∧ ∀ k, k < m → ∃ g o, ao = some ⟨g, o, none⟩ ∧ W.cell? ⟨g, o + k, none⟩ = some (wf N k) := by
  rcases open_ints und_u64s Try.underlying75 cells_u64 h with ⟨hc, hx⟩ | ⟨a, len, cap, zs, hc, _, hl, hm, hzl, hx, hcell, hwf⟩
  · exact ⟨none, 0, 0, 0, hc, by omega, by omega, by simp, fun k hk => absurd hk (by omega)⟩
  · simp only [if_true] at hzl
    have hmx := max_is
    have hr : ∀ k, k < len → 0 ≤ zs.getD k 0 ∧ zs.getD k 0 < 18446744073709551616 := fun k hk => by
      have hk2 : k < zs.length := by omega
      have e : zs.getD k 0 = zs[k] := by simp [List.getD, hk2]
      rw [e]
      exact u64_of_wf (hwf _ (List.getElem_mem hk2))
    obtain ⟨N, hN, hNk⟩ := num_of (fun k => (zs.getD k 0).toNat) len fun k hk => by have := hr k hk; omega
    obtain ⟨b, o, s⟩ := a
    have at_ : ∀ k, k < len → s = none ∧ W.cell? ⟨b, o + k, none⟩ = some (wf N k) := fun k hk => by
      have c := hcell k (by omega)
      have c0 := hcell 0 (by omega)
      have hs := World.cell?_spot c0
      simp [Addr.add] at hs
      subst hs
      rw [add_at] at c
      refine ⟨rfl, ?_⟩
      rw [c]
      unfold wf
      rw [hNk k hk]
      have := hr k hk
      congr 2
      omega
    refine ⟨some ⟨b, o, s⟩, len, cap, N, hc, hl, by omega, hN, fun k hk => ?_⟩
    obtain ⟨rfl, c⟩ := at_ k hk
    exact ⟨b, o, rfl, c⟩
theorem fldZ {t : TypeId} {fs : Array Field} (ht : Try.prog.underlying t = some (.struct fs)) (h : DataW.trod enc Try.prog W 0 (fun _ => true) true fuel t cs = some x) (hz : ∀ n ∈ x.1.weights Try.prog t, n ≤ reachBytes) (i : Nat) (f : Field) (hi : fs[i]? = some f) :
    ∃ n y, DataW.trod enc Try.prog W 0 (fun _ => true) true n f.type ((cs.drop f.offset).take (Try.prog.cellsOf f.type)) = some y ∧ ∀ m ∈ y.1.weights Try.prog f.type, m ≤ reachBytes := by
  obtain ⟨xs, n, _, ex, _, hxl, hf⟩ := DataW.trod_struct ht h
  have g := hf i f hi
  have hlt : i < xs.length := by
    rw [hxl]
    exact (Array.getElem?_eq_some_iff.1 hi).1
  rw [List.getElem?_eq_getElem hlt] at g
  refine ⟨n, _, g, fun m hm => hz m ?_⟩
  rw [ex]
  simp only [DataW.weights, ht]
  refine DataW.weights_mem_each (j := i) (t := f.type) (d := xs[i].1) ?_ ?_ _ hm
  · simp [hi]
  · rw [List.getElem?_map, List.getElem?_eq_getElem hlt]
    rfl
theorem open_wordsZ (h : DataW.trod enc Try.prog W 0 (fun _ => true) true fuel 24 cs = some x) (hz : ∀ n ∈ x.1.weights Try.prog 24, n ≤ reachBytes) :
    ∃ (ao : Option Addr) (m cap N : Nat), cs = [.slice ao m cap] ∧ (ao = none → cap = 0) ∧ m ≤ 17592186043904 ∧ N < 2 ^ (64 * m) ∧ ∀ k, k < m → ∃ g o, ao = some ⟨g, o, none⟩ ∧ W.cell? ⟨g, o + k, none⟩ = some (wf N k) := by
  obtain ⟨ao, m, cap, N, e, h1, h2, h3, h4⟩ := open_words h
  refine ⟨ao, m, cap, N, e, ?_, ?_, h3, h4⟩
  · rcases open_ints und_u64s Try.underlying75 cells_u64 h with ⟨hc, hx⟩ | ⟨a, len, cap', zs, hc, _⟩
    · rw [e] at hc
      simp at hc
      exact fun _ => hc.2.2
    · rw [e] at hc
      simp at hc
      intro hn
      rw [hn] at hc
      cases hc.1
  · rcases open_ints und_u64s Try.underlying75 cells_u64 h with ⟨hc, hx⟩ | ⟨a, len, cap', zs, hc, _, hl, hm, hzl, hx, _⟩
    · rw [e] at hc
      simp at hc
      omega
    · rw [e] at hc
      simp at hc
      simp only [if_true] at hzl
      have w1 := hz ((lits (H := H) .u64 (zs.take len)).length + (lits (H := H) .u64 (zs.drop len)).length |>.mul 8) (by
        rw [hx]
        simp only [DataW.weights, und_u64s, bytes_u64]
        exact List.mem_cons_self)
      rw [reach_is] at w1
      have e1 : (lits (H := H) .u64 (zs.take len)).length + (lits (H := H) .u64 (zs.drop len)).length = zs.length := by simp [lits]; omega
      rw [e1] at w1
      have w2 : zs.length * 8 ≤ 140737488351232 := w1
      omega
theorem cells_cube : Try.prog.cellsOf 33 = 4 := by kernel_rfl
theorem open_cubeZ (h : DataW.trod enc Try.prog W 0 (fun _ => true) true fuel 33 cs = some x) (hz : ∀ n ∈ x.1.weights Try.prog 33, n ≤ reachBytes) :
    ∃ (h v c : Int) (ao : Option Addr) (m cap N : Nat), cs = [.int .i64 h, .int .i64 v, .int .i64 c, .slice ao m cap] ∧ Wr W ao m N ∧ m ≤ 17592186043904 := by
  have hl : cs.length = 4 := by
    obtain ⟨_, _, _, _, hlen, _, _⟩ := DataW.trod_struct Try.underlying33 h
    exact hlen.trans cells_cube
  obtain ⟨_, y0, t0, _⟩ := fldZ Try.underlying33 h hz 0 _ rfl
  obtain ⟨_, y1, t1, z1⟩ := fldZ Try.underlying33 h hz 1 _ rfl
  replace t0 : DataW.trod enc Try.prog W 0 (fun _ => true) true _ 31 ((cs.drop 0).take (Try.prog.cellsOf 31)) = some y0 := t0
  replace t1 : DataW.trod enc Try.prog W 0 (fun _ => true) true _ 24 ((cs.drop 3).take (Try.prog.cellsOf 24)) = some y1 := t1
  rw [cells_shp] at t0
  rw [cells_us] at t1
  obtain ⟨hh, v, c, e0⟩ := shape_cells t0
  obtain ⟨ao, m, cap, N, e1, h1, h2, h3, h4⟩ := open_wordsZ t1 z1
  match cs, hl with
  | [a, b, d, f], _ =>
    simp at e0 e1
    obtain ⟨rfl, rfl, rfl⟩ := e0
    subst e1
    exact ⟨hh, v, c, ao, m, cap, N, rfl, ⟨h3, h4⟩, h2⟩
end
theorem open_cubess {H : Type} {enc : TypeId × Value → H} {W : World} {base : Nat} {v : Value} {d : DataW H} {p : List MemPlace}
    (hv : Value.okWide Try.prog W .any base 59 v) (h : DataW.Trod enc Try.prog W 0 (fun _ => true) true 59 v d p) (hz : ∀ n ∈ d.weights Try.prog 59, n ≤ reachBytes) :
    ∃ (ao : Option Addr) (m cap : Nat), v = .slice ao m cap ∧ m ≤ 9223372036854775807 ∧ Lq W ao m := by
  obtain ⟨a0, len, cap, rfl⟩ := okWide_slice und_cubes hv
  obtain ⟨fuel, hf⟩ := h
  rcases Deep.open_slice und_cubes hf with ⟨hc, hx⟩ | ⟨a, len', cap', mm, n, D, Pl, hc, _, hl, hm, hmm, hx, hcell⟩
  · simp [Value.cells] at hc
    obtain ⟨rfl, rfl, rfl⟩ := hc
    exact ⟨none, 0, 0, rfl, by simp, fun j hj => absurd hj (by simp)⟩
  · simp [Value.cells] at hc
    obtain ⟨rfl, rfl, rfl⟩ := hc
    simp only [if_true] at hmm
    have hmx := max_is
    have hd : d = .slice ((List.range len).map D) ((List.range (mm - len)).map fun j => D (len + j)) := congrArg Prod.fst hx
    obtain ⟨b, o, s⟩ := a
    refine ⟨some ⟨b, o, s⟩, len, cap, rfl, by omega, fun j hj => ?_⟩
    obtain ⟨cs1, h1, h2⟩ := hcell j (by omega)
    rw [cells_cube] at h1
    obtain ⟨_, hlen, hc1⟩ := World.cells?_some h1
    have hzj : ∀ n ∈ (D j).weights Try.prog 33, n ≤ reachBytes := fun n hn => hz n (by
      rw [hd]
      simp only [DataW.weights, und_cubes]
      refine List.mem_cons_of_mem _ (List.mem_append.mpr (Or.inl ?_))
      exact weightsAll_mem (List.mem_map.mpr ⟨j, List.mem_range.mpr hj, rfl⟩) n hn)
    obtain ⟨h, v, c, xo, m, xc, N, rfl, wr, hm'⟩ := open_cubeZ h2 hzj
    have e0 := hc1 0 (by decide)
    have e1 := hc1 1 (by decide)
    have e2 := hc1 2 (by decide)
    have e3 := hc1 3 (by decide)
    rw [Deep.add_add] at e0 e1 e2 e3
    have hs : s = none := by
      obtain ⟨cs0, h0, _⟩ := hcell 0 (by omega)
      rw [cells_cube] at h0
      obtain ⟨_, hlen0, hc0⟩ := World.cells?_some h0
      have e2 := hc0 0 (by decide)
      rw [Deep.add_add, List.getElem?_eq_getElem (by omega)] at e2
      have := World.cell?_spot e2
      simpa [Addr.add] using this
    subst hs
    rw [add_at] at e0 e1 e2 e3
    exact ⟨b, o, h, v, c, xo, m, xc, N, rfl, ⟨e0, e1, e2, e3⟩, wr, hm'⟩
theorem und_ints : Try.prog.underlying 60 = some (.slice 3) := by kernel_rfl
theorem open_i64r {H : Type} {enc : TypeId × Value → H} {W : World} {base : Nat} {v : Value} {d : DataW H} {p : List MemPlace}
    (hv : Value.okWide Try.prog W .any base 60 v) (h : DataW.Trod enc Try.prog W 0 (fun _ => true) true 60 v d p) :
    ∃ (ao : Option Addr) (m cap : Nat) (f : Nat → Int), v = .slice ao m cap ∧ m ≤ 9223372036854775807 ∧ Rs W ao m (fun k => .int .i64 (f k)) := by
  obtain ⟨ao, m, cap, rfl, hm, hf⟩ := open_list und_ints cells_int (by decide) hv h
  have each : ∀ k, k < m → ∃ z : Int, ∃ g o, ao = some ⟨g, o, none⟩ ∧ W.cell? ⟨g, o + k, none⟩ = some (.int .i64 z) := fun k hk => by
    obtain ⟨g, o, n, cs, y, rfl, ht, _, hc⟩ := hf k hk
    obtain ⟨x, rfl, _, _⟩ := DataW.trod_int Try.underlying3 ht
    exact ⟨x, g, o, rfl, by simpa using hc 0 (by decide)⟩
  obtain ⟨q, hq⟩ := Deep.choose_lt each
  exact ⟨ao, m, cap, q, rfl, hm, fun k hk => hq k hk⟩
end Go.Proofs.Ytgmildjfikgkmaa

namespace Go.Proofs.Ytgmildjfikgkmaa
open Go.ChangeShapes Go.WideShapes Go.ChangeAt Go.RowKit

set_option maxRecDepth 100000 in
theorem cubeAsks_lifted (os : Os) (started : os.Started) (H : Type) (enc : TypeId × Value → H) :
    ReturnsInHanded {} Try.checked os 7 .any (Rows.cubeAsksSpec.pre6 enc Try.prog Try.f7 Rows.cubeAsksRow.domain false) (Rows.cubeAsksSpec.post enc Try.prog Try.f7 false true false false) := by
  refine returnsInHanded_of_change_sized (C := Try.checked) own started (by kernel_rfl) Try.func7
    (ChangeSpec.witness6 (enc := enc) (C := Try.checked) false ⟨#[], #[.slice none 0 0, .slice none 0 0, .slice none 0 0], []⟩ 8 (by kernel_rfl) (by kernel_rfl) (by kernel_rfl) (by kernel_rfl)) ?_
  intro W base args ds gs before hval0 hW hcnd hsz _
  have hval : ∀ (j : Nat) t v, Try.f7.params[j]? = some t → args[j]? = some v → Value.okWide Try.prog W .any base t v := hval0
  have hW' := hW
  obtain ⟨p, q, hA0, hV, rfl, hfz, hnd⟩ := hW
  have hA : DataW.TrodAll enc Try.prog W 0 (fun _ => true) true Try.f7.params.toList args.toList ds p := hA0
  rw [Try.params7] at hA hval hsz
  obtain ⟨v0, vs0, d0, ds0, p0, q0, hargs, rfl, rfl, h0, r0⟩ := trodAll_cons hA
  obtain ⟨v1, vs1, d1, ds1, p1, q1, rfl, rfl, rfl, h1, r1⟩ := trodAll_cons r0
  obtain ⟨v2, vs2, d2, ds2, p2, q2, rfl, rfl, rfl, h2, r2⟩ := trodAll_cons r1
  obtain ⟨rfl, rfl, rfl⟩ := trodAll_nil r2
  obtain rfl : args = #[v0, v1, v2] := by cases args; simp_all
  obtain ⟨rfl, rfl⟩ := trodVars_none hV
  have lt0 : ∀ x ∈ p0, x.block < W.heap.size := by obtain ⟨m, hm⟩ := h0; exact DataW.trod_lt m _ _ _ hm
  have k0 := h0
  have lt1 : ∀ x ∈ p1, x.block < W.heap.size := by obtain ⟨m, hm⟩ := h1; exact DataW.trod_lt m _ _ _ hm
  have k1 := h1
  have lt2 : ∀ x ∈ p2, x.block < W.heap.size := by obtain ⟨m, hm⟩ := h2; exact DataW.trod_lt m _ _ _ hm
  have k2 := h2
  obtain ⟨ao0, m0, c0, rfl, hm0, f0⟩ := open_cubess (hval 0 59 v0 rfl rfl) h0 (fun n hn => by have := List.all_eq_true.1 hsz _ (DataW.weights_mem_each (j := 0) (t := 59) (d := d0) rfl rfl n hn); simpa using this)
  obtain ⟨ao1, m1, c1, g1, rfl, hm1, f1⟩ := open_i64r (hval 1 60 v1 rfl rfl) h1
  obtain ⟨ao2, m2, c2, g2, rfl, hm2, f2⟩ := open_i64r (hval 2 60 v2 rfl rfl) h2
  clear hA0 hval0
  refine (cubeAsks_any ao0 m0 c0 ao1 ao2 m1 c1 m2 c2 g1 g2 W hm0 hm1 hm2 f0 f1 f2).mono fun e W' ⟨he, bel⟩ => ?_
  subst he
  exact ⟨_, rfl, _, _, _, [], _, [], hW', trodAll_mk1 (shut_bool Try.underlying4 _), (trodAll_cons_mk (Below.trod laidOut (by kernel_rfl) (of_decide_eq_true (by kernel_rfl)) k0 bel lt0) (trodAll_cons_mk (Below.trod laidOut (by kernel_rfl) (of_decide_eq_true (by kernel_rfl)) k1 bel lt1) (trodAll_cons_mk (Below.trod laidOut (by kernel_rfl) (of_decide_eq_true (by kernel_rfl)) k2 bel lt2) trodAll_mk0))), rfl, bel.frame _, fun h => by cases h⟩

theorem cubeAsks_holds : Rows.CubeAsksSaid :=
  OpenClaim.holds_of_wide 7 Try.f7 rfl rfl rfl rfl rfl rfl rfl ⟨rfl, rfl, rfl, rfl, rfl⟩ rfl rfl rfl rfl rfl (by kernel_rfl) Try.func7 (by kernel_rfl)
    (of_decide_eq_true (by kernel_rfl)) (by unfold Func.isWrapper; first | (rw [if_pos (by decide +kernel)]; kernel_rfl) | (rw [if_neg (by decide +kernel)]; exact ⟨rfl, rfl⟩))
    (fun os started H enc _ => cubeAsks_lifted os started H enc)
#print axioms cubeAsks_holds
end Go.Proofs.Ytgmildjfikgkmaa
