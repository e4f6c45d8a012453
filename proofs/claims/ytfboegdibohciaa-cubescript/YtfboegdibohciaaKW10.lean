/- PACKAGE cube: At. -/
import Derived.Test.YtfboegdibohciaaKW9
namespace Go.Proofs.Ytfboegdibohciaa
open Go.RowKit Go.Shelf

/-- The two blocks that At lays first. -/
theorem at_start (w : World) (h v c : Int) (ao : Option Addr) (m cap : Nat) : ∃ W, (w.alloc (.cells #[.int .i64 h, .int .i64 v, .int .i64 c, .slice ao m cap] 31)).alloc (.cells #[.int .i64 0, .slice none 0 0] 33) = W ∧
    W.heap.size = w.heap.size + 2 ∧ Below w.heap.size w W ∧ W.rowIs w.heap.size 31 4 (cf h v c ao m cap) ∧ W.rowIs (w.heap.size + 1) 33 2 (sf 0 none 0 0) := by
  refine ⟨_, rfl, by simp, bl_alloc (bl_alloc (Below.refl _ _) _) _, (cu_new w _ _ _ _ _ _ _).alloc _, ?_⟩
  have := row_new (w.alloc (.cells #[.int .i64 h, .int .i64 v, .int .i64 c, .slice ao m cap] 31)) 0 none 0 0 33
  rwa [World.size_alloc] at this
/-- What At tells. -/
def atE (h v c y x : Int) (m N : Nat) : Int := if cuk h v c m N = 0 then Sg.ixE h v c y x 0 else cuk h v c m N
set_option maxHeartbeats 1600000 in
set_option maxRecDepth 100000 in
theorem at_bad (h v c y x : Int) (ao : Option Addr) (m cap N : Nat) (w : World) (hmc : m ≤ cap) (hcap : cap ≤ 9223372036854775807) (rd : Wr w ao m N) (k : atE h v c y x m N ≠ 0) :
    Calls Try.prog 20 #[cuv h v c ao m cap, .int .i64 y, .int .i64 x] w fun e w' => e = .returned (.tuple #[rv 0 none 0 0, .int .i64 (atE h v c y x m N)]) ∧ Below w.heap.size w w' := by
  obtain ⟨W, eW, z0, B0, q0, q1⟩ := at_start w h v c ao m cap
  have e0 := cf0 q0
  have e1 := cf1 q0
  have e2 := cf2 q0
  have e3 := cf3 q0
  have HC := hid1 (ccheck_any h v c ao m cap N W hmc hcap (rd.below B0))
  have HX := hid1 (Sg.index_any h v c y x 0)
  obtain ⟨E, hE⟩ : ∃ E, cuk h v c m N = E := ⟨_, rfl⟩
  obtain ⟨I, hI⟩ : ∃ I, Sg.ixE h v c y x 0 = I := ⟨_, rfl⟩
  obtain ⟨R, hR⟩ : ∃ R, atE h v c y x m N = R := ⟨_, rfl⟩
  have HR : Hid ((if E = 0 then I else E) = R) := by rw [← hE, ← hI]; exact hid1 hR
  rw [hR] at k ⊢
  rw [hE] at HC
  rw [hI] at HX
  generalize Sg.ixN h v c y x 0 = J at HX
  clear hE hR hI
  go_enter Try.func20, Try.ntmps20
  go_wp2_with fail
  refine HC.out.mono ?_
  rintro e w1 ⟨rfl, hb⟩
  clear e0 e1 e2 e3 eW
  replace q0 := keepr hb q0
  replace q1 := keepr hb q1
  have B1 := bl_step B0 hb
  have z1 := hb.size
  clear hb B0 HC
  by_cases k0 : E = 0
  · subst k0
    have HR1 := HR.out
    rw [if_pos rfl] at HR1
    subst HR1
    clear HR
    have e0 := cf0 q0
    have e1 := cf1 q0
    have e2 := cf2 q0
    go_wp2_with fail
    refine (HX.out w1).mono ?_
    rintro e w2 ⟨rfl, hb⟩
    replace q1 := keepr hb q1
    have B2 := bl_step B1 hb
    clear hb B1 q0 e0 e1 e2
    have d0 := sf_len q1
    have d1 := sf_ws q1
    have f0 := q1.frozen 0
    have f1 := q1.frozen 1
    go_wp2_with fail
    exact bodyPost_ret (v := .tuple #[rv 0 none 0 0, .int .i64 I]) (by simp [results, Try.results20, go_sem, d0, d1]) rfl ⟨rfl, bl_set (bl_set B2 (by omega) _) (by omega) _⟩
  · have HR1 := HR.out
    rw [if_neg k0] at HR1
    subst HR1
    clear HR HX
    have d0 := sf_len q1
    have d1 := sf_ws q1
    have f0 := q1.frozen 0
    have f1 := q1.frozen 1
    go_wp2_with fail
    exact bodyPost_ret (v := .tuple #[rv 0 none 0 0, .int .i64 E]) (by simp [results, Try.results20, go_sem, d0, d1]) rfl ⟨rfl, bl_set (bl_set B1 (by omega) _) (by omega) _⟩
set_option maxHeartbeats 1600000 in
set_option maxRecDepth 100000 in
theorem at_ok (H V C g o m cap N y x : Nat) (w : World) (hH : 1 ≤ H ∧ H ≤ 4096) (hV : 1 ≤ V ∧ V ≤ 4096) (hC : 1 ≤ C ∧ C ≤ 4096) (k0 : Sg.chk H V C = 0) (k : cuk H V C m N = 0) (hm : m = H * V * nw C) (hmc : m ≤ cap) (hcap : cap ≤ 9223372036854775807) (hy : y < H) (hx : x < V)
    (rd : Wr w (some ⟨g, o, none⟩) m N) (d : Nat) (hd : nw C = d) :
    Calls Try.prog 20 #[cuv H V C (some ⟨g, o, none⟩) m cap, .int .i64 y, .int .i64 x] w fun e w' => ∃ G K, e = .returned (.tuple #[rv C (some ⟨G, 0, none⟩) d K, .int .i64 0]) ∧ w.heap.size ≤ G ∧ d ≤ K ∧ K ≤ 9223372036854775807 ∧ w'.ownsRow w.heap.size 53 1 (.slice (some ⟨G, 0, none⟩) d K) d (wl (pl N d (y * V + x)) d) ∧ Wr w' (some ⟨G, 0, none⟩) d (pl N d (y * V + x)) ∧ Below w.heap.size w w' := by
  obtain ⟨W, eW, z0, B0, q0, q1⟩ := at_start w H V C (some ⟨g, o, none⟩) m cap
  have e0 := cf0 q0
  have e1 := cf1 q0
  have e2 := cf2 q0
  have e3 := cf3 q0
  have HC := hid1 (ccheck_any H V C (some ⟨g, o, none⟩) m cap N W hmc hcap (rd.below B0))
  rw [k] at HC
  have hi : y * V + x < H * V := by
    have : (y + 1) * V ≤ H * V := Nat.mul_le_mul_right _ hy
    rw [Nat.succ_mul] at this
    omega
  have HX := hid1 (Sg.index_in H V C y x 0 k0 ⟨⟨by omega, by omega⟩, ⟨by omega, by omega⟩, by omega, by omega⟩)
  have hP : H * V ≤ 16777216 := (wo_bd hH.2 hV.2 hC.2).1
  have hbI : (y * V + x + 1) * nw C ≤ m := by rw [hm]; exact Nat.mul_le_mul_right _ hi
  have HW := hid1 (fun w => wordsAt_any (H : Int) (V : Int) C g o m cap (y * V + x) w hC.1 hC.2 hmc hcap hbI (by omega))
  have ei : ((y : Int) * (V : Int) + (x : Int)) * (C : Int) + 0 = (((y * V + x) * C : Nat) : Int) := by push_cast; omega
  rw [ei] at HX
  have hd0 : 0 < nw C := by unfold nw; omega
  have hd64 : nw C ≤ 64 := by unfold nw; omega
  have hpl : ∀ w', Below w.heap.size w w' → Wr w' (some ⟨g, o + (y * V + x) * nw C, none⟩) (nw C) (pl N (nw C) (y * V + x)) := fun w' hb => (rd.below hb).place (by rw [← Nat.succ_mul]; exact hbI)
  have HPL := hid1 hpl
  rw [hd] at HW HPL hd0 hd64
  clear hpl hbI rd hm k k0 ei hd
  have hbi : y * V + x ≤ 16777216 := by omega
  obtain ⟨i, hii⟩ : ∃ i, y * V + x = i := ⟨_, rfl⟩
  rw [hii] at HX HW HPL hi hbi ⊢
  clear hii
  have hq : ((i * C : Nat) : Int) / (C : Int) = (i : Int) := by
    push_cast
    exact Int.mul_ediv_cancel _ (by omega)
  have hq' : ((i * C : Nat) : Int).tdiv (C : Int) = (i : Int) := by
    rw [Int.tdiv_eq_ediv_of_nonneg (by omega)]; exact hq
  have hbic : i * C ≤ 16777216 * 4096 := Nat.mul_le_mul hbi hC.2
  obtain ⟨u, hu⟩ : ∃ u, i * C = u := ⟨_, rfl⟩
  rw [hu] at hq hq' HX hbic
  clear hu
  have rq : IntKind.i64.wrap (i : Int) = (i : Int) := by rw [IntKind.wrap_i64]; omega
  have nC : ¬ (C : Int) = 0 := by omega
  have nC' : ¬ C = 0 := by omega
  go_enter Try.func20, Try.ntmps20
  go_wp2_with fail
  refine HC.out.mono ?_
  rintro e w1 ⟨rfl, hb⟩
  clear e0 e1 e2 e3 eW
  replace q0 := keepr hb q0
  replace q1 := keepr hb q1
  have B1 := bl_step B0 hb
  have z1 := hb.size
  clear hb B0 HC
  have e0 := cf0 q0
  have e1 := cf1 q0
  have e2 := cf2 q0
  go_wp2_with fail
  refine (HX.out w1).mono ?_
  rintro e w2 ⟨rfl, hb⟩
  replace q0 := keepr hb q0
  replace q1 := keepr hb q1
  have B2 := bl_step B1 hb
  have z2 := hb.size
  clear hb B1 e0 e1 e2 HX
  have e0 := cf0 q0
  have e1 := cf1 q0
  have e2 := cf2 q0
  have e3 := cf3 q0
  go_wp2_with fail
  refine still_tail 6 (by kernel_rfl) ?_
  simp only [List.take_succ_cons, List.take_zero, List.drop_succ_cons, List.drop_zero]
  repeat still_step
  refine wpStill_nil ?_
  go_wp2_with fail
  refine (HW.out _).mono ?_
  rintro e w3 ⟨rfl, hb⟩
  replace q0 := keepr hb q0.drew
  replace q1 := keepr hb q1.drew
  have B3 := bl_step B2.drew hb
  have z3 : w2.heap.size ≤ w3.heap.size := hb.size
  clear hb B2 e0 e1 e2 e3 HW
  have HCL := hid1 (fun w' (hb : Below w.heap.size w w') => clone_any g (o + i * d) d d (pl N d i) w' hd0 (by omega) (HPL.out w' hb))
  have e2 := cf2 q0
  have hfo := follows
  have H0 := hid1 q0
  have H1 := hid1 q1
  have HB := hid1 B3
  clear q0 q1 B3 HPL hq hq' rq
  go_wp2_with fail
  go_region_with ((go_at_call 39; refine (HCL.out _ HB.out.drew).mono ?_; rintro e w4 ⟨G, K, rfl, hG, hK, hK2, own, wr, hb2⟩; have v2 := keepc hb2 (cf2 H0.out.drew); have HQ := hid1 (keepr hb2 H1.out.drew); have d0 := sf_len HQ.out; have d1 := sf_ws HQ.out; have f0 := HQ.out.frozen 0; have f1 := HQ.out.frozen 1; have HB2 := hid1 (bl_step HB.out.drew hb2); have HO := hid1 own; have HW := hid1 wr; have HG := hid1 hG; clear own wr hb2 hG))
  all_goals go_wp2_with fail
  all_goals (
    have hc := rs_set HQ.out C (some ⟨G, 0, none⟩) d K
    have m0 := sf_len hc
    have m1 := sf_ws hc
    have zG : w3.heap.size ≤ G := HG.out
    refine bodyPost_ret (v := .tuple #[rv C (some ⟨G, 0, none⟩) d K, .int .i64 0]) (by simp [results, Try.results20, go_sem, m0, m1]) rfl ⟨G, K, rfl, by omega, hK, hK2, ?_, ?_, bl_set (bl_set HB2.out (by omega) _) (by omega) _⟩
    · exact own_base (own_put (own_put HO.out (by omega) 0 _) (by omega) 1 _) (show w.heap.size ≤ w3.heap.size by omega)
    · exact wr_put (wr_put HW.out (by omega) 0 _) (by omega) 1 _)
end Go.Proofs.Ytfboegdibohciaa
