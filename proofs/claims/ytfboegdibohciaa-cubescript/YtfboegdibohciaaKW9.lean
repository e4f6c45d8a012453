/- PACKAGE cube: Turn, At. -/
import Derived.Test.YtfboegdibohciaaKW8
import Derived.Test.YtfboegdibohciaaDW1
namespace Go.Proofs.Ytfboegdibohciaa
open Go.RowKit Go.Shelf

theorem Wr.rw {w : World} {ao : Option Addr} {m N : Nat} (h : Wr w ao m N) (hm : m ≤ 9223372036854775807) (n : Int) (cap : Nat) : Rw w ⟨n, ao, m, cap, N⟩ := ⟨h.1, hm, h.2⟩
/-- The two blocks that Turn lays first. -/
theorem turn_start (w : World) (n : Int) (ao : Option Addr) (m cap : Nat) : ∃ W, (w.alloc (.cells #[.int .i64 n, .slice ao m cap] 33)).alloc (.cells #[.int .i64 0, .int .i64 0, .int .i64 0, .slice none 0 0] 31) = W ∧
    W.heap.size = w.heap.size + 2 ∧ Below w.heap.size w W ∧ W.rowIs w.heap.size 33 2 (sf n ao m cap) ∧ W.rowIs (w.heap.size + 1) 31 4 (cf 0 0 0 none 0 0) := by
  refine ⟨_, rfl, by simp, bl_alloc (bl_alloc (Below.refl _ _) _) _, (row_new w _ _ _ _ _).alloc _, ?_⟩
  have := cu_new (w.alloc (.cells #[.int .i64 n, .slice ao m cap] 33)) 0 0 0 none 0 0 31
  rwa [World.size_alloc] at this
theorem wr_put {w : World} {G m N b : Nat} (h : Wr w (some ⟨G, 0, none⟩) m N) (hb : G ≠ b) (k : Nat) (u : Value) : Wr (w.setCell ⟨b, k, none⟩ u) (some ⟨G, 0, none⟩) m N :=
  ⟨h.1, fun j hj => by
    obtain ⟨g, o, e, c⟩ := h.2 j hj
    cases e
    refine ⟨G, 0, rfl, ?_⟩
    exact (((But.refl b w).set u).cell hb c)⟩
theorem own_put {w : World} {base e G m K b : Nat} {xs : List Value} (h : w.ownsRow base e 1 (.slice (some ⟨G, 0, none⟩) m K) m xs) (hb : G ≠ b) (k : Nat) (u : Value) : (w.setCell ⟨b, k, none⟩ u).ownsRow base e 1 (.slice (some ⟨G, 0, none⟩) m K) m xs :=
  by
  refine ⟨h.1, ?_⟩
  rcases h.2 with q | ⟨g, cap, cur, h1, h2, h3, h4⟩
  · exact .inl q
  · refine .inr ⟨g, cap, cur, h1, h2, ?_, h4⟩
    have e : G = g := by cases h1; rfl
    subst e
    exact (((But.refl b w).set (o := k) u).block G (Array.getElem?_eq_some_iff.1 h3).1 hb).trans h3
theorem own_base {w : World} {base base' e m : Nat} {v : Value} {xs : List Value} (h : w.ownsRow base e 1 v m xs) (hb : base' ≤ base) : w.ownsRow base' e 1 v m xs := by
  refine ⟨h.1, ?_⟩
  rcases h.2 with k | ⟨g, cap, cur, h1, h2, h3⟩
  · exact .inl k
  · exact .inr ⟨g, cap, cur, h1, Nat.le_trans hb h2, h3⟩
/-- What Turn tells of a row. -/
def tuE (n : Int) (m N : Nat) : Int := if chk n m N = 0 then (if n < 1 ∨ 4096 < n then 30 else 0) else chk n m N
set_option maxHeartbeats 1600000 in
set_option maxRecDepth 100000 in
theorem turn_bad (n : Int) (ao : Option Addr) (m cap N : Nat) (w : World) (hm : m ≤ 9223372036854775807) (rd : Wr w ao m N) (k : tuE n m N ≠ 0) :
    Calls Try.prog 21 #[rv n ao m cap] w fun e w' => e = .returned (.tuple #[cuv 0 0 0 none 0 0, .int .i64 (tuE n m N)]) ∧ Below w.heap.size w w' := by
  obtain ⟨W, eW, z0, B0, q0, q1⟩ := turn_start w n ao m cap
  have e0 := sf_len q0
  have e1 := sf_ws q0
  have HC := hid1 (checko_any n ao m cap N W ((rd.below B0).rw hm n cap))
  obtain ⟨E, hE⟩ : ∃ E, chk n m N = E := ⟨_, rfl⟩
  obtain ⟨R, hR⟩ : ∃ R, tuE n m N = R := ⟨_, rfl⟩
  have HR : Hid ((if E = 0 then (if n < 1 ∨ 4096 < n then 30 else 0) else E) = R) := by rw [← hE]; exact hid1 hR
  rw [hR] at k ⊢
  rw [hE] at HC
  clear hE hR
  go_enter Try.func21, Try.ntmps21
  go_wp2_with fail
  refine HC.out.mono ?_
  rintro e w1 ⟨rfl, hb⟩
  clear e0 e1
  replace q0 := keepr hb q0
  replace q1 := keepr hb q1
  have e0 := sf_len q0
  have d0 := cf0 q1
  have d1 := cf1 q1
  have d2 := cf2 q1
  have d3 := cf3 q1
  have f0 := q1.frozen 0
  have f1 := q1.frozen 1
  have f2 := q1.frozen 2
  have f3 := q1.frozen 3
  have B1 := bl_step B0 hb
  have fin : ∀ x y z u, Below w.heap.size w ((((w1.setCell ⟨w.heap.size + 1, 0, none⟩ x).setCell ⟨w.heap.size + 1, 1, none⟩ y).setCell ⟨w.heap.size + 1, 2, none⟩ z).setCell ⟨w.heap.size + 1, 3, none⟩ u) := fun x y z u => bl_set (bl_set (bl_set (bl_set B1 (by omega) _) (by omega) _) (by omega) _) (by omega) _
  clear q0 q1 hb B0 HC eW B1
  by_cases k0 : E = 0
  · subst k0
    have HR1 := HR.out
    rw [if_pos rfl] at HR1
    by_cases hn : n < 1 ∨ 4096 < n
    · rw [if_pos hn] at HR1
      subst HR1
      clear HR
      by_cases h1 : n < 1
      · go_wp2_with fail
        exact bodyPost_ret (v := .tuple #[cuv 0 0 0 none 0 0, .int .i64 30]) (by simp [results, Try.results21, go_sem, d0, d1, d2, d3]) rfl ⟨rfl, fin _ _ _ _⟩
      · have h2 : n > 4096 := by omega
        go_wp2_with fail
        exact bodyPost_ret (v := .tuple #[cuv 0 0 0 none 0 0, .int .i64 30]) (by simp [results, Try.results21, go_sem, d0, d1, d2, d3]) rfl ⟨rfl, fin _ _ _ _⟩
    · rw [if_neg hn] at HR1
      exact absurd HR1.symm k
  · have HR1 := HR.out
    rw [if_neg k0] at HR1
    subst HR1
    clear HR
    go_wp2_with fail
    exact bodyPost_ret (v := .tuple #[cuv 0 0 0 none 0 0, .int .i64 E]) (by simp [results, Try.results21, go_sem, d0, d1, d2, d3]) rfl ⟨rfl, fin _ _ _ _⟩
set_option maxHeartbeats 1600000 in
set_option maxRecDepth 100000 in
theorem turn_ok (n g o m cap N : Nat) (w : World) (hn : 1 ≤ n ∧ n ≤ 4096) (em : m = nw n) (hN : N < 2 ^ n) (rd : Wr w (some ⟨g, o, none⟩) m N) :
    Calls Try.prog 21 #[rv n (some ⟨g, o, none⟩) m cap] w fun e w' => ∃ G K, e = .returned (.tuple #[cuv 1 1 n (some ⟨G, 0, none⟩) m K, .int .i64 0]) ∧ w.heap.size ≤ G ∧ m ≤ K ∧ K ≤ 9223372036854775807 ∧ w'.ownsRow w.heap.size 53 1 (.slice (some ⟨G, 0, none⟩) m K) m (wl N m) ∧ Wr w' (some ⟨G, 0, none⟩) m N ∧ Below w.heap.size w w' := by
  have hm0 : 0 < m := by rw [em]; unfold nw; omega
  have hm1 : m ≤ 64 := by rw [em]; unfold nw; omega
  obtain ⟨W, eW, z0, B0, q0, q1⟩ := turn_start w n (some ⟨g, o, none⟩) m cap
  have e0 := sf_len q0
  have e1 := sf_ws q0
  have HC := hid1 (checko_any n (some ⟨g, o, none⟩) m cap N W ((rd.below B0).rw (by omega) n cap))
  rw [em, chk_ok (by omega) hN, ← em] at HC
  have t1 : ¬ (n : Int) < 1 := by omega
  have t2 : ¬ (n : Int) > 4096 := by omega
  have RD := hid1 rd
  clear rd em
  go_enter Try.func21, Try.ntmps21
  go_wp2_with fail
  refine HC.out.mono ?_
  rintro e w1 ⟨rfl, hb⟩
  clear e0 e1 eW
  replace q0 := keepr hb q0
  replace q1 := keepr hb q1
  have B1 := bl_step B0 hb
  have z1 := hb.size
  have e0 := sf_len q0
  have e1 := sf_ws q0
  have l0 := q0.lt
  have l1 := q1.lt
  clear hb B0 HC
  have HCL := hid1 (fun w' (hb : Below w.heap.size w w') => clone_any g o m cap N w' hm0 (by omega) (RD.out.below hb))
  go_wp2_with fail
  refine gen_world (fun X => X.rowIs w1.heap.size 27 3 (hf 1 1 n) ∧ X.rowIs w.heap.size 33 2 (sf n (some ⟨g, o, none⟩) m cap) ∧ X.rowIs (w.heap.size + 1) 31 4 (cf 0 0 0 none 0 0) ∧ Below w.heap.size w X ∧ w1.heap.size + 1 ≤ X.heap.size) ⟨hf_new w1 1 1 n _, q0.alloc _, q1.alloc _, bl_alloc B1 _, by simp⟩ ?_
  rintro X ⟨x5, x0, x1, BX, zX⟩
  clear q0 q1 B1 e0 e1
  have y0 := hf0 x5
  have y1 := hf1 x5
  have y2 := hf2 x5
  have y3 := sf_ws x0
  have hfo := follows
  have H5 := hid1 x5
  have H1 := hid1 x1
  have HB := hid1 BX
  clear x5 x0 x1 BX RD
  go_region_with ((go_at_call 39; refine (HCL.out _ HB.out.drew).mono ?_; rintro e w2 ⟨G, K, rfl, hG, hK, hK2, own, wr, hb2⟩; have v0 := keepc hb2 (hf0 H5.out.drew); have v1 := keepc hb2 (hf1 H5.out.drew); have v2 := keepc hb2 (hf2 H5.out.drew); have HQ := hid1 (keepr hb2 H1.out.drew); have d0 := cf0 HQ.out; have d1 := cf1 HQ.out; have d2 := cf2 HQ.out; have d3 := cf3 HQ.out; have f0 := HQ.out.frozen 0; have f1 := HQ.out.frozen 1; have f2 := HQ.out.frozen 2; have f3 := HQ.out.frozen 3; have HB2 := hid1 (bl_step HB.out.drew hb2); have HO := hid1 own; have HW := hid1 wr; have HG := hid1 hG; clear own wr hb2 hG))
  all_goals go_wp2_with fail
  all_goals (
    have hc := cf_set HQ.out 1 1 n (some ⟨G, 0, none⟩) m K
    have m0 := cf0 hc
    have m1 := cf1 hc
    have m2 := cf2 hc
    have m3 := cf3 hc
    have zG : w1.heap.size + 1 ≤ G := Nat.le_trans zX HG.out
    refine bodyPost_ret (v := .tuple #[cuv 1 1 n (some ⟨G, 0, none⟩) m K, .int .i64 0]) (by simp [results, Try.results21, go_sem, m0, m1, m2, m3]) rfl ⟨G, K, rfl, by omega, hK, hK2, ?_, ?_, bl_set (bl_set (bl_set (bl_set HB2.out (by omega) _) (by omega) _) (by omega) _) (by omega) _⟩
    · exact own_base (own_put (own_put (own_put (own_put HO.out (by omega) 0 _) (by omega) 1 _) (by omega) 2 _) (by omega) 3 _) (show w.heap.size ≤ X.heap.size by omega)
    · exact wr_put (wr_put (wr_put (wr_put HW.out (by omega) 0 _) (by omega) 1 _) (by omega) 2 _) (by omega) 3 _)
end Go.Proofs.Ytfboegdibohciaa
