/- PACKAGE pool, the laws: begun. -/
import Derived.Test.YtlghmojjcfjibaaUW5
import Derived.Test.YtlghmojjcfjibaaKL1
namespace Go.Proofs.Ytlghmojjcfjibaa
open Go.RowKit Go.Shelf

def bN : Nat := 2135987035920910082395021706169552114602704522356652769947041607822219725780640550022962086936577
theorem wr_litN (w : World) (t : TypeId) : Wr (w.alloc (.cells #[.int .u64 1, .int .u64 0, .int .u64 0, .int .u64 0, .int .u64 0, .int .u64 1] t)) (some ⟨w.heap.size, 0, none⟩) 6 bN := by
  refine ⟨by decide +kernel, fun k hk => ⟨w.heap.size, 0, rfl, ?_⟩⟩
  rcases k with _ | _ | _ | _ | _ | _ | k
  · show World.cell? _ ⟨w.heap.size, 0, none⟩ = some (.int .u64 1)
    simp [go_sem]
  · show World.cell? _ ⟨w.heap.size, 1, none⟩ = some (.int .u64 0)
    simp [go_sem]
  · show World.cell? _ ⟨w.heap.size, 2, none⟩ = some (.int .u64 0)
    simp [go_sem]
  · show World.cell? _ ⟨w.heap.size, 3, none⟩ = some (.int .u64 0)
    simp [go_sem]
  · show World.cell? _ ⟨w.heap.size, 4, none⟩ = some (.int .u64 0)
    simp [go_sem]
  · unfold wf
    rw [show wd bN 5 = 1 by decide +kernel]
    show World.cell? _ ⟨w.heap.size, 5, none⟩ = some (.int .u64 1)
    simp [go_sem]
  · omega
theorem wr_lit11 (w : World) (t : TypeId) : Wr (w.alloc (.cells #[.int .u64 1, .int .u64 1] t)) (some ⟨w.heap.size, 0, none⟩) 2 18446744073709551617 := by
  refine ⟨by decide, fun k hk => ⟨w.heap.size, 0, rfl, ?_⟩⟩
  rcases k with _ | _ | k
  · show World.cell? _ ⟨w.heap.size, 0, none⟩ = some (.int .u64 1)
    simp [go_sem]
  · show World.cell? _ ⟨w.heap.size, 1, none⟩ = some (.int .u64 1)
    simp [go_sem]
  · omega
theorem wr_lit00 (w : World) (t : TypeId) : Wr (w.alloc (.cells #[.int .u64 0, .int .u64 0] t)) (some ⟨w.heap.size, 0, none⟩) 2 0 := by
  refine ⟨by decide, fun k hk => ⟨w.heap.size, 0, rfl, ?_⟩⟩
  rcases k with _ | _ | k
  · show World.cell? _ ⟨w.heap.size, 0, none⟩ = some (.int .u64 0)
    simp [go_sem]
  · show World.cell? _ ⟨w.heap.size, 1, none⟩ = some (.int .u64 0)
    simp [go_sem]
  · omega
theorem bgn_start (w : World) : Wr (((w.alloc (.cells #[.int .u64 1, .int .u64 0, .int .u64 0, .int .u64 0, .int .u64 0, .int .u64 1] 66)).alloc (.cells #[.int .i64 2, .int .i64 3, .int .i64 1, .slice (some ⟨w.heap.size, 0, none⟩) 6 6] 26)).alloc (.cells #[.int .i64 2, .int .i64 2, .int .i64 1, .int .i64 1, .int .i64 0, .int .i64 0, .int .i64 0, .int .i64 0] 28)) (some ⟨w.heap.size, 0, none⟩) 6 bN ∧
    (((w.alloc (.cells #[.int .u64 1, .int .u64 0, .int .u64 0, .int .u64 0, .int .u64 0, .int .u64 1] 66)).alloc (.cells #[.int .i64 2, .int .i64 3, .int .i64 1, .slice (some ⟨w.heap.size, 0, none⟩) 6 6] 26)).alloc (.cells #[.int .i64 2, .int .i64 2, .int .i64 1, .int .i64 1, .int .i64 0, .int .i64 0, .int .i64 0, .int .i64 0] 28)).rowIs (w.heap.size + 1) 26 4 (cf 2 3 1 (some ⟨w.heap.size, 0, none⟩) 6 6) ∧
    Sg.Wn (((w.alloc (.cells #[.int .u64 1, .int .u64 0, .int .u64 0, .int .u64 0, .int .u64 0, .int .u64 1] 66)).alloc (.cells #[.int .i64 2, .int .i64 3, .int .i64 1, .slice (some ⟨w.heap.size, 0, none⟩) 6 6] 26)).alloc (.cells #[.int .i64 2, .int .i64 2, .int .i64 1, .int .i64 1, .int .i64 0, .int .i64 0, .int .i64 0, .int .i64 0] 28)) (w.heap.size + 2) 0 2 2 1 1 0 0 0 0 := by
  refine ⟨((wr_litN w _).below (bl_alloc (Below.refl _ _) _)).below (bl_alloc (Below.refl _ _) _), ?_, ?_⟩
  · have := cu_new (w.alloc (.cells #[.int .u64 1, .int .u64 0, .int .u64 0, .int .u64 0, .int .u64 0, .int .u64 1] 66)) 2 3 1 (some ⟨w.heap.size, 0, none⟩) 6 6 26
    rw [World.size_alloc] at this
    exact this.alloc _
  · have := Sg.wn_new ((w.alloc (.cells #[.int .u64 1, .int .u64 0, .int .u64 0, .int .u64 0, .int .u64 0, .int .u64 1] 66)).alloc (.cells #[.int .i64 2, .int .i64 3, .int .i64 1, .slice (some ⟨w.heap.size, 0, none⟩) 6 6] 26)) 2 2 1 1 0 0 0 0 28
    rw [World.size_alloc, World.size_alloc] at this
    exact this
theorem pg_lit : Pg 2 3 1 2 2 1 1 6 bN := ⟨by decide, by decide, by decide, by decide, by decide, by decide, by decide, by decide, by decide, by decide, by decide, by decide +kernel⟩
theorem po_lit1 : poN false bN 3 (nw 1) 2 2 1 1 2 (1 * 2) = 18446744073709551617 := by decide +kernel
theorem po_lit2 : poN true bN 3 (nw 1) 2 2 1 1 2 (1 * 2) = 0 := by decide +kernel
set_option maxHeartbeats 1600000 in
set_option maxRecDepth 100000 in
theorem ubegun_any (w : World) : Calls Try.prog 9 #[] w fun e w' => e = .returned (.bool true) ∧ Below w.heap.size w w' := by
  have HX := hid1 (fun g W r => max_ok 2 3 1 2 2 1 1 g 0 6 6 bN 1 2 2 W pg_lit (by decide) (by decide) (by decide) (by decide) (by decide) r)
  have HN := hid1 (fun g W r => min_ok 2 3 1 2 2 1 1 g 0 6 6 bN 1 2 2 W pg_lit (by decide) (by decide) (by decide) (by decide) (by decide) r)
  rw [po_lit1] at HX
  rw [po_lit2] at HN
  simp only [show ((1 : Nat) : Int) = 1 from rfl, show ((2 : Nat) : Int) = 2 from rfl, show ((3 : Nat) : Int) = 3 from rfl] at HX HN
  go_enter Try.func9, Try.ntmps9
  go_wp2_with fail
  have S0 := hid1 (bgn_start w)
  refine gen_calls (fun W => W.rowIs (w.heap.size + 1) 26 4 (cf 2 3 1 (some ⟨w.heap.size, 0, none⟩) 6 6) ∧ Sg.Wn W (w.heap.size + 2) 0 2 2 1 1 0 0 0 0 ∧ Wr W (some ⟨w.heap.size, 0, none⟩) 6 bN ∧ Below w.heap.size w W) ⟨S0.out.2.1, S0.out.2.2, S0.out.1, bl_alloc (bl_alloc (bl_alloc (Below.refl _ _) _) _) _⟩ ?_
  rintro W ⟨q1, q2, r0, B1⟩
  refine (HX.out _ W r0).mono ?_
  rintro e w1 ⟨G1, rfl, hG1, row, hb⟩
  replace q1 := keepr hb q1
  replace q2 := q2.keep hb
  replace r0 := r0.below hb
  have B2 := bl_step B1 hb
  clear hb B1
  have r1 := Wr.row row (show (18446744073709551617 : Nat) < 2 ^ (64 * 2) by decide)
  clear row HX hG1
  have e0 := cf0 q1
  have e1 := cf1 q1
  have e2 := cf2 q1
  have e3 := cf3 q1
  have q2' := q2
  obtain ⟨n0, n1, n2, n3, n4, n5, n6, n7⟩ := q2'
  simp only [Nat.zero_add] at n1 n2 n3 n4 n5 n6 n7
  have l1 := q1.lt
  have l2 := lt_of_cell n0
  go_wp2_with fail
  refine gen_calls (fun W => W.rowIs (w.heap.size + 1) 26 4 (cf 2 3 1 (some ⟨w.heap.size, 0, none⟩) 6 6) ∧ Sg.Wn W (w.heap.size + 2) 0 2 2 1 1 0 0 0 0 ∧ Wr W (some ⟨w.heap.size, 0, none⟩) 6 bN ∧ Wr W (some ⟨G1, 0, none⟩) 2 18446744073709551617 ∧ W.rowIs (w1.heap.size) 26 4 (cf 1 2 1 (some ⟨G1, 0, none⟩) 2 2) ∧ Below w.heap.size w W) ⟨q1.alloc _, q2.keep (bl_alloc (Below.refl _ _) _), r0.below (bl_alloc (Below.refl _ _) _), r1.below (bl_alloc (Below.refl _ _) _), cu_new _ _ _ _ _ _ _ _, bl_alloc B2 _⟩ ?_
  clear q1 q2 r0 r1 B2 e0 e1 e2 e3 n0 n1 n2 n3 n4 n5 n6 n7 l1 l2
  rintro W2 ⟨q1, q2, r0, r1, q3, B3⟩
  refine (HN.out _ W2 r0).mono ?_
  rintro e w2 ⟨G2, rfl, hG2, row, hb⟩
  replace q1 := keepr hb q1
  replace q2 := q2.keep hb
  replace r0 := r0.below hb
  replace r1 := r1.below hb
  replace q3 := keepr hb q3
  have B4 := bl_step B3 hb
  clear hb B3
  have r2 := Wr.row row (show (0 : Nat) < 2 ^ (64 * 2) by decide)
  clear row HN hG2
  clear q1 q2 r0
  have e0 := cf0 q3
  have e1 := cf1 q3
  have e2 := cf2 q3
  have e3 := cf3 q3
  have l3 := q3.lt
  go_wp2_with fail
  refine gen_calls (fun W => W.rowIs w2.heap.size 26 4 (cf 1 2 1 (some ⟨G2, 0, none⟩) 2 2) ∧ W.rowIs (w2.heap.size + 1) 23 3 (hf 1 2 1) ∧ Wr W (some ⟨G1, 0, none⟩) 2 18446744073709551617 ∧ Wr W (some ⟨G2, 0, none⟩) 2 0 ∧ Wr W (some ⟨w2.heap.size + 2, 0, none⟩) 2 18446744073709551617 ∧ Below w.heap.size w W) ⟨((cu_new w2 _ _ _ _ _ _ _).alloc _).alloc _, ?_, ((r1.below (bl_alloc (Below.refl _ _) _)).below (bl_alloc (Below.refl _ _) _)).below (bl_alloc (Below.refl _ _) _), ((r2.below (bl_alloc (Below.refl _ _) _)).below (bl_alloc (Below.refl _ _) _)).below (bl_alloc (Below.refl _ _) _), ?_, bl_alloc (bl_alloc (bl_alloc B4 _) _) _⟩ ?_
  · have := hf_new (w2.alloc (.cells #[.int .i64 1, .int .i64 2, .int .i64 1, .slice (some ⟨G2, 0, none⟩) 2 2] 26)) 1 2 1 23
    rw [World.size_alloc] at this
    exact this.alloc _
  · have := wr_lit11 ((w2.alloc (.cells #[.int .i64 1, .int .i64 2, .int .i64 1, .slice (some ⟨G2, 0, none⟩) 2 2] 26)).alloc (.cells #[.int .i64 1, .int .i64 2, .int .i64 1] 23)) 66
    rw [World.size_alloc, World.size_alloc] at this
    exact this
  clear q3 r1 r2 B4 e0 e1 e2 e3 l3
  rintro W3 ⟨q5, q7, r1, r2, r3, B9⟩
  refine (cubes_same 1 2 1 2 18446744073709551617 _ _ _ _ W3 (by decide) r1 r3).mono ?_
  rintro e w3 ⟨rfl, hb⟩
  replace q5 := keepr hb q5
  replace q7 := keepr hb q7
  replace r2 := r2.below hb
  have B10 := bl_step B9 hb
  clear hb B9 r1 r3
  have e0 := cf0 q5
  have e1 := cf1 q5
  have e2 := cf2 q5
  have e3 := cf3 q5
  have s0 := hf0 q7
  have s1 := hf1 q7
  have s2 := hf2 q7
  go_wp2_with fail
  refine gen_calls (fun W => Wr W (some ⟨G2, 0, none⟩) 2 0 ∧ Wr W (some ⟨w3.heap.size, 0, none⟩) 2 0 ∧ Below w.heap.size w W) ⟨r2.below (bl_alloc (Below.refl _ _) _), wr_lit00 _ _, bl_alloc B10 _⟩ ?_
  clear r2 B10 q5 q7 e0 e1 e2 e3 s0 s1 s2
  rintro W4 ⟨r2, r3, B11⟩
  refine (cubes_same 1 2 1 2 0 _ _ _ _ W4 (by decide) r2 r3).mono ?_
  rintro e w4 ⟨rfl, hb⟩
  have B12 := bl_step B11 hb
  clear hb B11
  go_wp2_with fail
  go_ret
  exact ⟨rfl, B12⟩
end Go.Proofs.Ytlghmojjcfjibaa
