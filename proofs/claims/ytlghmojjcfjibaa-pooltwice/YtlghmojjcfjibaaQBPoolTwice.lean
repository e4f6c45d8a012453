import Derived.Test.YtlghmojjcfjibaaUW5
import Derived.Test.YtlghmojjcfjibaaQAPoolTwice
import Derived.ChangeSlices
import Derived.Deep.Slices
/- PACKAGE pool, the laws: begun. -/
namespace Go.Proofs.Ytlghmojjcfjibaa
open Go.RowKit Go.Shelf

def bN : Nat := 2135987035920910082395021706169552114602704522356652769947041607822219725780640550022962086936577
theorem wr_litN (w : World) (t : TypeId) : Wr (w.alloc (.cells #[.int .u64 1, .int .u64 0, .int .u64 0, .int .u64 0, .int .u64 0, .int .u64 1] t)) (some ⟨w.heap.size, 0, none⟩) 6 bN := by
  refine ⟨by decide +kernel, fun k hk => ⟨w.heap.size, 0, rfl, ?_⟩⟩
  rcases k with _ | _ | _ | _ | _ | _ | k
  · show World.cell? _ ⟨w.heap.size, 0, none⟩ = some (.int .u64 1)
    simp [go_sem]
  · show World.cell? _ ⟨w.heap.size, 1, none⟩ = some (.int .u64 0)
    simp [go_sem]
  · show World.cell? _ ⟨w.heap.size, 2, none⟩ = some (.int .u64 0)
    simp [go_sem]
  · show World.cell? _ ⟨w.heap.size, 3, none⟩ = some (.int .u64 0)
    simp [go_sem]
  · show World.cell? _ ⟨w.heap.size, 4, none⟩ = some (.int .u64 0)
    simp [go_sem]
  · unfold wf
    rw [show wd bN 5 = 1 by decide +kernel]
    show World.cell? _ ⟨w.heap.size, 5, none⟩ = some (.int .u64 1)
    simp [go_sem]
  · omega
theorem wr_lit11 (w : World) (t : TypeId) : Wr (w.alloc (.cells #[.int .u64 1, .int .u64 1] t)) (some ⟨w.heap.size, 0, none⟩) 2 18446744073709551617 := by
  refine ⟨by decide, fun k hk => ⟨w.heap.size, 0, rfl, ?_⟩⟩
  rcases k with _ | _ | k
  · show World.cell? _ ⟨w.heap.size, 0, none⟩ = some (.int .u64 1)
    simp [go_sem]
  · show World.cell? _ ⟨w.heap.size, 1, none⟩ = some (.int .u64 1)
    simp [go_sem]
  · omega
theorem wr_lit00 (w : World) (t : TypeId) : Wr (w.alloc (.cells #[.int .u64 0, .int .u64 0] t)) (some ⟨w.heap.size, 0, none⟩) 2 0 := by
  refine ⟨by decide, fun k hk => ⟨w.heap.size, 0, rfl, ?_⟩⟩
  rcases k with _ | _ | k
  · show World.cell? _ ⟨w.heap.size, 0, none⟩ = some (.int .u64 0)
    simp [go_sem]
  · show World.cell? _ ⟨w.heap.size, 1, none⟩ = some (.int .u64 0)
    simp [go_sem]
  · omega
theorem bgn_start (w : World) : Wr (((w.alloc (.cells #[.int .u64 1, .int .u64 0, .int .u64 0, .int .u64 0, .int .u64 0, .int .u64 1] 66)).alloc (.cells #[.int .i64 2, .int .i64 3, .int .i64 1, .slice (some ⟨w.heap.size, 0, none⟩) 6 6] 26)).alloc (.cells #[.int .i64 2, .int .i64 2, .int .i64 1, .int .i64 1, .int .i64 0, .int .i64 0, .int .i64 0, .int .i64 0] 28)) (some ⟨w.heap.size, 0, none⟩) 6 bN ∧
    (((w.alloc (.cells #[.int .u64 1, .int .u64 0, .int .u64 0, .int .u64 0, .int .u64 0, .int .u64 1] 66)).alloc (.cells #[.int .i64 2, .int .i64 3, .int .i64 1, .slice (some ⟨w.heap.size, 0, none⟩) 6 6] 26)).alloc (.cells #[.int .i64 2, .int .i64 2, .int .i64 1, .int .i64 1, .int .i64 0, .int .i64 0, .int .i64 0, .int .i64 0] 28)).rowIs (w.heap.size + 1) 26 4 (cf 2 3 1 (some ⟨w.heap.size, 0, none⟩) 6 6) ∧
    Sg.Wn (((w.alloc (.cells #[.int .u64 1, .int .u64 0, .int .u64 0, .int .u64 0, .int .u64 0, .int .u64 1] 66)).alloc (.cells #[.int .i64 2, .int .i64 3, .int .i64 1, .slice (some ⟨w.heap.size, 0, none⟩) 6 6] 26)).alloc (.cells #[.int .i64 2, .int .i64 2, .int .i64 1, .int .i64 1, .int .i64 0, .int .i64 0, .int .i64 0, .int .i64 0] 28)) (w.heap.size + 2) 0 2 2 1 1 0 0 0 0 := by
  refine ⟨((wr_litN w _).below (bl_alloc (Below.refl _ _) _)).below (bl_alloc (Below.refl _ _) _), ?_, ?_⟩
  · have := cu_new (w.alloc (.cells #[.int .u64 1, .int .u64 0, .int .u64 0, .int .u64 0, .int .u64 0, .int .u64 1] 66)) 2 3 1 (some ⟨w.heap.size, 0, none⟩) 6 6 26
    rw [World.size_alloc] at this
    exact this.alloc _
  · have := Sg.wn_new ((w.alloc (.cells #[.int .u64 1, .int .u64 0, .int .u64 0, .int .u64 0, .int .u64 0, .int .u64 1] 66)).alloc (.cells #[.int .i64 2, .int .i64 3, .int .i64 1, .slice (some ⟨w.heap.size, 0, none⟩) 6 6] 26)) 2 2 1 1 0 0 0 0 28
    rw [World.size_alloc, World.size_alloc] at this
    exact this
theorem pg_lit : Pg 2 3 1 2 2 1 1 6 bN := ⟨by decide, by decide, by decide, by decide, by decide, by decide, by decide, by decide, by decide, by decide, by decide, by decide +kernel⟩
theorem po_lit1 : poN false bN 3 (nw 1) 2 2 1 1 2 (1 * 2) = 18446744073709551617 := by decide +kernel
theorem po_lit2 : poN true bN 3 (nw 1) 2 2 1 1 2 (1 * 2) = 0 := by decide +kernel
set_option maxHeartbeats 1600000 in
set_option maxRecDepth 100000 in
theorem ubegun_any (w : World) : Calls Try.prog 9 #[] w fun e w' => e = .returned (.bool true) ∧ Below w.heap.size w w' := by
  have HX := hid1 (fun g W r => max_ok 2 3 1 2 2 1 1 g 0 6 6 bN 1 2 2 W pg_lit (by decide) (by decide) (by decide) (by decide) (by decide) r)
  have HN := hid1 (fun g W r => min_ok 2 3 1 2 2 1 1 g 0 6 6 bN 1 2 2 W pg_lit (by decide) (by decide) (by decide) (by decide) (by decide) r)
  rw [po_lit1] at HX
  rw [po_lit2] at HN
  simp only [show ((1 : Nat) : Int) = 1 from rfl, show ((2 : Nat) : Int) = 2 from rfl, show ((3 : Nat) : Int) = 3 from rfl] at HX HN
  go_enter Try.func9, Try.ntmps9
  go_wp2_with fail
  have S0 := hid1 (bgn_start w)
  refine gen_calls (fun W => W.rowIs (w.heap.size + 1) 26 4 (cf 2 3 1 (some ⟨w.heap.size, 0, none⟩) 6 6) ∧ Sg.Wn W (w.heap.size + 2) 0 2 2 1 1 0 0 0 0 ∧ Wr W (some ⟨w.heap.size, 0, none⟩) 6 bN ∧ Below w.heap.size w W) ⟨S0.out.2.1, S0.out.2.2, S0.out.1, bl_alloc (bl_alloc (bl_alloc (Below.refl _ _) _) _) _⟩ ?_
  rintro W ⟨q1, q2, r0, B1⟩
  refine (HX.out _ W r0).mono ?_
  rintro e w1 ⟨G1, rfl, hG1, row, hb⟩
  replace q1 := keepr hb q1
  replace q2 := q2.keep hb
  replace r0 := r0.below hb
  have B2 := bl_step B1 hb
  clear hb B1
  have r1 := Wr.row row (show (18446744073709551617 : Nat) < 2 ^ (64 * 2) by decide)
  clear row HX hG1
  have e0 := cf0 q1
  have e1 := cf1 q1
  have e2 := cf2 q1
  have e3 := cf3 q1
  have q2' := q2
  obtain ⟨n0, n1, n2, n3, n4, n5, n6, n7⟩ := q2'
  simp only [Nat.zero_add] at n1 n2 n3 n4 n5 n6 n7
  have l1 := q1.lt
  have l2 := lt_of_cell n0
  go_wp2_with fail
  refine gen_calls (fun W => W.rowIs (w.heap.size + 1) 26 4 (cf 2 3 1 (some ⟨w.heap.size, 0, none⟩) 6 6) ∧ Sg.Wn W (w.heap.size + 2) 0 2 2 1 1 0 0 0 0 ∧ Wr W (some ⟨w.heap.size, 0, none⟩) 6 bN ∧ Wr W (some ⟨G1, 0, none⟩) 2 18446744073709551617 ∧ W.rowIs (w1.heap.size) 26 4 (cf 1 2 1 (some ⟨G1, 0, none⟩) 2 2) ∧ Below w.heap.size w W) ⟨q1.alloc _, q2.keep (bl_alloc (Below.refl _ _) _), r0.below (bl_alloc (Below.refl _ _) _), r1.below (bl_alloc (Below.refl _ _) _), cu_new _ _ _ _ _ _ _ _, bl_alloc B2 _⟩ ?_
  clear q1 q2 r0 r1 B2 e0 e1 e2 e3 n0 n1 n2 n3 n4 n5 n6 n7 l1 l2
  rintro W2 ⟨q1, q2, r0, r1, q3, B3⟩
  refine (HN.out _ W2 r0).mono ?_
  rintro e w2 ⟨G2, rfl, hG2, row, hb⟩
  replace q1 := keepr hb q1
  replace q2 := q2.keep hb
  replace r0 := r0.below hb
  replace r1 := r1.below hb
  replace q3 := keepr hb q3
  have B4 := bl_step B3 hb
  clear hb B3
  have r2 := Wr.row row (show (0 : Nat) < 2 ^ (64 * 2) by decide)
  clear row HN hG2
  clear q1 q2 r0
  have e0 := cf0 q3
  have e1 := cf1 q3
  have e2 := cf2 q3
  have e3 := cf3 q3
  have l3 := q3.lt
  go_wp2_with fail
  refine gen_calls (fun W => W.rowIs w2.heap.size 26 4 (cf 1 2 1 (some ⟨G2, 0, none⟩) 2 2) ∧ W.rowIs (w2.heap.size + 1) 23 3 (hf 1 2 1) ∧ Wr W (some ⟨G1, 0, none⟩) 2 18446744073709551617 ∧ Wr W (some ⟨G2, 0, none⟩) 2 0 ∧ Wr W (some ⟨w2.heap.size + 2, 0, none⟩) 2 18446744073709551617 ∧ Below w.heap.size w W) ⟨((cu_new w2 _ _ _ _ _ _ _).alloc _).alloc _, ?_, ((r1.below (bl_alloc (Below.refl _ _) _)).below (bl_alloc (Below.refl _ _) _)).below (bl_alloc (Below.refl _ _) _), ((r2.below (bl_alloc (Below.refl _ _) _)).below (bl_alloc (Below.refl _ _) _)).below (bl_alloc (Below.refl _ _) _), ?_, bl_alloc (bl_alloc (bl_alloc B4 _) _) _⟩ ?_
  · have := hf_new (w2.alloc (.cells #[.int .i64 1, .int .i64 2, .int .i64 1, .slice (some ⟨G2, 0, none⟩) 2 2] 26)) 1 2 1 23
    rw [World.size_alloc] at this
    exact this.alloc _
  · have := wr_lit11 ((w2.alloc (.cells #[.int .i64 1, .int .i64 2, .int .i64 1, .slice (some ⟨G2, 0, none⟩) 2 2] 26)).alloc (.cells #[.int .i64 1, .int .i64 2, .int .i64 1] 23)) 66
    rw [World.size_alloc, World.size_alloc] at this
    exact this
  clear q3 r1 r2 B4 e0 e1 e2 e3 l3
  rintro W3 ⟨q5, q7, r1, r2, r3, B9⟩
  refine (cubes_same 1 2 1 2 18446744073709551617 _ _ _ _ W3 (by decide) r1 r3).mono ?_
  rintro e w3 ⟨rfl, hb⟩
  replace q5 := keepr hb q5
  replace q7 := keepr hb q7
  replace r2 := r2.below hb
  have B10 := bl_step B9 hb
  clear hb B9 r1 r3
  have e0 := cf0 q5
  have e1 := cf1 q5
  have e2 := cf2 q5
  have e3 := cf3 q5
  have s0 := hf0 q7
  have s1 := hf1 q7
  have s2 := hf2 q7
  go_wp2_with fail
  refine gen_calls (fun W => Wr W (some ⟨G2, 0, none⟩) 2 0 ∧ Wr W (some ⟨w3.heap.size, 0, none⟩) 2 0 ∧ Below w.heap.size w W) ⟨r2.below (bl_alloc (Below.refl _ _) _), wr_lit00 _ _, bl_alloc B10 _⟩ ?_
  clear r2 B10 q5 q7 e0 e1 e2 e3 s0 s1 s2
  rintro W4 ⟨r2, r3, B11⟩
  refine (cubes_same 1 2 1 2 0 _ _ _ _ W4 (by decide) r2 r3).mono ?_
  rintro e w4 ⟨rfl, hb⟩
  have B12 := bl_step B11 hb
  clear hb B11
  go_wp2_with fail
  go_ret
  exact ⟨rfl, B12⟩
end Go.Proofs.Ytlghmojjcfjibaa
/- PARAMETERS THAT ARE A CUBE, LISTS OF CUBES, LISTS OF WINDOWS (plain rows). -/
namespace Go.Proofs.Ytlghmojjcfjibaa
open Go.ChangeShapes Go.WideShapes Go.ChangeAt Go.RowKit
set_option maxRecDepth 100000

theorem max_is : maxLen = 9223372036854775807 := by decide
theorem add_at (b o n : Nat) : Addr.add ⟨b, o, none⟩ n = ⟨b, o + n, none⟩ := by
  unfold Addr.add
  by_cases h : n = 0
  · subst h; rfl
  · rw [if_neg h]
theorem u64_of_wf {x : Int} (h : (Lit.int .u64 x).wf = true) : 0 ≤ x ∧ x < 18446744073709551616 := by
  simp [Lit.wf, IntKind.min, IntKind.max, IntKind.signed, IntKind.bits] at h
  exact ⟨by omega, by omega⟩
theorem cells_u64 : Try.prog.cellsOf 66 = 1 := by kernel_rfl
theorem cells_intU : Try.prog.cellsOf 3 = 1 := by kernel_rfl
theorem cells_us : Try.prog.cellsOf 24 = 1 := by kernel_rfl
theorem bytes_u64 : Try.prog.bytesOf 66 = 8 := by kernel_rfl
theorem num_gen (B : Nat) (hB : 0 < B) (f : Nat → Nat) : ∀ m, (∀ k, k < m → f k < B) → ∃ N, N < B ^ m ∧ ∀ k, k < m → N / B ^ k % B = f k
  | 0, _ => ⟨0, by simp, fun k hk => absurd hk (by omega)⟩
  | m + 1, h => by
    obtain ⟨N, h1, h2⟩ := num_gen B hB f m fun k hk => h k (by omega)
    have hm := h m (by omega)
    have hp : 0 < B ^ m := Nat.pow_pos hB
    refine ⟨N + B ^ m * f m, ?_, fun k hk => ?_⟩
    · have h3 : B ^ m * (f m + 1) ≤ B ^ m * B := Nat.mul_le_mul_left _ (by omega)
      rw [Nat.mul_add, Nat.mul_one] at h3
      rw [Nat.pow_succ]
      omega
    · by_cases hkm : k = m
      · subst hkm
        rw [Nat.add_mul_div_left _ _ hp, Nat.div_eq_of_lt h1, Nat.zero_add, Nat.mod_eq_of_lt hm]
      · have hlt : k < m := by omega
        obtain ⟨q, rfl⟩ : ∃ q, m = k + (q + 1) := ⟨m - k - 1, by omega⟩
        have e : B ^ (k + (q + 1)) * f (k + (q + 1)) = B ^ k * (B * (B ^ q * f (k + (q + 1)))) := by
          rw [Nat.pow_add, Nat.pow_succ, Nat.mul_comm (B ^ q) B]
          simp only [Nat.mul_assoc]
        rw [e, Nat.add_mul_div_left _ _ (Nat.pow_pos hB), Nat.add_mul_mod_self_left]
        exact h2 k hlt
theorem num_of (f : Nat → Nat) (m : Nat) (h : ∀ k, k < m → f k < 18446744073709551616) : ∃ N, N < 2 ^ (64 * m) ∧ ∀ k, k < m → wd N k = f k := by
  obtain ⟨N, h1, h2⟩ := num_gen (2 ^ 64) (Nat.pow_pos (by decide)) f m (by rw [← two64]; exact h)
  refine ⟨N, by rw [Nat.pow_mul]; exact h1, fun k hk => ?_⟩
  have h3 := h2 k hk
  rw [← Nat.pow_mul, ← two64] at h3
  exact h3
theorem weightsAll_mem {H : Type} {P : Program} {e : TypeId} : ∀ {l : List (DataW H)} {d : DataW H}, d ∈ l → ∀ n ∈ d.weights P e, n ∈ DataW.weightsAll P e l
  | x :: l, d, hd, n, hn => by
    rw [DataW.weightsAll, List.mem_append]
    rcases List.mem_cons.mp hd with rfl | h
    · exact Or.inl hn
    · exact Or.inr (weightsAll_mem h n hn)
theorem open_list {H : Type} {enc : TypeId × Value → H} {W : World} {base : Nat} {t e : TypeId} {N : Nat} {v : Value} {d : DataW H} {p : List MemPlace} (ht : Try.prog.underlying t = some (.slice e)) (hN : Try.prog.cellsOf e = N) (hpos : 0 < N)
    (hv : Value.okWide Try.prog W .any base t v) (h : DataW.Trod enc Try.prog W 0 (fun _ => true) true t v d p) :
    ∃ (ao : Option Addr) (m cap : Nat), v = .slice ao m cap ∧ m ≤ 9223372036854775807 ∧ ∀ k, k < m → ∃ (g o n : Nat) (cs : List Value) (y : DataW H × List MemPlace), ao = some ⟨g, o, none⟩ ∧ DataW.trod enc Try.prog W 0 (fun _ => true) true n e cs = some y ∧ cs.length = N ∧
      ∀ j, j < N → W.cell? ⟨g, o + k * N + j, none⟩ = cs[j]? := by
  obtain ⟨a0, len, cap, rfl⟩ := okWide_slice ht hv
  obtain ⟨fuel, hf⟩ := h
  rcases Deep.open_slice ht hf with ⟨hc, hx⟩ | ⟨a, len', cap', mm, n, D, Pl, hc, _, hl, hm, hmm, hx, hcell⟩
  · simp [Value.cells] at hc
    obtain ⟨rfl, rfl, rfl⟩ := hc
    exact ⟨none, 0, 0, rfl, by omega, fun k hk => absurd hk (by omega)⟩
  · simp [Value.cells] at hc
    obtain ⟨rfl, rfl, rfl⟩ := hc
    simp only [if_true] at hmm
    refine ⟨some a, len, cap, rfl, by have := max_is; omega, fun k hk => ?_⟩
    obtain ⟨b, o, s⟩ := a
    obtain rfl : s = none := by
      obtain ⟨cs0, h0, _⟩ := hcell 0 (by omega)
      rw [hN] at h0
      obtain ⟨_, hlen, hc0⟩ := World.cells?_some h0
      have e0 := hc0 0 hpos
      rw [Deep.add_add, List.getElem?_eq_getElem (by omega)] at e0
      have := World.cell?_spot e0
      simpa [Addr.add] using this
    obtain ⟨cs, h1, h2⟩ := hcell k (by omega)
    rw [hN] at h1
    obtain ⟨_, hlen, hc1⟩ := World.cells?_some h1
    refine ⟨b, o, n, cs, _, rfl, h2, hlen, fun j hj => ?_⟩
    have := hc1 j hj
    rw [Deep.add_add, add_at, ← Nat.add_assoc] at this
    exact this
section
variable {H : Type} {enc : TypeId × Value → H} {W : World} {fuel : Nat} {cs : List Value} {x : DataW H × List MemPlace}
theorem open_words (h : DataW.trod enc Try.prog W 0 (fun _ => true) true fuel 24 cs = some x) :
    ∃ (ao : Option Addr) (m cap N : Nat), cs = [.slice ao m cap] ∧ m ≤ cap ∧ cap ≤ 9223372036854775807 ∧ N < 2 ^ (64 * m) ∧ ∀ k, k < m → ∃ g o, ao = some ⟨g, o, none⟩ ∧ W.cell? ⟨g, o + k, none⟩ = some (wf N k) := by
  rcases open_ints und_u64s Try.underlying66 cells_u64 h with ⟨hc, hx⟩ | ⟨a, len, cap, zs, hc, _, hl, hm, hzl, hx, hcell, hwf⟩
  · exact ⟨none, 0, 0, 0, hc, by omega, by omega, by simp, fun k hk => absurd hk (by omega)⟩
  · simp only [if_true] at hzl
    have hmx := max_is
    have hr : ∀ k, k < len → 0 ≤ zs.getD k 0 ∧ zs.getD k 0 < 18446744073709551616 := fun k hk => by
      have hk2 : k < zs.length := by omega
      have e : zs.getD k 0 = zs[k] := by simp [List.getD, hk2]
      rw [e]
      exact u64_of_wf (hwf _ (List.getElem_mem hk2))
    obtain ⟨N, hN, hNk⟩ := num_of (fun k => (zs.getD k 0).toNat) len fun k hk => by have := hr k hk; omega
    obtain ⟨b, o, s⟩ := a
    have at_ : ∀ k, k < len → s = none ∧ W.cell? ⟨b, o + k, none⟩ = some (wf N k) := fun k hk => by
      have c := hcell k (by omega)
      have c0 := hcell 0 (by omega)
      have hs := World.cell?_spot c0
      simp [Addr.add] at hs
      subst hs
      rw [add_at] at c
      refine ⟨rfl, ?_⟩
      rw [c]
      unfold wf
      rw [hNk k hk]
      have := hr k hk
      congr 2
      omega
    refine ⟨some ⟨b, o, s⟩, len, cap, N, hc, hl, by omega, hN, fun k hk => ?_⟩
    obtain ⟨rfl, c⟩ := at_ k hk
    exact ⟨b, o, rfl, c⟩
theorem fldZ {t : TypeId} {fs : Array Field} (ht : Try.prog.underlying t = some (.struct fs)) (h : DataW.trod enc Try.prog W 0 (fun _ => true) true fuel t cs = some x) (hz : ∀ n ∈ x.1.weights Try.prog t, n ≤ reachBytes) (i : Nat) (f : Field) (hi : fs[i]? = some f) :
    ∃ n y, DataW.trod enc Try.prog W 0 (fun _ => true) true n f.type ((cs.drop f.offset).take (Try.prog.cellsOf f.type)) = some y ∧ ∀ m ∈ y.1.weights Try.prog f.type, m ≤ reachBytes := by
  obtain ⟨xs, n, _, ex, _, hxl, hf⟩ := DataW.trod_struct ht h
  have g := hf i f hi
  have hlt : i < xs.length := by
    rw [hxl]
    exact (Array.getElem?_eq_some_iff.1 hi).1
  rw [List.getElem?_eq_getElem hlt] at g
  refine ⟨n, _, g, fun m hm => hz m ?_⟩
  rw [ex]
  simp only [DataW.weights, ht]
  refine DataW.weights_mem_each (j := i) (t := f.type) (d := xs[i].1) ?_ ?_ _ hm
  · simp [hi]
  · rw [List.getElem?_map, List.getElem?_eq_getElem hlt]
    rfl
theorem open_wordsZ (h : DataW.trod enc Try.prog W 0 (fun _ => true) true fuel 24 cs = some x) (hz : ∀ n ∈ x.1.weights Try.prog 24, n ≤ reachBytes) :
    ∃ (ao : Option Addr) (m cap N : Nat), cs = [.slice ao m cap] ∧ (m ≤ cap ∧ cap ≤ 9223372036854775807) ∧ m ≤ 17592186043904 ∧ N < 2 ^ (64 * m) ∧ ∀ k, k < m → ∃ g o, ao = some ⟨g, o, none⟩ ∧ W.cell? ⟨g, o + k, none⟩ = some (wf N k) := by
  obtain ⟨ao, m, cap, N, e, h1, h2, h3, h4⟩ := open_words h
  refine ⟨ao, m, cap, N, e, ?_, ?_, h3, h4⟩
  · exact ⟨h1, h2⟩
  · rcases open_ints und_u64s Try.underlying66 cells_u64 h with ⟨hc, hx⟩ | ⟨a, len, cap', zs, hc, _, hl, hm, hzl, hx, _⟩
    · rw [e] at hc
      simp at hc
      omega
    · rw [e] at hc
      simp at hc
      simp only [if_true] at hzl
      have w1 := hz ((lits (H := H) .u64 (zs.take len)).length + (lits (H := H) .u64 (zs.drop len)).length |>.mul 8) (by
        rw [hx]
        simp only [DataW.weights, und_u64s, bytes_u64]
        exact List.mem_cons_self)
      rw [reach_is] at w1
      have e1 : (lits (H := H) .u64 (zs.take len)).length + (lits (H := H) .u64 (zs.drop len)).length = zs.length := by simp [lits]; omega
      rw [e1] at w1
      have w2 : zs.length * 8 ≤ 140737488351232 := w1
      omega
theorem cells_cube : Try.prog.cellsOf 26 = 4 := by kernel_rfl
theorem open_cubeZ (h : DataW.trod enc Try.prog W 0 (fun _ => true) true fuel 26 cs = some x) (hz : ∀ n ∈ x.1.weights Try.prog 26, n ≤ reachBytes) :
    ∃ (h v c : Int) (ao : Option Addr) (m cap N : Nat), cs = [.int .i64 h, .int .i64 v, .int .i64 c, .slice ao m cap] ∧ Wr W ao m N ∧ m ≤ 17592186043904 ∧ m ≤ cap ∧ cap ≤ 9223372036854775807 := by
  have hl : cs.length = 4 := by
    obtain ⟨_, _, _, _, hlen, _, _⟩ := DataW.trod_struct Try.underlying26 h
    exact hlen.trans cells_cube
  obtain ⟨_, y0, t0, _⟩ := fldZ Try.underlying26 h hz 0 _ rfl
  obtain ⟨_, y1, t1, z1⟩ := fldZ Try.underlying26 h hz 1 _ rfl
  replace t0 : DataW.trod enc Try.prog W 0 (fun _ => true) true _ 23 ((cs.drop 0).take (Try.prog.cellsOf 23)) = some y0 := t0
  replace t1 : DataW.trod enc Try.prog W 0 (fun _ => true) true _ 24 ((cs.drop 3).take (Try.prog.cellsOf 24)) = some y1 := t1
  rw [cells_shpF] at t0
  rw [cells_us] at t1
  obtain ⟨hh, v, c, e0⟩ := shape_cellsF t0
  obtain ⟨ao, m, cap, N, e1, h1, h2, h3, h4⟩ := open_wordsZ t1 z1
  match cs, hl with
  | [a, b, d, f], _ =>
    simp at e0 e1
    obtain ⟨rfl, rfl, rfl⟩ := e0
    subst e1
    exact ⟨hh, v, c, ao, m, cap, N, rfl, ⟨h3, h4⟩, h2, h1⟩
end
/-- A list of cubes that came in. -/
def LqU (W : World) (ao : Option Addr) (m : Nat) : Prop := ∀ j, j < m → ∃ (g o : Nat) (h v c : Int) (xo : Option Addr) (n xc N : Nat), ao = some ⟨g, o, none⟩ ∧ (W.cell? ⟨g, o + j * 4, none⟩ = some (.int .i64 h) ∧ W.cell? ⟨g, o + j * 4 + 1, none⟩ = some (.int .i64 v) ∧ W.cell? ⟨g, o + j * 4 + 2, none⟩ = some (.int .i64 c) ∧ W.cell? ⟨g, o + j * 4 + 3, none⟩ = some (.slice xo n xc)) ∧ Wr W xo n N ∧ n ≤ 17592186043904 ∧ n ≤ xc ∧ xc ≤ 9223372036854775807
theorem und_cubesU : Try.prog.underlying 50 = some (.slice 26) := by kernel_rfl
theorem open_cubess {H : Type} {enc : TypeId × Value → H} {W : World} {base : Nat} {v : Value} {d : DataW H} {p : List MemPlace}
    (hv : Value.okWide Try.prog W .any base 50 v) (h : DataW.Trod enc Try.prog W 0 (fun _ => true) true 50 v d p) (hz : ∀ n ∈ d.weights Try.prog 50, n ≤ reachBytes) :
    ∃ (ao : Option Addr) (m cap : Nat), v = .slice ao m cap ∧ m ≤ 9223372036854775807 ∧ LqU W ao m := by
  obtain ⟨a0, len, cap, rfl⟩ := okWide_slice und_cubesU hv
  obtain ⟨fuel, hf⟩ := h
  rcases Deep.open_slice und_cubesU hf with ⟨hc, hx⟩ | ⟨a, len', cap', mm, n, D, Pl, hc, _, hl, hm, hmm, hx, hcell⟩
  · simp [Value.cells] at hc
    obtain ⟨rfl, rfl, rfl⟩ := hc
    exact ⟨none, 0, 0, rfl, by simp, fun j hj => absurd hj (by simp)⟩
  · simp [Value.cells] at hc
    obtain ⟨rfl, rfl, rfl⟩ := hc
    simp only [if_true] at hmm
    have hmx := max_is
    have hd : d = .slice ((List.range len).map D) ((List.range (mm - len)).map fun j => D (len + j)) := congrArg Prod.fst hx
    obtain ⟨b, o, s⟩ := a
    refine ⟨some ⟨b, o, s⟩, len, cap, rfl, by omega, fun j hj => ?_⟩
    obtain ⟨cs1, h1, h2⟩ := hcell j (by omega)
    rw [cells_cube] at h1
    obtain ⟨_, hlen, hc1⟩ := World.cells?_some h1
    have hzj : ∀ n ∈ (D j).weights Try.prog 26, n ≤ reachBytes := fun n hn => hz n (by
      rw [hd]
      simp only [DataW.weights, und_cubesU]
      refine List.mem_cons_of_mem _ (List.mem_append.mpr (Or.inl ?_))
      exact weightsAll_mem (List.mem_map.mpr ⟨j, List.mem_range.mpr hj, rfl⟩) n hn)
    obtain ⟨h, v, c, xo, m, xc, N, rfl, wr, hm', hx'⟩ := open_cubeZ h2 hzj
    have e0 := hc1 0 (by decide)
    have e1 := hc1 1 (by decide)
    have e2 := hc1 2 (by decide)
    have e3 := hc1 3 (by decide)
    rw [Deep.add_add] at e0 e1 e2 e3
    have hs : s = none := by
      obtain ⟨cs0, h0, _⟩ := hcell 0 (by omega)
      rw [cells_cube] at h0
      obtain ⟨_, hlen0, hc0⟩ := World.cells?_some h0
      have e2 := hc0 0 (by decide)
      rw [Deep.add_add, List.getElem?_eq_getElem (by omega)] at e2
      have := World.cell?_spot e2
      simpa [Addr.add] using this
    subst hs
    rw [add_at] at e0 e1 e2 e3
    exact ⟨b, o, h, v, c, xo, m, xc, N, rfl, ⟨by simpa using e0, by simpa [Nat.add_assoc] using e1, by simpa [Nat.add_assoc] using e2, by simpa [Nat.add_assoc] using e3⟩, wr, hm', hx'⟩
theorem open_cube {H : Type} {enc : TypeId × Value → H} {W : World} {base : Nat} {v : Value} {d : DataW H} {p : List MemPlace}
    (hv : Value.okWide Try.prog W .any base 26 v) (h : DataW.Trod enc Try.prog W 0 (fun _ => true) true 26 v d p) (hz : ∀ n ∈ d.weights Try.prog 26, n ≤ reachBytes) :
    ∃ (a b c : Int) (ao : Option Addr) (m cap N : Nat), v = cuv a b c ao m cap ∧ Wr W ao m N ∧ m ≤ 17592186043904 ∧ m ≤ cap ∧ cap ≤ 9223372036854775807 := by
  obtain ⟨cs, rfl, _⟩ := okWide_struct Try.underlying26 hv
  obtain ⟨fuel, hf⟩ := h
  obtain ⟨a, b, c, ao, m, cap, N, e, w1, w2, w3⟩ := open_cubeZ hf hz
  refine ⟨a, b, c, ao, m, cap, N, ?_, w1, w2, w3⟩
  simp [Value.cells] at e
  obtain ⟨l⟩ := cs
  simp at e
  subst e
  rfl
/-- A list of windows that came in. -/
def LwU (W : World) (ao : Option Addr) (m : Nat) : Prop := ∀ j, j < m → ∃ (g o : Nat) (r s sy sx t l b q : Int), ao = some ⟨g, o, none⟩ ∧ Sg.Wn W g (o + j * 8) r s sy sx t l b q
theorem und_winsU : Try.prog.underlying 68 = some (.slice 28) := by kernel_rfl
theorem open_wins {H : Type} {enc : TypeId × Value → H} {W : World} {base : Nat} {v : Value} {d : DataW H} {p : List MemPlace}
    (hv : Value.okWide Try.prog W .any base 68 v) (h : DataW.Trod enc Try.prog W 0 (fun _ => true) true 68 v d p) :
    ∃ (ao : Option Addr) (m cap : Nat), v = .slice ao m cap ∧ m ≤ 9223372036854775807 ∧ LwU W ao m := by
  obtain ⟨ao, m, cap, rfl, hm, hf⟩ := open_list und_winsU cells_winF (by decide) hv h
  refine ⟨ao, m, cap, rfl, hm, fun k hk => ?_⟩
  obtain ⟨g, o, n, cs, y, rfl, ht, _, hc⟩ := hf k hk
  obtain ⟨r, s, sy, sx, t, l, b, q, rfl⟩ := win_cellsF ht
  exact ⟨g, o, r, s, sy, sx, t, l, b, q, rfl, hc 0 (by decide), hc 1 (by decide), hc 2 (by decide), hc 3 (by decide), hc 4 (by decide), hc 5 (by decide), hc 6 (by decide), hc 7 (by decide)⟩
end Go.Proofs.Ytlghmojjcfjibaa
/- PoolTwice: what is asked of a window with the steps 1. -/
namespace Go.Proofs.Ytlghmojjcfjibaa
open Go.RowKit Go.Shelf

/-- A window's cells, as a row. -/
def wnf (r s sy sx t l b q : Int) : Nat → Value := fun k => if k = 0 then .int .i64 r else if k = 1 then .int .i64 s else if k = 2 then .int .i64 sy else if k = 3 then .int .i64 sx else if k = 4 then .int .i64 t else if k = 5 then .int .i64 l else if k = 6 then .int .i64 b else .int .i64 q
theorem wnf_new (w : World) (r s sy sx t l b q : Int) (T : TypeId) : (w.alloc (.cells #[.int .i64 r, .int .i64 s, .int .i64 sy, .int .i64 sx, .int .i64 t, .int .i64 l, .int .i64 b, .int .i64 q] T)).rowIs w.heap.size T 8 (wnf r s sy sx t l b q) := by
  refine ⟨_, World.alloc_heap_new _ _, rfl, fun k hk => ?_⟩
  rcases k with _ | _ | _ | _ | _ | _ | _ | _ | k
  all_goals first | rfl | omega
theorem wnf_wn {w : World} {g T : Nat} {r s sy sx t l b q : Int} (h : w.rowIs g T 8 (wnf r s sy sx t l b q)) : Sg.Wn w g 0 r s sy sx t l b q :=
  ⟨h.cell (i := 0) (by omega), h.cell (i := 1) (by omega), h.cell (i := 2) (by omega), h.cell (i := 3) (by omega), h.cell (i := 4) (by omega), h.cell (i := 5) (by omega), h.cell (i := 6) (by omega), h.cell (i := 7) (by omega)⟩
theorem wnf_set {w : World} {g T : Nat} {r s sy sx t l b q : Int} (h : w.rowIs g T 8 (wnf r s sy sx t l b q)) (r' s' sy' sx' t' l' b' q' : Int) :
    ((((((((w.setCell ⟨g, 0, none⟩ (.int .i64 r')).setCell ⟨g, 1, none⟩ (.int .i64 s')).setCell ⟨g, 2, none⟩ (.int .i64 sy')).setCell ⟨g, 3, none⟩ (.int .i64 sx')).setCell ⟨g, 4, none⟩ (.int .i64 t')).setCell ⟨g, 5, none⟩ (.int .i64 l')).setCell ⟨g, 6, none⟩ (.int .i64 b')).setCell ⟨g, 7, none⟩ (.int .i64 q')).rowIs g T 8 (wnf r' s' sy' sx' t' l' b' q') :=
  ((((((((h.set 0 _).set 1 _).set 2 _).set 3 _).set 4 _).set 5 _).set 6 _).set 7 _).congr fun k hk => by
    rcases k with _ | _ | _ | _ | _ | _ | _ | _ | k
    all_goals first | rfl | (simp [wnf]; done) | omega
/-- A cube that may be. -/
structure Qb (H V C m N : Nat) : Prop where
  hH : 1 ≤ H ∧ H ≤ 4096
  hV : 1 ≤ V ∧ V ≤ 4096
  hC : 1 ≤ C ∧ C ≤ 4096
  ck : Sg.chk H V C = 0
  hm : m = H * V * nw C
  pk : Pok (H * V) C N
theorem Qb.pos {H V C m N : Nat} (h : Qb H V C m N) : 0 < m := by
  have d0 : 0 < nw C := by unfold nw; have := h.hC; omega
  rw [h.hm]; exact Nat.mul_pos (Nat.mul_pos h.hH.1 h.hV.1) d0
theorem Qb.pg {H V C m N R S y x : Nat} (h : Qb H V C m N) (hR : 1 ≤ R ∧ R ≤ 15) (hS : 1 ≤ S ∧ S ≤ 15) (hy : 1 ≤ y ∧ y ≤ 15) (hx : 1 ≤ x ∧ x ≤ 15) (f : R ≤ H ∧ S ≤ V) : Pg H V C R S y x m N := ⟨h.hH, h.hV, h.hC, hR, hS, hy, hx, f.1, f.2, h.ck, h.hm, h.pk⟩
theorem Qb.le {H V C m N : Nat} (h : Qb H V C m N) : m ≤ 1073741824 := by rw [h.hm]; exact (wo_bd h.hH.2 h.hV.2 h.hC.2).2
/-- What is answered. -/
def Po (al : Bool) (H V C N R S y x : Nat) (E h v c : Int) (M X : Nat) : Prop :=
  ((R ≤ H ∧ S ≤ V) ∧ E = 0 ∧ h = (oS H R y : Nat) ∧ v = (oS V S x : Nat) ∧ c = C ∧ M = oS H R y * oS V S x * nw C ∧ X = poN al N V (nw C) R S y x (oS V S x) (oS H R y * oS V S x)) ∨ (¬ (R ≤ H ∧ S ≤ V) ∧ E = 32 ∧ h = 0 ∧ v = 0 ∧ c = 0 ∧ M = 0 ∧ X = 0)
theorem Po.same {al al' : Bool} {H V C N N' R S y x : Nat} {E h v c E' h' v' c' : Int} {M X M' X' : Nat} (p : Po al H V C N R S y x E h v c M X) (q : Po al' H V C N' R S y x E' h' v' c' M' X') : E = E' ∧ h = h' ∧ v = v' ∧ c = c' ∧ M = M' := by
  rcases p with ⟨f, p1, p2, p3, p4, p5, -⟩ | ⟨f, p1, p2, p3, p4, p5, -⟩ <;> rcases q with ⟨f', q1, q2, q3, q4, q5, -⟩ | ⟨f', q1, q2, q3, q4, q5, -⟩
  · exact ⟨by omega, by omega, by omega, by omega, by omega⟩
  · exact absurd f f'
  · exact absurd f' f
  · exact ⟨by omega, by omega, by omega, by omega, by omega⟩
theorem Qb.next {al : Bool} {H V C m N R S y x M X : Nat} (h : Qb H V C m N) (hR : 1 ≤ R ∧ R ≤ 15) (hS : 1 ≤ S ∧ S ≤ 15) (hy : 1 ≤ y ∧ y ≤ 15) (hx : 1 ≤ x ∧ x ≤ 15) (f : R ≤ H ∧ S ≤ V) (hM : M = oS H R y * oS V S x * nw C) (hX : X = poN al N V (nw C) R S y x (oS V S x) (oS H R y * oS V S x)) : Qb (oS H R y) (oS V S x) C M X := by
  have pg := h.pg hR hS hy hx f
  exact ⟨⟨oS_pos _ _ _, Nat.le_trans (oS_le f.1 hR.1) h.hH.2⟩, ⟨oS_pos _ _ _, Nat.le_trans (oS_le f.2 hS.1) h.hV.2⟩, h.hC, pg.chk, hM, by rw [hX]; exact pg.pok⟩
theorem Po.twice {al : Bool} {H V C N N1 Rw Sw Rv Sv : Nat} {E h v c E' h' v' c' : Int} {M X M' X' : Nat} (a1 : 1 ≤ Rw) (a2 : 1 ≤ Sw) (a3 : 1 ≤ Rv) (a4 : 1 ≤ Sv) (f : Rw ≤ H ∧ Sw ≤ V) (hN : N1 = poN al N V (nw C) Rw Sw 1 1 (oS V Sw 1) (oS H Rw 1 * oS V Sw 1))
    (p : Po al (oS H Rw 1) (oS V Sw 1) C N1 Rv Sv 1 1 E h v c M X) (q : Po al H V C N (Rv + Rw - 1) (Sv + Sw - 1) 1 1 E' h' v' c' M' X') : E = E' ∧ h = h' ∧ v = v' ∧ c = c' ∧ M = M' ∧ X = X' := by
  have o1 := oS_one f.1
  have o2 := oS_one f.2
  rcases p with ⟨g, p1, p2, p3, p4, p5, p6⟩ | ⟨g, p1, p2, p3, p4, p5, p6⟩ <;> rcases q with ⟨g', q1, q2, q3, q4, q5, q6⟩ | ⟨g', q1, q2, q3, q4, q5, q6⟩
  · have o3 := oS_one g.1
    have o4 := oS_one g.2
    have o5 := oS_one g'.1
    have o6 := oS_one g'.2
    have e1 : oS (oS H Rw 1) Rv 1 = oS H (Rv + Rw - 1) 1 := by omega
    have e2 : oS (oS V Sw 1) Sv 1 = oS V (Sv + Sw - 1) 1 := by omega
    refine ⟨by omega, by omega, by omega, by omega, by rw [p5, q5, e1, e2], ?_⟩
    rw [p6, q6, hN, po_twice a1 a2 a3 a4 o2 o3 o4, e1, e2]
  · exfalso; apply g'; omega
  · exfalso; apply g; omega
  · exact ⟨by omega, by omega, by omega, by omega, by omega, by omega⟩
theorem Po.one {al : Bool} {H V C m N : Nat} (hq : Qb H V C m N) (hN : N < 2 ^ (64 * m)) {E h v c : Int} {M X : Nat} (p : Po al H V C N 1 1 1 1 E h v c M X) : E = 0 ∧ h = H ∧ v = V ∧ c = C ∧ m = M ∧ N = X := by
  have hH := hq.hH
  have hV := hq.hV
  rcases p with ⟨f, p1, p2, p3, p4, p5, p6⟩ | ⟨f, -⟩
  · have o1 := oS_one f.1
    have o2 := oS_one f.2
    have e1 : oS H 1 1 = H := by omega
    have e2 : oS V 1 1 = V := by omega
    rw [e1, e2] at p6
    rw [hq.hm] at hN
    refine ⟨p1, by omega, by omega, p4, by rw [p5, e1, e2, hq.hm], ?_⟩
    rw [p6]; exact (po_one hN).symm
  · exfalso; apply f; omega
theorem po32 {H V C m N R S y x : Nat} (h : Qb H V C m N) (hR : 1 ≤ R ∧ R ≤ 15) (hS : 1 ≤ S ∧ S ≤ 15) (hy : 1 ≤ y ∧ y ≤ 15) (hx : 1 ≤ x ∧ x ≤ 15) (f : ¬ (R ≤ H ∧ S ≤ V)) : poE H V C m N R S y x 0 0 0 0 = 32 := by
  unfold poE
  rw [cuk_of h.ck h.hm h.pk, if_neg (by omega), if_neg (fun k => k.elim (fun k => k (wok_of hR hS hy hx)) (by omega)), sl_of h.ck h.hC hR hS hy hx, if_neg f]
theorem Po.le {al : Bool} {H V C m N R S y x : Nat} {E h v c : Int} {M X : Nat} (hq : Qb H V C m N) (hR : 1 ≤ R ∧ R ≤ 15) (hS : 1 ≤ S ∧ S ≤ 15) (hy : 1 ≤ y ∧ y ≤ 15) (hx : 1 ≤ x ∧ x ≤ 15) (p : Po al H V C N R S y x E h v c M X) : M ≤ 9223372036854775807 := by
  rcases p with ⟨f, -, -, -, -, p5, p6⟩ | ⟨-, -, -, -, -, p5, -⟩
  · have := (hq.next hR hS hy hx f p5 p6).le
    omega
  · omega
theorem Wr.some {w : World} {ao : Option Addr} {m N : Nat} (h : Wr w ao m N) (hm : 0 < m) : ∃ g o, ao = some ⟨g, o, none⟩ := by
  obtain ⟨g, o, e, _⟩ := h.2 0 hm
  exact ⟨g, o, e⟩
theorem Wr.nil (w : World) : Wr w none 0 0 := ⟨by decide, fun k hk => absurd hk (Nat.not_lt_zero _)⟩
theorem max_two {H V C m N R S y x : Nat} (ao : Option Addr) (cap : Nat) (w : World) (h : Qb H V C m N) (hR : 1 ≤ R ∧ R ≤ 15) (hS : 1 ≤ S ∧ S ≤ 15) (hy : 1 ≤ y ∧ y ≤ 15) (hx : 1 ≤ x ∧ x ≤ 15) (hmc : m ≤ cap) (hcap : cap ≤ 9223372036854775807) (rd : Wr w ao m N) :
    Calls Try.prog 12 #[cuv H V C ao m cap, Sg.win R S y x 0 0 0 0] w fun e w' => ∃ E h' v' c' M X bo, e = .returned (.tuple #[cuv h' v' c' bo M M, .int .i64 E]) ∧ Po false H V C N R S y x E h' v' c' M X ∧ Wr w' bo M X ∧ Below w.heap.size w w' := by
  obtain ⟨g, o, rfl⟩ := rd.some h.pos
  by_cases f : R ≤ H ∧ S ≤ V
  · have pg := h.pg hR hS hy hx f
    refine (max_ok H V C R S y x g o m cap N _ _ _ w pg rfl rfl rfl hmc hcap rd).mono ?_
    rintro e w1 ⟨G, rfl, _, row, hb⟩
    exact ⟨_, _, _, _, _, _, _, rfl, .inl ⟨f, rfl, rfl, rfl, rfl, rfl, rfl⟩, Wr.row row (poN_lt _ _ _ _ _ _ _ _ _ _), hb⟩
  · have e0 := po32 h hR hS hy hx f
    refine (max_bad H V C (some ⟨g, o, none⟩) m cap N R S y x 0 0 0 0 w hmc hcap rd (by rw [e0]; decide)).mono ?_
    rintro e w1 ⟨rfl, hb⟩
    exact ⟨_, _, _, _, _, _, _, rfl, .inr ⟨f, e0, rfl, rfl, rfl, rfl, rfl⟩, Wr.nil _, hb⟩
theorem min_two {H V C m N R S y x : Nat} (ao : Option Addr) (cap : Nat) (w : World) (h : Qb H V C m N) (hR : 1 ≤ R ∧ R ≤ 15) (hS : 1 ≤ S ∧ S ≤ 15) (hy : 1 ≤ y ∧ y ≤ 15) (hx : 1 ≤ x ∧ x ≤ 15) (hmc : m ≤ cap) (hcap : cap ≤ 9223372036854775807) (rd : Wr w ao m N) :
    Calls Try.prog 13 #[cuv H V C ao m cap, Sg.win R S y x 0 0 0 0] w fun e w' => ∃ E h' v' c' M X bo, e = .returned (.tuple #[cuv h' v' c' bo M M, .int .i64 E]) ∧ Po true H V C N R S y x E h' v' c' M X ∧ Wr w' bo M X ∧ Below w.heap.size w w' := by
  obtain ⟨g, o, rfl⟩ := rd.some h.pos
  by_cases f : R ≤ H ∧ S ≤ V
  · have pg := h.pg hR hS hy hx f
    refine (min_ok H V C R S y x g o m cap N _ _ _ w pg rfl rfl rfl hmc hcap rd).mono ?_
    rintro e w1 ⟨G, rfl, _, row, hb⟩
    exact ⟨_, _, _, _, _, _, _, rfl, .inl ⟨f, rfl, rfl, rfl, rfl, rfl, rfl⟩, Wr.row row (poN_lt _ _ _ _ _ _ _ _ _ _), hb⟩
  · have e0 := po32 h hR hS hy hx f
    refine (min_bad H V C (some ⟨g, o, none⟩) m cap N R S y x 0 0 0 0 w hmc hcap rd (by rw [e0]; decide)).mono ?_
    rintro e w1 ⟨rfl, hb⟩
    exact ⟨_, _, _, _, _, _, _, rfl, .inr ⟨f, e0, rfl, rfl, rfl, rfl, rfl⟩, Wr.nil _, hb⟩
end Go.Proofs.Ytlghmojjcfjibaa
/- PoolTwice. -/
namespace Go.Proofs.Ytlghmojjcfjibaa
open Go.RowKit Go.Shelf

theorem tw_start (w : World) (h v c : Int) (ao : Option Addr) (m cap : Nat) (r s sy sx t l b q r' s' sy' sx' t' l' b' q' : Int) : ∃ W, ((w.alloc (.cells #[.int .i64 h, .int .i64 v, .int .i64 c, .slice ao m cap] 26)).alloc (.cells #[.int .i64 r, .int .i64 s, .int .i64 sy, .int .i64 sx, .int .i64 t, .int .i64 l, .int .i64 b, .int .i64 q] 28)).alloc (.cells #[.int .i64 r', .int .i64 s', .int .i64 sy', .int .i64 sx', .int .i64 t', .int .i64 l', .int .i64 b', .int .i64 q'] 28) = W ∧ W.heap.size = w.heap.size + 3 ∧ Below w.heap.size w W ∧
    W.rowIs w.heap.size 26 4 (cf h v c ao m cap) ∧ W.rowIs (w.heap.size + 1) 28 8 (wnf r s sy sx t l b q) ∧ W.rowIs (w.heap.size + 2) 28 8 (wnf r' s' sy' sx' t' l' b' q') := by
  refine ⟨_, rfl, by simp, bl_alloc (bl_alloc (bl_alloc (Below.refl _ _) _) _) _, ((cu_new w _ _ _ _ _ _ _).alloc _).alloc _, ?_, ?_⟩
  · have := wnf_new (w.alloc (.cells #[.int .i64 h, .int .i64 v, .int .i64 c, .slice ao m cap] 26)) r s sy sx t l b q 28
    rw [World.size_alloc] at this
    exact this.alloc _
  · have := wnf_new ((w.alloc (.cells #[.int .i64 h, .int .i64 v, .int .i64 c, .slice ao m cap] 26)).alloc (.cells #[.int .i64 r, .int .i64 s, .int .i64 sy, .int .i64 sx, .int .i64 t, .int .i64 l, .int .i64 b, .int .i64 q] 28)) r' s' sy' sx' t' l' b' q' 28
    rw [World.size_alloc, World.size_alloc] at this
    exact this
theorem But.setW8 (g : Nat) (w : World) (v0 v1 v2 v3 v4 v5 v6 v7 : Value) : But g w ((((((((w.setCell ⟨g, 0, none⟩ v0).setCell ⟨g, 1, none⟩ v1).setCell ⟨g, 2, none⟩ v2).setCell ⟨g, 3, none⟩ v3).setCell ⟨g, 4, none⟩ v4).setCell ⟨g, 5, none⟩ v5).setCell ⟨g, 6, none⟩ v6).setCell ⟨g, 7, none⟩ v7) :=
  ((((((((But.refl g w).set _).set _).set _).set _).set _).set _).set _).set _
set_option maxHeartbeats 6400000 in
set_option maxRecDepth 100000 in
theorem poolTwice_any (h v c : Int) (ao : Option Addr) (m cap N : Nat) (r s sy sx t l b q r' s' sy' sx' t' l' b' q' : Int) (w : World) (hmc : m ≤ cap) (hcap : cap ≤ 9223372036854775807) (rd : Wr w ao m N) :
    Calls Try.prog 3 #[cuv h v c ao m cap, Sg.win r s sy sx t l b q, Sg.win r' s' sy' sx' t' l' b' q'] w fun e w' => e = .returned (.bool true) ∧ Below w.heap.size w w' := by
  have HST := hid1 (tw_start w h v c ao m cap r s sy sx t l b q r' s' sy' sx' t' l' b' q')
  have RD := hid1 rd
  clear rd
  go_enter Try.func3, Try.ntmps3
  go_wp2_with fail
  refine gen_calls (fun W => W.heap.size = w.heap.size + 3 ∧ Below w.heap.size w W ∧ W.rowIs w.heap.size 26 4 (cf h v c ao m cap) ∧ W.rowIs (w.heap.size + 1) 28 8 (wnf r s sy sx t l b q) ∧ W.rowIs (w.heap.size + 2) 28 8 (wnf r' s' sy' sx' t' l' b' q')) (by obtain ⟨X, rfl, z⟩ := HST.out; exact z) ?_
  rintro W ⟨z0, B0, b0, b1, b2⟩
  refine (ubegun_any W).mono ?_
  rintro e w1 ⟨rfl, hb⟩
  replace b0 := keepr hb b0
  replace b1 := keepr hb b1
  replace b2 := keepr hb b2
  have B1 := bl_step B0 hb
  clear hb B0
  obtain ⟨n0, n1, n2, n3, n4, n5, n6, n7⟩ := wnf_wn b1
  simp only [Nat.zero_add] at n1 n2 n3 n4 n5 n6 n7
  have f0 := b1.frozen 0
  have f1 := b1.frozen 1
  have f2 := b1.frozen 2
  have f3 := b1.frozen 3
  have f4 := b1.frozen 4
  have f5 := b1.frozen 5
  have f6 := b1.frozen 6
  have f7 := b1.frozen 7
  have HB0 := hid1 b0
  have HB1 := hid1 b1
  have HB2 := hid1 b2
  clear b0 b1 b2
  go_upto_region 4 with fail
  refine gen_world (fun X => X.rowIs (w.heap.size) 26 4 (cf h v c ao m cap) ∧ X.rowIs (w.heap.size + 1) 28 8 (wnf r s 1 1 0 0 0 0) ∧ X.rowIs (w.heap.size + 2) 28 8 (wnf r' s' sy' sx' t' l' b' q') ∧ Below w.heap.size w X) ⟨(But.setW8 _ _ _ _ _ _ _ _ _ _).row (by omega) HB0.out, wnf_set HB1.out _ _ _ _ _ _ _ _, (But.setW8 _ _ _ _ _ _ _ _ _ _).row (by omega) HB2.out, (But.setW8 _ _ _ _ _ _ _ _ _ _).below (by omega) B1.size B1⟩ ?_
  clear HB0 HB1 HB2 B1 n0 n1 n2 n3 n4 n5 n6 n7 f0 f1 f2 f3 f4 f5 f6 f7
  rintro X ⟨b0, b1, b2, B1⟩
  obtain ⟨n0, n1, n2, n3, n4, n5, n6, n7⟩ := wnf_wn b2
  simp only [Nat.zero_add] at n1 n2 n3 n4 n5 n6 n7
  have f0 := b2.frozen 0
  have f1 := b2.frozen 1
  have f2 := b2.frozen 2
  have f3 := b2.frozen 3
  have f4 := b2.frozen 4
  have f5 := b2.frozen 5
  have f6 := b2.frozen 6
  have f7 := b2.frozen 7
  have HB0 := hid1 b0
  have HB1 := hid1 b1
  have HB2 := hid1 b2
  clear b0 b1 b2
  go_upto_region 5 with fail
  refine gen_world (fun X => X.rowIs (w.heap.size) 26 4 (cf h v c ao m cap) ∧ X.rowIs (w.heap.size + 1) 28 8 (wnf r s 1 1 0 0 0 0) ∧ X.rowIs (w.heap.size + 2) 28 8 (wnf r' s' 1 1 0 0 0 0) ∧ Below w.heap.size w X) ⟨(But.setW8 _ _ _ _ _ _ _ _ _ _).row (by omega) HB0.out, (But.setW8 _ _ _ _ _ _ _ _ _ _).row (by omega) HB1.out, wnf_set HB2.out _ _ _ _ _ _ _ _, (But.setW8 _ _ _ _ _ _ _ _ _ _).below (by omega) B1.size B1⟩ ?_
  clear HB0 HB1 HB2 B1 n0 n1 n2 n3 n4 n5 n6 n7 f0 f1 f2 f3 f4 f5 f6 f7
  rintro X ⟨b0, b1, b2, B1⟩
  have HC := hid1 (fun W r' => ccheck_any h v c ao m cap N W hmc hcap r')
  have HV := hid1 (fun W => Sg.window_any r s 1 1 0 0 0 0 W)
  have HW := hid1 (fun W => Sg.window_any r' s' 1 1 0 0 0 0 W)
  have e0 := cf0 b0
  have e1 := cf1 b0
  have e2 := cf2 b0
  have e3 := cf3 b0
  by_cases k1 : cuk h v c m N = 0
  · rw [k1] at HC
    by_cases k2 : Sg.WOk r s 1 1 0 0 0 0
    · rw [show Sg.wiE r s 1 1 0 0 0 0 = 0 by unfold Sg.wiE; rw [if_pos k2]] at HV
      by_cases k3 : Sg.WOk r' s' 1 1 0 0 0 0
      · rw [show Sg.wiE r' s' 1 1 0 0 0 0 = 0 by unfold Sg.wiE; rw [if_pos k3]] at HW
        go_wp2_with fail
        refine (HC.out X (RD.out.below B1)).mono ?_
        rintro e y1 ⟨rfl, hb⟩
        replace b0 := keepr hb b0
        replace b1 := keepr hb b1
        replace b2 := keepr hb b2
        have B2 := bl_step B1 hb
        clear hb B1 e0 e1 e2 e3
        obtain ⟨n0, n1, n2, n3, n4, n5, n6, n7⟩ := wnf_wn b1
        simp only [Nat.zero_add] at n1 n2 n3 n4 n5 n6 n7
        go_wp2_with fail
        refine (HV.out y1).mono ?_
        rintro e y2 ⟨rfl, hb⟩
        replace b0 := keepr hb b0
        replace b1 := keepr hb b1
        replace b2 := keepr hb b2
        have B3 := bl_step B2 hb
        clear hb B2 n0 n1 n2 n3 n4 n5 n6 n7
        obtain ⟨n0, n1, n2, n3, n4, n5, n6, n7⟩ := wnf_wn b2
        simp only [Nat.zero_add] at n1 n2 n3 n4 n5 n6 n7
        go_wp2_with fail
        refine (HW.out y2).mono ?_
        rintro e y3 ⟨rfl, hb⟩
        replace b0 := keepr hb b0
        replace b1 := keepr hb b1
        replace b2 := keepr hb b2
        have B4 := bl_step B3 hb
        clear hb B3 n0 n1 n2 n3 n4 n5 n6 n7
        clear HC HV HW
        obtain ⟨H, V, C, rfl, rfl, rfl, hH, hV, hC, -, ck, hm, pk⟩ := cuk_zeroU k1
        have qb : Qb H V C m N := ⟨hH, hV, hC, ck, hm, pk⟩
        obtain ⟨⟨a1, -, -, -⟩, ⟨a2, -, -, -⟩⟩ := k2
        obtain ⟨⟨a3, -, -, -⟩, ⟨a4, -, -, -⟩⟩ := k3
        obtain ⟨R, rfl⟩ := Int.eq_ofNat_of_zero_le (show 0 ≤ r by omega)
        obtain ⟨S, rfl⟩ := Int.eq_ofNat_of_zero_le (show 0 ≤ s by omega)
        obtain ⟨R', rfl⟩ := Int.eq_ofNat_of_zero_le (show 0 ≤ r' by omega)
        obtain ⟨S', rfl⟩ := Int.eq_ofNat_of_zero_le (show 0 ≤ s' by omega)
        obtain ⟨U, hU⟩ : ∃ U, R + R' - 1 = U := ⟨_, rfl⟩
        obtain ⟨T, hT⟩ : ∃ T, S + S' - 1 = T := ⟨_, rfl⟩
        have iU : (R : Int) + (R' : Int) - 1 = (U : Int) := by omega
        have iT : (S : Int) + (S' : Int) - 1 = (T : Int) := by omega
        have wR : IntKind.i64.wrap ((R : Int) + (R' : Int)) = (R : Int) + (R' : Int) := by rw [IntKind.wrap_i64]; omega
        have wS : IntKind.i64.wrap ((S : Int) + (S' : Int)) = (S : Int) + (S' : Int) := by rw [IntKind.wrap_i64]; omega
        have wU : IntKind.i64.wrap (U : Int) = (U : Int) := by rw [IntKind.wrap_i64]; omega
        have wT : IntKind.i64.wrap (T : Int) = (T : Int) := by rw [IntKind.wrap_i64]; omega
        have hR : 1 ≤ R ∧ R ≤ 15 := by omega
        have hS : 1 ≤ S ∧ S ≤ 15 := by omega
        have hR' : 1 ≤ R' ∧ R' ≤ 15 := by omega
        have hS' : 1 ≤ S' ∧ S' ≤ 15 := by omega
        clear a1 a2 a3 a4 k1 ck hm pk hH hV hC
        obtain ⟨n0, n1, -⟩ := wnf_wn b1
        obtain ⟨p0, p1, -⟩ := wnf_wn b2
        simp only [Nat.zero_add] at n1 p1
        have e0 := cf0 b0
        have e1 := cf1 b0
        have e2 := cf2 b0
        have e3 := cf3 b0
        have l0 := b0.lt
        have l1 := b1.lt
        have l2 := b2.lt
        go_wp2_with fail
        
        have R0 := hid1 (RD.out.below B4)
        have HX1 := hid1 (fun W r => max_two (R := 1) (S := 1) (y := 1) (x := 1) ao cap W qb (by omega) (by omega) (by omega) (by omega) hmc hcap r)
        have HN1 := hid1 (fun W r => min_two (R := 1) (S := 1) (y := 1) (x := 1) ao cap W qb (by omega) (by omega) (by omega) (by omega) hmc hcap r)
        have HX2 := hid1 (fun W r => max_two (R := R') (S := S') (y := 1) (x := 1) ao cap W qb hR' hS' (by omega) (by omega) hmc hcap r)
        have HN2 := hid1 (fun W r => min_two (R := R') (S := S') (y := 1) (x := 1) ao cap W qb hR' hS' (by omega) (by omega) hmc hcap r)
        simp only [show ((1 : Nat) : Int) = 1 from rfl] at HX1 HN1 HX2 HN2
        have hm63 : m ≤ 9223372036854775807 := Nat.le_trans qb.le (by decide)
        refine gen_calls (fun W => W.rowIs (w.heap.size) 26 4 (cf H V C ao m cap) ∧ W.rowIs (w.heap.size + 1) 28 8 (wnf R S 1 1 0 0 0 0) ∧ W.rowIs (w.heap.size + 2) 28 8 (wnf R' S' 1 1 0 0 0 0) ∧ W.rowIs (y3.heap.size) 28 8 (wnf U T 1 1 0 0 0 0) ∧ W.rowIs (y3.heap.size + 1) 28 8 (wnf 1 1 1 1 0 0 0 0) ∧ Wr W ao m N ∧ Below w.heap.size w W) ⟨(b0.alloc _).alloc _, (b1.alloc _).alloc _, (b2.alloc _).alloc _, (wnf_new _ _ _ _ _ _ _ _ _ _).alloc _, (by have := wnf_new (y3.alloc (.cells #[.int .i64 U, .int .i64 T, .int .i64 1, .int .i64 1, .int .i64 0, .int .i64 0, .int .i64 0, .int .i64 0] 28)) 1 1 1 1 0 0 0 0 28; rwa [World.size_alloc] at this), (R0.out.below (bl_alloc (Below.refl _ _) _)).below (bl_alloc (Below.refl _ _) _), bl_alloc (bl_alloc B4 _) _⟩ ?_
        clear b0 b1 b2 n0 n1 p0 p1 e0 e1 e2 e3 l0 l1 l2 B4
        rintro Y1 ⟨b0, b1, b2, b3, b4, r0, B5⟩
        clear R0
        refine (HX1.out Y1 r0).mono ?_
        rintro e x1 ⟨E, h', v', c', M, X, bo, rfl, po, ra, hb⟩
        replace b0 := keepr hb b0
        replace b1 := keepr hb b1
        replace b2 := keepr hb b2
        replace b3 := keepr hb b3
        replace b4 := keepr hb b4
        replace r0 := r0.below hb
        have B6 := bl_step B5 hb
        clear hb B5
        obtain ⟨rfl, rfl, rfl, rfl, rfl, rfl⟩ := Po.one qb r0.1 po
        clear po HX1
        have b0c0 := cf0 b0
        have b0c1 := cf1 b0
        have b0c2 := cf2 b0
        have b0c3 := cf3 b0
        have b0l := b0.lt
        obtain ⟨b4w0, b4w1, b4w2, b4w3, b4w4, b4w5, b4w6, b4w7⟩ := wnf_wn b4
        simp only [Nat.zero_add] at b4w1 b4w2 b4w3 b4w4 b4w5 b4w6 b4w7
        have b4l := b4.lt
        go_wp2_with fail
        refine gen_calls (fun W => W.rowIs (w.heap.size) 26 4 (cf H V C ao m cap) ∧ W.rowIs (w.heap.size + 1) 28 8 (wnf R S 1 1 0 0 0 0) ∧ W.rowIs (w.heap.size + 2) 28 8 (wnf R' S' 1 1 0 0 0 0) ∧ W.rowIs (y3.heap.size) 28 8 (wnf U T 1 1 0 0 0 0) ∧ W.rowIs (y3.heap.size + 1) 28 8 (wnf 1 1 1 1 0 0 0 0) ∧ Wr W ao m N ∧ Wr W bo m N ∧ W.rowIs (x1.heap.size) 26 4 (cf H V C bo m m) ∧ Below w.heap.size w W) ⟨b0.alloc _, b1.alloc _, b2.alloc _, b3.alloc _, b4.alloc _, r0.below (bl_alloc (Below.refl _ _) _), ra.below (bl_alloc (Below.refl _ _) _), cu_new _ _ _ _ _ _ _ _, bl_alloc B6 _⟩ ?_
        clear b0 b1 b2 b3 b4 r0 ra b0c0 b0c1 b0c2 b0c3 b0l b4w0 b4w1 b4w2 b4w3 b4w4 b4w5 b4w6 b4w7 b4l B6
        rintro Y2 ⟨b0, b1, b2, b3, b4, r0, ra, b5, B7⟩
        refine (HN1.out Y2 r0).mono ?_
        rintro e x2 ⟨E, h', v', c', M, X, bp, rfl, po, rb, hb⟩
        replace b0 := keepr hb b0
        replace b1 := keepr hb b1
        replace b2 := keepr hb b2
        replace b3 := keepr hb b3
        replace b4 := keepr hb b4
        replace r0 := r0.below hb
        replace ra := ra.below hb
        replace b5 := keepr hb b5
        have B8 := bl_step B7 hb
        clear hb B7
        obtain ⟨rfl, rfl, rfl, rfl, rfl, rfl⟩ := Po.one qb r0.1 po
        clear po HN1 b4
        have b5c0 := cf0 b5
        have b5c1 := cf1 b5
        have b5c2 := cf2 b5
        have b5c3 := cf3 b5
        have b5l := b5.lt
        have b0c0 := cf0 b0
        have b0c1 := cf1 b0
        have b0c2 := cf2 b0
        have b0c3 := cf3 b0
        have b0l := b0.lt
        go_wp2_with fail
        refine gen_calls (fun W => W.rowIs (w.heap.size) 26 4 (cf H V C ao m cap) ∧ W.rowIs (w.heap.size + 1) 28 8 (wnf R S 1 1 0 0 0 0) ∧ W.rowIs (w.heap.size + 2) 28 8 (wnf R' S' 1 1 0 0 0 0) ∧ W.rowIs (y3.heap.size) 28 8 (wnf U T 1 1 0 0 0 0) ∧ Wr W ao m N ∧ Wr W bo m N ∧ W.rowIs (x1.heap.size) 26 4 (cf H V C bo m m) ∧ Wr W bp m N ∧ W.rowIs (x2.heap.size) 26 4 (cf H V C bp m m) ∧ Below w.heap.size w W) ⟨b0.alloc _, b1.alloc _, b2.alloc _, b3.alloc _, r0.below (bl_alloc (Below.refl _ _) _), ra.below (bl_alloc (Below.refl _ _) _), b5.alloc _, rb.below (bl_alloc (Below.refl _ _) _), cu_new _ _ _ _ _ _ _ _, bl_alloc B8 _⟩ ?_
        clear b0 b1 b2 b3 r0 ra b5 rb b5c0 b5c1 b5c2 b5c3 b5l b0c0 b0c1 b0c2 b0c3 b0l B8
        rintro Y3 ⟨b0, b1, b2, b3, r0, ra, b5, rb, b6, B9⟩
        refine (cubes_same H V C m N _ _ _ _ Y3 hm63 ra r0).mono ?_
        rintro e x3 ⟨rfl, hb⟩
        replace b0 := keepr hb b0
        replace b1 := keepr hb b1
        replace b2 := keepr hb b2
        replace b3 := keepr hb b3
        replace r0 := r0.below hb
        replace ra := ra.below hb
        replace b5 := keepr hb b5
        replace rb := rb.below hb
        replace b6 := keepr hb b6
        have B10 := bl_step B9 hb
        clear hb B9
        clear b5 ra
        have b6c0 := cf0 b6
        have b6c1 := cf1 b6
        have b6c2 := cf2 b6
        have b6c3 := cf3 b6
        have b6l := b6.lt
        have b0c0 := cf0 b0
        have b0c1 := cf1 b0
        have b0c2 := cf2 b0
        have b0c3 := cf3 b0
        have b0l := b0.lt
        go_wp2_with fail
        refine (cubes_same H V C m N _ _ _ _ x3 hm63 rb r0).mono ?_
        rintro e x4 ⟨rfl, hb⟩
        replace b0 := keepr hb b0
        replace b1 := keepr hb b1
        replace b2 := keepr hb b2
        replace b3 := keepr hb b3
        replace r0 := r0.below hb
        replace rb := rb.below hb
        replace b6 := keepr hb b6
        have B11 := bl_step B10 hb
        clear hb B10 b6c0 b6c1 b6c2 b6c3 b6l b0c0 b0c1 b0c2 b0c3 b0l
        clear b6 rb
        have b0c0 := cf0 b0
        have b0c1 := cf1 b0
        have b0c2 := cf2 b0
        have b0c3 := cf3 b0
        have b0l := b0.lt
        obtain ⟨b2w0, b2w1, b2w2, b2w3, b2w4, b2w5, b2w6, b2w7⟩ := wnf_wn b2
        simp only [Nat.zero_add] at b2w1 b2w2 b2w3 b2w4 b2w5 b2w6 b2w7
        have b2l := b2.lt
        go_wp2_with fail
        refine (HX2.out x4 r0).mono ?_
        rintro e x5 ⟨E1, h1, v1, c1, M1, X1, bo1, rfl, po1, r1, hb⟩
        replace b0 := keepr hb b0
        replace b1 := keepr hb b1
        replace b2 := keepr hb b2
        replace b3 := keepr hb b3
        replace r0 := r0.below hb
        have B12 := bl_step B11 hb
        clear hb B11 b0c0 b0c1 b0c2 b0c3 b0l b2w0 b2w1 b2w2 b2w3 b2w4 b2w5 b2w6 b2w7 b2l
        clear HX2
        have b0c0 := cf0 b0
        have b0c1 := cf1 b0
        have b0c2 := cf2 b0
        have b0c3 := cf3 b0
        have b0l := b0.lt
        obtain ⟨b2w0, b2w1, b2w2, b2w3, b2w4, b2w5, b2w6, b2w7⟩ := wnf_wn b2
        simp only [Nat.zero_add] at b2w1 b2w2 b2w3 b2w4 b2w5 b2w6 b2w7
        have b2l := b2.lt
        go_wp2_with fail
        refine gen_calls (fun W => W.rowIs (w.heap.size) 26 4 (cf H V C ao m cap) ∧ W.rowIs (w.heap.size + 1) 28 8 (wnf R S 1 1 0 0 0 0) ∧ W.rowIs (w.heap.size + 2) 28 8 (wnf R' S' 1 1 0 0 0 0) ∧ W.rowIs (y3.heap.size) 28 8 (wnf U T 1 1 0 0 0 0) ∧ Wr W ao m N ∧ Wr W bo1 M1 X1 ∧ W.rowIs (x5.heap.size) 26 4 (cf h1 v1 c1 bo1 M1 M1) ∧ Below w.heap.size w W) ⟨b0.alloc _, b1.alloc _, b2.alloc _, b3.alloc _, r0.below (bl_alloc (Below.refl _ _) _), r1.below (bl_alloc (Below.refl _ _) _), cu_new _ _ _ _ _ _ _ _, bl_alloc B12 _⟩ ?_
        clear b0 b1 b2 b3 r0 r1 b0c0 b0c1 b0c2 b0c3 b0l b2w0 b2w1 b2w2 b2w3 b2w4 b2w5 b2w6 b2w7 b2l B12
        rintro Y5 ⟨b0, b1, b2, b3, r0, r1, b7, B13⟩
        refine (HN2.out Y5 r0).mono ?_
        rintro e x6 ⟨E2, h2, v2, c2, M2, X2, bo2, rfl, po2, r2, hb⟩
        replace b0 := keepr hb b0
        replace b1 := keepr hb b1
        replace b2 := keepr hb b2
        replace b3 := keepr hb b3
        replace r0 := r0.below hb
        replace r1 := r1.below hb
        replace b7 := keepr hb b7
        have B14 := bl_step B13 hb
        clear hb B13
        obtain ⟨rfl, rfl, rfl, rfl, rfl⟩ := po1.same po2
        clear HN2 b2
        rcases po1 with ⟨f1, rfl, rfl, rfl, rfl, hM1, hX1⟩ | ⟨f1, rfl, -⟩
        · have hX2 : X2 = poN true N V (nw C) R' S' 1 1 (oS V S' 1) (oS H R' 1 * oS V S' 1) := by
            rcases po2 with ⟨-, -, -, -, -, -, h⟩ | ⟨h, -⟩
            · exact h
            · exact absurd f1 h
          have qx := qb.next hR' hS' (by omega) (by omega) f1 hM1 hX1
          have qy := qb.next hR' hS' (by omega) (by omega) f1 hM1 hX2
          have HX3 := hid1 (fun W r => max_two (R := R) (S := S) (y := 1) (x := 1) bo1 M1 W qx hR hS (by omega) (by omega) (Nat.le_refl _) (Nat.le_trans qx.le (by decide)) r)
          have HN3 := hid1 (fun W r => min_two (R := R) (S := S) (y := 1) (x := 1) bo2 M1 W qy hR hS (by omega) (by omega) (Nat.le_refl _) (Nat.le_trans qy.le (by decide)) r)
          simp only [show ((1 : Nat) : Int) = 1 from rfl] at HX3 HN3
          have HQX := hid1 qx
          have HHX1 := hid1 hX1
          have HHX2 := hid1 hX2
          have HF1 := hid1 f1
          clear po2 qx qy hX1 hX2 hM1 f1
          generalize hh1 : oS H R' 1 = OH at *
          generalize hv1 : oS V S' 1 = OW at *
          have HH1 := hid1 hh1
          have HV1 := hid1 hv1
          clear hh1 hv1
          have b7c0 := cf0 b7
          have b7c1 := cf1 b7
          have b7c2 := cf2 b7
          have b7c3 := cf3 b7
          have b7l := b7.lt
          obtain ⟨b1w0, b1w1, b1w2, b1w3, b1w4, b1w5, b1w6, b1w7⟩ := wnf_wn b1
          simp only [Nat.zero_add] at b1w1 b1w2 b1w3 b1w4 b1w5 b1w6 b1w7
          have b1l := b1.lt
          go_wp2_with fail
          refine gen_calls (fun W => W.rowIs (w.heap.size) 26 4 (cf H V C ao m cap) ∧ W.rowIs (w.heap.size + 1) 28 8 (wnf R S 1 1 0 0 0 0) ∧ W.rowIs (y3.heap.size) 28 8 (wnf U T 1 1 0 0 0 0) ∧ Wr W ao m N ∧ Wr W bo1 M1 X1 ∧ W.rowIs (x5.heap.size) 26 4 (cf OH OW C bo1 M1 M1) ∧ Wr W bo2 M1 X2 ∧ W.rowIs (x6.heap.size) 26 4 (cf OH OW C bo2 M1 M1) ∧ Below w.heap.size w W) ⟨b0.alloc _, b1.alloc _, b3.alloc _, r0.below (bl_alloc (Below.refl _ _) _), r1.below (bl_alloc (Below.refl _ _) _), b7.alloc _, r2.below (bl_alloc (Below.refl _ _) _), cu_new _ _ _ _ _ _ _ _, bl_alloc B14 _⟩ ?_
          clear b0 b1 b3 r0 r1 b7 r2 b7c0 b7c1 b7c2 b7c3 b7l b1w0 b1w1 b1w2 b1w3 b1w4 b1w5 b1w6 b1w7 b1l B14
          rintro Y6 ⟨b0, b1, b3, r0, r1, b7, r2, b8, B15⟩
          refine (HX3.out Y6 r1).mono ?_
          rintro e x7 ⟨E3, h3, v3, c3, M3, X3, bo3, rfl, po3, r3, hb⟩
          replace b0 := keepr hb b0
          replace b1 := keepr hb b1
          replace b3 := keepr hb b3
          replace r0 := r0.below hb
          replace r1 := r1.below hb
          replace b7 := keepr hb b7
          replace r2 := r2.below hb
          replace b8 := keepr hb b8
          have B16 := bl_step B15 hb
          clear hb B15
          clear HX3 b7 r1
          have b8c0 := cf0 b8
          have b8c1 := cf1 b8
          have b8c2 := cf2 b8
          have b8c3 := cf3 b8
          have b8l := b8.lt
          obtain ⟨b1w0, b1w1, b1w2, b1w3, b1w4, b1w5, b1w6, b1w7⟩ := wnf_wn b1
          simp only [Nat.zero_add] at b1w1 b1w2 b1w3 b1w4 b1w5 b1w6 b1w7
          have b1l := b1.lt
          go_wp2_with fail
          refine gen_calls (fun W => W.rowIs (w.heap.size) 26 4 (cf H V C ao m cap) ∧ W.rowIs (w.heap.size + 1) 28 8 (wnf R S 1 1 0 0 0 0) ∧ W.rowIs (y3.heap.size) 28 8 (wnf U T 1 1 0 0 0 0) ∧ Wr W ao m N ∧ Wr W bo2 M1 X2 ∧ W.rowIs (x6.heap.size) 26 4 (cf OH OW C bo2 M1 M1) ∧ Wr W bo3 M3 X3 ∧ W.rowIs (x7.heap.size) 26 4 (cf h3 v3 c3 bo3 M3 M3) ∧ Below w.heap.size w W) ⟨b0.alloc _, b1.alloc _, b3.alloc _, r0.below (bl_alloc (Below.refl _ _) _), r2.below (bl_alloc (Below.refl _ _) _), b8.alloc _, r3.below (bl_alloc (Below.refl _ _) _), cu_new _ _ _ _ _ _ _ _, bl_alloc B16 _⟩ ?_
          clear b0 b1 b3 r0 r2 b8 r3 b8c0 b8c1 b8c2 b8c3 b8l b1w0 b1w1 b1w2 b1w3 b1w4 b1w5 b1w6 b1w7 b1l B16
          rintro Y7 ⟨b0, b1, b3, r0, r2, b8, r3, b9, B17⟩
          refine (HN3.out Y7 r2).mono ?_
          rintro e x8 ⟨E4, h4, v4, c4, M4, X4, bo4, rfl, po4, r4, hb⟩
          replace b0 := keepr hb b0
          replace b1 := keepr hb b1
          replace b3 := keepr hb b3
          replace r0 := r0.below hb
          replace r2 := r2.below hb
          replace b8 := keepr hb b8
          replace r3 := r3.below hb
          replace b9 := keepr hb b9
          have B18 := bl_step B17 hb
          clear hb B17
          obtain ⟨rfl, rfl, rfl, rfl, rfl⟩ := po3.same po4
          clear HN3 b8 r2 b1
          have hM3 := po3.le HQX.out hR hS (by omega) (by omega)
          have HWU := hid1 (fun W => Sg.window_any U T 1 1 0 0 0 0 W)
          obtain ⟨b3w0, b3w1, b3w2, b3w3, b3w4, b3w5, b3w6, b3w7⟩ := wnf_wn b3
          simp only [Nat.zero_add] at b3w1 b3w2 b3w3 b3w4 b3w5 b3w6 b3w7
          have b3l := b3.lt
          go_wp2_with fail
          refine gen_calls (fun W => W.rowIs (w.heap.size) 26 4 (cf H V C ao m cap) ∧ W.rowIs (y3.heap.size) 28 8 (wnf U T 1 1 0 0 0 0) ∧ Wr W ao m N ∧ Wr W bo3 M3 X3 ∧ W.rowIs (x7.heap.size) 26 4 (cf h3 v3 c3 bo3 M3 M3) ∧ Wr W bo4 M3 X4 ∧ W.rowIs (x8.heap.size) 26 4 (cf h3 v3 c3 bo4 M3 M3) ∧ Below w.heap.size w W) ⟨b0.alloc _, b3.alloc _, r0.below (bl_alloc (Below.refl _ _) _), r3.below (bl_alloc (Below.refl _ _) _), b9.alloc _, r4.below (bl_alloc (Below.refl _ _) _), cu_new _ _ _ _ _ _ _ _, bl_alloc B18 _⟩ ?_
          clear b0 b3 r0 r3 b9 r4 b3w0 b3w1 b3w2 b3w3 b3w4 b3w5 b3w6 b3w7 b3l B18
          rintro Y8 ⟨b0, b3, r0, r3, b9, r4, b10, B19⟩
          by_cases k4 : Sg.WOk U T 1 1 0 0 0 0
          · rw [show Sg.wiE U T 1 1 0 0 0 0 = 0 by unfold Sg.wiE; rw [if_pos k4]] at HWU
            obtain ⟨⟨u1, -, -, -⟩, ⟨u2, -, -, -⟩⟩ := k4
            have hU' : 1 ≤ U ∧ U ≤ 15 := by omega
            have hT' : 1 ≤ T ∧ T ≤ 15 := by omega
            have HX5 := hid1 (fun W r => max_two (R := U) (S := T) (y := 1) (x := 1) ao cap W qb hU' hT' (by omega) (by omega) hmc hcap r)
            have HN5 := hid1 (fun W r => min_two (R := U) (S := T) (y := 1) (x := 1) ao cap W qb hU' hT' (by omega) (by omega) hmc hcap r)
            simp only [show ((1 : Nat) : Int) = 1 from rfl] at HX5 HN5
            refine (HWU.out Y8).mono ?_
            rintro e x9 ⟨rfl, hb⟩
            replace b0 := keepr hb b0
            replace b3 := keepr hb b3
            replace r0 := r0.below hb
            replace r3 := r3.below hb
            replace b9 := keepr hb b9
            replace r4 := r4.below hb
            replace b10 := keepr hb b10
            have B20 := bl_step B19 hb
            clear hb B19
            have b0c0 := cf0 b0
            have b0c1 := cf1 b0
            have b0c2 := cf2 b0
            have b0c3 := cf3 b0
            have b0l := b0.lt
            obtain ⟨b3w0, b3w1, b3w2, b3w3, b3w4, b3w5, b3w6, b3w7⟩ := wnf_wn b3
            simp only [Nat.zero_add] at b3w1 b3w2 b3w3 b3w4 b3w5 b3w6 b3w7
            have b3l := b3.lt
            go_wp2_with fail
            refine (HX5.out x9 r0).mono ?_
            rintro e x10 ⟨E5, h5, v5, c5, M5, X5, bo5, rfl, po5, r5, hb⟩
            replace b0 := keepr hb b0
            replace b3 := keepr hb b3
            replace r0 := r0.below hb
            replace r3 := r3.below hb
            replace b9 := keepr hb b9
            replace r4 := r4.below hb
            replace b10 := keepr hb b10
            have B21 := bl_step B20 hb
            clear hb B20 b0c0 b0c1 b0c2 b0c3 b0l b3w0 b3w1 b3w2 b3w3 b3w4 b3w5 b3w6 b3w7 b3l
            obtain ⟨rfl, rfl, rfl, rfl, rfl, rfl⟩ := Po.twice (N1 := X1) (Rw := R') (Sw := S') (Rv := R) (Sv := S) hR'.1 hS'.1 hR.1 hS.1 HF1.out (by rw [HH1.out, HV1.out]; exact HHX1.out) (by rw [HH1.out, HV1.out]; exact po3) (by rw [hU, hT]; exact po5)
            clear HX5 po3 po5
            have b0c0 := cf0 b0
            have b0c1 := cf1 b0
            have b0c2 := cf2 b0
            have b0c3 := cf3 b0
            have b0l := b0.lt
            obtain ⟨b3w0, b3w1, b3w2, b3w3, b3w4, b3w5, b3w6, b3w7⟩ := wnf_wn b3
            simp only [Nat.zero_add] at b3w1 b3w2 b3w3 b3w4 b3w5 b3w6 b3w7
            have b3l := b3.lt
            go_wp2_with fail
            refine gen_calls (fun W => W.rowIs (w.heap.size) 26 4 (cf H V C ao m cap) ∧ W.rowIs (y3.heap.size) 28 8 (wnf U T 1 1 0 0 0 0) ∧ Wr W ao m N ∧ Wr W bo3 M3 X3 ∧ W.rowIs (x7.heap.size) 26 4 (cf h3 v3 c3 bo3 M3 M3) ∧ Wr W bo4 M3 X4 ∧ W.rowIs (x8.heap.size) 26 4 (cf h3 v3 c3 bo4 M3 M3) ∧ Wr W bo5 M3 X3 ∧ W.rowIs (x10.heap.size) 26 4 (cf h3 v3 c3 bo5 M3 M3) ∧ Below w.heap.size w W) ⟨b0.alloc _, b3.alloc _, r0.below (bl_alloc (Below.refl _ _) _), r3.below (bl_alloc (Below.refl _ _) _), b9.alloc _, r4.below (bl_alloc (Below.refl _ _) _), b10.alloc _, r5.below (bl_alloc (Below.refl _ _) _), cu_new _ _ _ _ _ _ _ _, bl_alloc B21 _⟩ ?_
            clear b0 b3 r0 r3 b9 r4 b10 r5 b0c0 b0c1 b0c2 b0c3 b0l b3w0 b3w1 b3w2 b3w3 b3w4 b3w5 b3w6 b3w7 b3l B21
            rintro Y10 ⟨b0, b3, r0, r3, b9, r4, b10, r5, b11, B22⟩
            refine (HN5.out Y10 r0).mono ?_
            rintro e x11 ⟨E6, h6, v6, c6, M6, X6, bo6, rfl, po6, r6, hb⟩
            replace b0 := keepr hb b0
            replace b3 := keepr hb b3
            replace r0 := r0.below hb
            replace r3 := r3.below hb
            replace b9 := keepr hb b9
            replace r4 := r4.below hb
            replace b10 := keepr hb b10
            replace r5 := r5.below hb
            replace b11 := keepr hb b11
            have B23 := bl_step B22 hb
            clear hb B22
            obtain ⟨rfl, rfl, rfl, rfl, rfl, rfl⟩ := Po.twice (N1 := X2) (Rw := R') (Sw := S') (Rv := R) (Sv := S) hR'.1 hS'.1 hR.1 hS.1 HF1.out (by rw [HH1.out, HV1.out]; exact HHX2.out) (by rw [HH1.out, HV1.out]; exact po4) (by rw [hU, hT]; exact po6)
            clear HN5 po4 po6 b0 b3 r0
            have b9c0 := cf0 b9
            have b9c1 := cf1 b9
            have b9c2 := cf2 b9
            have b9c3 := cf3 b9
            have b9l := b9.lt
            have b11c0 := cf0 b11
            have b11c1 := cf1 b11
            have b11c2 := cf2 b11
            have b11c3 := cf3 b11
            have b11l := b11.lt
            have b10c0 := cf0 b10
            have b10c1 := cf1 b10
            have b10c2 := cf2 b10
            have b10c3 := cf3 b10
            have b10l := b10.lt
            go_wp2_with fail
            refine gen_calls (fun W => Wr W bo3 M3 X3 ∧ W.rowIs (x7.heap.size) 26 4 (cf h3 v3 c3 bo3 M3 M3) ∧ Wr W bo4 M3 X4 ∧ W.rowIs (x8.heap.size) 26 4 (cf h3 v3 c3 bo4 M3 M3) ∧ Wr W bo5 M3 X3 ∧ W.rowIs (x10.heap.size) 26 4 (cf h3 v3 c3 bo5 M3 M3) ∧ Wr W bo6 M3 X4 ∧ W.rowIs (x11.heap.size) 26 4 (cf h3 v3 c3 bo6 M3 M3) ∧ Below w.heap.size w W) ⟨r3.below (bl_alloc (Below.refl _ _) _), b9.alloc _, r4.below (bl_alloc (Below.refl _ _) _), b10.alloc _, r5.below (bl_alloc (Below.refl _ _) _), b11.alloc _, r6.below (bl_alloc (Below.refl _ _) _), cu_new _ _ _ _ _ _ _ _, bl_alloc B23 _⟩ ?_
            clear r3 b9 r4 b10 r5 b11 r6 b9c0 b9c1 b9c2 b9c3 b9l b11c0 b11c1 b11c2 b11c3 b11l b10c0 b10c1 b10c2 b10c3 b10l B23
            rintro Y11 ⟨r3, b9, r4, b10, r5, b11, r6, b12, B24⟩
            refine (cubes_same h3 v3 c3 M3 X3 _ _ _ _ Y11 hM3 r3 r5).mono ?_
            rintro e x12 ⟨rfl, hb⟩
            replace r3 := r3.below hb
            replace b9 := keepr hb b9
            replace r4 := r4.below hb
            replace b10 := keepr hb b10
            replace r5 := r5.below hb
            replace b11 := keepr hb b11
            replace r6 := r6.below hb
            replace b12 := keepr hb b12
            have B25 := bl_step B24 hb
            clear hb B24
            have b10c0 := cf0 b10
            have b10c1 := cf1 b10
            have b10c2 := cf2 b10
            have b10c3 := cf3 b10
            have b10l := b10.lt
            have b12c0 := cf0 b12
            have b12c1 := cf1 b12
            have b12c2 := cf2 b12
            have b12c3 := cf3 b12
            have b12l := b12.lt
            go_wp2_with fail
            refine (cubes_same h3 v3 c3 M3 X4 _ _ _ _ x12 hM3 r4 r6).mono ?_
            rintro e x13 ⟨rfl, hb⟩
            replace r3 := r3.below hb
            replace b9 := keepr hb b9
            replace r4 := r4.below hb
            replace b10 := keepr hb b10
            replace r5 := r5.below hb
            replace b11 := keepr hb b11
            replace r6 := r6.below hb
            replace b12 := keepr hb b12
            have B26 := bl_step B25 hb
            clear hb B25 b10c0 b10c1 b10c2 b10c3 b10l b12c0 b12c1 b12c2 b12c3 b12l
            go_wp2_with fail
            go_ret
            exact ⟨rfl, B26⟩
          · rw [show Sg.wiE U T 1 1 0 0 0 0 = 56 by unfold Sg.wiE; rw [if_neg k4]] at HWU
            refine (HWU.out Y8).mono ?_
            rintro e x9 ⟨rfl, hb⟩
            replace b0 := keepr hb b0
            replace b3 := keepr hb b3
            replace r0 := r0.below hb
            replace r3 := r3.below hb
            replace b9 := keepr hb b9
            replace r4 := r4.below hb
            replace b10 := keepr hb b10
            have B20 := bl_step B19 hb
            clear hb B19
            go_wp2_with fail
            go_ret
            exact ⟨rfl, B20⟩
        · go_wp2_with fail
          go_ret
          exact ⟨rfl, bl_alloc B14 _⟩
      · rw [show Sg.wiE r' s' 1 1 0 0 0 0 = 56 by unfold Sg.wiE; rw [if_neg k3]] at HW
        go_wp2_with fail
        refine (HC.out X (RD.out.below B1)).mono ?_
        rintro e y1 ⟨rfl, hb⟩
        replace b0 := keepr hb b0
        replace b1 := keepr hb b1
        replace b2 := keepr hb b2
        have B2 := bl_step B1 hb
        clear hb B1 e0 e1 e2 e3
        obtain ⟨n0, n1, n2, n3, n4, n5, n6, n7⟩ := wnf_wn b1
        simp only [Nat.zero_add] at n1 n2 n3 n4 n5 n6 n7
        go_wp2_with fail
        refine (HV.out y1).mono ?_
        rintro e y2 ⟨rfl, hb⟩
        replace b0 := keepr hb b0
        replace b1 := keepr hb b1
        replace b2 := keepr hb b2
        have B3 := bl_step B2 hb
        clear hb B2 n0 n1 n2 n3 n4 n5 n6 n7
        obtain ⟨n0, n1, n2, n3, n4, n5, n6, n7⟩ := wnf_wn b2
        simp only [Nat.zero_add] at n1 n2 n3 n4 n5 n6 n7
        go_wp2_with fail
        refine (HW.out y2).mono ?_
        rintro e y3 ⟨rfl, hb⟩
        replace b0 := keepr hb b0
        replace b1 := keepr hb b1
        replace b2 := keepr hb b2
        have B4 := bl_step B3 hb
        clear hb B3 n0 n1 n2 n3 n4 n5 n6 n7
        go_wp2_with fail
        go_ret
        exact ⟨rfl, B4⟩
    · rw [show Sg.wiE r s 1 1 0 0 0 0 = 56 by unfold Sg.wiE; rw [if_neg k2]] at HV
      go_wp2_with fail
      refine (HC.out X (RD.out.below B1)).mono ?_
      rintro e y1 ⟨rfl, hb⟩
      replace b0 := keepr hb b0
      replace b1 := keepr hb b1
      replace b2 := keepr hb b2
      have B2 := bl_step B1 hb
      clear hb B1 e0 e1 e2 e3
      obtain ⟨n0, n1, n2, n3, n4, n5, n6, n7⟩ := wnf_wn b1
      simp only [Nat.zero_add] at n1 n2 n3 n4 n5 n6 n7
      go_wp2_with fail
      refine (HV.out y1).mono ?_
      rintro e y2 ⟨rfl, hb⟩
      replace b0 := keepr hb b0
      replace b1 := keepr hb b1
      replace b2 := keepr hb b2
      have B3 := bl_step B2 hb
      clear hb B2 n0 n1 n2 n3 n4 n5 n6 n7
      go_wp2_with fail
      go_ret
      exact ⟨rfl, B3⟩
  · generalize cuk h v c m N = EE at *
    go_wp2_with fail
    refine (HC.out X (RD.out.below B1)).mono ?_
    rintro e y1 ⟨rfl, hb⟩
    replace b0 := keepr hb b0
    replace b1 := keepr hb b1
    replace b2 := keepr hb b2
    have B2 := bl_step B1 hb
    clear hb B1 e0 e1 e2 e3
    go_wp2_with fail
    go_ret
    exact ⟨rfl, B2⟩
end Go.Proofs.Ytlghmojjcfjibaa
namespace Go.Proofs.Ytlghmojjcfjibaa
open Go.ChangeShapes Go.WideShapes Go.ChangeAt Go.RowKit

set_option maxRecDepth 100000 in
theorem poolTwice_lifted (os : Os) (started : os.Started) (H : Type) (enc : TypeId × Value → H) :
    ReturnsInHanded {} Try.checked os 3 .any (Rows.poolTwiceSpec.pre6 enc Try.prog Try.f3 Rows.poolTwiceRow.domain false) (Rows.poolTwiceSpec.post enc Try.prog Try.f3 false true false false) := by
  refine returnsInHanded_of_change_sized (C := Try.checked) own started (by kernel_rfl) Try.func3
    (ChangeSpec.witness6 (enc := enc) (C := Try.checked) false ⟨#[], #[.agg #[.int .i64 0, .int .i64 0, .int .i64 0, .slice none 0 0], .agg #[.int .i64 0, .int .i64 0, .int .i64 0, .int .i64 0, .int .i64 0, .int .i64 0, .int .i64 0, .int .i64 0], .agg #[.int .i64 0, .int .i64 0, .int .i64 0, .int .i64 0, .int .i64 0, .int .i64 0, .int .i64 0, .int .i64 0]], []⟩ 8 (by kernel_rfl) (by kernel_rfl) (by kernel_rfl) (by kernel_rfl)) ?_
  intro W base args ds gs before hval0 hW hcnd hsz _
  have hval : ∀ (j : Nat) t v, Try.f3.params[j]? = some t → args[j]? = some v → Value.okWide Try.prog W .any base t v := hval0
  have hW' := hW
  obtain ⟨p, q, hA0, hV, rfl, hfz, hnd⟩ := hW
  have hA : DataW.TrodAll enc Try.prog W 0 (fun _ => true) true Try.f3.params.toList args.toList ds p := hA0
  rw [Try.params3] at hA hval hsz
  obtain ⟨v0, vs0, d0, ds0, p0, q0, hargs, rfl, rfl, h0, r0⟩ := trodAll_cons hA
  obtain ⟨v1, vs1, d1, ds1, p1, q1, rfl, rfl, rfl, h1, r1⟩ := trodAll_cons r0
  obtain ⟨v2, vs2, d2, ds2, p2, q2, rfl, rfl, rfl, h2, r2⟩ := trodAll_cons r1
  obtain ⟨rfl, rfl, rfl⟩ := trodAll_nil r2
  obtain rfl : args = #[v0, v1, v2] := by cases args; simp_all
  obtain ⟨rfl, rfl⟩ := trodVars_none hV
  have lt0 : ∀ x ∈ p0, x.block < W.heap.size := by obtain ⟨m, hm⟩ := h0; exact DataW.trod_lt m _ _ _ hm
  have k0 := h0
  have lt1 : ∀ x ∈ p1, x.block < W.heap.size := by obtain ⟨m, hm⟩ := h1; exact DataW.trod_lt m _ _ _ hm
  have k1 := h1
  have lt2 : ∀ x ∈ p2, x.block < W.heap.size := by obtain ⟨m, hm⟩ := h2; exact DataW.trod_lt m _ _ _ hm
  have k2 := h2
  obtain ⟨ca0, cb0, cc0, ao0, m0, c0, N0, rfl, rr0, hm0, hc0, hd0⟩ := open_cube (hval 0 26 v0 rfl rfl) h0 (fun n hn => by have := List.all_eq_true.1 hsz _ (DataW.weights_mem_each (j := 0) (t := 26) (d := d0) rfl rfl n hn); simpa using this)
  obtain ⟨wa1, wb1, wc1, wd1, we1, wf1, wg1, wh1, rfl⟩ := open_win (hval 1 28 v1 rfl rfl) h1
  obtain ⟨wa2, wb2, wc2, wd2, we2, wf2, wg2, wh2, rfl⟩ := open_win (hval 2 28 v2 rfl rfl) h2
  clear hA0 hval0
  refine (poolTwice_any ca0 cb0 cc0 ao0 m0 c0 N0 wa1 wb1 wc1 wd1 we1 wf1 wg1 wh1 wa2 wb2 wc2 wd2 we2 wf2 wg2 wh2 W hc0 hd0 rr0).mono fun e W' ⟨he, bel⟩ => ?_
  subst he
  exact ⟨_, rfl, _, _, _, [], _, [], hW', trodAll_mk1 (shut_bool Try.underlying4 _), (trodAll_cons_mk (Below.trod laidOut (by kernel_rfl) (of_decide_eq_true (by kernel_rfl)) k0 bel lt0) (trodAll_cons_mk (Below.trod laidOut (by kernel_rfl) (of_decide_eq_true (by kernel_rfl)) k1 bel lt1) (trodAll_cons_mk (Below.trod laidOut (by kernel_rfl) (of_decide_eq_true (by kernel_rfl)) k2 bel lt2) trodAll_mk0))), rfl, bel.frame _, fun h => by cases h⟩

theorem poolTwice_holds : Rows.PoolTwiceSaid :=
  OpenClaim.holds_of_wide 3 Try.f3 rfl rfl rfl rfl rfl rfl rfl ⟨rfl, rfl, rfl, rfl, rfl⟩ rfl rfl rfl rfl rfl (by kernel_rfl) Try.func3 (by kernel_rfl)
    (of_decide_eq_true (by kernel_rfl)) (by unfold Func.isWrapper; first | (rw [if_pos (by decide +kernel)]; kernel_rfl) | (rw [if_neg (by decide +kernel)]; exact ⟨rfl, rfl⟩))
    (fun os started H enc _ => poolTwice_lifted os started H enc)
#print axioms poolTwice_holds
end Go.Proofs.Ytlghmojjcfjibaa
