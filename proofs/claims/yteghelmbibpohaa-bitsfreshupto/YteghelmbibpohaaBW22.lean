/- What is refused, by the program and by the document's own answers. -/
import Derived.Test.YteghelmbibpohaaBW21
namespace Go.Proofs.Yteghelmbibpohaa
open Go.RowKit

set_option maxHeartbeats 1600000 in
set_option maxRecDepth 100000 in
theorem not_bad (n : Int) (m N : Nat) (ao : Option Addr) (cap : Nat) (w : World) (hm : m ≤ 9223372036854775807) (h : Rd w ao m N) (he : chk n m N ≠ 0) :
    Calls Try.prog 18 #[rv n ao m cap] w fun e w' => e = .returned (.tuple #[rv 0 none 0 0, .int .i64 (chk n m N)]) ∧ Below w.heap.size w w' := by
  have HR := hid1 h
  have HC := hid1 (fun W (x : Rd W ao m N) => check_any n ao m cap N W (by omega) x)
  clear h
  generalize chk n m N = ec at *
  have he' : ¬ ec = 0 := he
  go_enter Try.func18, Try.ntmps18
  go_wp2_with fail
  refine gen_calls (fun W => Below w.heap.size w W ∧ W.rowIs (w.heap.size + 1) 27 2 (sf 0 none 0 0)) ⟨bl_alloc (bl_alloc (Below.refl _ _) _) _, by have := row_new (w.alloc (.cells #[.int .i64 n, .slice ao m cap] 27)) 0 none 0 0 27; simpa using this⟩ ?_
  rintro W ⟨B0, r2⟩
  refine (HC.out W (HR.out.below B0)).mono ?_
  rintro e w1 ⟨rfl, hb1⟩
  have B1 := bl_step B0 hb1
  replace r2 := keepr hb1 r2
  have c20 := sf_len r2
  have c21 := sf_ws r2
  have f0 := r2.frozen 0
  have f1 := r2.frozen 1
  clear hb1 B0
  go_wp2_with fail
  exact bodyPost_ret (v := .tuple #[rv 0 none 0 0, .int .i64 ec]) (by simp [results, Try.results18, go_sem, c20, c21]) rfl ⟨rfl, bl_set (bl_set B1 (by omega) _) (by omega) _⟩
set_option maxHeartbeats 1600000 in
set_option maxRecDepth 100000 in
theorem slice_bad (n : Int) (m N : Nat) (a b : Int) (ao : Option Addr) (cap : Nat) (w : World) (hm : m ≤ 9223372036854775807) (h : Rd w ao m N) (he : chk n m N ≠ 0) :
    Calls Try.prog 12 #[rv n ao m cap, .int .i64 a, .int .i64 b] w fun e w' => e = .returned (.tuple #[rv 0 none 0 0, .int .i64 (chk n m N)]) ∧ Below w.heap.size w w' := by
  have HR := hid1 h
  have HC := hid1 (fun W (x : Rd W ao m N) => check_any n ao m cap N W (by omega) x)
  clear h
  generalize chk n m N = ec at *
  have he' : ¬ ec = 0 := he
  go_enter Try.func12, Try.ntmps12
  go_wp2_with fail
  refine gen_calls (fun W => Below w.heap.size w W ∧ W.rowIs (w.heap.size + 1) 27 2 (sf 0 none 0 0)) ⟨bl_alloc (bl_alloc (Below.refl _ _) _) _, by have := row_new (w.alloc (.cells #[.int .i64 n, .slice ao m cap] 27)) 0 none 0 0 27; simpa using this⟩ ?_
  rintro W ⟨B0, r2⟩
  refine (HC.out W (HR.out.below B0)).mono ?_
  rintro e w1 ⟨rfl, hb1⟩
  have B1 := bl_step B0 hb1
  replace r2 := keepr hb1 r2
  have c20 := sf_len r2
  have c21 := sf_ws r2
  have f0 := r2.frozen 0
  have f1 := r2.frozen 1
  clear hb1 B0
  go_wp2_with fail
  exact bodyPost_ret (v := .tuple #[rv 0 none 0 0, .int .i64 ec]) (by simp [results, Try.results12, go_sem, c20, c21]) rfl ⟨rfl, bl_set (bl_set B1 (by omega) _) (by omega) _⟩
set_option maxHeartbeats 1600000 in
set_option maxRecDepth 100000 in
theorem unpack_bad (n : Int) (m N : Nat) (ao : Option Addr) (cap : Nat) (w : World) (hm : m ≤ 9223372036854775807) (h : Rd w ao m N) (he : chk n m N ≠ 0) :
    Calls Try.prog 20 #[rv n ao m cap] w fun e w' => e = .returned (.tuple #[.slice none 0 0, .int .i64 (chk n m N)]) ∧ Below w.heap.size w w' := by
  have HR := hid1 h
  have HC := hid1 (fun W (x : Rd W ao m N) => check_any n ao m cap N W (by omega) x)
  clear h
  generalize chk n m N = ec at *
  have he' : ¬ ec = 0 := he
  go_enter Try.func20, Try.ntmps20
  go_wp2_with fail
  refine gen_calls (fun W => Below w.heap.size w W) (bl_alloc (Below.refl _ _) _) ?_
  intro W B0
  refine (HC.out W (HR.out.below B0)).mono ?_
  rintro e w1 ⟨rfl, hb1⟩
  have B1 := bl_step B0 hb1
  clear hb1 B0
  go_wp2_with fail
  go_ret2
  exact ⟨rfl, B1⟩
set_option maxHeartbeats 1600000 in
set_option maxRecDepth 100000 in
theorem count_bad (n : Int) (m N : Nat) (ao : Option Addr) (cap : Nat) (w : World) (hm : m ≤ 9223372036854775807) (h : Rd w ao m N) (he : chk n m N ≠ 0) :
    Calls Try.prog 33 #[rv n ao m cap] w fun e w' => e = .returned (.tuple #[.int .i64 0, .int .i64 (chk n m N)]) ∧ Below w.heap.size w w' := by
  have HR := hid1 h
  have HC := hid1 (fun W (x : Rd W ao m N) => check_any n ao m cap N W (by omega) x)
  clear h
  generalize chk n m N = ec at *
  have he' : ¬ ec = 0 := he
  go_enter Try.func33, Try.ntmps33
  go_wp2_with fail
  refine gen_calls (fun W => Below w.heap.size w W) (bl_alloc (Below.refl _ _) _) ?_
  intro W B0
  refine (HC.out W (HR.out.below B0)).mono ?_
  rintro e w1 ⟨rfl, hb1⟩
  have B1 := bl_step B0 hb1
  clear hb1 B0
  go_wp2_with fail
  go_ret2
  exact ⟨rfl, B1⟩
set_option maxHeartbeats 1600000 in
set_option maxRecDepth 100000 in
theorem rnot_bad (n : Int) (m N : Nat) (ao : Option Addr) (cap : Nat) (w : World) (hm : m ≤ 1048576) (h : Ro w ao m N) (he : chk n m N ≠ 0) :
    Calls Try.prog 50 #[rv n ao m cap] w fun e w' => e = .returned (.tuple #[rv 0 none 0 0, .int .i64 (chk n m N)]) ∧ Below w.heap.size w w' := by
  have HR := hid1 h
  have HC := hid1 (fun W (x : Ro W ao m N) => rcheck_any n ao m cap N W (by omega) x)
  clear h
  generalize chk n m N = ec at *
  have he' : ¬ ec = 0 := he
  go_enter Try.func50, Try.ntmps50
  go_wp2_with fail
  refine gen_calls (fun W => Below w.heap.size w W ∧ W.rowIs (w.heap.size + 1) 27 2 (sf 0 none 0 0)) ⟨bl_alloc (bl_alloc (Below.refl _ _) _) _, by have := row_new (w.alloc (.cells #[.int .i64 n, .slice ao m cap] 27)) 0 none 0 0 27; simpa using this⟩ ?_
  rintro W ⟨B0, r2⟩
  refine (HC.out W (HR.out.below B0)).mono ?_
  rintro e w1 ⟨rfl, hb1⟩
  have B1 := bl_step B0 hb1
  replace r2 := keepr hb1 r2
  have c20 := sf_len r2
  have c21 := sf_ws r2
  have f0 := r2.frozen 0
  have f1 := r2.frozen 1
  clear hb1 B0
  go_wp2_with fail
  exact bodyPost_ret (v := .tuple #[rv 0 none 0 0, .int .i64 ec]) (by simp [results, Try.results50, go_sem, c20, c21]) rfl ⟨rfl, bl_set (bl_set B1 (by omega) _) (by omega) _⟩
set_option maxHeartbeats 1600000 in
set_option maxRecDepth 100000 in
theorem rslice_bad (n : Int) (m N : Nat) (a b : Int) (ao : Option Addr) (cap : Nat) (w : World) (hm : m ≤ 1048576) (h : Ro w ao m N) (he : chk n m N ≠ 0) :
    Calls Try.prog 52 #[rv n ao m cap, .int .i64 a, .int .i64 b] w fun e w' => e = .returned (.tuple #[rv 0 none 0 0, .int .i64 (chk n m N)]) ∧ Below w.heap.size w w' := by
  have HR := hid1 h
  have HC := hid1 (fun W (x : Ro W ao m N) => rcheck_any n ao m cap N W (by omega) x)
  clear h
  generalize chk n m N = ec at *
  have he' : ¬ ec = 0 := he
  go_enter Try.func52, Try.ntmps52
  go_wp2_with fail
  refine gen_calls (fun W => Below w.heap.size w W ∧ W.rowIs (w.heap.size + 1) 27 2 (sf 0 none 0 0)) ⟨bl_alloc (bl_alloc (Below.refl _ _) _) _, by have := row_new (w.alloc (.cells #[.int .i64 n, .slice ao m cap] 27)) 0 none 0 0 27; simpa using this⟩ ?_
  rintro W ⟨B0, r2⟩
  refine (HC.out W (HR.out.below B0)).mono ?_
  rintro e w1 ⟨rfl, hb1⟩
  have B1 := bl_step B0 hb1
  replace r2 := keepr hb1 r2
  have c20 := sf_len r2
  have c21 := sf_ws r2
  have f0 := r2.frozen 0
  have f1 := r2.frozen 1
  clear hb1 B0
  go_wp2_with fail
  exact bodyPost_ret (v := .tuple #[rv 0 none 0 0, .int .i64 ec]) (by simp [results, Try.results52, go_sem, c20, c21]) rfl ⟨rfl, bl_set (bl_set B1 (by omega) _) (by omega) _⟩
set_option maxHeartbeats 1600000 in
set_option maxRecDepth 100000 in
theorem runpack_bad (n : Int) (m N : Nat) (ao : Option Addr) (cap : Nat) (w : World) (hm : m ≤ 1048576) (h : Ro w ao m N) (he : chk n m N ≠ 0) :
    Calls Try.prog 45 #[rv n ao m cap] w fun e w' => e = .returned (.tuple #[.slice none 0 0, .int .i64 (chk n m N)]) ∧ Below w.heap.size w w' := by
  have HR := hid1 h
  have HC := hid1 (fun W (x : Ro W ao m N) => rcheck_any n ao m cap N W (by omega) x)
  clear h
  generalize chk n m N = ec at *
  have he' : ¬ ec = 0 := he
  go_enter Try.func45, Try.ntmps45
  go_wp2_with fail
  refine gen_calls (fun W => Below w.heap.size w W) (bl_alloc (Below.refl _ _) _) ?_
  intro W B0
  refine (HC.out W (HR.out.below B0)).mono ?_
  rintro e w1 ⟨rfl, hb1⟩
  have B1 := bl_step B0 hb1
  clear hb1 B0
  go_wp2_with fail
  go_ret2
  exact ⟨rfl, B1⟩
set_option maxHeartbeats 1600000 in
set_option maxRecDepth 100000 in
theorem rcount_bad (n : Int) (m N : Nat) (ao : Option Addr) (cap : Nat) (w : World) (hm : m ≤ 1048576) (h : Ro w ao m N) (he : chk n m N ≠ 0) :
    Calls Try.prog 51 #[rv n ao m cap] w fun e w' => e = .returned (.tuple #[.int .i64 0, .int .i64 (chk n m N)]) ∧ Below w.heap.size w w' := by
  have HR := hid1 h
  have HC := hid1 (fun W (x : Ro W ao m N) => rcheck_any n ao m cap N W (by omega) x)
  clear h
  generalize chk n m N = ec at *
  have he' : ¬ ec = 0 := he
  go_enter Try.func51, Try.ntmps51
  go_wp2_with fail
  refine gen_calls (fun W => Below w.heap.size w W) (bl_alloc (Below.refl _ _) _) ?_
  intro W B0
  refine (HC.out W (HR.out.below B0)).mono ?_
  rintro e w1 ⟨rfl, hb1⟩
  have B1 := bl_step B0 hb1
  clear hb1 B0
  go_wp2_with fail
  go_ret2
  exact ⟨rfl, B1⟩

/-- What is told of two rows. -/
def pairE (n1 : Int) (m1 A : Nat) (n2 : Int) (m2 B : Nat) : Int := if chk n1 m1 A ≠ 0 then chk n1 m1 A else if chk n2 m2 B ≠ 0 then chk n2 m2 B else if n1 ≠ n2 then 20 else 0
set_option maxHeartbeats 1600000 in
set_option maxRecDepth 100000 in
theorem pair_any (n1 n2 : Int) (m1 m2 A B : Nat) (ao bo : Option Addr) (ca cb : Nat) (w : World) (hm1 : m1 ≤ 9223372036854775807) (hm2 : m2 ≤ 9223372036854775807) (ra : Rd w ao m1 A) (rb : Rd w bo m2 B) :
    Calls Try.prog 39 #[rv n1 ao m1 ca, rv n2 bo m2 cb] w fun e w' => e = .returned (.int .i64 (pairE n1 m1 A n2 m2 B)) ∧ Below w.heap.size w w' := by
  have HA := hid1 ra
  have HB := hid1 rb
  have HC := hid1 (fun W (x : Rd W ao m1 A) => check_any n1 ao m1 ca A W (by omega) x)
  have HD := hid1 (fun W (x : Rd W bo m2 B) => check_any n2 bo m2 cb B W (by omega) x)
  have HE : Hid (pairE n1 m1 A n2 m2 B = if chk n1 m1 A ≠ 0 then chk n1 m1 A else if chk n2 m2 B ≠ 0 then chk n2 m2 B else if n1 ≠ n2 then 20 else 0) := rfl
  clear ra rb
  generalize chk n1 m1 A = e1 at *
  generalize chk n2 m2 B = e2 at *
  generalize pairE n1 m1 A n2 m2 B = ee at *
  go_enter Try.func39, Try.ntmps39
  go_wp2_with fail
  refine gen_calls (fun W => Below w.heap.size w W ∧ W.rowIs w.heap.size 27 2 (sf n1 ao m1 ca) ∧ W.rowIs (w.heap.size + 1) 27 2 (sf n2 bo m2 cb))
    ⟨bl_alloc (bl_alloc (Below.refl _ _) _) _, (row_new _ _ _ _ _ _).alloc _, by have := row_new (w.alloc (.cells #[.int .i64 n1, .slice ao m1 ca] 27)) n2 bo m2 cb 27; simpa using this⟩ ?_
  rintro W ⟨B0, r1, r2⟩
  refine (HC.out W (HA.out.below B0)).mono ?_
  rintro e w1 ⟨rfl, hb1⟩
  replace r1 := keepr hb1 r1
  replace r2 := keepr hb1 r2
  have B1 := bl_step B0 hb1
  have c20 := sf_len r2
  have c21 := sf_ws r2
  clear hb1 B0
  by_cases h1 : e1 = 0
  · subst h1
    go_wp2_with fail
    refine (HD.out w1 (HB.out.below B1)).mono ?_
    rintro e w2 ⟨rfl, hb2⟩
    have c0 := sf_len (keepr hb2 r1)
    have c2 := sf_len (keepr hb2 r2)
    have B2 := bl_step B1 hb2
    clear hb2 B1 r1 r2 c20 c21
    by_cases h2 : e2 = 0
    · subst h2
      by_cases h3 : n1 = n2
      · subst h3
        go_wp2_with fail
        go_ret
        exact ⟨ret_int (by rw [HE.out]; simp), B2⟩
      · go_wp2_with fail
        go_ret
        exact ⟨ret_int (by rw [HE.out]; simp [h3]), B2⟩
    · go_wp2_with fail
      go_ret
      exact ⟨ret_int (by rw [HE.out]; simp [h2]), B2⟩
  · go_wp2_with fail
    go_ret
    exact ⟨ret_int (by rw [HE.out]; simp [h1]), B1⟩
set_option maxHeartbeats 1600000 in
set_option maxRecDepth 100000 in
theorem rpair_any (n1 n2 : Int) (m1 m2 A B : Nat) (ao bo : Option Addr) (ca cb : Nat) (w : World) (hm1 : m1 ≤ 1048576) (hm2 : m2 ≤ 1048576) (ra : Ro w ao m1 A) (rb : Ro w bo m2 B) :
    Calls Try.prog 62 #[rv n1 ao m1 ca, rv n2 bo m2 cb] w fun e w' => e = .returned (.int .i64 (pairE n1 m1 A n2 m2 B)) ∧ Below w.heap.size w w' := by
  have HA := hid1 ra
  have HB := hid1 rb
  have HC := hid1 (fun W (x : Ro W ao m1 A) => rcheck_any n1 ao m1 ca A W (by omega) x)
  have HD := hid1 (fun W (x : Ro W bo m2 B) => rcheck_any n2 bo m2 cb B W (by omega) x)
  have HE : Hid (pairE n1 m1 A n2 m2 B = if chk n1 m1 A ≠ 0 then chk n1 m1 A else if chk n2 m2 B ≠ 0 then chk n2 m2 B else if n1 ≠ n2 then 20 else 0) := rfl
  clear ra rb
  generalize chk n1 m1 A = e1 at *
  generalize chk n2 m2 B = e2 at *
  generalize pairE n1 m1 A n2 m2 B = ee at *
  go_enter Try.func62, Try.ntmps62
  go_wp2_with fail
  refine gen_calls (fun W => Below w.heap.size w W ∧ W.rowIs w.heap.size 27 2 (sf n1 ao m1 ca) ∧ W.rowIs (w.heap.size + 1) 27 2 (sf n2 bo m2 cb))
    ⟨bl_alloc (bl_alloc (Below.refl _ _) _) _, (row_new _ _ _ _ _ _).alloc _, by have := row_new (w.alloc (.cells #[.int .i64 n1, .slice ao m1 ca] 27)) n2 bo m2 cb 27; simpa using this⟩ ?_
  rintro W ⟨B0, r1, r2⟩
  refine (HC.out W (HA.out.below B0)).mono ?_
  rintro e w1 ⟨rfl, hb1⟩
  replace r1 := keepr hb1 r1
  replace r2 := keepr hb1 r2
  have B1 := bl_step B0 hb1
  have c20 := sf_len r2
  have c21 := sf_ws r2
  clear hb1 B0
  by_cases h1 : e1 = 0
  · subst h1
    go_wp2_with fail
    refine (HD.out w1 (HB.out.below B1)).mono ?_
    rintro e w2 ⟨rfl, hb2⟩
    have c0 := sf_len (keepr hb2 r1)
    have c2 := sf_len (keepr hb2 r2)
    have B2 := bl_step B1 hb2
    clear hb2 B1 r1 r2 c20 c21
    by_cases h2 : e2 = 0
    · subst h2
      by_cases h3 : n1 = n2
      · subst h3
        go_wp2_with fail
        go_ret
        exact ⟨ret_int (by rw [HE.out]; simp), B2⟩
      · go_wp2_with fail
        go_ret
        exact ⟨ret_int (by rw [HE.out]; simp [h3]), B2⟩
    · go_wp2_with fail
      go_ret
      exact ⟨ret_int (by rw [HE.out]; simp [h2]), B2⟩
  · go_wp2_with fail
    go_ret
    exact ⟨ret_int (by rw [HE.out]; simp [h1]), B1⟩
set_option maxHeartbeats 1600000 in
set_option maxRecDepth 100000 in
theorem and_bad (n1 n2 : Int) (m1 m2 A B : Nat) (ao bo : Option Addr) (ca cb : Nat) (w : World) (hm1 : m1 ≤ 9223372036854775807) (hm2 : m2 ≤ 9223372036854775807) (ra : Rd w ao m1 A) (rb : Rd w bo m2 B) (he : pairE n1 m1 A n2 m2 B ≠ 0) :
    Calls Try.prog 22 #[rv n1 ao m1 ca, rv n2 bo m2 cb] w fun e w' => e = .returned (.tuple #[rv 0 none 0 0, .int .i64 (pairE n1 m1 A n2 m2 B)]) ∧ Below w.heap.size w w' := by
  have HA := hid1 ra
  have HB := hid1 rb
  have HC := hid1 (fun W (x : Rd W ao m1 A) (y : Rd W bo m2 B) => pair_any n1 n2 m1 m2 A B ao bo ca cb W hm1 hm2 x y)
  clear ra rb
  generalize pairE n1 m1 A n2 m2 B = ec at *
  have he' : ¬ ec = 0 := he
  go_enter Try.func22, Try.ntmps22
  go_wp2_with fail
  refine gen_calls (fun W => Below w.heap.size w W ∧ W.rowIs (w.heap.size + 2) 27 2 (sf 0 none 0 0))
    ⟨bl_alloc (bl_alloc (bl_alloc (Below.refl _ _) _) _) _, by have := row_new ((w.alloc (.cells #[.int .i64 n1, .slice ao m1 ca] 27)).alloc (.cells #[.int .i64 n2, .slice bo m2 cb] 27)) 0 none 0 0 27; simpa using this⟩ ?_
  rintro W ⟨B0, r2⟩
  refine (HC.out W (HA.out.below B0) (HB.out.below B0)).mono ?_
  rintro e w1 ⟨rfl, hb1⟩
  have B1 := bl_step B0 hb1
  replace r2 := keepr hb1 r2
  have c20 := sf_len r2
  have c21 := sf_ws r2
  have f0 := r2.frozen 0
  have f1 := r2.frozen 1
  clear hb1 B0
  go_wp2_with fail
  exact bodyPost_ret (v := .tuple #[rv 0 none 0 0, .int .i64 ec]) (by simp [results, Try.results22, go_sem, c20, c21]) rfl ⟨rfl, bl_set (bl_set B1 (by omega) _) (by omega) _⟩
set_option maxHeartbeats 1600000 in
set_option maxRecDepth 100000 in
theorem xor_bad (n1 n2 : Int) (m1 m2 A B : Nat) (ao bo : Option Addr) (ca cb : Nat) (w : World) (hm1 : m1 ≤ 9223372036854775807) (hm2 : m2 ≤ 9223372036854775807) (ra : Rd w ao m1 A) (rb : Rd w bo m2 B) (he : pairE n1 m1 A n2 m2 B ≠ 0) :
    Calls Try.prog 23 #[rv n1 ao m1 ca, rv n2 bo m2 cb] w fun e w' => e = .returned (.tuple #[rv 0 none 0 0, .int .i64 (pairE n1 m1 A n2 m2 B)]) ∧ Below w.heap.size w w' := by
  have HA := hid1 ra
  have HB := hid1 rb
  have HC := hid1 (fun W (x : Rd W ao m1 A) (y : Rd W bo m2 B) => pair_any n1 n2 m1 m2 A B ao bo ca cb W hm1 hm2 x y)
  clear ra rb
  generalize pairE n1 m1 A n2 m2 B = ec at *
  have he' : ¬ ec = 0 := he
  go_enter Try.func23, Try.ntmps23
  go_wp2_with fail
  refine gen_calls (fun W => Below w.heap.size w W ∧ W.rowIs (w.heap.size + 2) 27 2 (sf 0 none 0 0))
    ⟨bl_alloc (bl_alloc (bl_alloc (Below.refl _ _) _) _) _, by have := row_new ((w.alloc (.cells #[.int .i64 n1, .slice ao m1 ca] 27)).alloc (.cells #[.int .i64 n2, .slice bo m2 cb] 27)) 0 none 0 0 27; simpa using this⟩ ?_
  rintro W ⟨B0, r2⟩
  refine (HC.out W (HA.out.below B0) (HB.out.below B0)).mono ?_
  rintro e w1 ⟨rfl, hb1⟩
  have B1 := bl_step B0 hb1
  replace r2 := keepr hb1 r2
  have c20 := sf_len r2
  have c21 := sf_ws r2
  have f0 := r2.frozen 0
  have f1 := r2.frozen 1
  clear hb1 B0
  go_wp2_with fail
  exact bodyPost_ret (v := .tuple #[rv 0 none 0 0, .int .i64 ec]) (by simp [results, Try.results23, go_sem, c20, c21]) rfl ⟨rfl, bl_set (bl_set B1 (by omega) _) (by omega) _⟩
set_option maxHeartbeats 1600000 in
set_option maxRecDepth 100000 in
theorem rand_bad (n1 n2 : Int) (m1 m2 A B : Nat) (ao bo : Option Addr) (ca cb : Nat) (w : World) (hm1 : m1 ≤ 1048576) (hm2 : m2 ≤ 1048576) (ra : Ro w ao m1 A) (rb : Ro w bo m2 B) (he : pairE n1 m1 A n2 m2 B ≠ 0) :
    Calls Try.prog 48 #[rv n1 ao m1 ca, rv n2 bo m2 cb] w fun e w' => e = .returned (.tuple #[rv 0 none 0 0, .int .i64 (pairE n1 m1 A n2 m2 B)]) ∧ Below w.heap.size w w' := by
  have HA := hid1 ra
  have HB := hid1 rb
  have HC := hid1 (fun W (x : Ro W ao m1 A) (y : Ro W bo m2 B) => rpair_any n1 n2 m1 m2 A B ao bo ca cb W hm1 hm2 x y)
  clear ra rb
  generalize pairE n1 m1 A n2 m2 B = ec at *
  have he' : ¬ ec = 0 := he
  go_enter Try.func48, Try.ntmps48
  go_wp2_with fail
  refine gen_calls (fun W => Below w.heap.size w W ∧ W.rowIs (w.heap.size + 2) 27 2 (sf 0 none 0 0))
    ⟨bl_alloc (bl_alloc (bl_alloc (Below.refl _ _) _) _) _, by have := row_new ((w.alloc (.cells #[.int .i64 n1, .slice ao m1 ca] 27)).alloc (.cells #[.int .i64 n2, .slice bo m2 cb] 27)) 0 none 0 0 27; simpa using this⟩ ?_
  rintro W ⟨B0, r2⟩
  refine (HC.out W (HA.out.below B0) (HB.out.below B0)).mono ?_
  rintro e w1 ⟨rfl, hb1⟩
  have B1 := bl_step B0 hb1
  replace r2 := keepr hb1 r2
  have c20 := sf_len r2
  have c21 := sf_ws r2
  have f0 := r2.frozen 0
  have f1 := r2.frozen 1
  clear hb1 B0
  go_wp2_with fail
  exact bodyPost_ret (v := .tuple #[rv 0 none 0 0, .int .i64 ec]) (by simp [results, Try.results48, go_sem, c20, c21]) rfl ⟨rfl, bl_set (bl_set B1 (by omega) _) (by omega) _⟩
set_option maxHeartbeats 1600000 in
set_option maxRecDepth 100000 in
theorem rxor_bad (n1 n2 : Int) (m1 m2 A B : Nat) (ao bo : Option Addr) (ca cb : Nat) (w : World) (hm1 : m1 ≤ 1048576) (hm2 : m2 ≤ 1048576) (ra : Ro w ao m1 A) (rb : Ro w bo m2 B) (he : pairE n1 m1 A n2 m2 B ≠ 0) :
    Calls Try.prog 49 #[rv n1 ao m1 ca, rv n2 bo m2 cb] w fun e w' => e = .returned (.tuple #[rv 0 none 0 0, .int .i64 (pairE n1 m1 A n2 m2 B)]) ∧ Below w.heap.size w w' := by
  have HA := hid1 ra
  have HB := hid1 rb
  have HC := hid1 (fun W (x : Ro W ao m1 A) (y : Ro W bo m2 B) => rpair_any n1 n2 m1 m2 A B ao bo ca cb W hm1 hm2 x y)
  clear ra rb
  generalize pairE n1 m1 A n2 m2 B = ec at *
  have he' : ¬ ec = 0 := he
  go_enter Try.func49, Try.ntmps49
  go_wp2_with fail
  refine gen_calls (fun W => Below w.heap.size w W ∧ W.rowIs (w.heap.size + 2) 27 2 (sf 0 none 0 0))
    ⟨bl_alloc (bl_alloc (bl_alloc (Below.refl _ _) _) _) _, by have := row_new ((w.alloc (.cells #[.int .i64 n1, .slice ao m1 ca] 27)).alloc (.cells #[.int .i64 n2, .slice bo m2 cb] 27)) 0 none 0 0 27; simpa using this⟩ ?_
  rintro W ⟨B0, r2⟩
  refine (HC.out W (HA.out.below B0) (HB.out.below B0)).mono ?_
  rintro e w1 ⟨rfl, hb1⟩
  have B1 := bl_step B0 hb1
  replace r2 := keepr hb1 r2
  have c20 := sf_len r2
  have c21 := sf_ws r2
  have f0 := r2.frozen 0
  have f1 := r2.frozen 1
  clear hb1 B0
  go_wp2_with fail
  exact bodyPost_ret (v := .tuple #[rv 0 none 0 0, .int .i64 ec]) (by simp [results, Try.results49, go_sem, c20, c21]) rfl ⟨rfl, bl_set (bl_set B1 (by omega) _) (by omega) _⟩
end Go.Proofs.Yteghelmbibpohaa
