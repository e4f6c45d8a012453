/- Every answer, for every argument, by the program and by the document's own package. -/
import Derived.Test.YteghelmbibpohaaBW34
namespace Go.Proofs.Yteghelmbibpohaa
open Go.RowKit

/-- A row as it is to be answered: its length, words, number, error. -/
structure RS where
  n : Int
  m : Nat
  N : Nat
  e : Int
def rbad (e : Int) : RS := ⟨0, 0, 0, e⟩
def rok (n N : Nat) : RS := ⟨n, nw n, N, 0⟩
/-- This value answers so. -/
def RA (b : Nat) (w : World) (v : Value) (r : RS) : Prop := ∃ ao c, v = .tuple #[rv r.n ao r.m c, .int .i64 r.e] ∧ Ro w ao r.m r.N ∧ r.m ≤ 262144 ∧ ∀ p, ao = some p → b ≤ p.block
theorem ra_bad (b : Nat) (w : World) (e : Int) : RA b w (.tuple #[rv 0 none 0 0, .int .i64 e]) (rbad e) := ⟨none, 0, rfl, ⟨by simp [rbad], fun k hk => absurd hk (by simp [rbad])⟩, by simp [rbad], fun p hp => nomatch hp⟩
theorem ra_ok {w : World} {b n N g c : Nat} (hle : b ≤ g) (h1 : n ≤ 16777216) (hN : N < 2 ^ n) (h : w.rowIs g 35 (nw n) (wf N)) : RA b w (.tuple #[rv n (some ⟨g, 0, none⟩) (nw n) c, .int .i64 0]) (rok n N) :=
  ⟨_, c, rfl, Ro.of (Rd.row h (lt_nw hN)), nw_bd h1, fun p hp => by injection hp with hp; subst hp; exact hle⟩
def packS (l : List Int) : RS := if 16777216 < l.length then rbad 2 else rok l.length (pk l l.length)
def notS (n : Int) (m N : Nat) : RS := if chk n m N = 0 then rok n.toNat (nt n.toNat N) else rbad (chk n m N)
def andS (n1 : Int) (m1 A : Nat) (n2 : Int) (m2 B : Nat) : RS := if pairE n1 m1 A n2 m2 B = 0 then rok n1.toNat (A &&& B) else rbad (pairE n1 m1 A n2 m2 B)
def xorS (n1 : Int) (m1 A : Nat) (n2 : Int) (m2 B : Nat) : RS := if pairE n1 m1 A n2 m2 B = 0 then rok n1.toNat (A ^^^ B) else rbad (pairE n1 m1 A n2 m2 B)
def sliceS (n : Int) (m N : Nat) (a b : Int) : RS := if chk n m N = 0 then (if a < 0 ∨ b < a ∨ n < b then rbad 1 else rok (b.toNat - a.toNat) (sl N a.toNat b.toNat)) else rbad (chk n m N)
theorem pair_zero {n1 n2 : Int} {m1 m2 A B : Nat} (h : pairE n1 m1 A n2 m2 B = 0) : ∃ k : Nat, n1 = k ∧ n2 = k ∧ k ≤ 16777216 ∧ m1 = nw k ∧ m2 = nw k ∧ A < 2 ^ k ∧ B < 2 ^ k := by
  unfold pairE at h
  by_cases h1 : chk n1 m1 A = 0
  · rw [if_neg (by simp [h1])] at h
    by_cases h2 : chk n2 m2 B = 0
    · rw [if_neg (by simp [h2])] at h
      by_cases h3 : n1 = n2
      · obtain ⟨k, e1, e2, e3, e4⟩ := chk_zero h1
        obtain ⟨k', e1', e2', e3', e4'⟩ := chk_zero h2
        obtain rfl : k = k' := by omega
        exact ⟨k, e1, e1', e2, e3, e3', e4, e4'⟩
      · rw [if_pos h3] at h; omega
    · rw [if_pos h2] at h; exact absurd h h2
  · rw [if_pos h1] at h; exact absurd h h1

theorem pack_tot (l : List Int) (m cl : Nat) (hml : l.length = m) (la : Option Addr) (w : World) (hm : m ≤ 9223372036854775807) (h : R8 w la l) :
    Calls Try.prog 10 #[.slice la m cl] w fun e w' => ∃ v, e = .returned v ∧ RA w.heap.size w' v (packS l) ∧ Below w.heap.size w w' := by
  subst hml
  unfold packS
  by_cases h1 : 16777216 < l.length
  · rw [if_pos h1]
    refine (pack_long l la cl w h1 hm).mono ?_
    rintro e w1 ⟨rfl, hb⟩
    exact ⟨_, rfl, ra_bad _ _ _, hb⟩
  · rw [if_neg h1]
    refine (pack_any l l.length rfl la cl w (by omega) h).mono ?_
    rintro e w1 ⟨g, rfl, hle, hrow, hb⟩
    exact ⟨_, rfl, ra_ok hle (by omega) (pk_lt _ _) hrow, hb⟩
theorem not_tot (n : Int) (m N : Nat) (ao : Option Addr) (cap : Nat) (w : World) (hm : m ≤ 1048576) (h : Rd w ao m N) :
    Calls Try.prog 18 #[rv n ao m cap] w fun e w' => ∃ v, e = .returned v ∧ RA w.heap.size w' v (notS n m N) ∧ Below w.heap.size w w' := by
  unfold notS
  by_cases h1 : chk n m N = 0
  · obtain ⟨k, rfl, h2, rfl, h3⟩ := chk_zero h1
    rw [if_pos h1, Int.toNat_natCast]
    refine (not_any k N ao cap w h2 h3 h).mono ?_
    rintro e w1 ⟨g, rfl, hle, hrow, hb⟩
    exact ⟨_, rfl, ra_ok hle h2 (nt_lt _ _) hrow, hb⟩
  · rw [if_neg h1]
    refine (not_bad n m N ao cap w (by omega) h h1).mono ?_
    rintro e w1 ⟨rfl, hb⟩
    exact ⟨_, rfl, ra_bad _ _ _, hb⟩
theorem and_tot (n1 n2 : Int) (m1 m2 A B : Nat) (ao bo : Option Addr) (ca cb : Nat) (w : World) (hm1 : m1 ≤ 1048576) (hm2 : m2 ≤ 1048576) (ra : Rd w ao m1 A) (rb : Rd w bo m2 B) :
    Calls Try.prog 22 #[rv n1 ao m1 ca, rv n2 bo m2 cb] w fun e w' => ∃ v, e = .returned v ∧ RA w.heap.size w' v (andS n1 m1 A n2 m2 B) ∧ Below w.heap.size w w' := by
  unfold andS
  by_cases h1 : pairE n1 m1 A n2 m2 B = 0
  · obtain ⟨k, rfl, rfl, h2, rfl, rfl, h3, h4⟩ := pair_zero h1
    rw [if_pos h1, Int.toNat_natCast]
    refine (and_any k A B ao bo ca cb w h2 h3 h4 ra rb).mono ?_
    rintro e w1 ⟨g, rfl, hle, hrow, hb⟩
    exact ⟨_, rfl, ra_ok hle h2 (and_lt' h3) hrow, hb⟩
  · rw [if_neg h1]
    refine (and_bad n1 n2 m1 m2 A B ao bo ca cb w (by omega) (by omega) ra rb h1).mono ?_
    rintro e w1 ⟨rfl, hb⟩
    exact ⟨_, rfl, ra_bad _ _ _, hb⟩
theorem xor_tot (n1 n2 : Int) (m1 m2 A B : Nat) (ao bo : Option Addr) (ca cb : Nat) (w : World) (hm1 : m1 ≤ 1048576) (hm2 : m2 ≤ 1048576) (ra : Rd w ao m1 A) (rb : Rd w bo m2 B) :
    Calls Try.prog 23 #[rv n1 ao m1 ca, rv n2 bo m2 cb] w fun e w' => ∃ v, e = .returned v ∧ RA w.heap.size w' v (xorS n1 m1 A n2 m2 B) ∧ Below w.heap.size w w' := by
  unfold xorS
  by_cases h1 : pairE n1 m1 A n2 m2 B = 0
  · obtain ⟨k, rfl, rfl, h2, rfl, rfl, h3, h4⟩ := pair_zero h1
    rw [if_pos h1, Int.toNat_natCast]
    refine (xor_any k A B ao bo ca cb w h2 h3 h4 ra rb).mono ?_
    rintro e w1 ⟨g, rfl, hle, hrow, hb⟩
    exact ⟨_, rfl, ra_ok hle h2 (xor_lt' h3 h4) hrow, hb⟩
  · rw [if_neg h1]
    refine (xor_bad n1 n2 m1 m2 A B ao bo ca cb w (by omega) (by omega) ra rb h1).mono ?_
    rintro e w1 ⟨rfl, hb⟩
    exact ⟨_, rfl, ra_bad _ _ _, hb⟩
theorem slice_tot (n : Int) (m N : Nat) (a b : Int) (ao : Option Addr) (cap : Nat) (w : World) (hm : m ≤ 1048576) (h : Rd w ao m N) :
    Calls Try.prog 12 #[rv n ao m cap, .int .i64 a, .int .i64 b] w fun e w' => ∃ v, e = .returned v ∧ RA w.heap.size w' v (sliceS n m N a b) ∧ Below w.heap.size w w' := by
  unfold sliceS
  by_cases h1 : chk n m N = 0
  · obtain ⟨k, rfl, h2, rfl, h3⟩ := chk_zero h1
    rw [if_pos h1]
    by_cases hab : a < 0 ∨ b < a ∨ (k : Int) < b
    · rw [if_pos hab]
      refine (slice_arg k N a b ao cap w h2 h3 h hab).mono ?_
      rintro e w1 ⟨rfl, hb⟩
      exact ⟨_, rfl, ra_bad _ _ _, hb⟩
    · rw [if_neg hab]
      obtain ⟨a, rfl⟩ := Int.eq_ofNat_of_zero_le (show 0 ≤ a by omega)
      obtain ⟨b, rfl⟩ := Int.eq_ofNat_of_zero_le (show 0 ≤ b by omega)
      simp only [Int.toNat_natCast]
      refine (slice_any k N a b ao cap w h2 h3 h (by omega) (by omega)).mono ?_
      rintro e w1 ⟨g, rfl, hle, hrow, hb⟩
      exact ⟨_, rfl, ra_ok hle (by omega) (sl_lt _ _ _) hrow, hb⟩
  · rw [if_neg h1]
    refine (slice_bad n m N a b ao cap w (by omega) h h1).mono ?_
    rintro e w1 ⟨rfl, hb⟩
    exact ⟨_, rfl, ra_bad _ _ _, hb⟩

theorem rpack_tot (l : List Int) (m cl : Nat) (hml : l.length = m) (la : Option Addr) (w : World) (hm : m ≤ 9223372036854775807) (h : R8 w la l) :
    Calls Try.prog 44 #[.slice la m cl] w fun e w' => ∃ v, e = .returned v ∧ RA w.heap.size w' v (packS l) ∧ Below w.heap.size w w' := by
  subst hml
  unfold packS
  by_cases h1 : 16777216 < l.length
  · rw [if_pos h1]
    refine (rpack_long l la cl w h1 hm).mono ?_
    rintro e w1 ⟨rfl, hb⟩
    exact ⟨_, rfl, ra_bad _ _ _, hb⟩
  · rw [if_neg h1]
    refine (rpack_any l l.length rfl la cl w (by omega) h).mono ?_
    rintro e w1 ⟨g, rfl, hle, hrow, hb⟩
    exact ⟨_, rfl, ra_ok hle (by omega) (pk_lt _ _) hrow, hb⟩
theorem rnot_tot (n : Int) (m N : Nat) (ao : Option Addr) (cap : Nat) (w : World) (hm : m ≤ 1048576) (h : Ro w ao m N) :
    Calls Try.prog 50 #[rv n ao m cap] w fun e w' => ∃ v, e = .returned v ∧ RA w.heap.size w' v (notS n m N) ∧ Below w.heap.size w w' := by
  unfold notS
  by_cases h1 : chk n m N = 0
  · obtain ⟨k, rfl, h2, rfl, h3⟩ := chk_zero h1
    rw [if_pos h1, Int.toNat_natCast]
    refine (rnot_any k N ao cap w h2 h3 h).mono ?_
    rintro e w1 ⟨g, rfl, hle, hrow, hb⟩
    exact ⟨_, rfl, ra_ok hle h2 (nt_lt _ _) hrow, hb⟩
  · rw [if_neg h1]
    refine (rnot_bad n m N ao cap w (by omega) h h1).mono ?_
    rintro e w1 ⟨rfl, hb⟩
    exact ⟨_, rfl, ra_bad _ _ _, hb⟩
theorem rand_tot (n1 n2 : Int) (m1 m2 A B : Nat) (ao bo : Option Addr) (ca cb : Nat) (w : World) (hm1 : m1 ≤ 1048576) (hm2 : m2 ≤ 1048576) (ra : Ro w ao m1 A) (rb : Ro w bo m2 B) :
    Calls Try.prog 48 #[rv n1 ao m1 ca, rv n2 bo m2 cb] w fun e w' => ∃ v, e = .returned v ∧ RA w.heap.size w' v (andS n1 m1 A n2 m2 B) ∧ Below w.heap.size w w' := by
  unfold andS
  by_cases h1 : pairE n1 m1 A n2 m2 B = 0
  · obtain ⟨k, rfl, rfl, h2, rfl, rfl, h3, h4⟩ := pair_zero h1
    rw [if_pos h1, Int.toNat_natCast]
    refine (rand_any k A B ao bo ca cb w h2 h3 h4 ra rb).mono ?_
    rintro e w1 ⟨g, rfl, hle, hrow, hb⟩
    exact ⟨_, rfl, ra_ok hle h2 (and_lt' h3) hrow, hb⟩
  · rw [if_neg h1]
    refine (rand_bad n1 n2 m1 m2 A B ao bo ca cb w (by omega) (by omega) ra rb h1).mono ?_
    rintro e w1 ⟨rfl, hb⟩
    exact ⟨_, rfl, ra_bad _ _ _, hb⟩
theorem rxor_tot (n1 n2 : Int) (m1 m2 A B : Nat) (ao bo : Option Addr) (ca cb : Nat) (w : World) (hm1 : m1 ≤ 1048576) (hm2 : m2 ≤ 1048576) (ra : Ro w ao m1 A) (rb : Ro w bo m2 B) :
    Calls Try.prog 49 #[rv n1 ao m1 ca, rv n2 bo m2 cb] w fun e w' => ∃ v, e = .returned v ∧ RA w.heap.size w' v (xorS n1 m1 A n2 m2 B) ∧ Below w.heap.size w w' := by
  unfold xorS
  by_cases h1 : pairE n1 m1 A n2 m2 B = 0
  · obtain ⟨k, rfl, rfl, h2, rfl, rfl, h3, h4⟩ := pair_zero h1
    rw [if_pos h1, Int.toNat_natCast]
    refine (rxor_any k A B ao bo ca cb w h2 h3 h4 ra rb).mono ?_
    rintro e w1 ⟨g, rfl, hle, hrow, hb⟩
    exact ⟨_, rfl, ra_ok hle h2 (xor_lt' h3 h4) hrow, hb⟩
  · rw [if_neg h1]
    refine (rxor_bad n1 n2 m1 m2 A B ao bo ca cb w (by omega) (by omega) ra rb h1).mono ?_
    rintro e w1 ⟨rfl, hb⟩
    exact ⟨_, rfl, ra_bad _ _ _, hb⟩
theorem rslice_tot (n : Int) (m N : Nat) (a b : Int) (ao : Option Addr) (cap : Nat) (w : World) (hm : m ≤ 1048576) (h : Ro w ao m N) :
    Calls Try.prog 52 #[rv n ao m cap, .int .i64 a, .int .i64 b] w fun e w' => ∃ v, e = .returned v ∧ RA w.heap.size w' v (sliceS n m N a b) ∧ Below w.heap.size w w' := by
  unfold sliceS
  by_cases h1 : chk n m N = 0
  · obtain ⟨k, rfl, h2, rfl, h3⟩ := chk_zero h1
    rw [if_pos h1]
    by_cases hab : a < 0 ∨ b < a ∨ (k : Int) < b
    · rw [if_pos hab]
      refine (rslice_arg k N a b ao cap w h2 h3 h hab).mono ?_
      rintro e w1 ⟨rfl, hb⟩
      exact ⟨_, rfl, ra_bad _ _ _, hb⟩
    · rw [if_neg hab]
      obtain ⟨a, rfl⟩ := Int.eq_ofNat_of_zero_le (show 0 ≤ a by omega)
      obtain ⟨b, rfl⟩ := Int.eq_ofNat_of_zero_le (show 0 ≤ b by omega)
      simp only [Int.toNat_natCast]
      refine (rslice_any k N a b ao cap w h2 h3 h (by omega) (by omega)).mono ?_
      rintro e w1 ⟨g, rfl, hle, hrow, hb⟩
      exact ⟨_, rfl, ra_ok hle (by omega) (sl_lt _ _ _) hrow, hb⟩
  · rw [if_neg h1]
    refine (rslice_bad n m N a b ao cap w (by omega) h h1).mono ?_
    rintro e w1 ⟨rfl, hb⟩
    exact ⟨_, rfl, ra_bad _ _ _, hb⟩

/-- Numbers as they are to be answered. -/
structure SS where
  l : Nat
  f : Nat → Int
  e : Int
def unpackS (n : Int) (m N : Nat) : SS := if chk n m N = 0 then ⟨n.toNat, sg N, 0⟩ else ⟨0, fun _ => 0, chk n m N⟩
def SA (b : Nat) (w : World) (v : Value) (r : SS) : Prop := ∃ so sc, v = .tuple #[.slice so r.l sc, .int .i64 r.e] ∧ Rs w so r.l (fun k => .int .i8 (r.f k)) ∧ r.l ≤ 16777216 ∧ ∀ p, so = some p → b ≤ p.block
def countS (n : Int) (m N : Nat) : Int × Int := if chk n m N = 0 then ((pc N n.toNat : Nat), 0) else (0, chk n m N)
def tailS (n : Int) : Int := if n ≤ 0 then 0 else (tl n.toNat : Nat)

theorem unpack_tot (n : Int) (m N : Nat) (ao : Option Addr) (cap : Nat) (w : World) (hm : m ≤ 1048576) (h : Rd w ao m N) :
    Calls Try.prog 20 #[rv n ao m cap] w fun e w' => ∃ v, e = .returned v ∧ SA w.heap.size w' v (unpackS n m N) ∧ Below w.heap.size w w' := by
  unfold unpackS
  by_cases h1 : chk n m N = 0
  · obtain ⟨k, rfl, h2, rfl, h3⟩ := chk_zero h1
    rw [if_pos h1, Int.toNat_natCast]
    refine (unpack_any k N ao cap w h2 h3 h).mono ?_
    rintro e w1 ⟨g, rfl, hle, hrow, hb⟩
    exact ⟨_, rfl, ⟨_, _, rfl, fun j hj => ⟨g, 0, rfl, by rw [Nat.zero_add]; exact hrow.cell hj⟩, h2, fun p hp => by injection hp with hp; subst hp; exact hle⟩, hb⟩
  · rw [if_neg h1]
    refine (unpack_bad n m N ao cap w (by omega) h h1).mono ?_
    rintro e w1 ⟨rfl, hb⟩
    exact ⟨_, rfl, ⟨_, _, rfl, fun j hj => absurd hj (by simp), by simp, fun p hp => nomatch hp⟩, hb⟩
theorem count_tot (n : Int) (m N : Nat) (ao : Option Addr) (cap : Nat) (w : World) (hm : m ≤ 1048576) (h : Rd w ao m N) :
    Calls Try.prog 33 #[rv n ao m cap] w fun e w' => e = .returned (.tuple #[.int .i64 (countS n m N).1, .int .i64 (countS n m N).2]) ∧ Below w.heap.size w w' := by
  unfold countS
  by_cases h1 : chk n m N = 0
  · obtain ⟨k, rfl, h2, rfl, h3⟩ := chk_zero h1
    rw [if_pos h1, Int.toNat_natCast]
    exact count_any k N ao cap w h2 h3 h
  · rw [if_neg h1]
    exact count_bad n m N ao cap w (by omega) h h1
theorem tail_tot (n : Int) (h2 : n ≤ 9223372036854775807) (w : World) :
    Calls Try.prog 19 #[.int .i64 n] w fun e w' => e = .returned (.int .u64 (tailS n)) ∧ w' = w := by
  unfold tailS
  by_cases h1 : n ≤ 0
  · rw [if_pos h1]
    exact tail_none n h1 w
  · rw [if_neg h1]
    obtain ⟨k, rfl⟩ := Int.eq_ofNat_of_zero_le (show 0 ≤ n by omega)
    exact tail_pos k (by omega) (by omega) w

theorem runpack_tot (n : Int) (m N : Nat) (ao : Option Addr) (cap : Nat) (w : World) (hm : m ≤ 1048576) (h : Ro w ao m N) :
    Calls Try.prog 45 #[rv n ao m cap] w fun e w' => ∃ v, e = .returned v ∧ SA w.heap.size w' v (unpackS n m N) ∧ Below w.heap.size w w' := by
  unfold unpackS
  by_cases h1 : chk n m N = 0
  · obtain ⟨k, rfl, h2, rfl, h3⟩ := chk_zero h1
    rw [if_pos h1, Int.toNat_natCast]
    refine (runpack_any k N ao cap w h2 h3 h).mono ?_
    rintro e w1 ⟨g, rfl, hle, hrow, hb⟩
    exact ⟨_, rfl, ⟨_, _, rfl, fun j hj => ⟨g, 0, rfl, by rw [Nat.zero_add]; exact hrow.cell hj⟩, h2, fun p hp => by injection hp with hp; subst hp; exact hle⟩, hb⟩
  · rw [if_neg h1]
    refine (runpack_bad n m N ao cap w (by omega) h h1).mono ?_
    rintro e w1 ⟨rfl, hb⟩
    exact ⟨_, rfl, ⟨_, _, rfl, fun j hj => absurd hj (by simp), by simp, fun p hp => nomatch hp⟩, hb⟩
theorem rcount_tot (n : Int) (m N : Nat) (ao : Option Addr) (cap : Nat) (w : World) (hm : m ≤ 1048576) (h : Ro w ao m N) :
    Calls Try.prog 51 #[rv n ao m cap] w fun e w' => e = .returned (.tuple #[.int .i64 (countS n m N).1, .int .i64 (countS n m N).2]) ∧ Below w.heap.size w w' := by
  unfold countS
  by_cases h1 : chk n m N = 0
  · obtain ⟨k, rfl, h2, rfl, h3⟩ := chk_zero h1
    rw [if_pos h1, Int.toNat_natCast]
    exact rcount_any k N ao cap w h2 h3 h
  · rw [if_neg h1]
    exact rcount_bad n m N ao cap w (by omega) h h1
theorem rtail_tot (n : Int) (h2 : n ≤ 9223372036854775807) (w : World) :
    Calls Try.prog 47 #[.int .i64 n] w fun e w' => e = .returned (.int .u64 (tailS n)) ∧ w' = w := by
  unfold tailS
  by_cases h1 : n ≤ 0
  · rw [if_pos h1]
    exact rtail_none n h1 w
  · rw [if_neg h1]
    obtain ⟨k, rfl⟩ := Int.eq_ofNat_of_zero_le (show 0 ≤ n by omega)
    exact rtail_pos k (by omega) (by omega) w
end Go.Proofs.Yteghelmbibpohaa
