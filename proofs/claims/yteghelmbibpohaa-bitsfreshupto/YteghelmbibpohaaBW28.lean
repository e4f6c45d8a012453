/- Join: what is refused; the document's own answer. -/
import Derived.Test.YteghelmbibpohaaBW27
namespace Go.Proofs.Yteghelmbibpohaa
open Go.RowKit

/-- A list of any rows in memory, wherever it begins. -/
structure Jo (rel : World → Option Addr → Nat → Nat → Prop) (w : World) (lo : Option Addr) (J : Nat) (n : Nat → Int) (m N : Nat → Nat) (ad : Nat → Option Addr) (cp : Nat → Nat) : Prop where
  at_ : ∀ j, j < J → ∃ gl ol, lo = some ⟨gl, ol, none⟩ ∧ w.cell? ⟨gl, ol + j * 2, none⟩ = some (.int .i64 (n j)) ∧ w.cell? ⟨gl, ol + j * 2 + 1, none⟩ = some (.slice (ad j) (m j) (cp j))
  rd : ∀ j, j < J → rel w (ad j) (m j) (N j)
theorem Jo.belowR {w w' : World} {lo : Option Addr} {J : Nat} {n : Nat → Int} {m N : Nat → Nat} {ad : Nat → Option Addr} {cp : Nat → Nat} (h : Jo Ro w lo J n m N ad cp) (hb : Below w.heap.size w w') : Jo Ro w' lo J n m N ad cp :=
  ⟨fun j hj => by obtain ⟨gl, ol, e, c, d⟩ := h.at_ j hj; exact ⟨gl, ol, e, keepc hb c, keepc hb d⟩, fun j hj => (h.rd j hj).below hb⟩
theorem Jo.belowD {w w' : World} {lo : Option Addr} {J : Nat} {n : Nat → Int} {m N : Nat → Nat} {ad : Nat → Option Addr} {cp : Nat → Nat} (h : Jo Rd w lo J n m N ad cp) (hb : Below w.heap.size w w') : Jo Rd w' lo J n m N ad cp :=
  ⟨fun j hj => by obtain ⟨gl, ol, e, c, d⟩ := h.at_ j hj; exact ⟨gl, ol, e, keepc hb c, keepc hb d⟩, fun j hj => (h.rd j hj).below hb⟩
theorem chk_zero {n : Int} {m N : Nat} (h : chk n m N = 0) : ∃ k : Nat, n = k ∧ k ≤ 16777216 ∧ m = nw k ∧ N < 2 ^ k := by
  unfold chk at h
  by_cases h1 : n < 0
  · rw [if_pos h1] at h; omega
  rw [if_neg h1] at h
  by_cases h2 : 16777216 < n
  · rw [if_pos h2] at h; omega
  rw [if_neg h2] at h
  by_cases h3 : m = nw n.toNat
  · rw [if_neg (by simp [h3])] at h
    by_cases h4 : N < 2 ^ n.toNat
    · exact ⟨n.toNat, by omega, by omega, h3, h4⟩
    · rw [if_neg h4] at h; omega
  · rw [if_pos h3] at h; omega

set_option maxHeartbeats 3200000 in
set_option maxRecDepth 100000 in
theorem rjoin_bad (J K : Nat) (n : Nat → Int) (m N : Nat → Nat) (lo : Option Addr) (cl : Nat) (ad : Nat → Option Addr) (cp : Nat → Nat) (w : World) (hJ : J ≤ 1048576) (hK : K < J) (h : Jo Ro w lo J n m N ad cp) (hm : ∀ j, j < J → m j ≤ 1048576)
    (hok : ∀ j, j < K → chk (n j) (m j) (N j) = 0) (hbad : chk (n K) (m K) (N K) ≠ 0) :
    Calls Try.prog 53 #[.slice lo J cl] w fun e w' => e = .returned (.tuple #[rv 0 none 0 0, .int .i64 (chk (n K) (m K) (N K))]) ∧ Below w.heap.size w w' := by
  have HJ := hid1 h
  have HM := hid1 hm
  have HO := hid1 hok
  clear h hm hok
  generalize hec : chk (n K) (m K) (N K) = ec at *
  have HE := hid1 hec
  clear hec
  go_enter Try.func53, Try.ntmps53
  go_wp2_with fail
  go_loopw [5] (fun i wr => ∃ k : Nat, k ≤ K ∧ i = .int .i64 k ∧ wr.rowIs w.heap.size 27 2 (sf 0 none 0 0) ∧ Below w.heap.size w wr) (fun i _ => J - (intOf i).toNat)
  case atStart => exact ⟨0, Nat.zero_le _, rfl, row_new _ _ _ _ _ _, bl_alloc (Below.refl _ _) _⟩
  case round =>
    obtain ⟨k, hk, rfl, r2, hnx⟩ := hrel
    have ik0 : (0 : Int) ≤ (k : Int) := by omega
    have ik : (k : Int) < (J : Int) := by omega
    have JS := HJ.out.belowR hnx
    obtain ⟨gl, ol, rfl, c0, c1⟩ := JS.at_ k (by omega)
    have rd := JS.rd k (by omega)
    have hmk := HM.out k (by omega)
    have HC := hid1 (rcheck_any (n k) (ad k) (m k) (cp k) (N k) wr hmk rd)
    clear JS rd
    by_cases hlt : k < K
    · rw [HO.out k hlt] at HC
      generalize n k = nk at *
      generalize m k = mk at *
      generalize ad k = adk at *
      generalize cp k = cpk at *
      go_wp2_with fail
      refine HC.out.mono ?_
      rintro e w1 ⟨rfl, hb1⟩
      replace hnx := bl_step hnx hb1
      have H2 := hid1 (keepr hb1 r2)
      clear hb1 r2 c0 c1
      go_wp2_with fail
      exact ⟨⟨k + 1, by omega, by go_num, H2.out, hnx⟩, by simp [intOf]; omega⟩
    · have hkK : k = K := by omega
      subst hkK
      rw [HE.out] at HC
      have hec : ¬ ec = 0 := hbad
      generalize n k = nk at *
      generalize m k = mk at *
      generalize ad k = adk at *
      generalize cp k = cpk at *
      go_wp2_with fail
      refine HC.out.mono ?_
      rintro e w1 ⟨rfl, hb1⟩
      replace hnx := bl_step hnx hb1
      replace r2 := keepr hb1 r2
      have c20 := sf_len r2
      have c21 := sf_ws r2
      have f0 := r2.frozen 0
      have f1 := r2.frozen 1
      clear hb1 c0 c1
      go_wp2_with fail
      exact bodyPost_ret (v := .tuple #[rv 0 none 0 0, .int .i64 ec]) (by simp [results, Try.results53, go_sem, c20, c21]) rfl ⟨rfl, bl_set (bl_set hnx (by omega) _) (by omega) _⟩

set_option maxHeartbeats 3200000 in
set_option maxRecDepth 100000 in
theorem join_bad (J K : Nat) (n : Nat → Int) (m N : Nat → Nat) (lo : Option Addr) (cl : Nat) (ad : Nat → Option Addr) (cp : Nat → Nat) (w : World) (hJ : J ≤ 1048576) (hK : K < J) (h : Jo Rd w lo J n m N ad cp) (hm : ∀ j, j < J → m j ≤ 1048576)
    (hok : ∀ j, j < K → chk (n j) (m j) (N j) = 0) (hbad : chk (n K) (m K) (N K) ≠ 0) :
    Calls Try.prog 13 #[.slice lo J cl] w fun e w' => e = .returned (.tuple #[rv 0 none 0 0, .int .i64 (chk (n K) (m K) (N K))]) ∧ Below w.heap.size w w' := by
  have HJ := hid1 h
  have HM := hid1 hm
  have HO := hid1 hok
  clear h hm hok
  generalize hec : chk (n K) (m K) (N K) = ec at *
  have HE := hid1 hec
  clear hec
  go_enter Try.func13, Try.ntmps13
  go_wp2_with fail
  go_loopw [4, 14] (fun s i wr => ∃ k x : Nat, k ≤ K ∧ i = .int .i64 k ∧ s = .int .i64 x ∧ x ≤ 16777216 * k ∧ wr.rowIs w.heap.size 27 2 (sf 0 none 0 0) ∧ Below w.heap.size w wr) (fun _ i _ => J - (intOf i).toNat)
  case atStart => exact ⟨0, 0, Nat.zero_le _, rfl, rfl, by omega, row_new _ _ _ _ _ _, bl_alloc (Below.refl _ _) _⟩
  case round =>
    obtain ⟨k, x, hk, rfl, rfl, hx, r2, hnx⟩ := hrel
    have ik0 : (0 : Int) ≤ (k : Int) := by omega
    have ik : (k : Int) < (J : Int) := by omega
    have ix0 : (0 : Int) ≤ (x : Int) := by omega
    have ix1 : (x : Int) ≤ 17592186044416 := by omega
    have JS := HJ.out.belowD hnx
    obtain ⟨gl, ol, rfl, c0, c1⟩ := JS.at_ k (by omega)
    have rd := JS.rd k (by omega)
    have hmk := HM.out k (by omega)
    have l2 := r2.lt
    have lg := lt_of_cell c0
    have HC := hid1 (fun W (x : Rd W (ad k) (m k) (N k)) => check_any (n k) (ad k) (m k) (cp k) (N k) W (by omega) x)
    have RD := hid1 rd
    clear JS rd
    by_cases hlt : k < K
    · obtain ⟨nn, e1, e2, e3, e4⟩ := chk_zero (HO.out k hlt)
      clear e3 e4
      rw [HO.out k hlt] at HC
      rw [e1] at HC c0
      clear e1
      generalize m k = mk at *
      generalize ad k = adk at *
      generalize cp k = cpk at *
      generalize N k = Nk at *
      have in0 : (0 : Int) ≤ (nn : Int) := by omega
      have in1 : (nn : Int) ≤ 16777216 := by omega
      go_wp2_with fail
      refine gen_calls (fun W => Below w.heap.size w W ∧ W.rowIs w.heap.size 27 2 (sf 0 none 0 0) ∧ W.rowIs wr.heap.size 27 2 (sf nn adk mk cpk) ∧ Rd W adk mk Nk)
        ⟨bl_alloc hnx _, r2.alloc _, row_new _ _ _ _ _ _, RD.out.below (bl_alloc (Below.refl _ _) _)⟩ ?_
      clear hnx r2 c0 c1 l2 RD lg
      rintro W ⟨hnx, r2, r6, rd⟩
      refine (HC.out W rd).mono ?_
      rintro e w1 ⟨rfl, hb1⟩
      replace hnx := bl_step hnx hb1
      replace r2 := keepr hb1 r2
      replace r6 := keepr hb1 r6
      have c60 := sf_len r6
      have H2 := hid1 r2
      clear hb1 r2 r6 rd
      go_wp2_with fail
      exact ⟨⟨k + 1, x + nn, by omega, by go_num, by go_num, by omega, H2.out, hnx⟩, by simp [intOf]; omega⟩
    · have hkK : k = K := by omega
      subst hkK
      rw [HE.out] at HC
      have hec : ¬ ec = 0 := hbad
      generalize n k = nk at *
      generalize m k = mk at *
      generalize ad k = adk at *
      generalize cp k = cpk at *
      generalize N k = Nk at *
      go_wp2_with fail
      refine gen_calls (fun W => Below w.heap.size w W ∧ W.rowIs w.heap.size 27 2 (sf 0 none 0 0) ∧ Rd W adk mk Nk)
        ⟨bl_alloc hnx _, r2.alloc _, RD.out.below (bl_alloc (Below.refl _ _) _)⟩ ?_
      clear hnx r2 c0 c1 l2 RD lg
      rintro W ⟨hnx, r2, rd⟩
      refine (HC.out W rd).mono ?_
      rintro e w1 ⟨rfl, hb1⟩
      replace hnx := bl_step hnx hb1
      replace r2 := keepr hb1 r2
      have c20 := sf_len r2
      have c21 := sf_ws r2
      have f0 := r2.frozen 0
      have f1 := r2.frozen 1
      clear hb1 rd
      go_wp2_with fail
      exact bodyPost_ret (v := .tuple #[rv 0 none 0 0, .int .i64 ec]) (by simp [results, Try.results13, go_sem, c20, c21]) rfl ⟨rfl, bl_set (bl_set hnx (by omega) _) (by omega) _⟩
end Go.Proofs.Yteghelmbibpohaa
