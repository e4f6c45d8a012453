/- PACKAGE gemm: within, firstLen, oddOne, fault. -/
import Derived.Test.YtakoicolffkbmaaGW1
namespace Go.Proofs.Ytakoicolffkbmaa
open Go.RowKit

theorem within_any (n : Int) (w : World) : Calls Try.prog 32 #[.int .i64 n] w fun e w' => e = .returned (.bool (decide (1 ≤ n ∧ n ≤ 4096))) ∧ w' = w := by
  by_cases h1 : 1 ≤ n
  · by_cases h2 : n ≤ 4096
    · rw [decide_eq_true ⟨h1, h2⟩]
      go_enter Try.func32, Try.ntmps32
      go_wp2
      go_ret
      exact ⟨rfl, rfl⟩
    · rw [decide_eq_false (fun h => h2 h.2)]
      go_enter Try.func32, Try.ntmps32
      go_wp2
      go_ret
      exact ⟨rfl, rfl⟩
  · rw [decide_eq_false (fun h => h1 h.1)]
    go_enter Try.func32, Try.ntmps32
    go_wp2
    go_ret
    exact ⟨rfl, rfl⟩

/-- The cells of a row in a list of rows. -/
def Cq (w : World) (g o : Nat) (A B : Bt) : Prop := w.cell? ⟨g, o, none⟩ = some (.int .i64 A.n) ∧ w.cell? ⟨g, o + 1, none⟩ = some (.slice A.ao A.m A.cap) ∧ w.cell? ⟨g, o + 2, none⟩ = some (.int .i64 B.n) ∧ w.cell? ⟨g, o + 3, none⟩ = some (.slice B.ao B.m B.cap)
theorem Cq.below {W X : World} {g o : Nat} {A B : Bt} (h : Cq W g o A B) (hb : Below W.heap.size W X) : Cq X g o A B := ⟨keepc hb h.1, keepc hb h.2.1, keepc hb h.2.2.1, keepc hb h.2.2.2⟩
/-- A list of rows. -/
def Lq (w : World) (ao : Option Addr) (l : List (Bt × Bt)) : Prop := ∀ i (h : i < l.length), (∃ g o, ao = some ⟨g, o, none⟩ ∧ Cq w g (o + i * 4) l[i].1 l[i].2) ∧ Rw w l[i].1 ∧ Rw w l[i].2
theorem Lq.below {w w' : World} {ao : Option Addr} {l : List (Bt × Bt)} (h : Lq w ao l) (hb : Below w.heap.size w w') : Lq w' ao l := fun i hi => by
  obtain ⟨⟨g, o, e, c⟩, r1, r2⟩ := h i hi
  exact ⟨⟨g, o, e, c.below hb⟩, r1.below hb, r2.below hb⟩
/-- The first Len. -/
def fiL (l m : List (Bt × Bt)) : Int := match l, m with
  | a :: _, _ => a.2.n
  | [], b :: _ => b.2.n
  | [], [] => 0
theorem firstLen_any (l m : List (Bt × Bt)) (a b : Option Addr) (ca cb : Nat) (w : World) (h1 : Lq w a l) (h2 : Lq w b m) :
    Calls Try.prog 42 #[.slice a l.length ca, .slice b m.length cb] w fun e w' => e = .returned (.int .i64 (fiL l m)) ∧ w' = w := by
  cases l with
  | cons x l =>
    obtain ⟨⟨g, o, rfl, hc⟩, hz⟩ := h1 0 (by simp)
    have c2 := hc.2.2.1
    clear hc hz h1 h2
    simp only [List.getElem_cons_zero, Nat.zero_mul, Nat.add_zero] at c2
    simp only [fiL, List.length_cons]
    generalize l.length = n at *
    generalize m.length = k at *
    generalize x.2.n = q at *
    go_enter Try.func42, Try.ntmps42
    go_wp2
    go_ret
    exact ⟨rfl, rfl⟩
  | nil =>
    cases m with
    | cons x l =>
      obtain ⟨⟨g, o, rfl, hc⟩, hz⟩ := h2 0 (by simp)
      have c2 := hc.2.2.1
      clear hc hz h1 h2
      simp only [List.getElem_cons_zero, Nat.zero_mul, Nat.add_zero] at c2
      simp only [fiL, List.length_cons, List.length_nil]
      generalize l.length = n at *
      generalize x.2.n = q at *
      go_enter Try.func42, Try.ntmps42
      go_wp2
      go_ret
      exact ⟨rfl, rfl⟩
    | nil =>
      simp only [fiL, List.length_nil]
      go_enter Try.func42, Try.ntmps42
      go_wp2
      go_ret
      exact ⟨rfl, rfl⟩

/-- The first that may not be. -/
def od (n : Int) : List (Bt × Bt) → Int
  | [] => 0
  | x :: r => if dck x.1 x.2 = 0 then (if x.2.n = n then od n r else 20) else dck x.1 x.2
theorem od_step {n : Int} {l : List (Bt × Bt)} {i : Nat} (h : i < l.length) : od n (l.drop i) = if dck l[i].1 l[i].2 = 0 then (if l[i].2.n = n then od n (l.drop (i + 1)) else 20) else dck l[i].1 l[i].2 := by
  rw [List.drop_eq_getElem_cons h]; rfl
theorem od_zero {n : Int} : ∀ {l : List (Bt × Bt)}, od n l = 0 → ∀ x, x ∈ l → dck x.1 x.2 = 0 ∧ x.2.n = n
  | [], _, x, hx => absurd hx (by simp)
  | y :: r, h, x, hx => by
    unfold od at h
    by_cases h1 : dck y.1 y.2 = 0
    · rw [if_pos h1] at h
      by_cases h2 : y.2.n = n
      · rw [if_pos h2] at h
        rcases List.mem_cons.1 hx with rfl | hx
        · exact ⟨h1, h2⟩
        · exact od_zero h x hx
      · rw [if_neg h2] at h; omega
    · rw [if_neg h1] at h; omega
theorem od_all {n : Int} : ∀ {l : List (Bt × Bt)}, (∀ x, x ∈ l → dck x.1 x.2 = 0 ∧ x.2.n = n) → od n l = 0
  | [], _ => rfl
  | y :: r, h => by
    unfold od
    rw [if_pos (h y (by simp)).1, if_pos (h y (by simp)).2]
    exact od_all fun x hx => h x (by simp [hx])
set_option maxHeartbeats 800000 in
set_option maxRecDepth 100000 in
theorem oddOne_any (l : List (Bt × Bt)) (n : Int) (a : Option Addr) (ca : Nat) (w : World) (h : Lq w a l) (hl : l.length ≤ 4611686018427387904) :
    Calls Try.prog 43 #[.slice a l.length ca, .int .i64 n] w fun e w' => e = .returned (.int .i64 (od n l)) ∧ Below w.heap.size w w' := by
  obtain ⟨N, eN⟩ : ∃ N, l.length = N := ⟨_, rfl⟩
  obtain ⟨v, ev⟩ : ∃ v, od n l = v := ⟨_, rfl⟩
  have HL := hid1 h
  rw [eN, ev]
  rw [eN] at hl
  have EN := hid1 eN
  have EV := hid1 ev
  clear h eN ev
  go_enter Try.func43, Try.ntmps43
  go_wp2_with fail
  go_loopw [10] (fun i wr => ∃ k : Nat, k ≤ N ∧ i = .int .i64 k ∧ od n (l.drop k) = v ∧ Below w.heap.size w wr) (fun i _ => N - (intOf i).toNat)
  case atStart => exact ⟨0, Nat.zero_le _, rfl, EV.out, Below.refl _ _⟩
  case round =>
    obtain ⟨k, hk, rfl, hv, B0⟩ := hrel
    have HV := hid1 hv
    clear hv EV
    by_cases hlt : k < N
    · have hkl : k < l.length := by rw [EN.out]; exact hlt
      obtain ⟨⟨g, o, rfl, hc⟩, hr1, hr2⟩ := HL.out.below B0 k hkl
      have ik : (k : Int) < (N : Int) := by omega
      have ik0 : (0 : Int) ≤ (k : Int) := by omega
      have HS := hid1 (od_step (n := n) hkl)
      rw [HV.out] at HS
      generalize l[k] = x at *
      obtain ⟨A, B⟩ := x
      dsimp only at hc hr1 hr2 HS
      obtain ⟨c0, c1, c2, c3⟩ := hc
      go_wp2_with fail
      refine gen_calls (fun W => Below wr.heap.size wr W ∧ W.rowIs wr.heap.size 28 4 (qf A B)) ⟨bl_alloc (Below.refl _ _) _, q_new wr A B _⟩ ?_
      rintro W ⟨B1, r1⟩
      refine (dcheck_any A B W (hr1.below B1) (hr2.below B1)).mono ?_
      rintro e w1 ⟨rfl, hb1⟩
      replace r1 := keepr hb1 r1
      have B2 := bl_step B0 (bl_step B1 hb1)
      clear c0 c1 c2 c3 hr1 hr2
      have c2 := q2 r1
      by_cases hd : dck A B = 0
      · rw [hd]
        have HS1 := hid1 (HS.out.trans (if_pos hd))
        clear HS hd
        by_cases hn : B.n = n
        · have HS2 := hid1 (HS1.out.trans (if_pos hn))
          rw [hn] at c2
          clear HS1 hn
          go_wp2_with fail
          exact ⟨⟨k + 1, by omega, by go_num, HS2.out.symm, B2⟩, by simp [intOf]; omega⟩
        · have HS2 := hid1 (HS1.out.trans (if_neg hn))
          have hn' : (B.n == n) = false := by simpa using hn
          clear HS1
          go_wp2_with fail
          go_ret
          exact ⟨ret_int HS2.out.symm, B2⟩
      · have HS1 := hid1 (HS.out.trans (if_neg hd))
        clear HS
        generalize dck A B = q at *
        go_wp2_with fail
        go_ret
        exact ⟨ret_int HS1.out.symm, B2⟩
    · have hkN : k = N := by omega
      subst hkN
      have e0 : l.drop k = [] := by rw [← EN.out]; exact List.drop_length
      have HQ : Hid (0 = v) := by have := HV.out; rw [e0] at this; exact this
      clear e0 HV
      go_wp2_with fail
      go_ret
      exact ⟨ret_int HQ.out, B0⟩

/-- What is told of rows and columns. -/
def gE (l m : List (Bt × Bt)) : Int := if 16777216 < l.length * m.length then 31 else if od (fiL l m) l = 0 then od (fiL l m) m else od (fiL l m) l
theorem big_iff {a b : Nat} (hb : 0 < b) : 16777216 < a * b ↔ 16777216 / b < a := by
  rw [Nat.div_lt_iff_lt_mul hb]
set_option maxHeartbeats 800000 in
set_option maxRecDepth 100000 in
theorem gfault_any (l m : List (Bt × Bt)) (a b : Option Addr) (ca cb : Nat) (w : World) (h1 : Lq w a l) (h2 : Lq w b m) (hl : l.length ≤ 4611686018427387904) (hm : m.length ≤ 4611686018427387904) :
    Calls Try.prog 28 #[.slice a l.length ca, .slice b m.length cb] w fun e w' => e = .returned (.int .i64 (gE l m)) ∧ Below w.heap.size w w' := by
  have H1 := hid1 h1
  have H2 := hid1 h2
  have C1 := hid1 (firstLen_any l m a b ca cb w h1 h2)
  have C2 : Hid (∀ n (W : World), Below w.heap.size w W → Calls Try.prog 43 #[.slice a l.length ca, .int .i64 n] W fun e w' => e = .returned (.int .i64 (od n l)) ∧ Below W.heap.size W w') := fun n W hW => oddOne_any l n a ca W (H1.out.below hW) hl
  have C3 : Hid (∀ n (W : World), Below w.heap.size w W → Calls Try.prog 43 #[.slice b m.length cb, .int .i64 n] W fun e w' => e = .returned (.int .i64 (od n m)) ∧ Below W.heap.size W w') := fun n W hW => oddOne_any m n b cb W (H2.out.below hW) hm
  have HG : Hid (gE l m = if 16777216 < l.length * m.length then 31 else if od (fiL l m) l = 0 then od (fiL l m) m else od (fiL l m) l) := rfl
  generalize gE l m = v at *
  clear h1 h2 H1 H2
  generalize fiL l m = f at *
  have E2 := hid1 (C2.out f)
  have E3 := hid1 (C3.out f)
  clear C2 C3
  generalize od f l = q at *
  generalize od f m = r at *
  generalize l.length = N at *
  generalize m.length = M at *
  by_cases hM : M = 0
  · subst hM
    have HG1 : Hid (v = if q = 0 then r else q) := by rw [HG.out, if_neg (by omega)]; exact hid1 rfl
    clear HG
    go_enter Try.func28, Try.ntmps28
    go_wp2_with fail
    refine C1.out.mono ?_
    rintro e w1 ⟨rfl, rfl⟩
    go_wp2_with fail
    refine (E2.out w1 (Below.refl _ _)).mono ?_
    rintro e w2 ⟨rfl, hb2⟩
    by_cases hq : q = 0
    · have HG2 := hid1 (HG1.out.trans (if_pos hq))
      subst hq
      go_wp2_with fail
      refine (E3.out w2 hb2).mono ?_
      rintro e w3 ⟨rfl, hb3⟩
      go_wp2_with fail
      go_ret
      exact ⟨ret_int HG2.out.symm, bl_step hb2 hb3⟩
    · have HG2 := hid1 (HG1.out.trans (if_neg hq))
      go_wp2_with fail
      go_ret
      exact ⟨ret_int HG2.out.symm, hb2⟩
  · have hM0 : 0 < M := by omega
    have hMi : (0 : Int) < (M : Int) := by omega
    have hMz : ((M : Int) == 0) = false := by simp; omega
    obtain ⟨Q, hQ⟩ : ∃ Q, 16777216 / M = Q := ⟨_, rfl⟩
    have hQb : Q ≤ 16777216 := by rw [← hQ]; exact Nat.div_le_self _ _
    have hquo : (16777216 : Int).tdiv (M : Int) = (Q : Int) := by
      rw [Int.tdiv_eq_ediv_of_nonneg (by omega), ← hQ]; rfl
    by_cases hbig : Q < N
    · have HG1 : Hid (v = 31) := by rw [HG.out, if_pos ((big_iff hM0).2 (hQ ▸ hbig))]; exact hid1 rfl
      clear HG hQ
      have hbi : (Q : Int) < (N : Int) := by omega
      go_enter Try.func28, Try.ntmps28
      go_wp2_with fail
      go_ret
      exact ⟨ret_int HG1.out.symm, Below.refl _ _⟩
    · have HG1 : Hid (v = if q = 0 then r else q) := by rw [HG.out, if_neg (fun h => hbig (hQ ▸ (big_iff hM0).1 h))]; exact hid1 rfl
      clear HG hQ
      have hbi : decide ((Q : Int) < (N : Int)) = false := by simp; omega
      go_enter Try.func28, Try.ntmps28
      go_wp2_with fail
      refine C1.out.mono ?_
      rintro e w1 ⟨rfl, rfl⟩
      go_wp2_with fail
      refine (E2.out w1 (Below.refl _ _)).mono ?_
      rintro e w2 ⟨rfl, hb2⟩
      by_cases hq : q = 0
      · have HG2 := hid1 (HG1.out.trans (if_pos hq))
        subst hq
        go_wp2_with fail
        refine (E3.out w2 hb2).mono ?_
        rintro e w3 ⟨rfl, hb3⟩
        go_wp2_with fail
        go_ret
        exact ⟨ret_int HG2.out.symm, bl_step hb2 hb3⟩
      · have HG2 := hid1 (HG1.out.trans (if_neg hq))
        go_wp2_with fail
        go_ret
        exact ⟨ret_int HG2.out.symm, hb2⟩
end Go.Proofs.Ytakoicolffkbmaa
