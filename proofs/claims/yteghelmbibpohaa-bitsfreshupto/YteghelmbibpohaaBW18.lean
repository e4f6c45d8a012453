/- What is refused; a full row grown. -/
import Derived.Test.YteghelmbibpohaaBW17
import Derived.Deep.DeepAppendWide
namespace Go.Proofs.Yteghelmbibpohaa
open Go.RowKit

set_option maxRecDepth 100000 in
theorem check_big (n : Int) (ao : Option Addr) (m cap : Nat) (w : World) (h : 16777216 < n) :
    Calls Try.prog 14 #[rv n ao m cap] w fun e w' => e = .returned (.int .i64 2) ∧ Below w.heap.size w w' := by
  have h1 : ¬ n < 0 := by omega
  go_enter Try.func14, Try.ntmps14
  go_wp2
  go_ret
  exact ⟨rfl, bl_alloc (Below.refl _ _) _⟩
set_option maxHeartbeats 1600000 in
set_option maxRecDepth 100000 in
theorem slice_arg (n N : Nat) (a b : Int) (ao : Option Addr) (cap : Nat) (w : World) (h1 : n ≤ 16777216) (hN : N < 2 ^ n) (h : Rd w ao (nw n) N) (hab : a < 0 ∨ b < a ∨ (n : Int) < b) :
    Calls Try.prog 12 #[rv n ao (nw n) cap, .int .i64 a, .int .i64 b] w fun e w' => e = .returned (.tuple #[rv 0 none 0 0, .int .i64 1]) ∧ Below w.heap.size w w' := by
  have HR := hid1 h
  have hb := nw_bd h1
  have HC := hid1 (chk_ok h1 hN)
  have HAB := hid1 hab
  clear h hN hab
  go_enter Try.func12, Try.ntmps12
  go_wp2_with fail
  refine gen_calls (fun W => W.heap.size = w.heap.size + 2 ∧ Below w.heap.size w W ∧ W.rowIs w.heap.size 27 2 (sf n ao (nw n) cap) ∧ W.rowIs (w.heap.size + 1) 27 2 (sf 0 none 0 0))
    ⟨by simp, bl_alloc (bl_alloc (Below.refl _ _) _) _, (row_new _ _ _ _ _ _).alloc _, by have := row_new (w.alloc (.cells #[.int .i64 n, .slice ao (nw n) cap] 27)) 0 none 0 0 27; simpa using this⟩ ?_
  rintro W ⟨z0, B0, r1, r2⟩
  refine (check_any n ao (nw n) cap N W (by omega) (HR.out.below B0)).mono ?_
  rintro e w1 ⟨rfl, hb1⟩
  rw [HC.out]
  replace r1 := keepr hb1 r1
  replace r2 := keepr hb1 r2
  have B1 := bl_step B0 hb1
  clear hb1 B0
  have c0 := sf_len r1
  have c20 := sf_len r2
  have c21 := sf_ws r2
  have f0 := r2.frozen 0
  have f1 := r2.frozen 1
  by_cases ha : a < 0
  · go_wp2_with fail
    exact bodyPost_ret (v := .tuple #[rv 0 none 0 0, .int .i64 1]) (by simp [results, Try.results12, go_sem, c20, c21]) rfl ⟨rfl, bl_set (bl_set B1 (by omega) _) (by omega) _⟩
  · by_cases hba : b < a
    · go_wp2_with fail
      exact bodyPost_ret (v := .tuple #[rv 0 none 0 0, .int .i64 1]) (by simp [results, Try.results12, go_sem, c20, c21]) rfl ⟨rfl, bl_set (bl_set B1 (by omega) _) (by omega) _⟩
    · have hnb : (n : Int) < b := by rcases HAB.out with h | h | h <;> omega
      go_wp2_with fail
      exact bodyPost_ret (v := .tuple #[rv 0 none 0 0, .int .i64 1]) (by simp [results, Try.results12, go_sem, c20, c21]) rfl ⟨rfl, bl_set (bl_set B1 (by omega) _) (by omega) _⟩
set_option maxHeartbeats 3200000 in
set_option maxRecDepth 100000 in
theorem join_long (J gl cl : Nat) (n N : Nat → Nat) (ad : Nat → Option Addr) (cp : Nat → Nat) (w : World) (hJ : J ≤ 1048576) (h : Js w gl J n N ad cp) (hT : 16777216 < off n J) :
    Calls Try.prog 13 #[.slice (some ⟨gl, 0, none⟩) J cl] w fun e w' => e = .returned (.tuple #[rv 0 none 0 0, .int .i64 2]) ∧ Below w.heap.size w w' := by
  have HO := hid1 (off_le n (J := J) h.le)
  have HJ := hid1 h
  clear h
  go_enter Try.func13, Try.ntmps13
  go_wp2_with fail
  go_loopw [4, 14] (fun s i wr => ∃ k : Nat, k ≤ J ∧ i = .int .i64 k ∧ s = .int .i64 (off n k : Nat) ∧ wr.rowIs w.heap.size 27 2 (sf 0 none 0 0) ∧ Below w.heap.size w wr) (fun _ i _ => J - (intOf i).toNat)
  case atStart => exact ⟨0, Nat.zero_le _, rfl, rfl, row_new _ _ _ _ _ _, bl_alloc (Below.refl _ _) _⟩
  case round =>
    obtain ⟨k, hk, rfl, rfl, r2, hnx⟩ := hrel
    have ik0 : (0 : Int) ≤ (k : Int) := by omega
    by_cases hlt : k < J
    · have ik : (k : Int) < (J : Int) := by omega
      have JS := HJ.out.below hnx
      have c0 := JS.len k hlt
      have c1 := JS.ws k hlt
      have rd := JS.rd k hlt
      have hNk := JS.lt k hlt
      have hnk := JS.le k hlt
      have HS : Hid (off n (k + 1) = off n k + n k) := rfl
      have ho := HO.out k hk
      have l2 := r2.lt
      have RD := hid1 rd
      have CK := hid1 (chk_ok hnk hNk)
      clear JS rd
      generalize hnn : n k = nk at *
      generalize off n k = ok at *
      generalize N k = Nk at *
      generalize ad k = adk at *
      generalize cp k = cpk at *
      clear hnn hNk
      have io0 : (0 : Int) ≤ (ok : Int) := by omega
      have io1 : (ok : Int) ≤ 17592186044416 := by omega
      have in0 : (0 : Int) ≤ (nk : Int) := by omega
      have in1 : (nk : Int) ≤ 16777216 := by omega
      go_wp2_with fail
      refine gen_calls (fun W => Below w.heap.size w W ∧ W.rowIs w.heap.size 27 2 (sf 0 none 0 0) ∧ W.rowIs wr.heap.size 27 2 (sf nk adk (nw nk) cpk) ∧ Rd W adk (nw nk) Nk)
        ⟨bl_alloc hnx _, r2.alloc _, row_new _ _ _ _ _ _, RD.out.below (bl_alloc (Below.refl _ _) _)⟩ ?_
      clear hnx r2 c0 c1 l2 RD
      rintro W ⟨hnx, r2, r6, rd⟩
      have hbn := nw_bd hnk
      refine (check_any nk adk (nw nk) cpk Nk W (by omega) rd).mono ?_
      rintro e w1 ⟨rfl, hb1⟩
      rw [CK.out]
      replace hnx := bl_step hnx hb1
      replace r2 := keepr hb1 r2
      replace r6 := keepr hb1 r6
      have c60 := sf_len r6
      have H2 := hid1 r2
      clear hb1 r2 r6 rd
      go_wp2_with fail
      exact ⟨⟨k + 1, by omega, by go_num, by rw [HS.out]; go_num, H2.out, hnx⟩, by simp [intOf]; omega⟩
    · have hkN : k = J := by omega
      subst hkN
      have iT : (16777216 : Int) < (off n k : Int) := by omega
      have c20 := sf_len r2
      have c21 := sf_ws r2
      have f0 := r2.frozen 0
      have f1 := r2.frozen 1
      go_wp2_with fail
      exact bodyPost_ret (v := .tuple #[rv 0 none 0 0, .int .i64 2]) (by simp [results, Try.results13, go_sem, c20, c21]) rfl ⟨rfl, bl_set (bl_set hnx (by omega) _) (by omega) _⟩
/-- 'append' to a row that has no room left: a new one. -/
theorem app_full {ops : Array Oper} {rest : List Oper} {o : Oper} {a : Act} {Q : Exit → Act → World → Prop} {w : World} (hgd : o.guard = none) (s x : Operand)
    (ho : o.op = .call { callee := .builtin .append, args := #[s, x], argTypes := #[25, 25] }) (g m N : Nat) (hs : a.eval s = .slice (some ⟨g, 0, none⟩) m m) (hr : w.rowIs g 35 m (wf N)) (hm : m ≤ 1048576)
    (gx : Nat) (v : Value) (hx : a.eval x = .slice (some ⟨gx, 0, none⟩) 1 1) (hc : w.cell? ⟨gx, 0, none⟩ = some v)
    (h : ∀ g' c' w', Below w.heap.size w w' → wpList Try.prog ops Q rest (a.put o.dst (.slice (some ⟨g', 0, none⟩) (m + 1) c')) w') : wpList Try.prog ops Q (o :: rest) a w := by
  obtain ⟨i0, hi, hz0, hz1, hz2⟩ := info_parts info_u64
  refine wpList_plain hgd fun K hK => ?_
  have hrun := run_append_grow (P := Try.prog) w 25 o.type 35 i0 (.int .u64 0) und_u64s hi hz0 ⟨g, 0, none⟩ m m (rowL (wf N) m) (by rw [hz1]; exact rowL_len _ _)
    (fun j u hu => by
      obtain ⟨h1, rfl⟩ := rowL_get hu
      have h2 := hr.cell h1
      by_cases h3 : j = 0
      · subst h3; exact h2
      · simp [Addr.add, h3, h2])
    ⟨gx, 0, none⟩ 1 1 [v] (by rw [hz1]; rfl) (fun j u hu => by
      rcases j with _ | j
      · simp at hu; subst hu; exact hc
      · simp at hu) (by omega) (by omega) (growslice_fits_wide (by omega) (by rw [hz2]; omega))
  unfold Oper.wp
  simp [execOp, ho, resolve, invoke, builtin, hs, hx, hrun, Result.andThen]
  exact hK _ _ (h _ _ _ (bl_alloc (Below.refl _ _).drew _))
end Go.Proofs.Yteghelmbibpohaa
