/- The document's cache: own, find, first. -/
import Derived.Test.YtpjcpikafpnmpaaAC1
namespace Go.Proofs.Ytpjcpikafpnmpaa
open Go.RowKit

set_option maxHeartbeats 800000 in
set_option maxRecDepth 100000 in
theorem rown_any (ao : Option Addr) (cap : Nat) (l : List Int) (a : Int) (w : World) (hc : ao = none → cap = 0) (hr : Nm w ao l) (hM : l.length * 8 ≤ 140737488355328) :
    Calls Try.prog 55 #[rsv (.slice ao l.length cap) a] w fun e w' => ∃ v, e = .returned (rsv v a) ∧ Ow w' w.heap.size v l ∧ Below w.heap.size w w' := by
  have HR := hid1 hr
  have HM := hid1 hM
  have HC := hid1 hc
  clear hr hM hc
  obtain ⟨n, hn⟩ : ∃ n, l.length = n := ⟨_, rfl⟩
  have HN := hid1 hn
  rw [hn]
  clear hn
  go_enter Try.func55, Try.ntmps55
  go_upto_region 1 with fail
  refine gen_world (fun X => X.rowIs w.heap.size 31 2 (rf (.slice ao n cap) a) ∧ X.rowIs (w.heap.size + 1) 31 2 (rf (.slice none 0 0) 0) ∧ Below w.heap.size w X) ⟨(rf_new w _ a).alloc _, by have := rf_new (w.alloc (.cells #[.slice ao n cap, .int .i64 a] 31)) (.slice none 0 0) 0; rwa [World.size_alloc] at this, bl_alloc (bl_alloc (Below.refl _ _) _) _⟩ ?_
  rintro X ⟨b0, b1, BX⟩
  have c0 := b0.cell (i := 0) (by omega)
  have c1 := b0.cell (i := 1) (by omega)
  have HB0 := hid1 b0
  have HB1 := hid1 b1
  have RX := hid1 (HR.out.below BX)
  have HBX := hid1 BX
  dsimp only [rf] at c0 c1
  clear b0 b1 BX
  go_wp2_with (at_builtin; refine app_nilI rfl _ _ rfl (by go_simp) ao cap l (by rw [HN.out]; go_simp) HC.out RX.out HM.out ?_; rw [HN.out]; intro v' X2 ow2 B2; obtain ⟨bo, K, ev, -, -, hob⟩ := Ow.nm (l := l) (by unfold Ow; rw [HN.out]; exact ow2); rw [HN.out] at ev; subst ev; have HOW := hid1 ow2; have HOB := hid1 hob; clear ow2 hob; have d0 := keepc B2 c0; have d1 := keepc B2 c1; have hx2 := keepr B2 HB1.out; have g0 := (keepr B2 HB0.out).frozen 0; have e0 := hx2.cell (i := 0) (by omega); have e1 := hx2.cell (i := 1) (by omega); have k0 := hx2.frozen 0; have k1 := hx2.frozen 1; have z2 := hx2.lt; have z1 := (keepr B2 HB0.out).lt; dsimp only [rf] at e0 e1)
  have o1 := HOW.out
  rw [← HN.out] at o1
  have hX := HBX.out.size
  have o2 : Ow X2 w.heap.size (.slice bo l.length K) l := (show Ow X2 X.heap.size (.slice bo l.length K) l from o1).base hX
  have z3 : w.heap.size + 1 < X.heap.size := HB1.out.lt
  have hne : ∀ b, (Value.slice bo l.length K).ownBlock = some b → b ≠ w.heap.size ∧ b ≠ w.heap.size + 1 := fun b hb => by
    have := (show Ow X2 X.heap.size (.slice bo l.length K) l from o1).lt b hb
    omega
  refine bodyPost_ret (v := rsv (.slice bo n K) a) (by simp [results, Try.results55, go_sem, e0, e1]) rfl ⟨_, rfl, ?_, ?_⟩
  · rw [HN.out] at o2 hne
    refine o2.block fun b hb => ?_
    have h1 := hne b hb
    rw [Below.heap_setCell _ _ _ _ (show b ≠ w.heap.size + 1 from h1.2), Below.heap_setCell _ _ _ _ (show b ≠ w.heap.size + 1 from h1.2), Below.heap_setCell _ _ _ _ (show b ≠ w.heap.size from h1.1)]
  · exact bl_set (bl_set (bl_set (bl_step HBX.out B2) (Nat.le_refl _) _) (Nat.le_succ _) _) (Nat.le_succ _) _
set_option maxHeartbeats 1600000 in
set_option maxRecDepth 100000 in
theorem find_miss (w : World) (T : Nat → Prop) (d : Nat) (rm h m : Int) (v : Value) (R : List Re) (r : Rv w T d rm h m v R) (hlen : R.length ≤ 4097) (ao : Option Addr) (cap : Nat) (s : ByteArray) (hs : Bs w ao s) (hn : ∀ x ∈ R, x.k ≠ s) :
    Calls Try.prog 53 #[.pointer (some ⟨d, 0, none⟩), .slice ao s.size cap] w fun e w' => e = .returned (.int .i64 (-1)) ∧ Qt w w' := by
  obtain ⟨n, en⟩ : ∃ n, R.length = n := ⟨_, rfl⟩
  obtain ⟨vo, vc, rfl, -, -, hat⟩ := r.el.sl_at
  have b1 := r.box.cell (i := 1) (by omega)
  have HA : Hid (∀ i, i < n → ∃ g x, vo = some ⟨g, 0, none⟩ ∧ w.cell? ⟨g, i * 3, none⟩ = some (.string x) ∧ x ≠ s) := fun i hi => by
    obtain ⟨x, hx⟩ : ∃ x, R[i]? = some x := ⟨_, List.getElem?_eq_getElem (by omega)⟩
    obtain ⟨g, bo, bn, bc, e, _, _, c, _⟩ := hat i x hx
    exact ⟨g, x.k, e, c, hn x (List.mem_of_getElem? hx)⟩
  have HS := hid1 hs
  rw [en] at hlen b1
  dsimp only [rcf] at b1
  clear r hat hn hs en
  go_enter Try.func53, Try.ntmps53
  go_wp2_with fail
  go_loopw [5] (fun vi wr => ∃ i : Nat, i ≤ n ∧ vi = .int .i64 i ∧ Qt w wr) (fun vi _ => n - (intOf vi).toNat)
  case atStart => exact ⟨0, Nat.zero_le _, rfl, Qt.refl _⟩
  case round =>
    obtain ⟨i, hi, rfl, qt⟩ := hrel
    have d1 := qt.cell b1
    by_cases hin : i < n
    · have ii : (i : Int) < (n : Int) := by omega
      have ii0 : (0 : Int) ≤ (i : Int) := by omega
      obtain ⟨g, x, rfl, c0, hx⟩ := HA.out i hin
      replace c0 := qt.cell c0
      have cv := conv_qt (cap := cap) (HS.out.qt qt)
      have hbe : (x.toList == s.toList) = false := by rw [str_eqb]; exact decide_eq_false hx
      go_wp2_with fail
      go_quiet (fail)
      go_wp2_with fail
      exact ⟨⟨i + 1, by omega, by go_num, qt.drewN _⟩, by simp [intOf]; omega⟩
    · obtain rfl : i = n := by omega
      go_wp2_with fail
      go_ret
      exact ⟨rfl, qt⟩
set_option maxHeartbeats 1600000 in
set_option maxRecDepth 100000 in
theorem find_hit (w : World) (T : Nat → Prop) (d : Nat) (rm h m : Int) (v : Value) (A C : List Re) (x : Re) (r : Rv w T d rm h m v (A ++ x :: C)) (hlen : (A ++ x :: C).length ≤ 4097) (ao : Option Addr) (cap : Nat) (hs : Bs w ao x.k) (hn : ∀ y ∈ A, y.k ≠ x.k) :
    Calls Try.prog 53 #[.pointer (some ⟨d, 0, none⟩), .slice ao x.k.size cap] w fun e w' => e = .returned (.int .i64 A.length) ∧ Qt w w' := by
  obtain ⟨n, en⟩ : ∃ n, (A ++ x :: C).length = n := ⟨_, rfl⟩
  obtain ⟨q, eq⟩ : ∃ q, A.length = q := ⟨_, rfl⟩
  have hqn : q < n := by rw [List.length_append, List.length_cons] at en; omega
  obtain ⟨vo, vc, rfl, -, -, hat⟩ := r.el.sl_at
  have b1 := r.box.cell (i := 1) (by omega)
  have HA : Hid (∀ i, i < q → ∃ g y, vo = some ⟨g, 0, none⟩ ∧ w.cell? ⟨g, i * 3, none⟩ = some (.string y) ∧ y ≠ x.k) := fun i hi => by
    obtain ⟨y, hy⟩ : ∃ y, A[i]? = some y := ⟨_, List.getElem?_eq_getElem (by omega)⟩
    have hy' : (A ++ x :: C)[i]? = some y := by rw [List.getElem?_append_left (by omega)]; exact hy
    obtain ⟨g, bo, bn, bc, e, _, _, c, _⟩ := hat i y hy'
    exact ⟨g, y.k, e, c, hn y (List.mem_of_getElem? hy)⟩
  have HB : Hid (∃ g, vo = some ⟨g, 0, none⟩ ∧ w.cell? ⟨g, q * 3, none⟩ = some (.string x.k)) := by
    have hy' : (A ++ x :: C)[q]? = some x := by rw [List.getElem?_append_right (by omega), eq, Nat.sub_self]; rfl
    obtain ⟨g, bo, bn, bc, e, _, _, c, _⟩ := hat q x hy'
    exact ⟨g, e, c⟩
  have HS := hid1 hs
  rw [en] at hlen b1
  rw [eq]
  dsimp only [rcf] at b1
  clear r hat hn hs en eq
  go_enter Try.func53, Try.ntmps53
  go_wp2_with fail
  go_loopw [5] (fun vi wr => ∃ i : Nat, i ≤ q ∧ vi = .int .i64 i ∧ Qt w wr) (fun vi _ => n - (intOf vi).toNat)
  case atStart => exact ⟨0, Nat.zero_le _, rfl, Qt.refl _⟩
  case round =>
    obtain ⟨i, hi, rfl, qt⟩ := hrel
    have d1 := qt.cell b1
    have ii : (i : Int) < (n : Int) := by omega
    have ii0 : (0 : Int) ≤ (i : Int) := by omega
    have cv := conv_qt (cap := cap) (HS.out.qt qt)
    by_cases hin : i < q
    · obtain ⟨g, y, rfl, c0, hx⟩ := HA.out i hin
      replace c0 := qt.cell c0
      have hbe : (y.toList == x.k.toList) = false := by rw [str_eqb]; exact decide_eq_false hx
      go_wp2_with fail
      go_quiet (fail)
      go_wp2_with fail
      exact ⟨⟨i + 1, by omega, by go_num, qt.drewN _⟩, by simp [intOf]; omega⟩
    · obtain rfl : i = q := by omega
      obtain ⟨g, rfl, c0⟩ := HB.out
      replace c0 := qt.cell c0
      have hbe : (x.k.toList == x.k.toList) = true := by rw [str_eqb]; exact decide_eq_true rfl
      go_wp2_with fail
      go_quiet (fail)
      go_wp2_with fail
      go_ret
      exact ⟨rfl, qt.drewN _⟩
end Go.Proofs.Ytpjcpikafpnmpaa
