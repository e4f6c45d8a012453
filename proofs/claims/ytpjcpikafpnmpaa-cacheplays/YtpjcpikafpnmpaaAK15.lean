/- CACHE: the iterator over the row. -/
import Derived.Test.YtpjcpikafpnmpaaAK14
namespace Go.Proofs.Ytpjcpikafpnmpaa
open Go.RowKit Go.Shelf
attribute [local go_sem] Oper.semAt_some

/-- The i-th of N blocks, or nil behind them. -/
def nx (B : Nat → Nat) (N i : Nat) : Option Nat := if i < N then some (B i) else none
/-- How far it is to the end. -/
noncomputable def far1 (B : Nat → Nat) (N : Nat) (q : Value) : Nat := open Classical in if h : ∃ i, i ≤ N ∧ q = ptr (nx B N i) then N - Classical.choose h else 0
theorem nx_inj {B : Nat → Nat} {N : Nat} (hB : ∀ i j, i < N → j < N → B i = B j → i = j) {i j : Nat} (hi : i ≤ N) (hj : j ≤ N) (h : ptr (nx B N i) = ptr (nx B N j)) : i = j := by
  unfold nx at h
  by_cases h1 : i < N <;> by_cases h2 : j < N <;> simp [h1, h2] at h
  · exact hB i j h1 h2 h
  · omega
theorem far1_eq {B : Nat → Nat} {N : Nat} (hB : ∀ i j, i < N → j < N → B i = B j → i = j) {i : Nat} (hi : i ≤ N) : far1 B N (ptr (nx B N i)) = N - i := by
  have h : ∃ j, j ≤ N ∧ ptr (nx B N i) = ptr (nx B N j) := ⟨i, hi, rfl⟩
  unfold far1
  rw [dif_pos h]
  have hc := Classical.choose_spec h
  have e := nx_inj hB hi hc.1 hc.2
  omega
/-- What the iterator reads at the i-th round. -/
structure It (W : World) (rb p : Nat) (B : Nat → Nat) (N i : Nat) : Prop where
  box : W.cell? ⟨rb, 0, none⟩ = some (.pointer (some ⟨p, 4, none⟩))
  first : i = 0 → W.cell? ⟨p, 4, none⟩ = some (ptr (nx B N 0))
  next : i < N → W.cell? ⟨B i, 4, none⟩ = some (ptr (nx B N (i + 1)))
set_option maxHeartbeats 800000 in
set_option maxRecDepth 100000 in
theorem rall1_in (n l rb p N : Nat) (hn1 : 1 ≤ n) (B : Nat → Nat) (hB : ∀ i j, i < N → j < N → B i = B j → i = j) (K : Nat → World → Prop) (hK : ∀ i W, K i W → It W rb p B N i)
    (hY : ∀ i W, i < N → K i W → YieldAt Fence.wide (n - 1) Try.prog l #[.pointer (some ⟨B i, 0, none⟩)] W fun e W' => e = .returned (.bool true) ∧ K (i + 1) W') (W : World) (h0 : K 0 W) :
    CallsIn Fence.wide n Try.prog 51 #[.func (.yield l) #[] #[], .pointer (some ⟨rb, 0, none⟩)] W fun e W' => (∃ v, e = .returned v) ∧ K N W' := by
  refine callsIn_of_wp Try.func51 rfl trivial ?_ rfl
  simp only [Try.ntmps51, List.size_toArray, List.length_cons, List.length_nil, Nat.reduceAdd, Nat.reduceSub, Array.replicate_succ, Array.replicate_zero, List.push_toArray, List.append_toArray, List.nil_append, List.cons_append]
  have hbx := (hK 0 W h0).box
  have hf := (hK 0 W h0).first rfl
  gi_wp2
  gi_loopw [3] (fun q wr => ∃ i, i ≤ N ∧ q = ptr (nx B N i) ∧ K i wr) (fun q _ => far1 B N q)
  case atStart => exact ⟨0, Nat.zero_le _, rfl, h0⟩
  case round =>
    clear hbx hf h0
    obtain ⟨i, hi, rfl, hk⟩ := hrel
    by_cases hlt : i < N
    · have hn := (hK i wr hk).next hlt
      obtain ⟨fn, tmps, assign, body, hy, hR⟩ := hY i wr hlt hk
      have e1 : ptr (nx B N i) = .pointer (some ⟨B i, 0, none⟩) := by simp [nx, hlt]
      have hm1 := far1_eq hB hi
      have hm2 := far1_eq (i := i + 1) hB (by omega)
      have HM : Hid (far1 B N (ptr (nx B N (i + 1))) < far1 B N (ptr (nx B N i))) := by
        show far1 B N (ptr (nx B N (i + 1))) < far1 B N (ptr (nx B N i))
        rw [hm1, hm2]; omega
      clear hm1 hm2
      rw [e1] at HM ⊢
      gi_wp2
      refine hR.mono ?_
      rintro e W3 ⟨rfl, hk3⟩
      gi_wp2
      go_roundw
      case rel => exact ⟨i + 1, by omega, rfl, hk3⟩
      case measure => exact HM.out
    · obtain rfl : i = N := by omega
      have e1 : ptr (nx B i i) = .pointer none := by simp [nx]
      rw [e1]
      gi_wp2
      go_end0
      exact ⟨⟨_, rfl⟩, hk⟩
theorem all_any (p : Nat) (w : World) : Calls Try.prog 34 #[.pointer (some ⟨p, 4, none⟩)] w fun e w' => e = .returned (.func (.func 51) #[] #[.pointer (some ⟨w.heap.size, 0, none⟩)]) ∧ w' = w.alloc (.cells #[.pointer (some ⟨p, 4, none⟩)] 96) := by
  have hmf : ∀ (fn : Fn) (first cap : Array Value) (w : World), (Instr.makeFunc fn first cap).run Try.prog w = .ok (.func fn first cap) w := fun _ _ _ _ => rfl
  go_enter Try.func34, Try.ntmps34
  go_wp2_with fail
  go_ret
  exact ⟨rfl, rfl⟩
end Go.Proofs.Ytpjcpikafpnmpaa
