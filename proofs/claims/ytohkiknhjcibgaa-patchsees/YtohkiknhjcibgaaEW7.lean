/- PACKAGE patch: places. -/
import Derived.Test.YtohkiknhjcibgaaKW6
namespace Go.Proofs.Ytohkiknhjcibgaa
open Go.RowKit Go.Shelf
attribute [local go_sem] Oper.semAt_some

set_option maxRecDepth 100000 in
theorem pplaces_any (h v c : Int) (w : World) :
    Calls Try.prog 16 #[Sg.shp h v c] w fun e w' => e = .returned (.func (.func 35) #[] #[.pointer (some ⟨w.heap.size, 0, none⟩)]) ∧ w' = w.alloc (.cells #[.int .i64 h, .int .i64 v, .int .i64 c] 29) := by
  go_enter Try.func16, Try.ntmps16
  go_wp2
  go_ret
  exact ⟨rfl, rfl⟩
theorem upt_none (P k : Nat) (hk : k ≤ P) (e : k = 0) : upt P k hk = [] := by subst e; rfl
/-- What a place is handed on as. -/
abbrev encQ (P B : Nat) : Fin P → Array Value := fun x => #[.int .i64 (x.1 / B : Nat), .int .i64 (x.1 % B : Nat)]
set_option maxRecDepth 100000 in
set_option maxHeartbeats 2000000 in
theorem pplaces1_in (n l Bc A B c : Nat) (hn : 1 ≤ n) (hA : A ≤ 4096) (hB : B ≤ 4096) (hB0 : 0 < B) (J Jx : List (Fin (A * B)) → World → Prop)
    (hY : ∀ pre x W, J pre W → pre.length < A * B → YieldAt Fence.wide (n - 1) Try.prog l (encQ (A * B) B x) W fun e W' =>
      (e = .returned (.bool true) ∧ J (pre ++ [x]) W' ∧ W'.heap[Bc]? = W.heap[Bc]?) ∨ (e = .returned (.bool false) ∧ Jx (pre ++ [x]) W'))
    (W : World) (r : W.rowIs Bc 29 3 (hf A B c)) (h0 : J [] W) :
    CallsIn Fence.wide n Try.prog 35 #[.func (.yield l) #[] #[], .pointer (some ⟨Bc, 0, none⟩)] W fun e W' => (∃ v, e = .returned v) ∧
      ((∃ ys, ys = upt (A * B) (A * B) (Nat.le_refl _) ∧ J ys W') ∨ (∃ pre, (∃ k hk, pre = upt (A * B) k hk) ∧ Jx pre W')) := by
  have HK : ∀ a x, a < A → x < B → a * B + x < A * B := fun a x ha hx => by
    have := Nat.mul_le_mul_right B (show a + 1 ≤ A from ha)
    rw [Nat.succ_mul] at this
    omega
  have HA : ∀ a, a ≤ A → a * B ≤ A * B := fun a ha => Nat.mul_le_mul_right B ha
  obtain ⟨P, hPP⟩ : ∃ P, A * B = P := ⟨_, rfl⟩
  have HPP := hid1 hPP
  revert J Jx
  rw [hPP] at HK HA ⊢
  intro J Jx hY h0
  have HKK := hid1 HK
  have HAA := hid1 HA
  clear hPP HK HA
  have c0 := hf0 r
  refine callsIn_of_wp Try.func35 rfl trivial ?_ rfl
  simp only [Try.ntmps35, List.size_toArray, List.length_cons, List.length_nil, Nat.reduceAdd, Nat.reduceSub, Array.replicate_succ, Array.replicate_zero, List.push_toArray, List.append_toArray, List.nil_append, List.cons_append]
  gi_wp2
  gi_loopw [7] (fun i wr => ∃ (a : Nat) (ha : a ≤ A), i = .int .i64 a ∧ J (upt P (a * B) (HAA.out a ha)) wr ∧ wr.rowIs Bc 29 3 (hf A B c))
    (fun i _ => A - (intOf i).toNat)
  case atStart => exact ⟨0, Nat.zero_le _, rfl, by rw [upt_none P (0 * B) _ (Nat.zero_mul B)]; exact h0, r⟩
  case round =>
    clear c0 r h0
    obtain ⟨a, ha, rfl, hJs, r⟩ := hrel
    by_cases hlt : a < A
    · have c1 := hf1 r
      have ia : (a : Int) < (A : Int) := by omega
      gi_wp2
      gi_loopw [12] (fun i wr => ∃ (x : Nat) (hx : x ≤ B) (hk : a * B + x ≤ P), i = .int .i64 x ∧ J (upt P (a * B + x) hk) wr ∧ wr.rowIs Bc 29 3 (hf A B c))
        (fun i _ => B - (intOf i).toNat)
      case atStart => exact ⟨0, Nat.zero_le _, HAA.out a ha, rfl, hJs, r⟩
      case round =>
        clear c1 r hJs
        obtain ⟨x, hx, hk, rfl, hJs, r⟩ := hrel
        by_cases hlx : x < B
        · have ix : (x : Int) < (B : Int) := by omega
          have hkk := HKK.out a x hlt hlx
          have q1 : (a * B + x) / B = a := by rw [Nat.mul_comm, Nat.mul_add_div hB0, Nat.div_eq_of_lt hlx]; omega
          have q2 : (a * B + x) % B = x := by rw [Nat.mul_comm, Nat.mul_add_mod, Nat.mod_eq_of_lt hlx]
          obtain ⟨fn, tmps, assign, body, hy, hR⟩ := hY _ ⟨a * B + x, hkk⟩ wr hJs (by rw [upt_len]; exact hkk)
          dsimp only [encQ] at hy
          rw [q1, q2] at hy
          gi_wp2
          refine hR.mono ?_
          rintro e W3 (⟨rfl, hJ3, hk3⟩ | ⟨rfl, hJx3⟩)
          · gi_wp2
            go_roundw
            case rel => exact ⟨x + 1, by omega, hkk, by go_num, by rw [show upt P (a * B + (x + 1)) hkk = upt P (a * B + x) (Nat.le_of_lt hkk) ++ [⟨a * B + x, hkk⟩] from upt_succ P (a * B + x) hkk]; exact hJ3, r.of_block hk3⟩
            case measure => simp [intOf]; omega
          · gi_wp2
            refine bodyPost_ret (results_none rfl _ _ _) rfl ?_
            exact ⟨⟨_, rfl⟩, .inr ⟨_, ⟨a * B + x + 1, hkk, (upt_succ _ _ _).symm⟩, hJx3⟩⟩
        · obtain rfl : x = B := by omega
          gi_wp2
          go_roundw
          case rel => exact ⟨a + 1, by omega, by go_num, by simp only [Nat.succ_mul]; exact hJs, r⟩
          case measure => simp [intOf]; omega
    · obtain rfl : a = A := by omega
      gi_wp2
      go_end0
      refine ⟨⟨_, rfl⟩, .inl ⟨_, rfl, ?_⟩⟩
      have e := HPP.out
      subst e
      exact hJs
theorem pplaces_stops (n Bc A B c : Nat) (hn : 1 ≤ n) (hA : A ≤ 4096) (hB : B ≤ 4096) (hB0 : 0 < B) (w : World)
    (r : w.rowIs Bc 29 3 (hf A B c)) :
    SeqStopsK Fence.wide n Try.prog 35 #[.pointer (some ⟨Bc, 0, none⟩)] (encQ (A * B) B) (fun W W' => W'.heap[Bc]? = W.heap[Bc]?) (fun ys => ys = upt (A * B) (A * B) (Nat.le_refl _)) (fun pre => ∃ k hk, pre = upt (A * B) k hk) (A * B) w :=
  fun l J Jx W hW _ _ hY h0 => pplaces1_in n l Bc A B c hn hA hB hB0 J Jx hY W (keepr hW r) h0
end Go.Proofs.Ytohkiknhjcibgaa
