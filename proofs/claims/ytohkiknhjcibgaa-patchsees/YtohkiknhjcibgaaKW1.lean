/- PACKAGE cube: wordsFor, wordsAt, places. -/
import Derived.Test.YtohkiknhjcibgaaBW6
import Derived.Test.YtohkiknhjcibgaaKM1
import Derived.Test.YtohkiknhjcibgaaSW2
import Derived.RangeFuncNested
import Derived.RangeFuncBox
import Derived.RangeFuncLeaves
import Derived.RangeFuncBound
import Derived.RangeFuncCalls
import Derived.Shelf.Abstract
import Derived.Shelf.RegionOpen
import Derived.OwnWalkIn
import Derived.TacticsInMore
import Derived.LoopNIn
import Derived.LoopIn
namespace Go.Proofs.Ytohkiknhjcibgaa
open Go.RowKit Go.Shelf
attribute [local go_sem] Oper.semAt_some

/-- A cube as a value. -/
abbrev cuv (h v c : Int) (ao : Option Addr) (m cap : Nat) : Value := .agg #[.int .i64 h, .int .i64 v, .int .i64 c, .slice ao m cap]
/-- Its four cells. -/
def cf (h v c : Int) (ao : Option Addr) (m cap : Nat) : Nat → Value := fun k => if k = 0 then .int .i64 h else if k = 1 then .int .i64 v else if k = 2 then .int .i64 c else .slice ao m cap
theorem cu_new (w : World) (h v c : Int) (ao : Option Addr) (m cap : Nat) (t : TypeId) : (w.alloc (.cells #[.int .i64 h, .int .i64 v, .int .i64 c, .slice ao m cap] t)).rowIs w.heap.size t 4 (cf h v c ao m cap) := by
  refine ⟨_, World.alloc_heap_new _ _, rfl, fun k hk => ?_⟩
  rcases k with _ | _ | _ | _ | k
  · rfl
  · rfl
  · rfl
  · rfl
  · omega
section
variable {w : World} {b t : Nat} {h v c : Int} {ao : Option Addr} {m cap : Nat}
theorem cf0 (r : w.rowIs b t 4 (cf h v c ao m cap)) : w.cell? ⟨b, 0, none⟩ = some (.int .i64 h) := r.cell (i := 0) (by omega)
theorem cf1 (r : w.rowIs b t 4 (cf h v c ao m cap)) : w.cell? ⟨b, 1, none⟩ = some (.int .i64 v) := r.cell (i := 1) (by omega)
theorem cf2 (r : w.rowIs b t 4 (cf h v c ao m cap)) : w.cell? ⟨b, 2, none⟩ = some (.int .i64 c) := r.cell (i := 2) (by omega)
theorem cf3 (r : w.rowIs b t 4 (cf h v c ao m cap)) : w.cell? ⟨b, 3, none⟩ = some (.slice ao m cap) := r.cell (i := 3) (by omega)
end
set_option maxRecDepth 100000 in
theorem kwordsFor_any (n : Nat) (h1 : n ≤ 16777216) (w : World) :
    Calls Try.prog 60 #[.int .i64 n] w fun e w' => e = .returned (.int .i64 (nw n)) ∧ w' = w := by
  have e1 : ((n : Int) + 63) / 64 = (nw n : Nat) := by unfold nw; omega
  have hb := nw_bd h1
  go_enter Try.func60, Try.ntmps60
  go_wp2
  go_ret
  refine ⟨ret_int ?_, rfl⟩
  rw [e1]
set_option maxHeartbeats 800000 in
set_option maxRecDepth 100000 in
theorem wordsAt_any (h v : Int) (c g o m cap i : Nat) (w : World) (hc0 : 0 < c) (hc : c ≤ 4096) (hm : m ≤ cap) (hcap : cap ≤ 9223372036854775807) (hi : (i + 1) * nw c ≤ m) (him : i ≤ 16777216) :
    Calls Try.prog 57 #[cuv h v c (some ⟨g, o, none⟩) m cap, .int .i64 i] w fun e w' => e = .returned (.slice (some ⟨g, o + i * nw c, none⟩) (nw c) (nw c)) ∧ Below w.heap.size w w' := by
  have hd : nw c ≤ 64 := by unfold nw; omega
  have hd0 : 0 < nw c := by unfold nw; omega
  have e1 : (i + 1) * nw c = i * nw c + nw c := Nat.succ_mul _ _
  have b1 : i * nw c ≤ 16777216 * 64 := Nat.mul_le_mul him hd
  obtain ⟨d, hdd⟩ : ∃ d, nw c = d := ⟨_, rfl⟩
  have HF := hid1 (kwordsFor_any c (by omega))
  rw [hdd] at HF hd hd0 e1 b1 hi ⊢
  clear hdd
  obtain ⟨x, hx⟩ : ∃ x, i * d = x := ⟨_, rfl⟩
  have p1 : (i : Int) * (d : Int) = (x : Nat) := by rw [← hx]; push_cast; rfl
  have p2 : ((i : Int) + 1) * (d : Int) = (x + d : Nat) := by rw [← hx, ← e1]; push_cast; rfl
  rw [hx] at e1 b1 ⊢
  rw [e1] at hi
  clear e1 hx
  have r1 : IntKind.i64.wrap ((i : Int) + 1) = (i : Int) + 1 := by rw [IntKind.wrap_i64]; omega
  have r2 : IntKind.i64.wrap (x : Int) = (x : Int) := by rw [IntKind.wrap_i64]; omega
  have r3 : IntKind.i64.wrap ((x + d : Nat) : Int) = ((x + d : Nat) : Int) := by rw [IntKind.wrap_i64]; omega
  have i1 : (0 : Int) ≤ (x : Int) := by omega
  have i2 : (x : Int) ≤ ((x + d : Nat) : Int) := by omega
  have i3 : ((x + d : Nat) : Int) ≤ (cap : Int) := by omega
  have n1 : ¬ x + d = x := by omega
  have n2 : ¬ d = 0 := by omega
  go_enter Try.func57, Try.ntmps57
  go_wp2_with (go_at_call 60; refine (HF.out _).mono ?_; rintro e w1 ⟨rfl, rfl⟩)
  go_ret
  refine ⟨?_, bl_alloc (Below.refl _ _) _⟩
  simp [Nat.add_sub_cancel_left]
set_option maxRecDepth 100000 in
theorem places_any (h v c : Int) (ao : Option Addr) (m cap : Nat) (w : World) :
    Calls Try.prog 46 #[cuv h v c ao m cap] w fun e w' => e = .returned (.func (.func 56) #[] #[.pointer (some ⟨w.heap.size, 0, none⟩)]) ∧ w' = w.alloc (.cells #[.int .i64 h, .int .i64 v, .int .i64 c, .slice ao m cap] 31) := by
  go_enter Try.func46, Try.ntmps46
  go_wp2
  go_ret
  exact ⟨rfl, rfl⟩
/-- The places that have come when k rounds are over. -/
def upt (P : Nat) (k : Nat) (hk : k ≤ P) : List (Fin P) := (List.finRange k).map fun i => ⟨i.1, by omega⟩
theorem upt_val (P k : Nat) (hk : k ≤ P) : (upt P k hk).map (·.1) = List.range k := by
  unfold upt; rw [List.map_map]
  refine List.ext_getElem (by simp) fun i h1 h2 => by simp
theorem upt_len (P k : Nat) (hk : k ≤ P) : (upt P k hk).length = k := by unfold upt; simp
theorem upt_succ (P k : Nat) (hk : k < P) : upt P (k + 1) hk = upt P k (Nat.le_of_lt hk) ++ [⟨k, hk⟩] := by
  refine List.ext_getElem (by simp [upt_len]) fun i h1 h2 => ?_
  by_cases hi : i < k
  · rw [List.getElem_append_left (by simpa [upt_len] using hi)]
    simp [upt]
  · have : i = k := by simp [upt_len] at h1; omega
    subst this
    rw [List.getElem_append_right (by simp [upt_len])]
    simp [upt]
/-- What a place is handed on as. -/
abbrev encP (P g o d : Nat) : Fin P → Array Value := fun x => #[.int .i64 (x.1 : Nat), .slice (some ⟨g, o + x.1 * d, none⟩) d d]
set_option maxRecDepth 100000 in
set_option maxHeartbeats 2000000 in
theorem places1_in (n l Bc h v c g o m cap : Nat) (hn : 1 ≤ n) (h1 : h ≤ 4096) (v1 : v ≤ 4096) (hc0 : 0 < c) (hc : c ≤ 4096) (hm : h * v * nw c ≤ m) (hmc : m ≤ cap) (hcap : cap ≤ 9223372036854775807) (J Jx : List (Fin (h * v)) → World → Prop)
    (hY : ∀ pre x W, J pre W → pre.length < h * v → YieldAt Fence.wide (n - 1) Try.prog l (encP (h * v) g o (nw c) x) W fun e W' =>
      (e = .returned (.bool true) ∧ J (pre ++ [x]) W' ∧ W'.heap[Bc]? = W.heap[Bc]?) ∨ (e = .returned (.bool false) ∧ Jx (pre ++ [x]) W'))
    (W : World) (r : W.rowIs Bc 31 4 (cf h v c (some ⟨g, o, none⟩) m cap)) (hJa : AbidesFrom W.heap.size J) (h0 : J [] W) :
    CallsIn Fence.wide n Try.prog 56 #[.func (.yield l) #[] #[], .pointer (some ⟨Bc, 0, none⟩)] W fun e W' => (∃ v, e = .returned v) ∧
      ((∃ ys, ys = upt (h * v) (h * v) (Nat.le_refl _) ∧ J ys W') ∨ (∃ pre, (∃ k hk, pre = upt (h * v) k hk) ∧ Jx pre W')) := by
  have hP : h * v ≤ 16777216 := Nat.mul_le_mul h1 v1
  have HI : ∀ i, i < h * v → (i + 1) * nw c ≤ m := fun i hi => Nat.le_trans (Nat.mul_le_mul_right _ hi) hm
  obtain ⟨P, hPP⟩ : ∃ P, h * v = P := ⟨_, rfl⟩
  have p1 : (h : Int) * (v : Int) = (P : Nat) := by rw [← hPP]; push_cast; rfl
  revert J Jx
  rw [hPP] at hP HI ⊢
  intro J Jx hY hJa h0
  have r2 : IntKind.i64.wrap (P : Int) = (P : Int) := by rw [IntKind.wrap_i64]; omega
  have c0 := cf0 r
  have c1 := cf1 r
  refine callsIn_of_wp Try.func56 rfl trivial ?_ rfl
  simp only [Try.ntmps56, List.size_toArray, List.length_cons, List.length_nil, Nat.reduceAdd, Nat.reduceSub, Array.replicate_succ, Array.replicate_zero, List.push_toArray, List.append_toArray, List.nil_append, List.cons_append]
  gi_wp2
  gi_loopw [11] (fun i wr => ∃ (k : Nat) (hk : k ≤ P), i = .int .i64 k ∧ J (upt P k hk) wr ∧ wr.rowIs Bc 31 4 (cf h v c (some ⟨g, o, none⟩) m cap))
    (fun i _ => P - (intOf i).toNat)
  case atStart => exact ⟨0, Nat.zero_le _, rfl, h0, r⟩
  case round =>
    clear c0 c1 r h0
    obtain ⟨k, hk, rfl, hJs, r⟩ := hrel
    by_cases hlt : k < P
    · have c0 := cf0 r
      have c1 := cf1 r
      have c2 := cf2 r
      have c3 := cf3 r
      have HR := hid1 r
      have ik : (k : Int) < (P : Int) := by omega
      have HW := hid1 (fun w => wordsAt_any (h : Int) (v : Int) c g o m cap k w hc0 hc hmc hcap (HI k hlt) (by omega))
      clear r
      gi_wp2
      refine ⟨trivial, (callsIn_wide.2 (HW.out _)).mono ?_⟩
      rintro e w1 ⟨rfl, hb1⟩
      have hJ1 := hJa _ _ _ none hJs ⟨hb1.os, hb1.tape, hb1.output, hb1.size, fun q hq _ => hb1.block q hq⟩ (fun _ e => by cases e)
      obtain ⟨fn, tmps, assign, body, hy, hR⟩ := hY _ ⟨k, hlt⟩ w1 hJ1 (by rw [upt_len]; exact hlt)
      dsimp only [encP] at hy
      gi_wp2
      refine hR.mono ?_
      rintro e W3 (⟨rfl, hJ3, hk3⟩ | ⟨rfl, hJx3⟩)
      · gi_wp2
        go_roundw
        case rel => exact ⟨k + 1, by omega, by go_num, by rw [upt_succ P k hlt]; exact hJ3, (keepr hb1 HR.out).of_block hk3⟩
        case measure => simp [intOf]; omega
      · gi_wp2
        refine bodyPost_ret (results_none rfl _ _ _) rfl ?_
        exact ⟨⟨_, rfl⟩, .inr ⟨_, ⟨k + 1, hlt, (upt_succ _ _ _).symm⟩, hJx3⟩⟩
    · obtain rfl : k = P := by omega
      gi_wp2
      go_end0
      exact ⟨⟨_, rfl⟩, .inl ⟨_, rfl, hJs⟩⟩
end Go.Proofs.Ytohkiknhjcibgaa
