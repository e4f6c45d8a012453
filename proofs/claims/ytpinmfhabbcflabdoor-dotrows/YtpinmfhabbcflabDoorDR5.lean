/- The document's Planes. -/
import Derived.Test.YtpinmfhabbcflabDoorDR4
import Derived.Test.YtpinmfhabbcflabDoorDW9
namespace Go.Proofs.YtpinmfhabbcflabDoor
open Go.RowKit

theorem info_bool : (Tryd.prog.info? 4).map (fun i => (i.zero, i.size, i.bytes)) = some (some (.bool false), 1, 1) := by kernel_rfl
theorem und_bools : Tryd.prog.underlying 76 = some (.slice 4) := by kernel_rfl
/-- Truth values as cells. -/
def bls (f : Nat → Bool) (n : Nat) : List Value := (List.range n).map fun i => Value.bool (f i)
theorem bls_snoc (f : Nat → Bool) (n : Nat) : bls f (n + 1) = bls f n ++ [.bool (f n)] := by simp [bls, List.range_succ]
theorem bls_at {f : Nat → Bool} {n j : Nat} (h : j < n) : (bls f n)[j]? = some (.bool (f j)) := by simp [bls, h]
theorem app_bool {ops : Array Oper} {rest : List Oper} {o : Oper} {a : Act} {Q : Exit → Act → World → Prop} {w : World} (hgd : o.guard = none) (s x : Operand)
    (ho : o.op = .call { callee := .builtin .append, args := #[s, x], argTypes := #[76, 76] }) (base : Nat) (v : Value) (f : Nat → Bool) (n : Nat) (hs : a.eval s = v) (hown : w.ownsRow base 4 1 v n (bls f n))
    (g : Nat) (y : Bool) (cb : Nat) (hx : a.eval x = .slice (some ⟨g, 0, none⟩) 1 cb) (hr : w.cell? ⟨g, 0, none⟩ = some (.bool y)) (hM : n ≤ 16777216) (hb : base ≤ w.heap.size) (hy : y = f n)
    (h : ∀ v' w', w'.ownsRow base 4 1 v' (n + 1) (bls f (n + 1)) → w.grownBy w' v.ownBlock → wpList Tryd.prog ops Q rest (a.put o.dst v') w') : wpList Tryd.prog ops Q (o :: rest) a w := by
  obtain ⟨i0, hi, hz0, hz1, hz2⟩ := info_parts info_bool
  refine wpList_append_own w hgd s x _ ho base 4 i0 (.bool false) 1 1 und_bools hi hz0 hz1 hz2 rfl (by decide) v n (bls f n) hs hown ⟨g, 0, none⟩ 1 cb [.bool y] hx rfl
    (fun j u hu => ?_) (fun u hu => by simp at hu; subst hu; rfl) (by unfold maxLen; omega) (by omega) hb ?_
  · rcases j with _ | j
    · simp at hu; subst hu; exact hr
    · simp at hu
  · intro v' w' h1 h2 _
    subst hy
    exact h v' w' (by rw [bls_snoc]; exact h1) h2
theorem rb_own {w : World} {base n : Nat} {v : Value} {f : Nat → Bool} (h : w.ownsRow base 4 1 v n (bls f n)) : ∃ ao cap, v = .slice ao n cap ∧ RB w ao f n := by
  rcases Nat.eq_zero_or_pos n with h0 | h0
  · rcases h.2 with ⟨h1, _⟩ | ⟨g, cap, cur, hv, _, _, h4, h5, _⟩
    · exact ⟨none, 0, by rw [h0]; exact h1, fun k hk => absurd hk (by omega)⟩
    · exact ⟨_, cap, hv, fun k hk => absurd hk (by omega)⟩
  · obtain ⟨g, cap, c, hv, _, h4, h5, hr, hf⟩ := own_row h h0
    refine ⟨_, cap, hv, fun k hk => ⟨g, 0, rfl, ?_⟩⟩
    rw [Nat.zero_add]
    refine (hr.cell (by omega)).trans ?_
    have := hf k hk
    rw [bls_at hk] at this
    exact congrArg some (Option.some.inj this).symm
set_option maxHeartbeats 1600000 in
set_option maxRecDepth 100000 in
theorem rplanes_long (N : Nat) (ao : Option Addr) (cap : Nat) (w : World) (h1 : 16777216 < N) (h2 : N ≤ 9223372036854775807) :
    Calls Tryd.prog 36 #[.slice ao N cap] w fun e w' => e = .returned (.tuple #[pv (fun _ => zb), .int .i64 2]) ∧ Below w.heap.size w w' := by
  go_enter Tryd.func36, Tryd.ntmps36
  go_wp2
  refine bodyPost_ret (v := .tuple #[pv (fun _ => zb), .int .i64 2]) (by simp [results, Tryd.results36, go_sem, zb]) rfl ⟨rfl, ?_⟩
  repeat (first | exact Below.refl _ _ | refine bl_alloc ?_ _ | refine bl_set ?_ (by omega) _)
/-- The first k of the planes, wherever their words lie. -/
def frv (N : Nat) (G : Nat → Option Addr × Nat) (k : Nat) : Nat → Bt := fun p => if p < k then ⟨N, (G p).1, nw N, (G p).2, 0⟩ else zb
def updG (G : Nat → Option Addr × Nat) (k : Nat) (g : Option Addr × Nat) : Nat → Option Addr × Nat := fun p => if p = k then g else G p
theorem updG_same (G : Nat → Option Addr × Nat) (k : Nat) (g : Option Addr × Nat) : updG G k g k = g := by unfold updG; rw [if_pos rfl]
theorem updG_ne {G : Nat → Option Addr × Nat} {k p : Nat} {g : Option Addr × Nat} (h : p ≠ k) : updG G k g p = G p := by unfold updG; rw [if_neg h]
theorem frv_step {N k : Nat} {g : Option Addr × Nat} {G : Nat → Option Addr × Nat} (j : Nat) : (if j = k * 2 + 1 then Value.slice g.1 (nw N) g.2 else if j = k * 2 then Value.int .i64 N else pfc (frv N G k) j) = pfc (frv N (updG G k g) (k + 1)) j := by
  unfold pfc frv
  by_cases e1 : j = k * 2 + 1
  · rw [if_pos e1, if_neg (by omega), show j / 2 = k by omega, if_pos (by omega), updG_same]
  · rw [if_neg e1]
    by_cases e2 : j = k * 2
    · rw [if_pos e2, if_pos (by omega), show j / 2 = k by omega, if_pos (by omega)]
    · have e3 : ¬ j / 2 = k := by omega
      have e4 : (j / 2 < k + 1) ↔ (j / 2 < k) := by omega
      rw [if_neg e2, updG_ne e3]
      simp only [e4]
theorem div_step (u j : Nat) : ((u / 2 ^ j : Nat) : Int) / 2 = ((u / 2 ^ (j + 1) : Nat) : Int) := half_u64
end Go.Proofs.YtpinmfhabbcflabDoor
