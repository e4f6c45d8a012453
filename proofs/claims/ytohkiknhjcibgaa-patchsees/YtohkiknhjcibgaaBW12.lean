/- Lists of small numbers: copied, grown, cut. -/
import Derived.Test.YtohkiknhjcibgaaBW11
import Derived.Test.YtohkiknhjcibgaaBM6
import Derived.Laws.AppendOwnNone
namespace Go.Proofs.Ytohkiknhjcibgaa
open Go.RowKit

def i8s (l : List Int) : List Value := l.map (Value.int .i8)
theorem i8s_len (l : List Int) : (i8s l).length = l.length * 1 := by simp [i8s]
theorem i8s_get {l : List Int} {j : Nat} {u : Value} (h : (i8s l)[j]? = some u) : j < l.length ∧ u = .int .i8 (ia l j) := by
  unfold i8s at h
  rw [List.getElem?_map, Option.map_eq_some_iff] at h
  obtain ⟨x, hx, rfl⟩ := h
  obtain ⟨h1, _⟩ := List.getElem?_eq_some_iff.1 hx
  refine ⟨h1, ?_⟩
  unfold ia
  rw [List.getD_eq_getElem?_getD, hx]
  rfl
theorem i8s_at {l : List Int} {j : Nat} (h : j < l.length) : (i8s l)[j]? = some (.int .i8 (ia l j)) := by
  unfold i8s ia
  rw [List.getElem?_map, List.getD_eq_getElem?_getD, List.getElem?_eq_getElem h]
  rfl
theorem i8s_one {l : List Int} : ∀ u ∈ i8s l, u.oneCell' = true := by
  intro u hu
  unfold i8s at hu
  obtain ⟨x, _, rfl⟩ := List.mem_map.1 hu
  rfl
theorem i8s_snoc (l : List Int) (x : Int) : i8s (l ++ [x]) = i8s l ++ [.int .i8 x] := by simp [i8s]
theorem r8_add {w : World} {a : Addr} {l : List Int} (h : R8 w (some a) l) {j : Nat} (hj : j < l.length) : w.cell? (a.add j) = some (.int .i8 (ia l j)) := by
  obtain ⟨g, o, e, c⟩ := h j hj
  obtain rfl : a = ⟨g, o, none⟩ := Option.some.inj e
  by_cases h0 : j = 0
  · subst h0; exact c
  · simp [Addr.add, h0, c]
theorem r8_take {w : World} {ao : Option Addr} {l : List Int} (h : R8 w ao l) (n : Nat) : R8 w ao (l.take n) := by
  intro k hk
  have hk' : k < n ∧ k < l.length := by simp at hk; omega
  obtain ⟨g, o, e, c⟩ := h k hk'.2
  exact ⟨g, o, e, by rw [ia_take hk'.1]; exact c⟩
/-- An own row of small numbers reads as they do. -/
theorem r8_own {w : World} {base : Nat} {v : Value} {l : List Int} (h : w.ownsRow base 50 1 v l.length (i8s l)) : ∃ ao cap, v = .slice ao l.length cap ∧ l.length ≤ cap ∧ cap ≤ maxLen ∧ (ao = none → l.length = 0 ∧ cap = 0) ∧ (∀ a, ao = some a → ∃ g, a = ⟨g, 0, none⟩) ∧ R8 w ao l := by
  rcases Nat.eq_zero_or_pos l.length with h0 | h0
  · rcases h.2 with ⟨h1, _⟩ | ⟨g, cap, cur, hv, _, _, h4, h5, _⟩
    · exact ⟨none, 0, by rw [h0]; exact h1, by omega, by simp [maxLen], fun _ => ⟨h0, rfl⟩, fun _ e => (by cases e), fun k hk => absurd hk (by omega)⟩
    · exact ⟨_, cap, hv, h4, h5, fun e => (by cases e), fun a e => ⟨g, (Option.some.inj e).symm⟩, fun k hk => absurd hk (by omega)⟩
  · obtain ⟨g, cap, f, hv, _, h4, h5, hr, hf⟩ := own_row h h0
    refine ⟨_, cap, hv, h4, h5, fun e => (by cases e), fun a e => ⟨g, (Option.some.inj e).symm⟩, fun k hk => ⟨g, 0, rfl, ?_⟩⟩
    rw [Nat.zero_add]
    refine (hr.cell (by omega)).trans ?_
    have := hf k hk
    rw [i8s_at hk] at this
    exact congrArg some (Option.some.inj this).symm

theorem app_nil {ops : Array Oper} {rest : List Oper} {o : Oper} {a : Act} {Q : Exit → Act → World → Prop} {w : World} (hgd : o.guard = none) (s x : Operand)
    (ho : o.op = .call { callee := .builtin .append, args := #[s, x], argTypes := #[69, 69] }) (hs : a.eval s = .slice none 0 0)
    (bo : Option Addr) (l : List Int) (cb : Nat) (hx : a.eval x = .slice bo l.length cb) (hr : R8 w bo l) (hn : bo = none → l.length = 0 ∧ cb = 0) (hM : l.length ≤ 140737488351232)
    (h : ∀ v' w', w'.ownsRow w.heap.size 50 1 v' l.length (i8s l) → Below w.heap.size w w' → wpList Try.prog ops Q rest (a.put o.dst v') w') : wpList Try.prog ops Q (o :: rest) a w := by
  obtain ⟨i0, hi, hz0, hz1, hz2⟩ := info_parts info_i8
  cases bo with
  | none =>
    obtain ⟨h0, rfl⟩ := hn rfl
    rw [h0] at hx
    refine wpList_append_own_none hgd s x _ ho w.heap.size 50 i0 1 und_i8s hi (.slice none 0 0) 0 [] hs (World.ownsRow_nil _ _ _ _) hx (h _ _ ?_ (Below.refl _ _))
    have e : l = [] := List.eq_nil_of_length_eq_zero h0
    subst e
    exact World.ownsRow_nil _ _ _ _
  | some ad =>
    refine wpList_append_own w hgd s x _ ho w.heap.size 50 i0 (.int .i8 0) 1 1 und_i8s hi hz0 hz1 hz2 rfl (by decide) (.slice none 0 0) 0 [] hs (World.ownsRow_nil _ _ _ _) ad l.length cb (i8s l) hx (i8s_len l)
      (fun j u hu => by obtain ⟨h1, rfl⟩ := i8s_get hu; exact r8_add hr h1) i8s_one (by unfold maxLen; omega) (by omega) (Nat.le_refl _) ?_
    intro v' w' h1 h2 _
    rw [Nat.zero_add, List.nil_append] at h1
    exact h v' w' h1 ((Below.refl _ _).grown h2 (Nat.le_refl _) (fun _ e => by cases e))
end Go.Proofs.Ytohkiknhjcibgaa
