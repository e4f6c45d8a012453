/- Lists of small numbers: own, copied, grown; tame, even, sameSmall. -/
import Derived.Test.YtpinmfhabbcflabDoorDW11
import Derived.Deep.AppendLies
import Derived.Laws.AppendOwnNone
import Derived.WalkLawsBesides
namespace Go.Proofs.YtpinmfhabbcflabDoor
open Go.RowKit

def rowL (f : Nat → Value) (m : Nat) : List Value := (List.range m).map f
theorem rowL_len (f : Nat → Value) (m : Nat) : (rowL f m).length = m * 1 := by simp [rowL]
theorem rowL_get {f : Nat → Value} {m j : Nat} {u : Value} (h : (rowL f m)[j]? = some u) : j < m ∧ u = f j := by
  unfold rowL at h
  rw [List.getElem?_map, Option.map_eq_some_iff] at h
  obtain ⟨x, hx, rfl⟩ := h
  obtain ⟨h1, h2⟩ := List.getElem?_eq_some_iff.1 hx
  simp at h1 h2
  subst h2
  exact ⟨h1, rfl⟩
theorem rowL_at {f : Nat → Value} {m j : Nat} (h : j < m) (v : Value) : (rowL f m ++ [v])[j]? = some (f j) := by
  rw [List.getElem?_append_left (by simpa [rowL] using h)]
  simp [rowL, h]
theorem rowL_last (f : Nat → Value) (m : Nat) (v : Value) : (rowL f m ++ [v])[m]? = some v := by
  rw [List.getElem?_append_right (by simp [rowL])]
  simp [rowL]
theorem rowL_wf {N m : Nat} : ∀ u ∈ rowL (wf N) m, u.oneCell' = true := by
  intro u hu
  obtain ⟨j, hj, e⟩ := List.getElem_of_mem hu
  obtain ⟨_, rfl⟩ := rowL_get (List.getElem?_eq_some_iff.2 ⟨hj, e⟩)
  rfl
/-- An own row, as a row of cells. -/
theorem own_row {w : World} {base e : Nat} {v : Value} {n : Nat} {xs : List Value} (h : w.ownsRow base e 1 v n xs) (hn : 0 < n) :
    ∃ g cap f, v = .slice (some ⟨g, 0, none⟩) n cap ∧ base ≤ g ∧ n ≤ cap ∧ cap ≤ maxLen ∧ w.rowIs g e cap f ∧ ∀ k, k < n → xs[k]? = some (f k) := by
  rcases h.2 with ⟨_, h0⟩ | ⟨g, cap, cur, hv, hb, hg, h4, h5, h6, h7⟩
  · omega
  · refine ⟨g, cap, fun k => cur[k]?.getD undef, hv, hb, h4, h5, ⟨cur, hg, by omega, fun i hi => ?_⟩, fun k hk => ?_⟩
    · simp [Array.getElem?_eq_getElem (show i < cur.size by omega)]
    · rw [← h7, Nat.mul_one, List.getElem?_take_of_lt hk]
      simp [Array.getElem?_eq_getElem (show k < cur.size by omega)]

def i8s (l : List Int) : List Value := l.map (Value.int .i8)
theorem i8s_len (l : List Int) : (i8s l).length = l.length * 1 := by simp [i8s]
theorem i8s_get {l : List Int} {j : Nat} {u : Value} (h : (i8s l)[j]? = some u) : j < l.length ∧ u = .int .i8 (ia l j) := by
  unfold i8s at h
  rw [List.getElem?_map, Option.map_eq_some_iff] at h
  obtain ⟨x, hx, rfl⟩ := h
  obtain ⟨h1, _⟩ := List.getElem?_eq_some_iff.1 hx
  refine ⟨h1, ?_⟩
  unfold ia
  rw [List.getD_eq_getElem?_getD, hx]
  rfl
theorem i8s_at {l : List Int} {j : Nat} (h : j < l.length) : (i8s l)[j]? = some (.int .i8 (ia l j)) := by
  unfold i8s ia
  rw [List.getElem?_map, List.getD_eq_getElem?_getD, List.getElem?_eq_getElem h]
  rfl
theorem i8s_one {l : List Int} : ∀ u ∈ i8s l, u.oneCell' = true := by
  intro u hu
  unfold i8s at hu
  obtain ⟨x, _, rfl⟩ := List.mem_map.1 hu
  rfl
theorem i8s_snoc (l : List Int) (x : Int) : i8s (l ++ [x]) = i8s l ++ [.int .i8 x] := by simp [i8s]
theorem r8_add {w : World} {a : Addr} {l : List Int} (h : R8 w (some a) l) {j : Nat} (hj : j < l.length) : w.cell? (a.add j) = some (.int .i8 (ia l j)) := by
  obtain ⟨g, o, e, c⟩ := h j hj
  obtain rfl : a = ⟨g, o, none⟩ := Option.some.inj e
  by_cases h0 : j = 0
  · subst h0; exact c
  · simp [Addr.add, h0, c]
theorem r8_take {w : World} {ao : Option Addr} {l : List Int} (h : R8 w ao l) (n : Nat) : R8 w ao (l.take n) := by
  intro k hk
  have hk' : k < n ∧ k < l.length := by simp at hk; omega
  obtain ⟨g, o, e, c⟩ := h k hk'.2
  exact ⟨g, o, e, by rw [ia_take hk'.1]; exact c⟩
/-- An own row of small numbers reads as they do. -/
theorem r8_own {w : World} {base : Nat} {v : Value} {l : List Int} (h : w.ownsRow base 59 1 v l.length (i8s l)) : ∃ ao cap, v = .slice ao l.length cap ∧ l.length ≤ cap ∧ cap ≤ maxLen ∧ (ao = none → l.length = 0 ∧ cap = 0) ∧ (∀ a, ao = some a → ∃ g, a = ⟨g, 0, none⟩) ∧ R8 w ao l := by
  rcases Nat.eq_zero_or_pos l.length with h0 | h0
  · rcases h.2 with ⟨h1, _⟩ | ⟨g, cap, cur, hv, _, _, h4, h5, _⟩
    · exact ⟨none, 0, by rw [h0]; exact h1, by omega, by simp [maxLen], fun _ => ⟨h0, rfl⟩, fun _ e => (by cases e), fun k hk => absurd hk (by omega)⟩
    · exact ⟨_, cap, hv, h4, h5, fun e => (by cases e), fun a e => ⟨g, (Option.some.inj e).symm⟩, fun k hk => absurd hk (by omega)⟩
  · obtain ⟨g, cap, f, hv, _, h4, h5, hr, hf⟩ := own_row h h0
    refine ⟨_, cap, hv, h4, h5, fun e => (by cases e), fun a e => ⟨g, (Option.some.inj e).symm⟩, fun k hk => ⟨g, 0, rfl, ?_⟩⟩
    rw [Nat.zero_add]
    refine (hr.cell (by omega)).trans ?_
    have := hf k hk
    rw [i8s_at hk] at this
    exact congrArg some (Option.some.inj this).symm

theorem app_nil {ops : Array Oper} {rest : List Oper} {o : Oper} {a : Act} {Q : Exit → Act → World → Prop} {w : World} (hgd : o.guard = none) (s x : Operand)
    (ho : o.op = .call { callee := .builtin .append, args := #[s, x], argTypes := #[37, 37] }) (hs : a.eval s = .slice none 0 0)
    (bo : Option Addr) (l : List Int) (cb : Nat) (hx : a.eval x = .slice bo l.length cb) (hr : R8 w bo l) (hn : bo = none → l.length = 0 ∧ cb = 0) (hM : l.length ≤ 140737488351232)
    (h : ∀ v' w', w'.ownsRow w.heap.size 59 1 v' l.length (i8s l) → Below w.heap.size w w' → wpList Tryd.prog ops Q rest (a.put o.dst v') w') : wpList Tryd.prog ops Q (o :: rest) a w := by
  obtain ⟨i0, hi, hz0, hz1, hz2⟩ := info_parts info_i8
  cases bo with
  | none =>
    obtain ⟨h0, rfl⟩ := hn rfl
    rw [h0] at hx
    refine wpList_append_own_none hgd s x _ ho w.heap.size 59 i0 1 und_i8s hi (.slice none 0 0) 0 [] hs (World.ownsRow_nil _ _ _ _) hx (h _ _ ?_ (Below.refl _ _))
    have e : l = [] := List.eq_nil_of_length_eq_zero h0
    subst e
    exact World.ownsRow_nil _ _ _ _
  | some ad =>
    refine wpList_append_own w hgd s x _ ho w.heap.size 59 i0 (.int .i8 0) 1 1 und_i8s hi hz0 hz1 hz2 rfl (by decide) (.slice none 0 0) 0 [] hs (World.ownsRow_nil _ _ _ _) ad l.length cb (i8s l) hx (i8s_len l)
      (fun j u hu => by obtain ⟨h1, rfl⟩ := i8s_get hu; exact r8_add hr h1) i8s_one (by unfold maxLen; omega) (by omega) (Nat.le_refl _) ?_
    intro v' w' h1 h2 _
    rw [Nat.zero_add, List.nil_append] at h1
    exact h v' w' h1 ((Below.refl _ _).grown h2 (Nat.le_refl _) (fun _ e => by cases e))

/-- One small number appended to a list of one's own. -/
theorem app_one {ops : Array Oper} {rest : List Oper} {o : Oper} {a : Act} {Q : Exit → Act → World → Prop} {w : World} (hgd : o.guard = none) (s x : Operand)
    (ho : o.op = .call { callee := .builtin .append, args := #[s, x], argTypes := #[37, 37] }) (base : Nat) (v : Value) (l : List Int) (hs : a.eval s = v) (hown : w.ownsRow base 59 1 v l.length (i8s l))
    (g : Nat) (y : Int) (cb : Nat) (hx : a.eval x = .slice (some ⟨g, 0, none⟩) 1 cb) (hr : w.cell? ⟨g, 0, none⟩ = some (.int .i8 y)) (hM : l.length < 140737488355328) (hb : base ≤ w.heap.size)
    (h : ∀ v' w', w'.ownsRow base 59 1 v' (l.length + 1) (i8s (l ++ [y])) → w.grownBy w' v.ownBlock → wpList Tryd.prog ops Q rest (a.put o.dst v') w') : wpList Tryd.prog ops Q (o :: rest) a w := by
  obtain ⟨i0, hi, hz0, hz1, hz2⟩ := info_parts info_i8
  refine wpList_append_own w hgd s x _ ho base 59 i0 (.int .i8 0) 1 1 und_i8s hi hz0 hz1 hz2 rfl (by decide) v l.length (i8s l) hs hown ⟨g, 0, none⟩ 1 cb [.int .i8 y] hx rfl
    (fun j u hu => ?_) (fun u hu => by simp at hu; subst hu; rfl) (by unfold maxLen; omega) (by omega) hb ?_
  · rcases j with _ | j
    · simp at hu; subst hu; exact hr
    · simp at hu
  · intro v' w' h1 h2 _
    exact h v' w' (by rw [i8s_snoc]; exact h1) h2

/-- Made weights. -/
def tml (l : List Int) : List Int := l.map fun x => x.tmod 2
theorem ia_snoc {l : List Int} {k : Nat} (h : k < l.length) : l.take (k + 1) = l.take k ++ [ia l k] := by
  rw [List.take_succ_eq_append_getElem h]
  congr 2
  unfold ia
  simp [List.getD, h]
theorem tml_len (l : List Int) : (tml l).length = l.length := by simp [tml]
theorem tml_ia {l : List Int} {k : Nat} (h : k < l.length) : ia (tml l) k = (ia l k).tmod 2 := by
  unfold ia tml
  simp [List.getD, h]
theorem tml_take {l : List Int} {k : Nat} (h : k < l.length) : (tml l).take (k + 1) = (tml l).take k ++ [(ia l k).tmod 2] := by
  rw [ia_snoc (by rw [tml_len]; exact h), tml_ia h]
theorem tmod2 (x : Int) : -1 ≤ x.tmod 2 ∧ x.tmod 2 ≤ 1 := by
  rcases Int.le_total 0 x with h | h
  · rw [Int.tmod_eq_emod_of_nonneg h]; omega
  · obtain ⟨y, rfl⟩ : ∃ y, x = -y := ⟨-x, by omega⟩
    rw [Int.neg_tmod, Int.tmod_eq_emod_of_nonneg (by omega)]; omega
theorem r8_nil {w : World} {ao : Option Addr} {l : List Int} (h : R8 w ao l) (h0 : 0 < l.length) : ∃ g o, ao = some ⟨g, o, none⟩ := by
  obtain ⟨g, o, e, _⟩ := h 0 h0
  exact ⟨g, o, e⟩
set_option maxHeartbeats 1600000 in
set_option maxRecDepth 100000 in
theorem sameSmall_true (l : List Int) (N : Nat) (hN : l.length = N) (ao bo : Option Addr) (c1 c2 : Nat) (w : World) (hm : N ≤ 9223372036854775807) (h1 : R8 w ao l) (h2 : R8 w bo l) :
    Calls Tryd.prog 11 #[.slice ao N c1, .slice bo N c2] w fun e w' => e = .returned (.bool true) ∧ Below w.heap.size w w' := by
  have H1 := hid1 h1
  have H2 := hid1 h2
  have HL := hid1 hN
  clear h1 h2 hN
  go_enter Tryd.func11, Tryd.ntmps11
  go_wp2_with fail
  go_loopw [5] (fun i wr => ∃ k : Nat, k ≤ N ∧ i = .int .i64 k ∧ Below w.heap.size w wr) (fun i _ => N - (intOf i).toNat)
  case atStart => exact ⟨0, Nat.zero_le _, rfl, Below.refl _ _⟩
  case round =>
    obtain ⟨k, hk, rfl, B0⟩ := hrel
    by_cases hlt : k < N
    · obtain ⟨ga, oa, rfl, c8⟩ := H1.out k (by have := HL.out; omega)
      obtain ⟨gb, ob, rfl, c9⟩ := H2.out k (by have := HL.out; omega)
      replace c8 := keepc B0 c8
      replace c9 := keepc B0 c9
      have ik : (k : Int) < (N : Int) := by omega
      have ik0 : (0 : Int) ≤ (k : Int) := by omega
      generalize ia l k = x at *
      go_wp2_with fail
      go_quiet (fail)
      go_wp2_with fail
      exact ⟨⟨k + 1, by omega, by go_num, bl_drewN B0 _⟩, by simp [intOf]; omega⟩
    · have hkN : k = N := by omega
      subst hkN
      go_wp2_with fail
      go_ret
      exact ⟨rfl, B0⟩
end Go.Proofs.YtpinmfhabbcflabDoor
