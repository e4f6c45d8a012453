/- Lists of keys that a program keeps; the keys asked for last. -/
import Derived.Test.YtpjcpikafpnmpaaAK26
namespace Go.Proofs.Ytpjcpikafpnmpaa
open Go.RowKit

theorem info_str : (Try.prog.info? 9).map (fun i => (i.zero, i.size, i.bytes)) = some (some (.string ⟨#[]⟩), 1, 16) := by kernel_rfl
theorem und_strs : Try.prog.underlying 27 = some (.slice 9) := Try.underlying27
abbrev sv (A : List ByteArray) : List Value := A.map .string
/-- Keys in memory of their own. -/
def Sl (w : World) (base : Nat) (v : Value) (A : List ByteArray) : Prop := w.ownsRow base 9 1 v A.length (sv A)
theorem Sl.form {w : World} {base : Nat} {v : Value} {l : List ByteArray} (h : Sl w base v l) : (v = .slice none 0 0 ∧ l = []) ∨ ∃ g cap f, v = .slice (some ⟨g, 0, none⟩) l.length cap ∧ base ≤ g ∧ w.rowIs g 9 cap f ∧ l.length ≤ cap ∧ ∀ (j : Nat) (x : ByteArray), l[j]? = some x → f j = .string x := by
  rcases h.2 with ⟨rfl, h0⟩ | ⟨g, cap, cur, hv, hb, hg, h4, h5, h6, h7⟩
  · exact .inl ⟨rfl, List.length_eq_zero_iff.1 h0⟩
  · refine .inr ⟨g, cap, fun k => cur[k]?.getD undef, hv, hb, ⟨cur, hg, by omega, fun i hi => ?_⟩, h4, fun j x hj => ?_⟩
    · simp [Array.getElem?_eq_getElem (show i < cur.size by omega)]
    · have hjl : j < l.length := (List.getElem?_eq_some_iff.1 hj).1
      have e : (sv l)[j]? = some (.string x) := by simp [sv, hj]
      rw [← h7, Nat.mul_one, List.getElem?_take_of_lt hjl] at e
      show cur[j]?.getD undef = _
      rw [← Array.getElem?_toList, e]; rfl
theorem Sl.nil (w : World) (base : Nat) : Sl w base (.slice none 0 0) [] := World.ownsRow_nil _ _ _ _
theorem Sl.block {w w' : World} {base : Nat} {v : Value} {l : List ByteArray} (h : Sl w base v l) (hk : ∀ b, v.ownBlock = some b → w'.heap[b]? = w.heap[b]?) : Sl w' base v l := by
  refine ⟨h.1, ?_⟩
  rcases h.2 with h0 | ⟨g, cap, cur, rfl, h1, h2, h3⟩
  · exact .inl h0
  · exact .inr ⟨g, cap, cur, rfl, h1, (hk g rfl).trans h2, h3⟩
theorem Sl.lt {w : World} {base : Nat} {v : Value} {l : List ByteArray} (h : Sl w base v l) : ∀ b, v.ownBlock = some b → base ≤ b ∧ b < w.heap.size := fun b hb => by
  rcases h.form with ⟨rfl, rfl⟩ | ⟨g, cap, f, rfl, h1, r, _⟩
  · cases hb
  · injection hb with hb; subst hb; exact ⟨h1, r.lt⟩
theorem Sl.below {w w' : World} {base : Nat} {v : Value} {l : List ByteArray} (h : Sl w base v l) (hb : Below w.heap.size w w') : Sl w' base v l := h.block fun b e => hb.block b (h.lt b e).2
theorem Sl.fk {F : Nat → Prop} {w w' : World} {base : Nat} {v : Value} {l : List ByteArray} (h : Sl w base v l) (hb : Fk F w w') (hF : ∀ b, v.ownBlock = some b → F b) : Sl w' base v l := h.block fun b e => hb.keep b (hF b e) (h.lt b e).2
theorem Sl.base {w : World} {base base' : Nat} {v : Value} {l : List ByteArray} (h : Sl w base v l) (hb : base' ≤ base) : Sl w base' v l := by
  refine ⟨h.1, ?_⟩
  rcases h.2 with h0 | ⟨g, cap, cur, rfl, h1, h2, h3⟩
  · exact .inl h0
  · exact .inr ⟨g, cap, cur, rfl, Nat.le_trans hb h1, h2, h3⟩
/-- What its slice is, where a key lies. -/
theorem Sl.sl {w : World} {base : Nat} {v : Value} {l : List ByteArray} (h : Sl w base v l) : ∃ ao cap, v = .slice ao l.length cap ∧ ∀ (j : Nat) (x : ByteArray), l[j]? = some x → ∃ g, ao = some ⟨g, 0, none⟩ ∧ w.cell? ⟨g, j, none⟩ = some (.string x) := by
  rcases h.form with ⟨rfl, rfl⟩ | ⟨g, cap, f, rfl, hb, r, h1, h2⟩
  · exact ⟨none, 0, rfl, fun j x hj => by simp at hj⟩
  · refine ⟨_, cap, rfl, fun j x hj => ⟨g, rfl, ?_⟩⟩
    have hjl : j < l.length := (List.getElem?_eq_some_iff.1 hj).1
    rw [r.cell (show j < cap by omega), h2 j x hj]
theorem Sl.one (w : World) (s : ByteArray) : Sl (w.alloc (.cells #[.string s] 9)) w.heap.size (.slice (some ⟨w.heap.size, 0, none⟩) 1 1) [s] :=
  ⟨by simp, .inr ⟨w.heap.size, 1, #[.string s], rfl, Nat.le_refl _, heap_alloc_new w _, by simp, by decide, by simp, by simp⟩⟩
/-- 'append' of one. -/
theorem app_str {ops : Array Oper} {rest : List Oper} {o : Oper} {a : Act} {Q : Exit → Act → World → Prop} {w : World} (hgd : o.guard = none) (s x : Operand)
    (ho : o.op = .call { callee := .builtin .append, args := #[s, x], argTypes := #[27, 27] }) (M : Nat) (v : Value) (A : List ByteArray) (hs : a.eval s = v) (hown : Sl w M v A)
    (ad : Addr) (hx : a.eval x = .slice (some ad) 1 1) (y : ByteArray) (hc : w.cell? ad = some (.string y)) (hM : (A.length + 1) * 16 ≤ 140737488355328) (hb : M ≤ w.heap.size)
    (h : ∀ v' w', Sl w' M v' (A ++ [y]) → w.grownBy w' v.ownBlock → wpList Try.prog ops Q rest (a.put o.dst v') w') : wpList Try.prog ops Q (o :: rest) a w := by
  obtain ⟨i0, hi, hz0, hz1, hz2⟩ := info_parts info_str
  refine wpList_append_own w hgd s x _ ho M 9 i0 (.string ⟨#[]⟩) 1 16 und_strs hi hz0 hz1 hz2 rfl (by decide) v A.length (sv A) hs hown ad 1 1 [.string y] hx (by simp)
    (fun j u hu => ?_) (fun u hu => ?_) (by unfold maxLen; omega) (by omega) hb ?_
  · rcases j with _ | j
    · simp at hu; subst hu; simpa [Addr.add] using hc
    · simp at hu
  · simp at hu; subst hu; rfl
  · intro v' w' h1 h2 _
    refine h v' w' ?_ h2
    unfold Sl
    rw [List.length_append]
    simpa [sv] using h1
/-- The others. -/
def wk (A : List ByteArray) (s : ByteArray) : List ByteArray := A.filter fun x => !decide (x = s)
theorem wk_len (s : ByteArray) : ∀ A : List ByteArray, A.Nodup → A.length ≤ (wk A s).length + 1
  | [], _ => by simp
  | x :: A, h => by
    rw [List.nodup_cons] at h
    by_cases e : x = s
    · subst e
      have : wk (x :: A) x = A := by
        unfold wk
        rw [List.filter_cons_of_neg (by simp), List.filter_eq_self]
        intro y hy
        have : y ≠ x := fun e => h.1 (e ▸ hy)
        simp [this]
      rw [this]; simp
    · have := wk_len s A h.2
      unfold wk at this ⊢
      rw [List.filter_cons_of_pos (by simp [e])]
      simp
      omega
theorem wk_take (r : Nat) (s : ByteArray) (A : List ByteArray) (h : A.Nodup) : (s :: wk (A.take r) s).take r = (s :: wk A s).take r := by
  rcases r with _ | r
  · rfl
  rw [List.take_succ_cons, List.take_succ_cons]
  congr 1
  have e : wk A s = wk (A.take (r + 1)) s ++ wk (A.drop (r + 1)) s := by
    unfold wk
    rw [← List.filter_append, List.take_append_drop]
  have hl := wk_len s (A.take (r + 1)) (h.sublist (List.take_sublist _ _))
  rw [e]
  rw [List.take_append]
  by_cases hr : r ≤ (wk (A.take (r + 1)) s).length
  · rw [Nat.sub_eq_zero_of_le hr]
    simp
  · have : A.drop (r + 1) = [] := List.drop_eq_nil_of_le (by rw [List.length_take] at hl; omega)
    rw [this]
    simp [wk]
/-- The keys kept are the first of those asked for. -/
structure Rc (r : Nat) (A : List ByteArray) (E : List En) : Prop where
  nd : A.Nodup
  ks : E.map (·.1) = A.take r
theorem wo_keys (E : List En) (s : ByteArray) : (wo E s).map (·.1) = wk (E.map (·.1)) s := by
  unfold wo wk is
  rw [List.filter_map]
  rfl
theorem wk_nd {A : List ByteArray} (h : A.Nodup) (s : ByteArray) : (s :: wk A s).Nodup := by
  rw [List.nodup_cons]
  refine ⟨fun hs => ?_, h.sublist List.filter_sublist⟩
  have := (List.mem_filter.1 hs).2
  simp at this
theorem Rc.put {r : Nat} {A : List ByteArray} {E : List En} (h : Rc r A E) (s : ByteArray) (l : List Int) (a : Int) : Rc r (s :: wk A s) (ptE r E (s, l, a)) := by
  refine ⟨wk_nd h.nd s, ?_⟩
  unfold ptE
  rw [List.map_take, List.map_cons, wo_keys, h.ks]
  exact wk_take r s A h.nd
theorem at_some {E : List En} {s : ByteArray} {e : En} (h : atE E s = some e) : e ∈ E ∧ e.1 = s := by
  unfold atE at h
  have := List.find?_some h
  exact ⟨List.mem_of_find?_eq_some h, by simpa [is] using this⟩
theorem Rc.get {r : Nat} {A : List ByteArray} {E : List En} (h : Rc r A E) (s : ByteArray) (hb : gtB E s = true) : Rc r (s :: wk A s) (gtE E s) := by
  unfold gtB at hb
  obtain ⟨e, he⟩ := Option.isSome_iff_exists.1 hb
  obtain ⟨h1, h2⟩ := at_some he
  refine ⟨wk_nd h.nd s, ?_⟩
  unfold gtE
  rw [he]
  show e.1 :: (wo E s).map (·.1) = _
  rw [wo_keys, h2, ← wk_take r s A h.nd, ← h.ks]
  refine (List.take_of_length_le ?_).symm
  have hm : s ∈ E.map (·.1) := h2 ▸ List.mem_map_of_mem h1
  have hl : (E.map (·.1)).length ≤ r := by rw [h.ks, List.length_take]; omega
  have : (wk (E.map (·.1)) s).length < (E.map (·.1)).length := by
    unfold wk
    refine List.length_filter_lt_length_iff_exists.2 ⟨s, hm, by simp⟩
  simp only [List.length_cons]
  omega
theorem gt_none {E : List En} {s : ByteArray} (hb : gtB E s = false) : gtE E s = E := by
  unfold gtB at hb
  unfold gtE
  cases h : atE E s with
  | none => rfl
  | some e => rw [h] at hb; cases hb
theorem wk_step (A : List ByteArray) (s x : ByteArray) (j : Nat) (h : A[j]? = some x) : wk (A.take (j + 1)) s = if x = s then wk (A.take j) s else wk (A.take j) s ++ [x] := by
  unfold wk
  rw [List.take_add_one, h, List.filter_append]
  by_cases e : x = s
  · rw [if_pos e]; simp [e]
  · rw [if_neg e]; simp [e]
end Go.Proofs.Ytpjcpikafpnmpaa
