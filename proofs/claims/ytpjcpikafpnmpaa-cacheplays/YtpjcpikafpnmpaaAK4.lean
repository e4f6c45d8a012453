/- CACHE: numbers in memory of their own; own. -/
import Derived.Test.YtpjcpikafpnmpaaAK3
namespace Go.Proofs.Ytpjcpikafpnmpaa
open Go.RowKit

/-- Numbers as values. -/
abbrev iv (l : List Int) : List Value := l.map fun x => .int .i64 x
theorem iv_at {l : List Int} {j : Nat} {u : Value} (h : (iv l)[j]? = some u) : ∃ x, l[j]? = some x ∧ u = .int .i64 x := by
  simp only [iv, List.getElem?_map, Option.map_eq_some_iff] at h
  obtain ⟨x, h1, h2⟩ := h
  exact ⟨x, h1, h2.symm⟩
/-- 'append' of numbers that lie anywhere to nothing. -/
theorem app_nilI {ops : Array Oper} {rest : List Oper} {o : Oper} {a : Act} {Q : Exit → Act → World → Prop} {w : World} (hgd : o.guard = none) (s x : Operand)
    (ho : o.op = .call { callee := .builtin .append, args := #[s, x], argTypes := #[29, 29] }) (hs : a.eval s = .slice none 0 0)
    (ao : Option Addr) (cap : Nat) (l : List Int) (hx : a.eval x = .slice ao l.length cap) (hc : ao = none → cap = 0) (hr : Nm w ao l) (hM : l.length * 8 ≤ 140737488355328)
    (h : ∀ v' w', w'.ownsRow w.heap.size 2 1 v' l.length (iv l) → Below w.heap.size w w' → wpList Try.prog ops Q rest (a.put o.dst v') w') : wpList Try.prog ops Q (o :: rest) a w := by
  obtain ⟨i0, hi, hz0, hz1, hz2⟩ := info_parts info_i64
  cases ao with
  | none =>
    obtain rfl := hc rfl
    have h0 : l.length = 0 := by
      rcases Nat.eq_zero_or_pos l.length with h0 | h0
      · exact h0
      · obtain ⟨g, o', e, _⟩ := hr.at h0
        cases e
    obtain rfl : l = [] := List.length_eq_zero_iff.1 h0
    exact wpList_append_own_none hgd s x _ ho w.heap.size 2 i0 1 und_i64s hi (.slice none 0 0) 0 [] hs (World.ownsRow_nil _ _ _ _) hx (h _ _ (World.ownsRow_nil _ _ _ _) (Below.refl _ _))
  | some ad =>
    refine wpList_append_own w hgd s x _ ho w.heap.size 2 i0 (.int .i64 0) 1 8 und_i64s hi hz0 hz1 hz2 rfl (by decide) (.slice none 0 0) 0 [] hs (World.ownsRow_nil _ _ _ _) ad l.length cap (iv l) hx (by simp)
      (fun j u hu => ?_) (fun u hu => ?_) (by unfold maxLen; omega) (by omega) (Nat.le_refl _) ?_
    · obtain ⟨y, hy, rfl⟩ := iv_at hu
      obtain ⟨g, o', e, c⟩ := hr j y hy
      obtain rfl : ad = ⟨g, o', none⟩ := Option.some.inj e
      by_cases h0 : j = 0
      · subst h0; exact c
      · simp [Addr.add, h0, c]
    · obtain ⟨j, hj, rfl⟩ := List.mem_map.1 hu
      rfl
    · intro v' w' h1 h2 _
      rw [Nat.zero_add, List.nil_append] at h1
      exact h v' w' h1 ((Below.refl _ _).grown h2 (Nat.le_refl _) (fun _ e => by cases e))
/-- Numbers in memory of their own: nothing, or the front of a block. -/
def Ow (w : World) (base : Nat) (v : Value) (l : List Int) : Prop := w.ownsRow base 2 1 v l.length (iv l)
theorem Ow.form {w : World} {base : Nat} {v : Value} {l : List Int} (h : Ow w base v l) : (v = .slice none 0 0 ∧ l = []) ∨ ∃ g cap f, v = .slice (some ⟨g, 0, none⟩) l.length cap ∧ base ≤ g ∧ w.rowIs g 2 cap f ∧ l.length ≤ cap ∧ cap ≤ maxLen ∧ ∀ (j : Nat) (x : Int), l[j]? = some x → f j = .int .i64 x := by
  rcases h.2 with ⟨rfl, h0⟩ | ⟨g, cap, cur, hv, hb, hg, h4, h5, h6, h7⟩
  · exact .inl ⟨rfl, List.length_eq_zero_iff.1 h0⟩
  · refine .inr ⟨g, cap, fun k => cur[k]?.getD undef, hv, hb, ⟨cur, hg, by omega, fun i hi => ?_⟩, h4, h5, fun j x hj => ?_⟩
    · simp [Array.getElem?_eq_getElem (show i < cur.size by omega)]
    · have hjl : j < l.length := (List.getElem?_eq_some_iff.1 hj).1
      have e : (iv l)[j]? = some (.int .i64 x) := by simp [iv, hj]
      rw [← h7, Nat.mul_one, List.getElem?_take_of_lt hjl] at e
      show cur[j]?.getD undef = _
      rw [← Array.getElem?_toList, e]; rfl
theorem Ow.nm {w : World} {base : Nat} {v : Value} {l : List Int} (h : Ow w base v l) : ∃ ao cap, v = .slice ao l.length cap ∧ (ao = none → cap = 0) ∧ Nm w ao l ∧ v.ownBlock = ao.map (·.block) := by
  rcases h.form with ⟨rfl, rfl⟩ | ⟨g, cap, f, rfl, hb, r, h1, h2, h3⟩
  · exact ⟨none, 0, rfl, fun _ => rfl, Nm.nil _ _, rfl⟩
  · refine ⟨_, cap, rfl, (fun e => by cases e), fun j x hj => ?_, rfl⟩
    have hjl : j < l.length := (List.getElem?_eq_some_iff.1 hj).1
    exact ⟨g, 0, rfl, by rw [Nat.zero_add, r.cell (show j < cap by omega), h3 j x hj]⟩
theorem Ow.block {w w' : World} {base : Nat} {v : Value} {l : List Int} (h : Ow w base v l) (hk : ∀ b, v.ownBlock = some b → w'.heap[b]? = w.heap[b]?) : Ow w' base v l := by
  refine ⟨h.1, ?_⟩
  rcases h.2 with h0 | ⟨g, cap, cur, rfl, h1, h2, h3⟩
  · exact .inl h0
  · exact .inr ⟨g, cap, cur, rfl, h1, (hk g rfl).trans h2, h3⟩
theorem Ow.lt {w : World} {base : Nat} {v : Value} {l : List Int} (h : Ow w base v l) : ∀ b, v.ownBlock = some b → base ≤ b ∧ b < w.heap.size := fun b hb => by
  rcases h.form with ⟨rfl, rfl⟩ | ⟨g, cap, f, rfl, h1, r, _⟩
  · cases hb
  · injection hb with hb; subst hb; exact ⟨h1, r.lt⟩
theorem Ow.below {w w' : World} {base : Nat} {v : Value} {l : List Int} (h : Ow w base v l) (hb : Below w.heap.size w w') : Ow w' base v l := h.block fun b e => hb.block b (h.lt b e).2
theorem Ow.base {w : World} {base base' : Nat} {v : Value} {l : List Int} (h : Ow w base v l) (hb : base' ≤ base) : Ow w base' v l := by
  refine ⟨h.1, ?_⟩
  rcases h.2 with h0 | ⟨g, cap, cur, rfl, h1, h2, h3⟩
  · exact .inl h0
  · exact .inr ⟨g, cap, cur, rfl, Nat.le_trans hb h1, h2, h3⟩
/-- A Result. -/
abbrev rsv (v : Value) (a : Int) : Value := .agg #[v, .int .i64 a]
/-- Its two cells. -/
def rf (v : Value) (a : Int) : Nat → Value
  | 0 => v
  | _ => .int .i64 a
theorem rf_new (w : World) (v : Value) (a : Int) : (w.alloc (.cells #[v, .int .i64 a] 31)).rowIs w.heap.size 31 2 (rf v a) :=
  World.rowIs_alloc w #[v, .int .i64 a] _ _ (fun i hi => by rcases i with _ | _ | i <;> first | rfl | (simp at hi; omega))
set_option maxHeartbeats 800000 in
set_option maxRecDepth 100000 in
theorem own_any (ao : Option Addr) (cap : Nat) (l : List Int) (a : Int) (w : World) (hc : ao = none → cap = 0) (hr : Nm w ao l) (hM : l.length * 8 ≤ 140737488355328) :
    Calls Try.prog 31 #[rsv (.slice ao l.length cap) a] w fun e w' => ∃ v, e = .returned (rsv v a) ∧ Ow w' w.heap.size v l ∧ Below w.heap.size w w' := by
  have HR := hid1 hr
  have HM := hid1 hM
  have HC := hid1 hc
  clear hr hM hc
  obtain ⟨n, hn⟩ : ∃ n, l.length = n := ⟨_, rfl⟩
  have HN := hid1 hn
  rw [hn]
  clear hn
  go_enter Try.func31, Try.ntmps31
  go_upto_region 1 with fail
  refine gen_world (fun X => X.rowIs w.heap.size 31 2 (rf (.slice ao n cap) a) ∧ X.rowIs (w.heap.size + 1) 31 2 (rf (.slice none 0 0) 0) ∧ Below w.heap.size w X) ⟨(rf_new w _ a).alloc _, by have := rf_new (w.alloc (.cells #[.slice ao n cap, .int .i64 a] 31)) (.slice none 0 0) 0; rwa [World.size_alloc] at this, bl_alloc (bl_alloc (Below.refl _ _) _) _⟩ ?_
  rintro X ⟨b0, b1, BX⟩
  have c0 := b0.cell (i := 0) (by omega)
  have c1 := b0.cell (i := 1) (by omega)
  have HB0 := hid1 b0
  have HB1 := hid1 b1
  have RX := hid1 (HR.out.below BX)
  have HBX := hid1 BX
  dsimp only [rf] at c0 c1
  clear b0 b1 BX
  go_wp2_with (at_builtin; refine app_nilI rfl _ _ rfl (by go_simp) ao cap l (by rw [HN.out]; go_simp) HC.out RX.out HM.out ?_; rw [HN.out]; intro v' X2 ow2 B2; obtain ⟨bo, K, ev, -, -, hob⟩ := Ow.nm (l := l) (by unfold Ow; rw [HN.out]; exact ow2); rw [HN.out] at ev; subst ev; have HOW := hid1 ow2; have HOB := hid1 hob; clear ow2 hob; have d0 := keepc B2 c0; have d1 := keepc B2 c1; have hx2 := keepr B2 HB1.out; have g0 := (keepr B2 HB0.out).frozen 0; have e0 := hx2.cell (i := 0) (by omega); have e1 := hx2.cell (i := 1) (by omega); have k0 := hx2.frozen 0; have k1 := hx2.frozen 1; have z2 := hx2.lt; have z1 := (keepr B2 HB0.out).lt; dsimp only [rf] at e0 e1)
  have o1 := HOW.out
  rw [← HN.out] at o1
  have hX := HBX.out.size
  have o2 : Ow X2 w.heap.size (.slice bo l.length K) l := (show Ow X2 X.heap.size (.slice bo l.length K) l from o1).base hX
  have z3 : w.heap.size + 1 < X.heap.size := HB1.out.lt
  have hne : ∀ b, (Value.slice bo l.length K).ownBlock = some b → b ≠ w.heap.size ∧ b ≠ w.heap.size + 1 := fun b hb => by
    have := (show Ow X2 X.heap.size (.slice bo l.length K) l from o1).lt b hb
    omega
  refine bodyPost_ret (v := rsv (.slice bo n K) a) (by simp [results, Try.results31, go_sem, e0, e1]) rfl ⟨_, rfl, ?_, ?_⟩
  · rw [HN.out] at o2 hne
    refine o2.block fun b hb => ?_
    have h1 := hne b hb
    rw [Below.heap_setCell _ _ _ _ (show b ≠ w.heap.size + 1 from h1.2), Below.heap_setCell _ _ _ _ (show b ≠ w.heap.size + 1 from h1.2), Below.heap_setCell _ _ _ _ (show b ≠ w.heap.size from h1.1)]
  · exact bl_set (bl_set (bl_set (bl_step HBX.out B2) (Nat.le_refl _) _) (Nat.le_succ _) _) (Nat.le_succ _) _
end Go.Proofs.Ytpjcpikafpnmpaa
