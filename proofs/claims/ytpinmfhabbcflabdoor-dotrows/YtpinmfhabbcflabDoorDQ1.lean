/- Words of one's own, with marks behind them; sameWords; the Room. -/
import Derived.Test.YtpinmfhabbcflabDoorDR3
import Derived.Maps.AppendAt
import Derived.Deep.RegionLaw
namespace Go.Proofs.YtpinmfhabbcflabDoor
open Go.RowKit

/-- What stands at a place of a twin: a word, or a mark. -/
def eW (b : Bt) (k : Nat) : Value := if k < b.m then wf b.N k else .int .u64 ((77 + (k - b.m) : Nat) : Int)
def el (b : Bt) (n : Nat) : List Value := (List.range n).map (eW b)
theorem el_len (b : Bt) (n : Nat) : (el b n).length = n := by simp [el]
theorem el_snoc (b : Bt) (n : Nat) : el b (n + 1) = el b n ++ [eW b n] := by simp [el, List.range_succ]
theorem el_at {b : Bt} {n j : Nat} (h : j < n) : (el b n)[j]? = some (eW b j) := by simp [el, h]
theorem el_get {b : Bt} {n j : Nat} {u : Value} (h : (el b n)[j]? = some u) : j < n ∧ u = eW b j := by
  have hj : j < n := by
    have := (List.getElem?_eq_some_iff.1 h).1
    rw [el_len] at this
    exact this
  rw [el_at hj] at h
  exact ⟨hj, (Option.some.inj h).symm⟩
theorem el_one {b : Bt} {n : Nat} : ∀ u ∈ el b n, u.oneCell' = true := by
  intro u hu
  unfold el at hu
  obtain ⟨x, _, rfl⟩ := List.mem_map.1 hu
  unfold eW
  split <;> rfl
theorem own_mono {w : World} {base base' : Nat} {e : TypeId} {size : Nat} {v : Value} {n : Nat} {xs : List Value} (h : w.ownsRow base e size v n xs) (hb : base' ≤ base) : w.ownsRow base' e size v n xs := by
  refine ⟨h.1, ?_⟩
  rcases h.2 with h2 | ⟨g, cap, cur, hv, hbase, h4⟩
  · exact .inl h2
  · exact .inr ⟨g, cap, cur, hv, by omega, h4⟩
/-- A row of bits that came in: it lies in memory, it is no longer than a machine's reach. -/
def Rz (w : World) (b : Bt) : Prop := Rw w b ∧ (b.ao = none → b.cap = 0) ∧ b.m ≤ 17592186043904
theorem Rz.below {w w' : World} {b : Bt} (h : Rz w b) (hb : Below w.heap.size w w') : Rz w' b := ⟨h.1.below hb, h.2⟩
theorem app_nilW {ops : Array Oper} {rest : List Oper} {o : Oper} {a : Act} {Q : Exit → Act → World → Prop} {w : World} (hgd : o.guard = none) (s x : Operand)
    (ho : o.op = .call { callee := .builtin .append, args := #[s, x], argTypes := #[29, 29] }) (hs : a.eval s = .slice none 0 0)
    (b : Bt) (hx : a.eval x = .slice b.ao b.m b.cap) (hr : Rz w b)
    (h : ∀ v' w', w'.ownsRow w.heap.size 55 1 v' b.m (el b b.m) → Below w.heap.size w w' → wpList Tryd.prog ops Q rest (a.put o.dst v') w') : wpList Tryd.prog ops Q (o :: rest) a w := by
  obtain ⟨i0, hi, hz0, hz1, hz2⟩ := info_parts info_u64
  obtain ⟨⟨_, _, hc⟩, hn, hM⟩ := hr
  obtain ⟨bn, ao, m, cap, N⟩ := b
  dsimp only at *
  cases ao with
  | none =>
    have h0 : m = 0 := by
      rcases Nat.eq_zero_or_pos m with h0 | h0
      · exact h0
      · obtain ⟨g, o', e, _⟩ := hc 0 h0
        cases e
    have h1 := hn rfl
    subst h0 h1
    exact wpList_append_own_none hgd s x _ ho w.heap.size 55 i0 1 und_u64s hi (.slice none 0 0) 0 [] hs (World.ownsRow_nil _ _ _ _) hx (h _ _ (World.ownsRow_nil _ _ _ _) (Below.refl _ _))
  | some ad =>
    refine wpList_append_own w hgd s x _ ho w.heap.size 55 i0 (.int .u64 0) 1 8 und_u64s hi hz0 hz1 hz2 rfl (by decide) (.slice none 0 0) 0 [] hs (World.ownsRow_nil _ _ _ _) ad m cap (el ⟨bn, some ad, m, cap, N⟩ m) hx (by rw [el_len]; omega)
      (fun j u hu => ?_) el_one (by unfold maxLen; omega) (by omega) (Nat.le_refl _) ?_
    · obtain ⟨hj, rfl⟩ := el_get hu
      obtain ⟨g, o', e, c⟩ := hc j hj
      obtain rfl : ad = ⟨g, o', none⟩ := Option.some.inj e
      unfold eW
      rw [if_pos (show j < m from hj)]
      by_cases h0 : j = 0
      · subst h0; exact c
      · simp [Addr.add, h0, c]
    · intro v' w' h1 h2 _
      rw [Nat.zero_add, List.nil_append] at h1
      exact h v' w' h1 ((Below.refl _ _).grown h2 (Nat.le_refl _) (fun _ e => by cases e))
theorem app_oneW {ops : Array Oper} {rest : List Oper} {o : Oper} {a : Act} {Q : Exit → Act → World → Prop} {w : World} (hgd : o.guard = none) (s x : Operand)
    (ho : o.op = .call { callee := .builtin .append, args := #[s, x], argTypes := #[29, 29] }) (base : Nat) (v : Value) (b : Bt) (n : Nat) (hs : a.eval s = v) (hown : w.ownsRow base 55 1 v n (el b n))
    (g : Nat) (y : Int) (cb : Nat) (hx : a.eval x = .slice (some ⟨g, 0, none⟩) 1 cb) (hr : w.cell? ⟨g, 0, none⟩ = some (.int .u64 y)) (hM : n ≤ 17592186044000) (hb : base ≤ w.heap.size) (hy : eW b n = .int .u64 y)
    (h : ∀ v' w', w'.ownsRow base 55 1 v' (n + 1) (el b (n + 1)) → w.grownBy w' v.ownBlock → wpList Tryd.prog ops Q rest (a.put o.dst v') w') : wpList Tryd.prog ops Q (o :: rest) a w := by
  obtain ⟨i0, hi, hz0, hz1, hz2⟩ := info_parts info_u64
  refine wpList_append_own w hgd s x _ ho base 55 i0 (.int .u64 0) 1 8 und_u64s hi hz0 hz1 hz2 rfl (by decide) v n (el b n) hs hown ⟨g, 0, none⟩ 1 cb [.int .u64 y] hx rfl
    (fun j u hu => ?_) (fun u hu => by simp at hu; subst hu; rfl) (by unfold maxLen; omega) (by omega) hb ?_
  · rcases j with _ | j
    · simp at hu; subst hu; exact hr
    · simp at hu
  · intro v' w' h1 h2 _
    exact h v' w' (by rw [el_snoc, hy]; exact h1) h2

/-- The Room's two cells. -/
def rf (vw vs : Value) : Nat → Value := fun k => if k = 0 then vw else vs
abbrev wasV (e : Bt × Value) : Value := .slice e.1.ao e.1.m e.1.cap
theorem und_uss : Tryd.prog.underlying 26 = some (.slice 29) := by kernel_rfl
theorem info_us : (Tryd.prog.info? 29).map (fun i => (i.zero, i.size, i.bytes)) = some (some (.slice none 0 0), 1, 24) := by kernel_rfl
/-- The Room at M: the twins L, with what they were. -/
def Rm (w : World) (M : Nat) (L : List (Bt × Value)) : Prop := ∃ vw vs, w.rowIs M 28 2 (rf vw vs) ∧ w.ownsRow (M + 1) 29 1 vw L.length (L.map (·.2)) ∧ w.ownsRow (M + 1) 29 1 vs L.length (L.map wasV) ∧ (vw.ownBlock = none ∨ vw.ownBlock ≠ vs.ownBlock) ∧ ∀ e ∈ L, w.ownsRow (M + 1) 55 1 e.2 (e.1.m + 20) (el e.1 (e.1.m + 20))
theorem Rm.below {w w' : World} {M : Nat} {L : List (Bt × Value)} (h : Rm w M L) (hb : Below w.heap.size w w') : Rm w' M L := by
  obtain ⟨vw, vs, h1, h2, h3, h4, h5⟩ := h
  exact ⟨vw, vs, keepr hb h1, own_keep h2 hb, own_keep h3 hb, h4, fun e he => own_keep (h5 e he) hb⟩
theorem own_row_ne {w : World} {base : Nat} {e t : TypeId} {size b n k : Nat} {v : Value} {xs : List Value} {f : Nat → Value} (h : w.ownsRow base e size v n xs) (r : w.rowIs b t k f) (ht : e ≠ t) : v.ownBlock ≠ some b := by
  rcases h.2 with ⟨rfl, _⟩ | ⟨g, cap, cur, rfl, _, hg, _⟩
  · simp [Value.ownBlock]
  · intro e1
    simp [Value.ownBlock] at e1
    subst e1
    obtain ⟨c, hc, _⟩ := r
    rw [hg] at hc
    exact ht (by injection hc with hc; injection hc)
theorem own_own_ne {w : World} {base base' : Nat} {e t : TypeId} {size size' n n' : Nat} {v v' : Value} {xs xs' : List Value} (h : w.ownsRow base e size v n xs) (h' : w.ownsRow base' t size' v' n' xs') (ht : e ≠ t) : v.ownBlock = none ∨ v.ownBlock ≠ v'.ownBlock := by
  rcases h.2 with ⟨rfl, _⟩ | ⟨g, cap, cur, rfl, _, hg, _⟩
  · left; rfl
  · rcases h'.2 with ⟨rfl, _⟩ | ⟨g', cap', cur', rfl, _, hg', _⟩
    · right; simp [Value.ownBlock]
    · right
      intro e1
      simp [Value.ownBlock] at e1
      subst e1
      rw [hg] at hg'
      exact ht (by injection hg' with hc; injection hc)
theorem row_grown {w w' : World} {base : Nat} {e t : TypeId} {size b n k : Nat} {v : Value} {xs : List Value} {f : Nat → Value} (r : w.rowIs b t k f) (hown : w.ownsRow base e size v n xs) (hg : w.grownBy w' v.ownBlock) (ht : e ≠ t) : w'.rowIs b t k f :=
  r.of_block (hg.block _ r.lt (fun e1 => own_row_ne hown r ht e1.symm))
/-- One twin more: in the list of the words .. -/
theorem rm_words {w w' : World} {M : Nat} {vw vs v v' : Value} {o : Obj} {L : List (Bt × Value)} {b : Bt} (h1 : w.rowIs M 28 2 (rf vw vs)) (h2 : w.ownsRow (M + 1) 29 1 vw L.length (L.map (·.2))) (h3 : w.ownsRow (M + 1) 29 1 vs L.length (L.map wasV)) (h4 : vw.ownBlock = none ∨ vw.ownBlock ≠ vs.ownBlock) (h5 : ∀ e ∈ L, w.ownsRow (M + 1) 55 1 e.2 (e.1.m + 20) (el e.1 (e.1.m + 20)))
    (h6 : w.ownsRow (M + 1) 55 1 v (b.m + 20) (el b (b.m + 20))) (hg : (w.alloc o).grownBy w' vw.ownBlock) (hat : v'.ownBlock = vw.ownBlock ∨ v'.ownBlock = some (w.heap.size + 1)) :
    w'.rowIs M 28 2 (rf vw vs) ∧ w'.ownsRow (M + 1) 29 1 vs L.length (L.map wasV) ∧ (v'.ownBlock = none ∨ v'.ownBlock ≠ vs.ownBlock) ∧ ∀ e ∈ L ++ [(b, v)], w'.ownsRow (M + 1) 55 1 e.2 (e.1.m + 20) (el e.1 (e.1.m + 20)) := by
  refine ⟨row_grown (h1.alloc o) (h2.alloc o) hg (by decide), (h3.alloc o).kept hg ?_, ?_, fun e he => ?_⟩
  · rcases h4 with h | h
    · rw [h]; cases vs.ownBlock <;> simp
    · exact .inr (Ne.symm h)
  · rcases hat with h | h
    · rw [h]; exact h4
    · right
      rw [h]
      intro e1
      have := h3.lt _ e1.symm
      omega
  · rcases List.mem_append.1 he with he | he
    · exact ((h5 e he).alloc o).kept hg (own_own_ne (h5 e he) h2 (by decide))
    · simp at he
      subst he
      exact (h6.alloc o).kept hg (own_own_ne h6 h2 (by decide))
end Go.Proofs.YtpinmfhabbcflabDoor
