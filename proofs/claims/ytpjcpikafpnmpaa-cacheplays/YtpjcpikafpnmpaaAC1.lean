/- The document's cache in memory: its entries. -/
import Derived.Test.YtpjcpikafpnmpaaAK31
namespace Go.Proofs.Ytpjcpikafpnmpaa
open Go.RowKit

/-- An entry: its key, its numbers (where they lie), the number that goes with them. -/
structure Re where
  k : ByteArray
  v : Value
  l : List Int
  a : Int
def rcE (R : List Re) : List En := R.map fun x => (x.k, x.l, x.a)
abbrev rce (x : Re) : List Value := [.string x.k, x.v, .int .i64 x.a]
def rcs (R : List Re) : List Value := R.flatMap rce
theorem rcs_len (R : List Re) : (rcs R).length = R.length * 3 := by
  induction R with
  | nil => rfl
  | cons x R ih =>
    have : rcs (x :: R) = rce x ++ rcs R := rfl
    rw [this, List.length_append, ih]
    simp
    omega
theorem rcs_app (A B : List Re) : rcs (A ++ B) = rcs A ++ rcs B := by simp [rcs]
theorem rcs_take (R : List Re) (n : Nat) : rcs (R.take n) = (rcs R).take (n * 3) := by
  by_cases h : n ≤ R.length
  · have e := List.take_append_drop n R
    conv => rhs; rw [← e, rcs_app]
    rw [List.take_left' (by rw [rcs_len, List.length_take]; omega)]
  · rw [List.take_of_length_le (by omega), List.take_of_length_le (by rw [rcs_len]; omega)]
theorem rcs_at {R : List Re} {i : Nat} {x : Re} (h : R[i]? = some x) (j : Nat) (hj : j < 3) : (rcs R)[i * 3 + j]? = (rce x)[j]? := by
  have hi : i < R.length := (List.getElem?_eq_some_iff.1 h).1
  have e : R = R.take i ++ x :: R.drop (i + 1) := by
    have h1 := List.take_append_drop i R
    rw [List.drop_eq_getElem_cons hi] at h1
    have h2 : R[i] = x := (List.getElem?_eq_some_iff.1 h).2
    rw [h2] at h1
    exact h1.symm
  have hl : (rcs (R.take i)).length = i * 3 := by rw [rcs_len, List.length_take]; omega
  rw [e, rcs_app, List.getElem?_append_right (by omega), hl, show i * 3 + j - i * 3 = j by omega]
  show (rce x ++ rcs (R.drop (i + 1)))[j]? = _
  rw [List.getElem?_append_left (by simpa using hj)]
/-- The cache's own four cells. -/
def rcf (rm : Int) (v : Value) (h m : Int) : Nat → Value
  | 0 => .int .i64 rm
  | 1 => v
  | 2 => .int .i64 h
  | _ => .int .i64 m
/-- Entries in memory of their own. -/
structure El (w : World) (T : Nat → Prop) (base : Nat) (v : Value) (R : List Re) : Prop where
  own : w.ownsRow base 99 3 v R.length (rcs R)
  lg : ∀ x ∈ R, Ow w 0 x.v x.l
  sv : ∀ g, v.ownBlock = some g → T g
  sl : ∀ x ∈ R, ∀ g, x.v.ownBlock = some g → T g
/-- The whole cache. -/
structure Rv (w : World) (T : Nat → Prop) (d : Nat) (rm h m : Int) (v : Value) (R : List Re) : Prop where
  box : w.rowIs d 94 4 (rcf rm v h m)
  el : El w T 0 v R
  sd : T d
theorem own_block {w w' : World} {M T k n : Nat} {v : Value} {xs : List Value} (h : w.ownsRow M T k v n xs) (hk : ∀ b, v.ownBlock = some b → w'.heap[b]? = w.heap[b]?) : w'.ownsRow M T k v n xs := by
  refine ⟨h.1, ?_⟩
  rcases h.2 with h0 | ⟨g, cap, cur, rfl, h1, h2, h3⟩
  · exact .inl h0
  · exact .inr ⟨g, cap, cur, rfl, h1, (hk g rfl).trans h2, h3⟩
theorem own_base {w : World} {M M' T k n : Nat} {v : Value} {xs : List Value} (h : w.ownsRow M T k v n xs) (hM : M' ≤ M) : w.ownsRow M' T k v n xs := by
  refine ⟨h.1, ?_⟩
  rcases h.2 with h0 | ⟨g, cap, cur, rfl, h1, h2, h3⟩
  · exact .inl h0
  · exact .inr ⟨g, cap, cur, rfl, Nat.le_trans hM h1, h2, h3⟩
theorem El.block {w w' : World} {T : Nat → Prop} {base : Nat} {v : Value} {R : List Re} (h : El w T base v R) (hk : ∀ k, T k → k < w.heap.size → w'.heap[k]? = w.heap[k]?) : El w' T base v R :=
  ⟨own_block h.own fun b e => hk b (h.sv b e) (h.own.lt b e).2, fun x hx => (h.lg x hx).block fun b e => hk b (h.sl x hx b e) ((h.lg x hx).lt b e).2, h.sv, h.sl⟩
theorem El.below {w w' : World} {T : Nat → Prop} {base : Nat} {v : Value} {R : List Re} (h : El w T base v R) (hb : Below w.heap.size w w') : El w' T base v R := h.block fun k _ hl => hb.block k hl
theorem El.more {w : World} {T T' : Nat → Prop} {base base' : Nat} {v : Value} {R : List Re} (h : El w T base v R) (hT : ∀ k, T k → T' k) (hb : base' ≤ base) : El w T' base' v R :=
  ⟨own_base h.own hb, h.lg, fun g e => hT g (h.sv g e), fun x hx g e => hT g (h.sl x hx g e)⟩
theorem Rv.block {w w' : World} {T : Nat → Prop} {d : Nat} {rm h m : Int} {v : Value} {R : List Re} (r : Rv w T d rm h m v R) (hk : ∀ k, T k → k < w.heap.size → w'.heap[k]? = w.heap[k]?) : Rv w' T d rm h m v R :=
  ⟨r.box.of_block (hk d r.sd r.box.lt), r.el.block hk, r.sd⟩
theorem Rv.below {w w' : World} {T : Nat → Prop} {d : Nat} {rm h m : Int} {v : Value} {R : List Re} (r : Rv w T d rm h m v R) (hb : Below w.heap.size w w') : Rv w' T d rm h m v R := r.block fun k _ hl => hb.block k hl
theorem Rv.bp {w w' : World} {T S : Nat → Prop} {d : Nat} {rm h m : Int} {v : Value} {R : List Re} (r : Rv w T d rm h m v R) (hb : BP S w w') (hS : ∀ k, T k → ¬ S k) : Rv w' T d rm h m v R := r.block fun k hk hl => hb.block k hl (hS k hk)
/-- A store into the cache's own cells. -/
theorem El.setd {w : World} {T : Nat → Prop} {base : Nat} {v : Value} {R : List Re} (e : El w T base v R) {d n : Nat} {f : Nat → Value} (r : w.rowIs d 94 n f) (o : Nat) (u : Value) : El (w.setCell ⟨d, o, none⟩ u) T base v R := by
  refine ⟨own_block e.own fun b hb => Below.heap_setCell w ⟨d, o, none⟩ u b ?_, fun x hx => (e.lg x hx).block fun b hb => Below.heap_setCell w ⟨d, o, none⟩ u b ?_, e.sv, e.sl⟩
  · rcases e.own.2 with ⟨rfl, _⟩ | ⟨g, cap, cur, rfl, h1, h2, _⟩
    · cases hb
    · injection hb with hb; subst hb
      rintro rfl
      obtain ⟨c, h3, _⟩ := r
      rw [h2] at h3
      injection h3 with h3
      injection h3 with _ h3 _
      exact absurd h3 (by decide)
  · rcases (e.lg x hx).form with ⟨e, _⟩ | ⟨g', cap, f, e, _, row, _⟩
    · rw [e] at hb; cases hb
    · rw [e] at hb; injection hb with hb; subst hb
      exact row_ne row r (by decide)
/-- Where an entry lies. -/
theorem El.sl_at {w : World} {T : Nat → Prop} {base : Nat} {v : Value} {R : List Re} (h : El w T base v R) : ∃ ao cap, v = .slice ao R.length cap ∧ R.length ≤ cap ∧ (ao = none → R = []) ∧ ∀ (i : Nat) (x : Re), R[i]? = some x → ∃ g bo bn bc, ao = some ⟨g, 0, none⟩ ∧ T g ∧ x.v = .slice bo bn bc ∧ w.cell? ⟨g, i * 3, none⟩ = some (.string x.k) ∧ w.cell? ⟨g, i * 3 + 1, none⟩ = some (.slice bo bn bc) ∧ w.cell? ⟨g, i * 3 + 2, none⟩ = some (.int .i64 x.a) := by
  rcases h.own.2 with ⟨rfl, h0⟩ | ⟨g, cap, cur, rfl, h1, h2, h3, h4, h5, h6⟩
  · have : R = [] := List.length_eq_zero_iff.1 h0
    subst this
    exact ⟨none, 0, rfl, Nat.le_refl _, fun _ => rfl, fun i x hi => by simp at hi⟩
  · refine ⟨_, cap, rfl, h3, (fun e => by cases e), fun i x hi => ?_⟩
    have hil : i < R.length := (List.getElem?_eq_some_iff.1 hi).1
    obtain ⟨bo, bc, ev, _⟩ := (h.lg x (List.mem_of_getElem? hi)).nm
    refine ⟨g, bo, _, bc, rfl, h.sv g rfl, ev, ?_⟩
    have at_ : ∀ j, j < 3 → ∀ u, (rce x)[j]? = some u → w.cell? ⟨g, i * 3 + j, none⟩ = some u := fun j hj u hu => by
      have e := rcs_at hi j hj
      rw [hu, ← h6, List.getElem?_take_of_lt (by omega), Array.getElem?_toList] at e
      simp [World.cell?, h2, e]
    exact ⟨at_ 0 (by omega) _ rfl, by rw [← ev]; exact at_ 1 (by omega) _ rfl, at_ 2 (by omega) _ rfl⟩
theorem info_ent : (Try.prog.info? 99).map (fun i => (i.zero, i.size, i.bytes)) = some (some (.agg #[.string ⟨#[]⟩, .slice none 0 0, .int .i64 0]), 3, 48) := by kernel_rfl
theorem und_ents : Try.prog.underlying 92 = some (.slice 99) := Try.underlying92
/-- 'append' of an entry. -/
theorem app_ent {ops : Array Oper} {rest : List Oper} {o : Oper} {a : Act} {Q : Exit → Act → World → Prop} {w : World} (hgd : o.guard = none) (s x : Operand)
    (ho : o.op = .call { callee := .builtin .append, args := #[s, x], argTypes := #[92, 92] }) (M : Nat) (v : Value) (R : List Re) (hs : a.eval s = v) (hown : w.ownsRow M 99 3 v R.length (rcs R))
    (b : Nat) (hx : a.eval x = .slice (some ⟨b, 0, none⟩) 1 1) (y : Re) (bo : Option Addr) (bn bc : Nat) (hy : y.v = .slice bo bn bc) (c0 : w.cell? ⟨b, 0, none⟩ = some (.string y.k)) (c1 : w.cell? ⟨b, 1, none⟩ = some (.slice bo bn bc)) (c2 : w.cell? ⟨b, 2, none⟩ = some (.int .i64 y.a)) (hM : R.length ≤ 100000) (hb : M ≤ w.heap.size)
    (h : ∀ v' w', w'.ownsRow M 99 3 v' (R ++ [y]).length (rcs (R ++ [y])) → w.grownBy w' v.ownBlock → wpList Try.prog ops Q rest (a.put o.dst v') w') : wpList Try.prog ops Q (o :: rest) a w := by
  obtain ⟨i0, hi, hz0, hz1, hz2⟩ := info_parts info_ent
  refine wpList_append_own w hgd s x _ ho M 99 i0 _ 3 48 und_ents hi hz0 hz1 hz2 rfl (by decide) v R.length (rcs R) hs hown ⟨b, 0, none⟩ 1 1 (rce y) hx (by simp)
    (fun j u hu => ?_) (fun u hu => ?_) (by unfold maxLen; omega) (by omega) hb ?_
  · rcases j with _ | _ | _ | j
    · simp at hu; subst hu; simpa [Addr.add] using c0
    · simp at hu; subst hu; rw [hy]; simpa [Addr.add] using c1
    · simp at hu; subst hu; simpa [Addr.add] using c2
    · simp at hu
  · simp at hu
    rcases hu with rfl | rfl | rfl
    · rfl
    · rw [hy]; rfl
    · rfl
  · intro v' w' h1 h2 _
    refine h v' w' ?_ h2
    rw [List.length_append, rcs_app]
    exact h1
end Go.Proofs.Ytpjcpikafpnmpaa
