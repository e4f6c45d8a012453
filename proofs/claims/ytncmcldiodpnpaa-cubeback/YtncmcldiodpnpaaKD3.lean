/- CubeBack: a list of rows of bits, grown by append. -/
import Derived.Test.YtncmcldiodpnpaaKD2
import Derived.Laws.AppendOwnNone
namespace Go.Proofs.Ytncmcldiodpnpaa
open Go.RowKit Go.Shelf

theorem info_bitsK : (Try.prog.info? 26).map (fun i => (i.zero, i.size, i.bytes)) = some (some (.agg #[.int .i64 0, .slice none 0 0]), 2, 32) := by kernel_rfl
theorem und_bitssK : Try.prog.underlying 53 = some (.slice 26) := by kernel_rfl
theorem own_keepD {w w' : World} {base : Nat} {e : TypeId} {size : Nat} {v : Value} {n : Nat} {xs : List Value} (h : w.ownsRow base e size v n xs) (hb : Below w.heap.size w w') : w'.ownsRow base e size v n xs :=
  h.kept (row := none) ⟨hb.os, hb.tape, hb.output, hb.size, fun k hk _ => hb.block k hk⟩ (by cases v.ownBlock <;> simp)
theorem grown_belowD {base : Nat} {e : TypeId} {size n : Nat} {v : Value} {xs : List Value} {w w' : World} {o : Obj} (hown : w.ownsRow base e size v n xs) (hb : base ≤ w.heap.size) (hg : (w.alloc o).grownBy w' v.ownBlock) : Below base w w' :=
  (((Below.refl base w).alloc hb o)).grown hg (by simp; omega) (fun q hq => (hown.lt q hq).1)
theorem own_neD {w : World} {base base' : Nat} {e t : TypeId} {size size' n n' : Nat} {v v' : Value} {xs xs' : List Value} (h : w.ownsRow base e size v n xs) (h' : w.ownsRow base' t size' v' n' xs') (ht : e ≠ t) : v.ownBlock = none ∨ v.ownBlock ≠ v'.ownBlock := by
  rcases h.2 with ⟨rfl, _⟩ | ⟨g, cap, cur, rfl, _, hg, _⟩
  · left; rfl
  · rcases h'.2 with ⟨rfl, _⟩ | ⟨g', cap', cur', rfl, _, hg', _⟩
    · right; simp [Value.ownBlock]
    · right
      intro e1
      simp [Value.ownBlock] at e1
      subst e1
      rw [hg] at hg'
      injection hg' with hg'
      injection hg' with _ h2 _
      exact ht h2
theorem own_otherD {w w' : World} {base base' : Nat} {e t : TypeId} {size size' n n' : Nat} {v v' : Value} {xs xs' : List Value} {o : Obj} (h : w.ownsRow base e size v n xs) (h' : w.ownsRow base' t size' v' n' xs') (ht : e ≠ t) (hg : (w.alloc o).grownBy w' v'.ownBlock) : w'.ownsRow base e size v n xs := by
  refine (h.alloc o).kept hg ?_
  rcases own_neD h h' ht with e1 | e1
  · rw [e1]; cases v'.ownBlock <;> simp
  · cases e2 : v.ownBlock with
    | none => simp
    | some k => rw [e2] at e1; simpa using e1
theorem own_formsD {w : World} {base : Nat} {e : TypeId} {size : Nat} {v : Value} {n : Nat} {xs : List Value} (h : w.ownsRow base e size v n xs) : (v = .slice none 0 0 ∧ n = 0) ∨ ∃ g cap, v = .slice (some ⟨g, 0, none⟩) n cap ∧ n ≤ cap ∧ cap ≤ maxLen := by
  rcases h.2 with ⟨rfl, h0⟩ | ⟨g, cap, cur, rfl, _, _, h4, h5, _⟩
  · exact .inl ⟨rfl, h0⟩
  · exact .inr ⟨g, cap, rfl, h4, h5⟩
theorem add_atD (g j : Nat) : (⟨g, 0, none⟩ : Addr).add j = ⟨g, j, none⟩ := by
  rcases j with _ | j <;> simp [Addr.add]
theorem own_atD {w : World} {base : Nat} {e : TypeId} {size g n m cap : Nat} {xs : List Value} (h : w.ownsRow base e size (.slice (some ⟨g, 0, none⟩) m cap) n xs) {j : Nat} {u : Value} (hj : xs[j]? = some u) : w.cell? ⟨g, j, none⟩ = some u := by
  have := h.cells (g := g) rfl j u hj
  rw [add_atD] at this
  exact this
/-- Rows of bits as cells: their blocks and rooms. -/
def bcs (C d : Nat) (l : List (Nat × Nat)) : List Value := l.flatMap fun x => [.int .i64 (C : Nat), .slice (some ⟨x.1, 0, none⟩) d x.2]
theorem bcs_at (C d : Nat) (l : List (Nat × Nat)) : ∀ i (h : i < l.length), (bcs C d l)[i * 2]? = some (.int .i64 (C : Nat)) ∧ (bcs C d l)[i * 2 + 1]? = some (.slice (some ⟨l[i].1, 0, none⟩) d l[i].2) := by
  induction l with
  | nil => intro i h; simp at h
  | cons x l ih =>
    intro i h
    have e : bcs C d (x :: l) = [.int .i64 (C : Nat), .slice (some ⟨x.1, 0, none⟩) d x.2] ++ bcs C d l := by simp [bcs]
    rcases i with _ | i
    · rw [e]; exact ⟨rfl, rfl⟩
    · obtain ⟨h0, h1⟩ := ih i (by simp at h; omega)
      rw [e]
      have sh : ∀ k : Nat, ([.int .i64 (C : Nat), .slice (some ⟨x.1, 0, none⟩) d x.2] ++ bcs C d l)[(i + 1) * 2 + k]? = (bcs C d l)[i * 2 + k]? := fun k => by
        rw [List.getElem?_append_right (by simp; omega)]
        congr 1
        simp; omega
      have s0 := sh 0
      rw [Nat.add_zero, Nat.add_zero] at s0
      rw [s0, sh 1]
      exact ⟨h0, h1⟩
def bco (C d G K : Nat) : Obj := .cells #[.int .i64 (C : Nat), .slice (some ⟨G, 0, none⟩) d K] 26
theorem appBg {ops : Array Oper} {rest : List Oper} {o : Oper} {a : Act} {Q : Exit → Act → World → Prop} {w : World} (hgd : o.guard = none) (s x : Operand)
    (ho : o.op = .call { callee := .builtin .append, args := #[s, x], argTypes := #[53, 53] }) (base : Nat) (v : Value) (C d : Nat) (l : List (Nat × Nat)) (hs : a.eval s = v) (hown : w.ownsRow base 26 2 v l.length (bcs C d l))
    (G K : Nat) (hx : a.eval x = .slice (some ⟨w.heap.size, 0, none⟩) 1 1) (hM : l.length ≤ 16777216) (hb : base ≤ w.heap.size)
    (h : ∀ v' w', w'.ownsRow base 26 2 v' (l ++ [(G, K)]).length (bcs C d (l ++ [(G, K)])) → (w.alloc (bco C d G K)).grownBy w' v.ownBlock → wpList Try.prog ops Q rest (a.put o.dst v') w') : wpList Try.prog ops Q (o :: rest) a (w.alloc (bco C d G K)) := by
  obtain ⟨i0, hi, hz0, hz1, hz2⟩ := info_parts info_bitsK
  have r := row_new w C (some ⟨G, 0, none⟩) d K 26
  refine wpList_append_own _ hgd s x _ ho base 26 i0 _ 2 32 und_bitssK hi hz0 hz1 hz2 rfl (by decide) v l.length (bcs C d l) hs (hown.alloc _) ⟨w.heap.size, 0, none⟩ 1 1 [.int .i64 (C : Nat), .slice (some ⟨G, 0, none⟩) d K] hx rfl
    (fun j u h => by
      rcases j with _ | _ | j
      · simp at h; subst h; exact sf_len r
      · simp at h; subst h; exact sf_ws r
      · simp at h) (fun u hu => by simp at hu; rcases hu with rfl | rfl <;> rfl) (by unfold maxLen; omega) (by omega) (by simp; omega) ?_
  intro v' w' h1 h2 _
  refine h v' w' ?_ h2
  rw [List.length_append]
  unfold bcs at *
  rw [List.flatMap_append]
  exact h1
/-- The places that are asked so far. -/
structure Pb (w wr : World) (u : Value) (l : List (Nat × Nat)) (C d N : Nat) : Prop where
  o : wr.ownsRow w.heap.size 26 2 u l.length (bcs C d l)
  r : ∀ i (h : i < l.length), ∃ b, wr.ownsRow b 75 1 (.slice (some ⟨l[i].1, 0, none⟩) d l[i].2) d (wl (pl N d i) d)
  b : Below w.heap.size w wr
theorem Pb.nil (w : World) (C d N : Nat) : Pb w w (.slice none 0 0) [] C d N := ⟨World.ownsRow_nil _ _ _ _, fun i h => absurd h (by simp), Below.refl _ _⟩
theorem Pb.keep {w wr w1 : World} {u : Value} {l : List (Nat × Nat)} {C d N : Nat} (h : Pb w wr u l C d N) (hb : Below wr.heap.size wr w1) : Pb w w1 u l C d N :=
  ⟨own_keepD h.o hb, fun i hi => by obtain ⟨b, q⟩ := h.r i hi; exact ⟨b, own_keepD q hb⟩, bl_step h.b hb⟩
theorem Pb.push {w wr w' : World} {u v' : Value} {l : List (Nat × Nat)} {C d N G K b i : Nat} (h : Pb w wr u l C d N) (hi : l.length = i) (q : wr.ownsRow b 75 1 (.slice (some ⟨G, 0, none⟩) d K) d (wl (pl N d i) d))
    (hown : w'.ownsRow w.heap.size 26 2 v' (l ++ [(G, K)]).length (bcs C d (l ++ [(G, K)]))) (hg : (wr.alloc (bco C d G K)).grownBy w' u.ownBlock) : Pb w w' v' (l ++ [(G, K)]) C d N := by
  refine ⟨hown, fun j hj => ?_, h.b.trans (grown_belowD h.o h.b.size hg)⟩
  by_cases hjl : j < l.length
  · rw [List.getElem_append_left hjl]
    obtain ⟨b, q⟩ := h.r j hjl
    exact ⟨b, own_otherD q h.o (by decide) hg⟩
  · have e1 : j = l.length := by simp at hj; omega
    subst e1
    rw [List.getElem_append_right (Nat.le_refl _)]
    simp only [Nat.sub_self, List.getElem_cons_zero]
    rw [hi]
    exact ⟨b, own_otherD q h.o (by decide) hg⟩
/-- All of them, for Join. -/
theorem Pb.js {w wr : World} {u : Value} {l : List (Nat × Nat)} {C d N P : Nat} (h : Pb w wr u l C d N) (hl : l.length = P) (hP : 0 < P) (hd : nw C = d) (hC : C ≤ 4096) (hp : Pok P C N) :
    ∃ g cap, u = .slice (some ⟨g, 0, none⟩) P cap ∧ Js wr g P (fun _ => C) (fun i => pl N d i) (fun i => some ⟨(l.getD i (0, 0)).1, 0, none⟩) (fun i => (l.getD i (0, 0)).2) := by
  rcases own_formsD h.o with ⟨rfl, h0⟩ | ⟨g, cap, rfl, _, _⟩
  · omega
  · subst hl hd
    refine ⟨g, cap, rfl, fun j hj => own_atD h.o (bcs_at C _ l j hj).1, fun j hj => ?_, fun j hj => ?_, fun j hj => hp j hj, fun j _ => by show C ≤ _; omega⟩
    · have := own_atD h.o (bcs_at C (nw C) l j hj).2
      rw [this, List.getD_eq_getElem?_getD, List.getElem?_eq_getElem hj]
      rfl
    · obtain ⟨b, q⟩ := h.r j hj
      refine ⟨pl_lt _ _ _, fun _ => ⟨l[j].1, ?_, fun k hk => own_atD q (wl_at hk)⟩⟩
      rw [List.getD_eq_getElem?_getD, List.getElem?_eq_getElem hj]
      rfl
end Go.Proofs.Ytncmcldiodpnpaa
