/- A LIST OF ROWS, GROWN BY APPEND. -/
import Derived.Test.YtohkiknhjcibgaaEW2
import Derived.Laws.AppendOwnNone
import Derived.OwnWalk
import Derived.Test.YtohkiknhjcibgaaEW7
namespace Go.Proofs.Ytohkiknhjcibgaa
open Go.RowKit Go.Shelf

theorem info_rowE : (Try.prog.info? 46).map (fun i => (i.zero, i.size, i.bytes)) = some (some (.agg #[.int .i64 0, .slice none 0 0, .int .i64 0, .slice none 0 0]), 4, 64) := by kernel_rfl
theorem und_rowsE : Try.prog.underlying 32 = some (.slice 46) := by kernel_rfl
theorem own_keepE {w w' : World} {base : Nat} {e : TypeId} {size : Nat} {v : Value} {n : Nat} {xs : List Value} (h : w.ownsRow base e size v n xs) (hb : Below w.heap.size w w') : w'.ownsRow base e size v n xs :=
  h.kept (row := none) ⟨hb.os, hb.tape, hb.output, hb.size, fun k hk _ => hb.block k hk⟩ (by cases v.ownBlock <;> simp)
theorem own_formsE {w : World} {base : Nat} {e : TypeId} {size : Nat} {v : Value} {n : Nat} {xs : List Value} (h : w.ownsRow base e size v n xs) : (v = .slice none 0 0 ∧ n = 0) ∨ ∃ g cap, v = .slice (some ⟨g, 0, none⟩) n cap ∧ base ≤ g ∧ n ≤ cap ∧ cap ≤ maxLen := by
  rcases h.2 with ⟨rfl, h0⟩ | ⟨g, cap, cur, rfl, h3, _, h4, h5, _⟩
  · exact .inl ⟨rfl, h0⟩
  · exact .inr ⟨g, cap, rfl, h3, h4, h5⟩
theorem add_atE (g j : Nat) : (⟨g, 0, none⟩ : Addr).add j = ⟨g, j, none⟩ := by
  rcases j with _ | j <;> simp [Addr.add]
theorem own_atE {w : World} {base : Nat} {e : TypeId} {size g n m cap : Nat} {xs : List Value} (h : w.ownsRow base e size (.slice (some ⟨g, 0, none⟩) m cap) n xs) {j : Nat} {u : Value} (hj : xs[j]? = some u) : w.cell? ⟨g, j, none⟩ = some u := by
  have := h.cells (g := g) rfl j u hj
  rw [add_atE] at this
  exact this
def rcs (l : List (Bt × Bt)) : List Value := l.flatMap fun x => [.int .i64 x.1.n, .slice x.1.ao x.1.m x.1.cap, .int .i64 x.2.n, .slice x.2.ao x.2.m x.2.cap]
theorem rcs_at (l : List (Bt × Bt)) : ∀ i (h : i < l.length), (rcs l)[i * 4]? = some (.int .i64 l[i].1.n) ∧ (rcs l)[i * 4 + 1]? = some (.slice l[i].1.ao l[i].1.m l[i].1.cap) ∧ (rcs l)[i * 4 + 2]? = some (.int .i64 l[i].2.n) ∧ (rcs l)[i * 4 + 3]? = some (.slice l[i].2.ao l[i].2.m l[i].2.cap) := by
  induction l with
  | nil => intro i h; simp at h
  | cons x l ih =>
    intro i h
    have e : rcs (x :: l) = [.int .i64 x.1.n, .slice x.1.ao x.1.m x.1.cap, .int .i64 x.2.n, .slice x.2.ao x.2.m x.2.cap] ++ rcs l := by simp [rcs]
    rcases i with _ | i
    · rw [e]; exact ⟨rfl, rfl, rfl, rfl⟩
    · obtain ⟨h0, h1, h2, h3⟩ := ih i (by simp at h; omega)
      rw [e]
      have sh : ∀ k : Nat, ([.int .i64 x.1.n, .slice x.1.ao x.1.m x.1.cap, .int .i64 x.2.n, .slice x.2.ao x.2.m x.2.cap] ++ rcs l)[(i + 1) * 4 + k]? = (rcs l)[i * 4 + k]? := fun k => by
        rw [List.getElem?_append_right (by simp; omega)]
        congr 1
        simp; omega
      have s0 := sh 0
      rw [Nat.add_zero, Nat.add_zero] at s0
      rw [s0, sh 1, sh 2, sh 3]
      exact ⟨h0, h1, h2, h3⟩
/-- A row as an object. -/
abbrev bxE (b : Bt × Bt) : Obj := .cells #[.int .i64 b.1.n, .slice b.1.ao b.1.m b.1.cap, .int .i64 b.2.n, .slice b.2.ao b.2.m b.2.cap] 46
theorem appRE {ops : Array Oper} {rest : List Oper} {o : Oper} {a : Act} {Q : Exit → Act → World → Prop} {w : World} (hgd : o.guard = none) (s x : Operand)
    (ho : o.op = .call { callee := .builtin .append, args := #[s, x], argTypes := #[32, 32] }) (base : Nat) (v : Value) (l : List (Bt × Bt)) (hs : a.eval s = v) (hown : w.ownsRow base 46 4 v l.length (rcs l))
    (b : Bt × Bt) (hx : a.eval x = .slice (some ⟨w.heap.size, 0, none⟩) 1 1) (hM : l.length ≤ 16777216) (hb : base ≤ w.heap.size)
    (h : ∀ v' w', w'.ownsRow base 46 4 v' (l ++ [b]).length (rcs (l ++ [b])) → (w.alloc (bxE b)).grownBy w' v.ownBlock → wpList Try.prog ops Q rest (a.put o.dst v') w') : wpList Try.prog ops Q (o :: rest) a (w.alloc (bxE b)) := by
  obtain ⟨i0, hi, hz0, hz1, hz2⟩ := info_parts info_rowE
  have r := q_new w b.1 b.2 46
  refine wpList_append_own _ hgd s x _ ho base 46 i0 _ 4 64 und_rowsE hi hz0 hz1 hz2 rfl (by decide) v l.length (rcs l) hs (hown.alloc _) ⟨w.heap.size, 0, none⟩ 1 1 [.int .i64 b.1.n, .slice b.1.ao b.1.m b.1.cap, .int .i64 b.2.n, .slice b.2.ao b.2.m b.2.cap] hx rfl
    (fun j u h => by
      rcases j with _ | _ | _ | _ | j
      · simp at h; subst h; exact q0 r
      · simp at h; subst h; exact q1 r
      · simp at h; subst h; exact q2 r
      · simp at h; subst h; exact q3 r
      · simp at h) (fun u hu => by simp at hu; rcases hu with rfl | rfl | rfl | rfl <;> rfl) (by unfold maxLen; omega) (by omega) (by simp; omega) ?_
  intro v' w' h1 h2 _
  refine h v' w' ?_ h2
  rw [List.length_append]
  unfold rcs at *
  rw [List.flatMap_append]
  exact h1
/-- What stays where no block of cells turns but b. -/
def KC (b : Option Nat) (W X : World) : Prop := ∀ k cur t fr, W.heap[k]? = some (.cells cur t fr) → b ≠ some k → X.heap[k]? = W.heap[k]?
theorem kc_own {W X : World} {row : Option Nat} (hg : W.grownBy X row) (hr : ∀ r, row = some r → ∃ o : Obj, W.heap[r]? = some o ∧ o.isCells = false) : KC none W X := fun k cur t fr hk _ => by
  refine hg.block k ?_ fun e => ?_
  · exact (Array.getElem?_eq_some_iff.1 hk).1
  · obtain ⟨o, ho, hc⟩ := hr k e.symm
    rw [hk] at ho
    cases ho
    simp [Obj.isCells] at hc
theorem kc_below {W X : World} (h : Below W.heap.size W X) : KC none W X := fun k _ _ _ hk _ => h.block k (Array.getElem?_eq_some_iff.1 hk).1
theorem kc_grown {W X : World} {b : Option Nat} (h : W.grownBy X b) : KC b W X := fun k _ _ _ hk hne => h.block k (Array.getElem?_eq_some_iff.1 hk).1 (fun e => hne e.symm)
theorem kc_but {W X : World} {b : Nat} (h : But b W X) : KC (some b) W X := fun k _ _ _ hk hne => h.block k (Array.getElem?_eq_some_iff.1 hk).1 (fun e => hne (by rw [e]))
theorem KC.row {W X : World} {b : Option Nat} (h : KC b W X) {g t n : Nat} {f : Nat → Value} (r : W.rowIs g t n f) (hne : b ≠ some g) : X.rowIs g t n f := by
  obtain ⟨cur, hc, q⟩ := r
  exact ⟨cur, by rw [h g _ _ _ hc hne]; exact hc, q⟩
theorem KC.ow {W X : World} {b : Option Nat} (h : KC b W X) {G K m N : Nat} (r : Ow W G K m N) (hne : b ≠ some G) : Ow X G K m N := by
  obtain ⟨h1, h2, h3, f, q, e⟩ := r
  exact ⟨h1, h2, h3, f, h.row q hne, e⟩
theorem KC.own {W X : World} {b : Option Nat} (h : KC b W X) {base : Nat} {e : TypeId} {size n : Nat} {v : Value} {xs : List Value} (r : W.ownsRow base e size v n xs) (hne : b = none ∨ b ≠ v.ownBlock) : X.ownsRow base e size v n xs := by
  refine ⟨r.1, ?_⟩
  rcases r.2 with h0 | ⟨g, cap, cur, rfl, h2, h3, h4⟩
  · exact .inl h0
  · refine .inr ⟨g, cap, cur, rfl, h2, ?_, h4⟩
    have hg : b ≠ some g := by
      intro e
      rcases hne with h5 | h5
      · rw [h5] at e; cases e
      · exact h5 (by rw [e]; rfl)
    rw [h g _ _ _ h3 hg]
    exact h3
/-- The block of a list. -/
def blk (b : Bt) : Nat := match b.ao with | some a => a.block | none => 0
def blks (l : List (Bt × Bt)) : List Nat := l.flatMap fun x => [blk x.1, blk x.2]
/-- Patches so far: of those places, in memory of their own, all apart. -/
structure Sr (W : World) (z : Nat) (u : Value) (l : List (Bt × Bt)) (pre : List Nat) (M : Nat) (S1 S2 : Nat → Nat) : Prop where
  o : W.ownsRow z 46 4 u l.length (rcs l)
  n : l.length = pre.length
  r : ∀ i (h : i < l.length) (h' : i < pre.length), ∃ A1 K1 A2 K2, l[i] = (bk M A1 K1 (S1 pre[i]), bk M A2 K2 (S2 pre[i])) ∧ z ≤ A1 ∧ z ≤ A2 ∧ Ow W A1 K1 M (S1 pre[i]) ∧ Ow W A2 K2 M (S2 pre[i])
  d : (blks l).Nodup
theorem Sr.blt {W : World} {z : Nat} {u : Value} {l : List (Bt × Bt)} {pre : List Nat} {M : Nat} {S1 S2 : Nat → Nat} (h : Sr W z u l pre M S1 S2) : ∀ b ∈ blks l, b < W.heap.size := fun b hb => by
  unfold blks at hb
  obtain ⟨x, hx, hb⟩ := List.mem_flatMap.1 hb
  obtain ⟨i, hi, rfl⟩ := List.mem_iff_getElem.1 hx
  obtain ⟨A1, K1, A2, K2, e, _, _, o1, o2⟩ := h.r i hi (by rw [← h.n]; exact hi)
  rw [e] at hb
  simp [blk] at hb
  rcases hb with rfl | rfl
  · exact o1.lt
  · exact o2.lt
theorem Sr.keep {W X : World} {z : Nat} {u : Value} {l : List (Bt × Bt)} {pre : List Nat} {M : Nat} {S1 S2 : Nat → Nat} (h : Sr W z u l pre M S1 S2) (k : KC none W X) : Sr X z u l pre M S1 S2 :=
  ⟨k.own h.o (.inl rfl), h.n, fun i hi hi' => by obtain ⟨A1, K1, A2, K2, e, z1, z2, o1, o2⟩ := h.r i hi hi'; exact ⟨A1, K1, A2, K2, e, z1, z2, k.ow o1 (by simp), k.ow o2 (by simp)⟩, h.d⟩
/-- A block of words is none of another kind. -/
theorem ow_ne {W : World} {G K m N base size n : Nat} {e : TypeId} {v : Value} {xs : List Value} (h : Ow W G K m N) (r : W.ownsRow base e size v n xs) (he : e ≠ 41) : v.ownBlock ≠ some G := by
  obtain ⟨_, _, _, f, ⟨cur, hc, _⟩, _⟩ := h
  rcases r.2 with ⟨rfl, _⟩ | ⟨g, cap, cur', rfl, _, hg, _⟩
  · simp [Value.ownBlock]
  · intro e1
    simp [Value.ownBlock] at e1
    subst e1
    rw [hg] at hc
    injection hc with hc
    injection hc with _ h2 _
    exact he h2
theorem Sr.push {W X Y : World} {z : Nat} {u v' : Value} {l : List (Bt × Bt)} {pre : List Nat} {M A1 K1 A2 K2 p : Nat} {S1 S2 : Nat → Nat} (h : Sr W z u l pre M S1 S2) (hb : Below W.heap.size W X) (o1 : Ow X A1 K1 M (S1 p)) (o2 : Ow X A2 K2 M (S2 p)) (h1 : W.heap.size ≤ A1) (h2 : W.heap.size ≤ A2) (h12 : A1 ≠ A2) (hz : z ≤ W.heap.size)
    (hown : Y.ownsRow z 46 4 v' (l ++ [(bk M A1 K1 (S1 p), bk M A2 K2 (S2 p))]).length (rcs (l ++ [(bk M A1 K1 (S1 p), bk M A2 K2 (S2 p))]))) (hg : (X.alloc (bxE (bk M A1 K1 (S1 p), bk M A2 K2 (S2 p)))).grownBy Y u.ownBlock) :
    Sr Y z v' (l ++ [(bk M A1 K1 (S1 p), bk M A2 K2 (S2 p))]) (pre ++ [p]) M S1 S2 := by
  have hX := h.keep (kc_below hb)
  have al : Below X.heap.size X (X.alloc (bxE (bk M A1 K1 (S1 p), bk M A2 K2 (S2 p)))) := bl_alloc (Below.refl _ _) _
  have kg := kc_grown hg
  have own' := own_keepE hX.o al
  have keep : ∀ {G K N : Nat}, Ow X G K M N → Ow Y G K M N := fun {G K N} o => kg.ow (o.below al) (ow_ne (o.below al) own' (by decide))
  refine ⟨hown, by simp [h.n], fun i hi hi' => ?_, ?_⟩
  · by_cases hil : i < l.length
    · obtain ⟨B1, L1, B2, L2, e, z1, z2, q1, q2⟩ := hX.r i hil (by rw [← h.n]; exact hil)
      have e3 : (pre ++ [p])[i] = pre[i]'(by rw [← h.n]; exact hil) := List.getElem_append_left _
      rw [List.getElem_append_left hil, e3]
      exact ⟨B1, L1, B2, L2, e, z1, z2, keep q1, keep q2⟩
    · have e1 : i = l.length := by simp at hi; omega
      subst e1
      have e3 : (pre ++ [p])[l.length] = p := by
        rw [List.getElem_append_right (by rw [h.n]; exact Nat.le_refl _)]
        simp [h.n]
      rw [List.getElem_append_right (Nat.le_refl _), e3]
      simp only [Nat.sub_self, List.getElem_cons_zero]
      exact ⟨A1, K1, A2, K2, rfl, by omega, by omega, keep o1, keep o2⟩
  · have hl := h.blt
    have hd := h.d
    unfold blks at hd hl ⊢
    rw [List.flatMap_append, List.nodup_append]
    refine ⟨hd, by simp [blk]; exact h12, ?_⟩
    intro b hb b' hb' e
    subst e
    have := hl b hb
    simp [blk] at hb'
    omega
theorem keepsFrom_below {B : Nat} {W X : World} (h : Below W.heap.size W X) : KeepsFrom B W X :=
  ⟨h.size, fun k _ _ hk _ => (h.block k (Array.getElem?_eq_some_iff.1 hk).1).trans hk⟩
theorem keepsFrom_grown {B base size n : Nat} {e : TypeId} {v : Value} {xs : List Value} {W X : World} (h : W.grownBy X v.ownBlock) (r : W.ownsRow base e size v n xs) : KeepsFrom B W X :=
  ⟨h.size, fun k _ _ hk ho => by
    refine (h.block k (Array.getElem?_eq_some_iff.1 hk).1 fun e1 => ?_).trans hk
    rcases r.2 with ⟨rfl, _⟩ | ⟨g, cap, cur', rfl, _, hg, _⟩
    · simp [Value.ownBlock] at e1
    · simp [Value.ownBlock] at e1
      subst e1
      rw [hg] at hk
      cases hk
      simp [Obj.isCells] at ho⟩
end Go.Proofs.Ytohkiknhjcibgaa
