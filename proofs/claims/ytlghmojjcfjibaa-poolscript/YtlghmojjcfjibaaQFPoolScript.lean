import Derived.Test.YtlghmojjcfjibaaQEPoolScript
import Derived.Maps.AppendAt
import Derived.Laws.AppendOwnNone
import Derived.Laws.OwnMore
/- PoolScript: the answers that are kept. -/
namespace Go.Proofs.Ytlghmojjcfjibaa
open Go.RowKit Go.Shelf

theorem own_row_neU {w : World} {base : Nat} {e t : TypeId} {size b n k : Nat} {v : Value} {xs : List Value} {f : Nat → Value} (h : w.ownsRow base e size v n xs) (r : w.rowIs b t k f) (ht : e ≠ t) : v.ownBlock ≠ some b := by
  rcases h.2 with ⟨rfl, _⟩ | ⟨g, cap, cur, rfl, _, hg, _⟩
  · simp [Value.ownBlock]
  · intro e1
    simp [Value.ownBlock] at e1
    subst e1
    obtain ⟨c, hc, _⟩ := r
    rw [hg] at hc
    exact ht (by injection hc with hc; injection hc)
theorem row_grownU {w w' : World} {base : Nat} {e t : TypeId} {size b n k : Nat} {v : Value} {xs : List Value} {f : Nat → Value} (r : w.rowIs b t k f) (hown : w.ownsRow base e size v n xs) (hg : w.grownBy w' v.ownBlock) (ht : e ≠ t) : w'.rowIs b t k f :=
  r.of_block (hg.block _ r.lt (fun e1 => own_row_neU hown r ht e1.symm))
theorem own_keepU {w w' : World} {base : Nat} {e : TypeId} {size : Nat} {v : Value} {n : Nat} {xs : List Value} (h : w.ownsRow base e size v n xs) (hb : Below w.heap.size w w') : w'.ownsRow base e size v n xs :=
  h.kept (row := none) ⟨hb.os, hb.tape, hb.output, hb.size, fun k hk _ => hb.block k hk⟩ (by cases v.ownBlock <;> simp)
theorem own_butU {w w' : World} {base g t k : Nat} {e : TypeId} {size n : Nat} {v : Value} {xs : List Value} {f : Nat → Value} (h : w.ownsRow base e size v n xs) (hb : But g w w') (r : w.rowIs g t k f) (ht : e ≠ t) : w'.ownsRow base e size v n xs := by
  refine h.kept (row := some g) ⟨hb.os, hb.tape, hb.output, hb.size, fun k hk hn => hb.block k hk (fun e => hn (by rw [e]))⟩ ?_
  have := own_row_neU h r ht
  cases e1 : v.ownBlock with
  | none => simp
  | some j => right; rw [e1] at this; exact fun e2 => this (by rw [← e2])
/-- An answer, both sides. -/
structure Ta where
  h : Int
  v : Int
  c : Int
  e : Int
  m : Nat
  N : Nat
  ao : Option Addr
  bo : Option Addr
def tcs (f : Ta → Option Addr) (l : List Ta) : List Value := l.flatMap fun x => [.int .i64 x.h, .int .i64 x.v, .int .i64 x.c, .slice (f x) x.m x.m, .int .i64 x.e]
theorem tcs_at (f : Ta → Option Addr) (l : List Ta) : ∀ i (h : i < l.length), (tcs f l)[i * 5]? = some (.int .i64 l[i].h) ∧ (tcs f l)[i * 5 + 1]? = some (.int .i64 l[i].v) ∧ (tcs f l)[i * 5 + 2]? = some (.int .i64 l[i].c) ∧ (tcs f l)[i * 5 + 3]? = some (.slice (f l[i]) l[i].m l[i].m) ∧ (tcs f l)[i * 5 + 4]? = some (.int .i64 l[i].e) := by
  induction l with
  | nil => intro i h; simp at h
  | cons x l ih =>
    intro i h
    have e : tcs f (x :: l) = [.int .i64 x.h, .int .i64 x.v, .int .i64 x.c, .slice (f x) x.m x.m, .int .i64 x.e] ++ tcs f l := by simp [tcs]
    rcases i with _ | i
    · rw [e]; exact ⟨rfl, rfl, rfl, rfl, rfl⟩
    · obtain ⟨h0, h1, h2, h3, h4⟩ := ih i (by simp at h; omega)
      rw [e]
      have sh : ∀ k : Nat, ([.int .i64 x.h, .int .i64 x.v, .int .i64 x.c, .slice (f x) x.m x.m, .int .i64 x.e] ++ tcs f l)[(i + 1) * 5 + k]? = (tcs f l)[i * 5 + k]? := fun k => by
        rw [List.getElem?_append_right (by simp; omega)]
        congr 1
        simp; omega
      have s0 := sh 0
      rw [Nat.add_zero, Nat.add_zero] at s0
      rw [s0, sh 1, sh 2, sh 3, sh 4]
      exact ⟨h0, h1, h2, h3, h4⟩
theorem tcs_snoc (f : Ta → Option Addr) (l : List Ta) (x : Ta) : tcs f (l ++ [x]) = tcs f l ++ [.int .i64 x.h, .int .i64 x.v, .int .i64 x.c, .slice (f x) x.m x.m, .int .i64 x.e] := by
  unfold tcs; rw [List.flatMap_append]; simp
theorem info_told : (Try.prog.info? 60).map (fun i => (i.zero, i.size, i.bytes)) = some (some (.agg #[.int .i64 0, .int .i64 0, .int .i64 0, .slice none 0 0, .int .i64 0]), 5, 56) := by kernel_rfl
theorem und_tolds : Try.prog.underlying 55 = some (.slice 60) := by kernel_rfl
theorem app_told {ops : Array Oper} {rest : List Oper} {o : Oper} {a : Act} {Q : Exit → Act → World → Prop} {w : World} (hgd : o.guard = none) (s x : Operand)
    (ho : o.op = .call { callee := .builtin .append, args := #[s, x], argTypes := #[55, 55] }) (base : Nat) (v : Value) (n : Nat) (xs : List Value) (hs : a.eval s = v) (hown : w.ownsRow base 60 5 v n xs)
    (h v' c e : Int) (ao : Option Addr) (m : Nat) (hx : a.eval x = .slice (some ⟨w.heap.size, 0, none⟩) 1 1) (hM : n ≤ 1172812402927) (hb : base ≤ w.heap.size)
    (hh : ∀ u w', w'.ownsRow base 60 5 u (n + 1) (xs ++ [.int .i64 h, .int .i64 v', .int .i64 c, .slice ao m m, .int .i64 e]) → (w.alloc (too h v' c ao m m e)).grownBy w' v.ownBlock → (u.ownBlock = v.ownBlock ∨ u.ownBlock = some (w.heap.size + 1)) → wpList Try.prog ops Q rest (a.put o.dst u) w') : wpList Try.prog ops Q (o :: rest) a (w.alloc (too h v' c ao m m e)) := by
  obtain ⟨i0, hi, hz0, hz1, hz2⟩ := info_parts info_told
  obtain ⟨r0, r1, r2, r3, r4⟩ := to_cells (to_new w h v' c ao m m e)
  refine wpList_append_own_at _ hgd s x _ ho base 60 i0 _ 5 56 und_tolds hi hz0 hz1 hz2 rfl (by decide) v n xs hs (hown.alloc _) ⟨w.heap.size, 0, none⟩ 1 1 [.int .i64 h, .int .i64 v', .int .i64 c, .slice ao m m, .int .i64 e] hx rfl
    (fun j u h => by
      rcases j with _ | _ | _ | _ | _ | j
      · simp at h; subst h; exact r0
      · simp at h; subst h; exact r1
      · simp at h; subst h; exact r2
      · simp at h; subst h; exact r3
      · simp at h; subst h; exact r4
      · simp at h) (fun u hu => by simp at hu; rcases hu with rfl | rfl | rfl | rfl | rfl <;> rfl) (by unfold maxLen; omega) (by omega) (by simp; omega) ?_
  intro u w' h1 h2 _ h4
  exact hh u w' h1 h2 (by simpa using h4)
/-- A list of words that is kept: in a block that is none of x's. -/
def An (W : World) (Gx : Nat) (ao : Option Addr) (m N : Nat) : Prop := (ao = none ∧ m = 0 ∧ N = 0) ∨ ∃ G, ao = some ⟨G, 0, none⟩ ∧ W.rowIs G 66 m (wf N) ∧ N < 2 ^ (64 * m) ∧ G ≠ Gx
theorem An.wr {W : World} {Gx : Nat} {ao : Option Addr} {m N : Nat} (h : An W Gx ao m N) : Wr W ao m N := by
  rcases h with ⟨rfl, rfl, rfl⟩ | ⟨G, rfl, row, hX, _⟩
  · exact Wr.nil _
  · exact Wr.row row hX
theorem An.below {W W' : World} {Gx : Nat} {ao : Option Addr} {m N : Nat} (h : An W Gx ao m N) (hb : Below W.heap.size W W') : An W' Gx ao m N := by
  rcases h with h | ⟨G, rfl, row, hX, hne⟩
  · exact .inl h
  · exact .inr ⟨G, rfl, keepr hb row, hX, hne⟩
theorem An.but {W W' : World} {Gx : Nat} {ao : Option Addr} {m N : Nat} (h : An W Gx ao m N) (hb : But Gx W W') : An W' Gx ao m N := by
  rcases h with h | ⟨G, rfl, row, hX, hne⟩
  · exact .inl h
  · exact .inr ⟨G, rfl, hb.row hne row, hX, hne⟩
theorem An.new {W : World} {Gx Gy : Nat} {ao : Option Addr} {m N : Nat} (h : An W Gx ao m N) (hG : W.heap.size ≤ Gy) : An W Gy ao m N := by
  rcases h with h | ⟨G, rfl, row, hX, hne⟩
  · exact .inl h
  · exact .inr ⟨G, rfl, row, hX, by have := row.lt; omega⟩
theorem An.row {W W' : World} {Gx b t k : Nat} {f : Nat → Value} {ao : Option Addr} {m N : Nat} (h : An W Gx ao m N) (hb : But b W W') (r : W.rowIs b t k f) (ht : t ≠ 66) : An W' Gx ao m N := by
  rcases h with h | ⟨G, rfl, row, hX, hne⟩
  · exact .inl h
  · refine .inr ⟨G, rfl, hb.row (fun e => ?_) row, hX, hne⟩
    subst e
    obtain ⟨c, hc, _⟩ := row
    obtain ⟨c', hc', _⟩ := r
    rw [hc] at hc'
    exact ht (by injection hc' with hc'; injection hc' with _ h2 _; exact h2.symm)
theorem An.grown {W W' : World} {Gx : Nat} {ao : Option Addr} {m N : Nat} {base n : Nat} {v : Value} {xs : List Value} (h : An W Gx ao m N) (ho : W.ownsRow base 60 5 v n xs) (hg : W.grownBy W' v.ownBlock) : An W' Gx ao m N := by
  rcases h with h | ⟨G, rfl, row, hX, hne⟩
  · exact .inl h
  · exact .inr ⟨G, rfl, row_grownU row ho hg (by decide), hX, hne⟩
theorem Nw.an {w W : World} {bo : Option Addr} {M X Gx : Nat} (h : Nw w W bo M X) (hG : Gx < w.heap.size) : An W Gx bo M X := by
  rcases h with h | ⟨G, rfl, hge, row, hX⟩
  · exact .inl h
  · exact .inr ⟨G, rfl, row, hX, by omega⟩
/-- Both lists of answers. -/
structure Sa (W : World) (base Gx : Nat) (va vb : Value) (l : List Ta) : Prop where
  a : W.ownsRow base 60 5 va l.length (tcs Ta.ao l)
  b : W.ownsRow base 60 5 vb l.length (tcs Ta.bo l)
  ne : va.ownBlock = none ∨ va.ownBlock ≠ vb.ownBlock
  an : ∀ x ∈ l, An W Gx x.ao x.m x.N ∧ An W Gx x.bo x.m x.N ∧ x.m ≤ 1073741824
theorem Sa.below {W W' : World} {base Gx : Nat} {va vb : Value} {l : List Ta} (h : Sa W base Gx va vb l) (hb : Below W.heap.size W W') : Sa W' base Gx va vb l :=
  ⟨own_keepU h.a hb, own_keepU h.b hb, h.ne, fun x hx => ⟨(h.an x hx).1.below hb, (h.an x hx).2.1.below hb, (h.an x hx).2.2⟩⟩
theorem Sa.but {W W' : World} {base Gx k : Nat} {f : Nat → Value} {va vb : Value} {l : List Ta} (h : Sa W base Gx va vb l) (hb : But Gx W W') (r : W.rowIs Gx 66 k f) : Sa W' base Gx va vb l :=
  ⟨own_butU h.a hb r (by decide), own_butU h.b hb r (by decide), h.ne, fun x hx => ⟨(h.an x hx).1.but hb, (h.an x hx).2.1.but hb, (h.an x hx).2.2⟩⟩
theorem Sa.op {W W' : World} {base Gx b k : Nat} {f : Nat → Value} {va vb : Value} {l : List Ta} (h : Sa W base Gx va vb l) (hb : But b W W') (r : W.rowIs b 57 k f) : Sa W' base Gx va vb l :=
  ⟨own_butU h.a hb r (by decide), own_butU h.b hb r (by decide), h.ne, fun x hx => ⟨(h.an x hx).1.row hb r (by decide), (h.an x hx).2.1.row hb r (by decide), (h.an x hx).2.2⟩⟩
theorem Sa.new {W : World} {base Gx Gy : Nat} {va vb : Value} {l : List Ta} (h : Sa W base Gx va vb l) (hG : W.heap.size ≤ Gy) : Sa W base Gy va vb l :=
  ⟨h.a, h.b, h.ne, fun x hx => ⟨(h.an x hx).1.new hG, (h.an x hx).2.1.new hG, (h.an x hx).2.2⟩⟩
theorem own_kept2U {w w' : World} {base : Nat} {e : TypeId} {size n : Nat} {v v' : Value} {xs : List Value} {o : Obj} (h : w.ownsRow base e size v n xs) (hne : v.ownBlock = none ∨ v.ownBlock ≠ v'.ownBlock) (hg : (w.alloc o).grownBy w' v'.ownBlock) : w'.ownsRow base e size v n xs := by
  refine (h.alloc o).kept hg ?_
  rcases hne with e1 | e1
  · rw [e1]; cases v'.ownBlock <;> simp
  · cases e2 : v.ownBlock with
    | none => simp
    | some k => rw [e2] at e1; simpa using e1
end Go.Proofs.Ytlghmojjcfjibaa
/- PoolScript. -/
namespace Go.Proofs.Ytlghmojjcfjibaa
open Go.RowKit Go.Shelf

/-- A list of steps that came in. -/
def LoU (W : World) (ao : Option Addr) (m : Nat) : Prop := ∀ j, j < m → ∃ (g o : Nat) (kd h v c : Int) (xo : Option Addr) (n xc N : Nat) (r s sy sx t l b q : Int), ao = some ⟨g, o, none⟩ ∧ (W.cell? ⟨g, o + j * 13, none⟩ = some (.int .i64 kd) ∧ W.cell? ⟨g, o + j * 13 + 1, none⟩ = some (.int .i64 h) ∧ W.cell? ⟨g, o + j * 13 + 2, none⟩ = some (.int .i64 v) ∧ W.cell? ⟨g, o + j * 13 + 3, none⟩ = some (.int .i64 c) ∧ W.cell? ⟨g, o + j * 13 + 4, none⟩ = some (.slice xo n xc) ∧ W.cell? ⟨g, o + j * 13 + 5, none⟩ = some (.int .i64 r) ∧ W.cell? ⟨g, o + j * 13 + 6, none⟩ = some (.int .i64 s) ∧ W.cell? ⟨g, o + j * 13 + 7, none⟩ = some (.int .i64 sy) ∧ W.cell? ⟨g, o + j * 13 + 8, none⟩ = some (.int .i64 sx) ∧ W.cell? ⟨g, o + j * 13 + 9, none⟩ = some (.int .i64 t) ∧ W.cell? ⟨g, o + j * 13 + 10, none⟩ = some (.int .i64 l) ∧ W.cell? ⟨g, o + j * 13 + 11, none⟩ = some (.int .i64 b) ∧ W.cell? ⟨g, o + j * 13 + 12, none⟩ = some (.int .i64 q)) ∧ Wr W xo n N ∧ n ≤ 17592186043904
/-- The step that is played: in its block, its list in a block of its own; the answers. -/
def Xs (W : World) (base bx : Nat) (va vb : Value) (l0 : List Ta) : Prop := ∃ (Gx n N : Nat) (kd h v c r s sy sx t l b q : Int), W.rowIs bx 57 13 (opf kd h v c (some ⟨Gx, 0, none⟩) n (n + 66) r s sy sx t l b q) ∧ W.rowIs Gx 66 (n + 66) (rmf N n) ∧ N < 2 ^ (64 * n) ∧ n ≤ 17592186043904 ∧ base ≤ Gx ∧ Sa W base Gx va vb l0
theorem Sa.butnew {W W' : World} {base Gx G k : Nat} {f : Nat → Value} {va vb : Value} {l : List Ta} (h : Sa W base Gx va vb l) (hb : But Gx W W') (r : W.rowIs Gx 66 k f) (hG : G = Gx ∨ W.heap.size ≤ G) : Sa W' base G va vb l := by
  rcases hG with rfl | hG
  · exact h.but hb r
  · have aux : ∀ ao m N, An W Gx ao m N → An W' G ao m N := fun ao m N ha => by
      rcases ha with ha | ⟨G1, rfl, row, hX, hne⟩
      · exact .inl ha
      · exact .inr ⟨G1, rfl, hb.row hne row, hX, by have := row.lt; omega⟩
    exact ⟨own_butU h.a hb r (by decide), own_butU h.b hb r (by decide), h.ne, fun x hx => ⟨aux _ _ _ (h.an x hx).1, aux _ _ _ (h.an x hx).2.1, (h.an x hx).2.2⟩⟩
theorem Sa.nil0 (W : World) (base Gx : Nat) : Sa W base Gx (.slice none 0 0) (.slice none 0 0) [] :=
  ⟨⟨rfl, .inl ⟨rfl, rfl⟩⟩, ⟨rfl, .inl ⟨rfl, rfl⟩⟩, .inl rfl, fun x hx => by simp at hx⟩
theorem own_flip {W W1 : World} {base Gx : Nat} {va vb : Value} {l : List Ta} {ob1 : Obj} (h : Sa W base Gx va vb l) (g1 : (W.alloc ob1).grownBy W1 va.ownBlock) : W1.ownsRow base 60 5 vb l.length (tcs Ta.bo l) := by
  refine own_kept2U h.b ?_ g1
  rcases h.ne with e | e
  · cases e2 : vb.ownBlock with
    | none => exact .inl rfl
    | some j => right; rw [e]; simp
  · exact .inr (Ne.symm e)
theorem Sa.more {W W1 W2 : World} {base Gx : Nat} {va vb va' vb' : Value} {l : List Ta} {x : Ta} {ob1 ob2 : Obj} (h : Sa W base Gx va vb l) (ha : An W Gx x.ao x.m x.N) (hb : An W Gx x.bo x.m x.N) (hm : x.m ≤ 1073741824)
    (g1 : (W.alloc ob1).grownBy W1 va.ownBlock) (o1 : W1.ownsRow base 60 5 va' (l.length + 1) (tcs Ta.ao l ++ [.int .i64 x.h, .int .i64 x.v, .int .i64 x.c, .slice x.ao x.m x.m, .int .i64 x.e])) (t1 : va'.ownBlock = va.ownBlock ∨ va'.ownBlock = some (W.heap.size + 1))
    (g2 : (W1.alloc ob2).grownBy W2 vb.ownBlock) (o2 : W2.ownsRow base 60 5 vb' (l.length + 1) (tcs Ta.bo l ++ [.int .i64 x.h, .int .i64 x.v, .int .i64 x.c, .slice x.bo x.m x.m, .int .i64 x.e])) (t2 : vb'.ownBlock = vb.ownBlock ∨ vb'.ownBlock = some (W1.heap.size + 1)) : Sa W2 base Gx va' vb' (l ++ [x]) := by
  have n1 : va'.ownBlock = none ∨ va'.ownBlock ≠ vb.ownBlock := by
    rcases t1 with t | t
    · rw [t]; exact h.ne
    · right
      rw [t]
      intro e
      have := (h.b.lt _ e.symm).2
      omega
  have b1 := own_flip h g1
  refine ⟨?_, ?_, ?_, fun y hy => ?_⟩
  · rw [List.length_append, tcs_snoc]
    exact own_kept2U o1 n1 g2
  · rw [List.length_append, tcs_snoc]
    exact o2
  · rcases n1 with n1 | n1
    · exact .inl n1
    · rcases t2 with t | t
      · rw [t]; exact .inr n1
      · right
        rw [t]
        intro e
        have := (o1.lt _ e).2
        omega
  · have aux : ∀ ao m N, An W Gx ao m N → An W2 Gx ao m N := fun ao m N z =>
      (((z.below (bl_alloc (Below.refl _ _) _)).grown (h.a.alloc _) g1).below (bl_alloc (Below.refl _ _) _)).grown (b1.alloc _) g2
    rcases List.mem_append.1 hy with hy | hy
    · exact ⟨aux _ _ _ (h.an y hy).1, aux _ _ _ (h.an y hy).2.1, (h.an y hy).2.2⟩
    · simp at hy
      subst hy
      exact ⟨aux _ _ _ ha, aux _ _ _ hb, hm⟩
theorem bx_ne {W : World} {bx G k m : Nat} {f g : Nat → Value} (r : W.rowIs bx 57 k f) (q : W.rowIs G 66 m g) : G ≠ bx := by
  intro e
  subst e
  obtain ⟨c, hc, _⟩ := q
  obtain ⟨c', hc', _⟩ := r
  rw [hc] at hc'
  injection hc' with hc'
  injection hc' with _ h2 _
  exact absurd h2 (by decide)
theorem own_at5 {W : World} {base g cap : Nat} {f : Ta → Option Addr} {l : List Ta} (h : W.ownsRow base 60 5 (.slice (some ⟨g, 0, none⟩) l.length cap) l.length (tcs f l)) (j : Nat) (hj : j < l.length) (x : Ta) (hx : l[j] = x) : W.cell? ⟨g, j * 5, none⟩ = some (.int .i64 x.h) ∧ W.cell? ⟨g, j * 5 + 1, none⟩ = some (.int .i64 x.v) ∧ W.cell? ⟨g, j * 5 + 2, none⟩ = some (.int .i64 x.c) ∧ W.cell? ⟨g, j * 5 + 3, none⟩ = some (.slice (f x) x.m x.m) ∧ W.cell? ⟨g, j * 5 + 4, none⟩ = some (.int .i64 x.e) := by
  obtain ⟨t0, t1, t2, t3, t4⟩ := tcs_at f l j hj
  rw [hx] at t0 t1 t2 t3 t4
  have ad : ∀ i, (⟨g, 0, none⟩ : Addr).add i = ⟨g, i, none⟩ := fun i => by rcases i with _ | i <;> simp [Addr.add]
  have at' := fun i u hu => h.cells (g := g) rfl i u hu
  simp only [ad] at at'
  exact ⟨at' _ _ t0, at' _ _ t1, at' _ _ t2, at' _ _ t3, at' _ _ t4⟩
theorem kpF {W X : World} {g1 g2 o : Nat} {a0 a1 a2 a3 a4 b0 b1 b2 b3 b4 : Value} (h : (W.cell? ⟨g1, o, none⟩ = some a0 ∧ W.cell? ⟨g1, o + 1, none⟩ = some a1 ∧ W.cell? ⟨g1, o + 2, none⟩ = some a2 ∧ W.cell? ⟨g1, o + 3, none⟩ = some a3 ∧ W.cell? ⟨g1, o + 4, none⟩ = some a4) ∧ W.cell? ⟨g2, o, none⟩ = some b0 ∧ W.cell? ⟨g2, o + 1, none⟩ = some b1 ∧ W.cell? ⟨g2, o + 2, none⟩ = some b2 ∧ W.cell? ⟨g2, o + 3, none⟩ = some b3 ∧ W.cell? ⟨g2, o + 4, none⟩ = some b4) (hb : Below W.heap.size W X) :
    (X.cell? ⟨g1, o, none⟩ = some a0 ∧ X.cell? ⟨g1, o + 1, none⟩ = some a1 ∧ X.cell? ⟨g1, o + 2, none⟩ = some a2 ∧ X.cell? ⟨g1, o + 3, none⟩ = some a3 ∧ X.cell? ⟨g1, o + 4, none⟩ = some a4) ∧ X.cell? ⟨g2, o, none⟩ = some b0 ∧ X.cell? ⟨g2, o + 1, none⟩ = some b1 ∧ X.cell? ⟨g2, o + 2, none⟩ = some b2 ∧ X.cell? ⟨g2, o + 3, none⟩ = some b3 ∧ X.cell? ⟨g2, o + 4, none⟩ = some b4 := by
  obtain ⟨⟨p0, p1, p2, p3, p4⟩, q0, q1, q2, q3, q4⟩ := h
  exact ⟨⟨keepc hb p0, keepc hb p1, keepc hb p2, keepc hb p3, keepc hb p4⟩, keepc hb q0, keepc hb q1, keepc hb q2, keepc hb q3, keepc hb q4⟩
theorem own_lenU {w : World} {base : Nat} {e : TypeId} {size : Nat} {v : Value} {n : Nat} {xs : List Value} (h : w.ownsRow base e size v n xs) : ∃ ao cap, v = .slice ao n cap ∧ (0 < n → ∃ g, ao = some ⟨g, 0, none⟩) := by
  rcases h.2 with ⟨rfl, h0⟩ | ⟨g, cap, cur, rfl, _⟩
  · exact ⟨Option.none, 0, by rw [h0], fun z => by omega⟩
  · exact ⟨_, cap, rfl, fun _ => ⟨g, rfl⟩⟩
set_option maxHeartbeats 12800000 in
set_option maxRecDepth 100000 in
theorem poolScript_any (ao : Option Addr) (L cap : Nat) (bo : Option Addr) (LT cap2 : Nat) (tf' : Nat → Int) (w : World) (hL : L ≤ 1172812402927) (htf : ∀ k, k < LT → -9223372036854775808 ≤ tf' k ∧ tf' k ≤ 9223372036854775807) (ra : LoU w ao L) (rb : Rs w bo LT (fun k => .int .i64 (tf' k))) :
    Calls Try.prog 8 #[.slice ao L cap, .slice bo LT cap2] w fun e w' => e = .returned (.bool true) ∧ Below w.heap.size w w' := by
  have RA := hid1 ra
  have RB := hid1 rb
  have HTF := hid1 htf
  clear ra rb htf
  go_enter Try.func8, Try.ntmps8
  go_wp2_with fail
  refine (ubegun_any w).mono ?_
  rintro e w1 ⟨rfl, B1⟩
  go_wp2_with fail
  obtain ⟨bx, hbx⟩ : ∃ bx, w1.heap.size = bx := ⟨_, rfl⟩
  have bxw : w.heap.size ≤ bx := by rw [← hbx]; exact B1.size
  have BX := op_new w1 0 0 0 0 none 0 0 0 0 0 0 0 0 0 0
  rw [hbx] at BX
  have BA := bl_alloc B1 (opo 0 0 0 0 none 0 0 0 0 0 0 0 0 0 0)
  have HBX := hid1 BX
  have HBA := hid1 BA
  try rw [hbx]
  clear BX BA B1 hbx
  go_loopw [5, 6, 8, 9] (fun va vb hd i wr => ∃ (k : Nat) (hd' : Int) (l0 : List Ta), k ≤ L ∧ i = .int .i64 k ∧ hd = .int .i64 hd' ∧ l0.length ≤ k ∧ Below w.heap.size w wr ∧ ((k = 0 ∧ va = .slice none 0 0 ∧ vb = .slice none 0 0 ∧ l0 = [] ∧ wr.rowIs bx 57 13 (opf 0 0 0 0 none 0 0 0 0 0 0 0 0 0 0)) ∨ Xs wr w.heap.size bx va vb l0)) (fun _ _ _ i _ => L - (intOf i).toNat)
  case atStart => exact ⟨0, 0, [], Nat.zero_le _, rfl, rfl, Nat.le_refl _, HBA.out, .inl ⟨rfl, rfl, rfl, rfl, HBX.out⟩⟩
  case round =>
    clear HBX HBA
    rename World => Z
    obtain ⟨k, hd', l0, hk, rfl, rfl, hl0, B0, hor⟩ := hrel
    by_cases hlt : k < L
    · have ik : (k : Int) < (L : Nat) := by omega
      have ik0 : (0 : Int) ≤ (k : Int) := by omega
      obtain ⟨g, o0, kd, h, v, c, xo, n, xc, N, r, s, sy, sx, t, l, b, q, rfl, c13, wx, hn⟩ := RA.out k hlt
      have HB0 := hid1 B0
      have HOR := hid1 hor
      have HWX := hid1 (wx.below B0)
      obtain ⟨k0, k1, k2, k3, k4, k5, k6, k7, k8, k9, k10, k11, k12⟩ := c13
      have c0 := keepc B0 k0
      have c1 := keepc B0 k1
      have c2 := keepc B0 k2
      have c3 := keepc B0 k3
      have c4 := keepc B0 k4
      have c5 := keepc B0 k5
      have c6 := keepc B0 k6
      have c7 := keepc B0 k7
      have c8 := keepc B0 k8
      have c9 := keepc B0 k9
      have c10 := keepc B0 k10
      have c11 := keepc B0 k11
      have c12 := keepc B0 k12
      clear B0 hor wx k0 k1 k2 k3 k4 k5 k6 k7 k8 k9 k10 k11 k12
      obtain ⟨tb, htb⟩ : ∃ tb : Bool, decide (0 < k ∧ k < LT ∧ tf' k ≠ 0) = tb := ⟨_, rfl⟩
      go_upto_region 9 with fail
      go_cut [35] from 21 to 35 (fun s35 wx => s35 = .bool tb ∧ wx = Z)
      case first =>
        as_aux_lemma =>
          by_cases h1 : 0 < k
          · have i1 : (0 : Int) < (k : Int) := by omega
            by_cases h2 : k < LT
            · have i2 : (k : Int) < (LT : Int) := by omega
              obtain ⟨gt, ot, rfl, ct⟩ := (RB.out.below HB0.out) k h2
              dsimp only at ct
              by_cases h3 : tf' k = 0
              · rw [h3] at ct
                rw [decide_eq_false (fun z => z.2.2 h3)] at htb
                subst htb
                go_wp2_with fail
                go_meet
                exact ⟨rfl, rfl⟩
              · rw [decide_eq_true ⟨h1, h2, h3⟩] at htb
                subst htb
                have h3' : ((tf' k) != 0) = true := by simpa using h3
                generalize tf' k = tk at *
                go_wp2_with fail
                go_meet
                exact ⟨by simp, rfl⟩
            · have i2 : ¬ (k : Int) < (LT : Int) := by omega
              rw [decide_eq_false (fun z => h2 z.2.1)] at htb
              subst htb
              go_wp2_with fail
              go_meet
              exact ⟨rfl, rfl⟩
          · obtain rfl : k = 0 := by omega
            rw [decide_eq_false (fun z => h1 z.1)] at htb
            subst htb
            go_wp2_with fail
            go_meet
            exact ⟨rfl, rfl⟩
      case rest =>
        obtain ⟨rfl, rfl⟩ := hcut
        rename World => Z1
        go_upto_if 35 with fail
        go_cut [] (fun wx => Xs wx w.heap.size bx u5 u6 l0 ∧ Below w.heap.size w wx)
        case first =>
          cases tb
          · have HAL := hid1 (fun W r' => alone_any kd h v c xo n xc N r s sy sx t l b q W hn r')
            obtain ⟨fx, hfx⟩ : ∃ fx, Z1.rowIs bx 57 13 fx := by
              rcases HOR.out with ⟨_, _, _, _, hx⟩ | ⟨_, _, _, _, _, _, _, _, _, _, _, _, _, _, _, hx, _⟩
              · exact ⟨_, hx⟩
              · exact ⟨_, hx⟩
            have hSA : ∀ G, Z1.heap.size ≤ G → Sa Z1 w.heap.size G u5 u6 l0 := fun G hG => by
              rcases HOR.out with ⟨_, rfl, rfl, rfl, _⟩ | ⟨_, _, _, _, _, _, _, _, _, _, _, _, _, _, _, _, _, _, _, _, hs⟩
              · exact Sa.nil0 _ _ _
              · exact hs.new hG
            have HSA := hid1 hSA
            clear hSA
            go_wp2_with fail
            refine (HAL.out Z1 HWX.out).mono ?_
            rintro e w2 ⟨G, rfl, hG, row2, hb⟩
            have o2 := keepr hb hfx
            have hN := HWX.out.1
            have sa2 := (HSA.out G hG).below hb
            have B2 := bl_step HB0.out hb
            clear hb c0 c1 c2 c3 c4 c5 c6 c7 c8 c9 c10 c11 c12
            obtain ⟨f0, f1, f2, f3, f4, f5, f6, f7, f8, f9, f10, f11, f12⟩ := op_free o2
            have hgx := bx_ne o2 row2
            have HO := hid1 o2
            have d0 : w2.cell? ⟨bx, 0, none⟩ = some (fx 0) := o2.cell (by omega)
            have d1 : w2.cell? ⟨bx, 1, none⟩ = some (fx 1) := o2.cell (by omega)
            have d2 : w2.cell? ⟨bx, 2, none⟩ = some (fx 2) := o2.cell (by omega)
            have d3 : w2.cell? ⟨bx, 3, none⟩ = some (fx 3) := o2.cell (by omega)
            have d4 : w2.cell? ⟨bx, 4, none⟩ = some (fx 4) := o2.cell (by omega)
            have d5 : w2.cell? ⟨bx, 5, none⟩ = some (fx 5) := o2.cell (by omega)
            have d6 : w2.cell? ⟨bx, 6, none⟩ = some (fx 6) := o2.cell (by omega)
            have d7 : w2.cell? ⟨bx, 7, none⟩ = some (fx 7) := o2.cell (by omega)
            have d8 : w2.cell? ⟨bx, 8, none⟩ = some (fx 8) := o2.cell (by omega)
            have d9 : w2.cell? ⟨bx, 9, none⟩ = some (fx 9) := o2.cell (by omega)
            have d10 : w2.cell? ⟨bx, 10, none⟩ = some (fx 10) := o2.cell (by omega)
            have d11 : w2.cell? ⟨bx, 11, none⟩ = some (fx 11) := o2.cell (by omega)
            have d12 : w2.cell? ⟨bx, 12, none⟩ = some (fx 12) := o2.cell (by omega)
            clear o2
            go_wp2_with fail
            go_meet
            have bt := But.setO bx w2 kd h v c (some ⟨G, 0, none⟩) n (n + 66) r s sy sx t l b q
            exact ⟨⟨G, n, N, kd, h, v, c, r, s, sy, sx, t, l, b, q, op_set HO.out _ _ _ _ _ _ _ _ _ _ _ _ _ _ _, bt.row hgx row2, hN, hn, Nat.le_trans HB0.out.size hG, sa2.op bt HO.out⟩, bt.below bxw B2.size B2⟩
          · have htk := of_decide_eq_true htb
            obtain ⟨h1, h2, h3⟩ := htk
            obtain ⟨gt, ot, rfl, ct⟩ := (RB.out.below HB0.out) k h2
            dsimp only at ct
            have hrg := HTF.out k h2
            have ikT : (k : Int) < (LT : Int) := by omega
            generalize tf' k = tk at *
            rcases HOR.out with ⟨h0, _⟩ | ⟨Gx, n1, N1, kd1, h1', v1, c1', r1, s1, sy1, sx1, t1, l1, b1, q1, ox, rx, hN1, hn1, hgb, sx'⟩
            · omega
            · have HOT := hid1 (fun W rw => other_any kd1 h1' v1 c1' Gx n1 N1 r1 s1 sy1 sx1 t1 l1 b1 q1 tk W hn1 hrg rw hN1)
              clear c0 c1 c2 c3 c4 c5 c6 c7 c8 c9 c10 c11 c12
              obtain ⟨c0, c1, c2, c3, c4, c5, c6, c7, c8, c9, c10, c11, c12⟩ := op_cells ox
              have HOX := hid1 ox
              have HRX := hid1 rx
              have HSX := hid1 sx'
              clear ox rx sx'
              go_upto_region 10 with fail
              refine still_tail 5 (by kernel_rfl) ?_
              simp only [List.take_succ_cons, List.take_zero, List.drop_succ_cons, List.drop_zero]
              repeat still_step
              refine wpStill_nil ?_
              go_wp2_with fail
              refine (HOT.out Z1.drew HRX.out.drew).mono ?_
              rintro e w2 ⟨kd2, r2, s2, sx2, G, N2, rfl, hG, row2, hN2, bt2⟩
              have hbg := bx_ne HOX.out HRX.out
              have bt1 : But Gx Z1 w2 := (But.refl Gx Z1).drew.trans bt2
              have o2 := bt1.row (Ne.symm hbg) HOX.out
              have sa2 := HSX.out.butnew bt1 HRX.out hG
              clear c0 c1 c2 c3 c4 c5 c6 c7 c8 c9 c10 c11 c12
              obtain ⟨d0, d1, d2, d3, d4, d5, d6, d7, d8, d9, d10, d11, d12⟩ := op_cells o2
              obtain ⟨f0, f1, f2, f3, f4, f5, f6, f7, f8, f9, f10, f11, f12⟩ := op_free o2
              have hgx := bx_ne o2 row2
              have HO := hid1 o2
              clear o2
              have B2 := bt1.below hgb HB0.out.size HB0.out
              have hgb2 : w.heap.size ≤ G := by
                rcases hG with rfl | hG
                · exact hgb
                · exact Nat.le_trans HB0.out.size hG
              go_wp2_with fail
              go_meet
              have bt := But.setO bx w2 kd2 h1' v1 c1' (some ⟨G, 0, none⟩) n1 (n1 + 66) r2 s2 sy1 sx2 t1 l1 b1 q1
              exact ⟨⟨G, n1, N2, kd2, h1', v1, c1', r2, s2, sy1, sx2, t1, l1, b1, q1, op_set HO.out _ _ _ _ _ _ _ _ _ _ _ _ _ _ _, bt.row hgx row2, hN2, hn1, hgb2, sa2.op bt HO.out⟩, bt.below bxw B2.size B2⟩
        case rest =>
          obtain ⟨⟨Gx, n1, N1, kd1, h1, v1, cz, r1, s1, sy1, sx1, t1, l1, b1, q1, ox, rx, hN1, hn1, hgb, sa⟩, B2⟩ := hcut
          rename World => Z2
          clear HOR HWX c0 c1 c2 c3 c4 c5 c6 c7 c8 c9 c10 c11 c12
          have hM30 := sM_le kd1 h1 v1 cz n1 N1 r1 s1 sy1 sx1 t1 l1 b1 q1
          have HRN := hid1 (fun W r' => ran_any kd1 h1 v1 cz (some ⟨Gx, 0, none⟩) n1 (n1 + 66) N1 r1 s1 sy1 sx1 t1 l1 b1 q1 W (Nat.le_add_right _ _) (by omega) r')
          have HME := hid1 (fun W r' => meant_any kd1 h1 v1 cz (some ⟨Gx, 0, none⟩) n1 (n1 + 66) N1 r1 s1 sy1 sx1 t1 l1 b1 q1 W hn1 r')
          generalize sH kd1 h1 v1 cz n1 N1 r1 s1 sy1 sx1 t1 l1 b1 q1 = hh at *
          generalize sV kd1 h1 v1 cz n1 N1 r1 s1 sy1 sx1 t1 l1 b1 q1 = vv at *
          generalize sC kd1 h1 v1 cz n1 N1 r1 s1 sy1 sx1 t1 l1 b1 q1 = cc at *
          generalize sM kd1 h1 v1 cz n1 N1 r1 s1 sy1 sx1 t1 l1 b1 q1 = M at *
          generalize sX kd1 h1 v1 cz n1 N1 r1 s1 sy1 sx1 t1 l1 b1 q1 = X at *
          generalize sE kd1 h1 v1 cz n1 N1 r1 s1 sy1 sx1 t1 l1 b1 q1 = E at *
          have M63 : M ≤ 9223372036854775807 := by omega
          obtain ⟨c0, c1, c2, c3, c4, c5, c6, c7, c8, c9, c10, c11, c12⟩ := op_cells ox
          go_wp2_with fail
          refine (HRN.out Z2 (rm_wr rx hN1)).mono ?_
          rintro e w3 ⟨o1, rfl, nw1, hb⟩
          have a1 := nw1.an rx.lt
          replace ox := keepr hb ox
          replace rx := keepr hb rx
          replace sa := sa.below hb
          have B3 := bl_step B2 hb
          clear hb nw1 B2 c0 c1 c2 c3 c4 c5 c6 c7 c8 c9 c10 c11 c12
          obtain ⟨c0, c1, c2, c3, c4, c5, c6, c7, c8, c9, c10, c11, c12⟩ := op_cells ox
          have lbx := ox.lt
          go_wp2_with fail
          refine gen_calls (fun W => W.rowIs bx 57 13 (opf kd1 h1 v1 cz (some ⟨Gx, 0, none⟩) n1 (n1 + 66) r1 s1 sy1 sx1 t1 l1 b1 q1) ∧ W.rowIs Gx 66 (n1 + 66) (rmf N1 n1) ∧ Sa W w.heap.size Gx u5 u6 l0 ∧ An W Gx o1 M X ∧ W.rowIs w3.heap.size 60 5 (tof hh vv cc o1 M M E) ∧ Below w.heap.size w W) ⟨ox.alloc _, rx.alloc _, sa.below (bl_alloc (Below.refl _ _) _), a1.below (bl_alloc (Below.refl _ _) _), to_new _ _ _ _ _ _ _ _, bl_alloc B3 _⟩ ?_
          clear ox rx sa a1 B3 lbx c0 c1 c2 c3 c4 c5 c6 c7 c8 c9 c10 c11 c12
          rintro W3 ⟨ox, rx, sa, a1, t10, B3⟩
          refine (HME.out W3 (rm_wr rx hN1)).mono ?_
          rintro e w4 ⟨o2, rfl, nw2, hb⟩
          have a2 := nw2.an rx.lt
          replace ox := keepr hb ox
          replace rx := keepr hb rx
          replace sa := sa.below hb
          replace a1 := a1.below hb
          replace t10 := keepr hb t10
          have B4 := bl_step B3 hb
          clear hb nw2 B3
          obtain ⟨d0, d1, d2, d3, d4⟩ := to_cells t10
          have l10 := t10.lt
          go_wp2_with fail
          refine gen_calls (fun W => W.rowIs bx 57 13 (opf kd1 h1 v1 cz (some ⟨Gx, 0, none⟩) n1 (n1 + 66) r1 s1 sy1 sx1 t1 l1 b1 q1) ∧ W.rowIs Gx 66 (n1 + 66) (rmf N1 n1) ∧ Sa W w.heap.size Gx u5 u6 l0 ∧ An W Gx o1 M X ∧ An W Gx o2 M X ∧ W.rowIs w3.heap.size 60 5 (tof hh vv cc o1 M M E) ∧ W.rowIs w4.heap.size 60 5 (tof hh vv cc o2 M M E) ∧ (∀ j, u5.ownBlock = some j → j < w4.heap.size) ∧ Below w.heap.size w W) ⟨ox.alloc _, rx.alloc _, sa.below (bl_alloc (Below.refl _ _) _), a1.below (bl_alloc (Below.refl _ _) _), a2.below (bl_alloc (Below.refl _ _) _), t10.alloc _, to_new _ _ _ _ _ _ _ _, fun j hj => (sa.a.lt j hj).2, bl_alloc B4 _⟩ ?_
          clear ox rx sa a1 a2 t10 B4 l10 d0 d1 d2 d3 d4
          rintro W4 ⟨ox, rx, sa, a1, a2, t10, t11, hva, B4⟩
          refine (agree_true hh vv cc E M X o1 o2 M M W4 M63 a1.wr a2.wr).mono ?_
          rintro e w5 ⟨rfl, hb⟩
          replace ox := keepr hb ox
          replace rx := keepr hb rx
          replace sa := sa.below hb
          replace a1 := a1.below hb
          replace a2 := a2.below hb
          replace t10 := keepr hb t10
          replace t11 := keepr hb t11
          have B5 := bl_step B4 hb
          clear hb B4
          obtain ⟨d0, d1, d2, d3, d4⟩ := to_cells t10
          obtain ⟨e0, e1, e2, e3, e4⟩ := to_cells t11
          have HOX := hid1 ox
          have HRX := hid1 rx
          have HSA := hid1 sa
          have HA1 := hid1 a1
          have HA2 := hid1 a2
          have HT11 := hid1 t11
          have HB5 := hid1 B5
          clear ox rx sa a1 a2 t10 t11 B5
          go_upto_region 16 with fail
          go_cut [8] from 55 to 62 (fun s8 wx => (∃ z : Int, s8 = .int .i64 z) ∧ wx = w5)
          case first =>
            as_aux_lemma =>
              go_wp2_with fail
              go_meet
              exact ⟨⟨_, rfl⟩, rfl⟩
          case rest =>
            obtain ⟨⟨z, rfl⟩, rfl⟩ := hcut
            rename World => Z5
            have z5 := HB5.out.size
            by_cases hz : z ≤ 33554432
            · have z5' : w.heap.size ≤ Z5.heap.size := z5
              have l30 : l0.length ≤ 1172812402927 := by omega
              go_upto_region 19 with (at_builtin; refine app_told rfl _ _ rfl w.heap.size u5 l0.length (tcs Ta.ao l0) (by go_simp) HSA.out.a hh vv cc E o1 M (by go_simp) l30 z5' ?_; intro v2 w6 ow6 gr6 at6)
              have B6 := (HB5.out.alloc z5 (too hh vv cc o1 M M E)).grown gr6 (by simp; omega) (fun q hq => (HSA.out.a.lt q hq).1)
              have t6 : w6.rowIs w4.heap.size 60 5 (tof hh vv cc o2 M M E) := (HT11.out.alloc (too hh vv cc o1 M M E)).of_block (gr6.block _ (HT11.out.alloc (too hh vv cc o1 M M E)).lt (fun e => by have := hva _ e.symm; omega))
              have ob6 := own_flip HSA.out gr6
              have ox6 := row_grownU (HOX.out.alloc (too hh vv cc o1 M M E)) (HSA.out.a.alloc (too hh vv cc o1 M M E)) gr6 (by decide)
              have rx6 := row_grownU (HRX.out.alloc (too hh vv cc o1 M M E)) (HSA.out.a.alloc (too hh vv cc o1 M M E)) gr6 (by decide)
              clear d0 d1 d2 d3 d4 e0 e1 e2 e3 e4
              obtain ⟨e0, e1, e2, e3, e4⟩ := to_cells t6
              have z6 : w.heap.size ≤ w6.heap.size := B6.size
              have HG6 := hid1 gr6
              have HO6 := hid1 ow6
              have HB6 := hid1 B6
              have HOB := hid1 ob6
              have HOX6 := hid1 ox6
              have HRX6 := hid1 rx6
              clear gr6 ow6 B6 ob6 ox6 rx6 t6
              go_wp2_with (at_builtin; refine app_told rfl _ _ rfl w.heap.size u6 l0.length (tcs Ta.bo l0) (by go_simp) HOB.out hh vv cc E o2 M (by go_simp) l30 z6 ?_; intro v3 w7 ow7 gr7 at7)
              have B7 := (HB6.out.alloc z6 (too hh vv cc o2 M M E)).grown gr7 (by simp; omega) (fun q hq => (HOB.out.lt q hq).1)
              have ox7 := row_grownU (HOX6.out.alloc (too hh vv cc o2 M M E)) (HOB.out.alloc (too hh vv cc o2 M M E)) gr7 (by decide)
              have rx7 := row_grownU (HRX6.out.alloc (too hh vv cc o2 M M E)) (HOB.out.alloc (too hh vv cc o2 M M E)) gr7 (by decide)
              have sa7 := HSA.out.more (x := ⟨hh, vv, cc, E, M, X, o1, o2⟩) HA1.out HA2.out hM30 HG6.out HO6.out at6 gr7 ow7 at7
              exact ⟨⟨k + 1, z, _, by omega, by go_num, rfl, by simp; omega, B7, .inr ⟨Gx, n1, N1, kd1, h1, v1, cz, r1, s1, sy1, sx1, t1, l1, b1, q1, ox7, rx7, hN1, hn1, hgb, sa7⟩⟩, by simp [intOf]; omega⟩
            · clear d0 d1 d2 d3 d4 e0 e1 e2 e3 e4
              go_wp2_with fail
              exact ⟨⟨k + 1, z, l0, by omega, by go_num, rfl, by omega, HB5.out, .inr ⟨Gx, n1, N1, kd1, h1, v1, cz, r1, s1, sy1, sx1, t1, l1, b1, q1, HOX.out, HRX.out, hN1, hn1, hgb, HSA.out⟩⟩, by simp [intOf]; omega⟩
    · obtain rfl : k = L := by omega
      obtain ⟨Gx, sa⟩ : ∃ Gx, Sa Z w.heap.size Gx u5 u6 l0 := by
        rcases hor with ⟨_, rfl, rfl, rfl, _⟩ | ⟨Gx, _, _, _, _, _, _, _, _, _, _, _, _, _, _, _, _, _, _, _, hs⟩
        · exact ⟨0, Sa.nil0 _ _ _⟩
        · exact ⟨Gx, hs⟩
      clear hor
      obtain ⟨pa, ka, rfl, ha⟩ := own_lenU sa.a
      obtain ⟨pb, kb, rfl, hb'⟩ := own_lenU sa.b
      have HSA := hid1 sa
      have HB0 := hid1 B0
      have l30 : l0.length ≤ 1172812402927 := by omega
      obtain ⟨nl, hnl⟩ : ∃ nl, l0.length = nl := ⟨_, rfl⟩
      have HNL := hid1 hnl
      rw [hnl] at ha hb' l30 ⊢
      clear sa B0 hnl
      go_wp2_with fail
      go_loopw [12] (fun i wr => ∃ j : Nat, j ≤ nl ∧ i = .int .i64 j ∧ Below Z.heap.size Z wr) (fun i _ => nl - (intOf i).toNat)
      case atStart => exact ⟨0, Nat.zero_le _, rfl, Below.refl _ _⟩
      case round =>
        rename World => Y
        obtain ⟨j, hj, rfl, BY⟩ := hrel
        by_cases hjl : j < nl
        · obtain ⟨g1, rfl⟩ := ha (by omega)
          obtain ⟨g2, rfl⟩ := hb' (by omega)
          have hjl0 : j < l0.length := by rw [HNL.out]; exact hjl
          obtain ⟨x, hx⟩ : ∃ x, l0[j] = x := ⟨_, rfl⟩
          have A5 := own_at5 HSA.out.a j hjl0 x hx
          have B5 := own_at5 HSA.out.b j hjl0 x hx
          have AN := HSA.out.an x (by rw [← hx]; exact List.getElem_mem hjl0)
          obtain ⟨an1, an2, hm⟩ := AN
          have W1 := hid1 (an1.wr.below BY)
          have W2 := hid1 (an2.wr.below BY)
          have HC := hid1 (kpF (And.intro A5 B5) BY)
          have HBY := hid1 BY
          have ij : (j : Int) < (nl : Int) := by omega
          have ij0 : (0 : Int) ≤ (j : Int) := by omega
          obtain ⟨xh, xv, xc, xe, xm, xN, xa, xb⟩ := x
          dsimp only at W1 W2 HC hm
          clear A5 B5 an1 an2 BY hx
          go_upto_region 23 with fail
          go_region_held3 (fun X => (X.cell? ⟨g1, j * 5, none⟩ = some (.int .i64 xh) ∧ X.cell? ⟨g1, j * 5 + 1, none⟩ = some (.int .i64 xv) ∧ X.cell? ⟨g1, j * 5 + 2, none⟩ = some (.int .i64 xc) ∧ X.cell? ⟨g1, j * 5 + 3, none⟩ = some (.slice xa xm xm) ∧ X.cell? ⟨g1, j * 5 + 4, none⟩ = some (.int .i64 xe)) ∧ X.cell? ⟨g2, j * 5, none⟩ = some (.int .i64 xh) ∧ X.cell? ⟨g2, j * 5 + 1, none⟩ = some (.int .i64 xv) ∧ X.cell? ⟨g2, j * 5 + 2, none⟩ = some (.int .i64 xc) ∧ X.cell? ⟨g2, j * 5 + 3, none⟩ = some (.slice xb xm xm) ∧ X.cell? ⟨g2, j * 5 + 4, none⟩ = some (.int .i64 xe))
            (((try dsimp only); (with_reducible refine kpF (W := Y) HC.out ?_); repeat (first | (with_reducible exact Below.refl _ _) | (with_reducible assumption) | (with_reducible refine Below.drew ?_))))
            ((go_at_call 23; refine (agree_true xh xv xc xe xm xN xa xb xm xm _ (by omega) (W1.out.below (Below.refl _ _).drew) (W2.out.below (Below.refl _ _).drew)).mono ?_; rintro e y2 ⟨rfl, hb⟩; have by1 : Below Y.heap.size Y y2 := bl_step (Below.refl _ _).drew hb; clear hb))
          go_wp2_with fail
          exact ⟨⟨j + 1, by omega, by go_num, bl_step HBY.out by1⟩, by simp [intOf]; omega⟩
        · obtain rfl : j = nl := by omega
          go_wp2_with fail
          go_ret
          exact ⟨rfl, bl_step HB0.out BY⟩
end Go.Proofs.Ytlghmojjcfjibaa
