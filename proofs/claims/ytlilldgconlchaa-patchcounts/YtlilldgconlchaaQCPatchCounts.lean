import Derived.Test.YtlilldgconlchaaQBPatchCounts
import Derived.Test.YtlilldgconlchaaDW2
/- heddlelaw13: a Case's fourteen cells; what made makes. -/
namespace Go.Proofs.Ytlilldgconlchaa
open Go.RowKit Go.Shelf

structure Ks where
  H : Int
  V : Int
  C : Int
  vv : Value
  r : Int
  s : Int
  sy : Int
  sx : Int
  t : Int
  l : Int
  b : Int
  q : Int
  bd : Int
  wv : Value
abbrev Ks.obj (v : Ks) : Obj := .cells #[.int .i64 v.H, .int .i64 v.V, .int .i64 v.C, v.vv, .int .i64 v.r, .int .i64 v.s, .int .i64 v.sy, .int .i64 v.sx, .int .i64 v.t, .int .i64 v.l, .int .i64 v.b, .int .i64 v.q, .int .i64 v.bd, v.wv] 29
def Ks.f (v : Ks) : Nat → Value := fun k => match k with
  | 0 => .int .i64 v.H | 1 => .int .i64 v.V | 2 => .int .i64 v.C | 3 => v.vv
  | 4 => .int .i64 v.r | 5 => .int .i64 v.s | 6 => .int .i64 v.sy | 7 => .int .i64 v.sx | 8 => .int .i64 v.t | 9 => .int .i64 v.l | 10 => .int .i64 v.b | 11 => .int .i64 v.q
  | 12 => .int .i64 v.bd | _ => v.wv
def Ks.ls (v : Ks) : List Value := [.int .i64 v.H, .int .i64 v.V, .int .i64 v.C, v.vv, .int .i64 v.r, .int .i64 v.s, .int .i64 v.sy, .int .i64 v.sx, .int .i64 v.t, .int .i64 v.l, .int .i64 v.b, .int .i64 v.q, .int .i64 v.bd, v.wv]
theorem Ks.ls_len (v : Ks) : v.ls.length = 14 := rfl
theorem Ks.ls_at (v : Ks) : ∀ j, j < 14 → v.ls[j]? = some (v.f j) := fun j hj => by
  rcases j with _ | _ | _ | _ | _ | _ | _ | _ | _ | _ | _ | _ | _ | _ | j
  all_goals first | rfl | omega
theorem Ks.ls_one (v : Ks) (h1 : v.vv.oneCell' = true) (h2 : v.wv.oneCell' = true) : v.ls.toArray.all (·.oneCell') = true := all_oneCell_toArray (by
  intro u hu
  simp only [Ks.ls, List.mem_cons, List.not_mem_nil, or_false] at hu
  rcases hu with rfl | rfl | rfl | rfl | rfl | rfl | rfl | rfl | rfl | rfl | rfl | rfl | rfl | rfl
  all_goals first | rfl | exact h1 | exact h2)
theorem info_ks : (Try.prog.info? 29).map (·.size) = some 14 := by kernel_rfl
theorem ks_range {w : World} {b : Nat} {v : Ks} (h : w.rowIs b 29 14 v.f) : w.rangeAt b 0 v.ls := fun j u hj => by
  by_cases e : j < 14
  · rw [v.ls_at j e] at hj
    cases hj
    rw [Nat.zero_add]; exact h.cell e
  · rw [List.getElem?_eq_none (by rw [v.ls_len]; omega)] at hj
    cases hj
theorem ks_there {w : World} {b : Nat} {f : Nat → Value} (h : w.rowIs b 29 14 f) : w.there b 0 14 := fun j hj => by
  rw [Nat.zero_add]; exact ⟨by rw [h.cell hj]; rfl, h.frozen j⟩
theorem ks_new (w : World) (v : Ks) : (w.alloc v.obj).rowIs w.heap.size 29 14 v.f :=
  World.rowIs_alloc w _ _ _ (fun i hi => by
    rcases i with _ | _ | _ | _ | _ | _ | _ | _ | _ | _ | _ | _ | _ | _ | i
    all_goals first | rfl | (simp at hi; omega))
/-- A window's eight cells. -/
def wiI (r s sy sx t l b q : Int) : Nat → Value := fun k => match k with
  | 0 => .int .i64 r | 1 => .int .i64 s | 2 => .int .i64 sy | 3 => .int .i64 sx | 4 => .int .i64 t | 5 => .int .i64 l | 6 => .int .i64 b | _ => .int .i64 q
theorem wiI_new (w : World) (r s sy sx t l b q : Int) : (w.alloc (.cells #[.int .i64 r, .int .i64 s, .int .i64 sy, .int .i64 sx, .int .i64 t, .int .i64 l, .int .i64 b, .int .i64 q] 25)).rowIs w.heap.size 25 8 (wiI r s sy sx t l b q) :=
  World.rowIs_alloc w _ _ _ (fun i hi => by
    rcases i with _ | _ | _ | _ | _ | _ | _ | _ | i
    all_goals first | rfl | (simp at hi; omega))
/-- The values of a list that begins anew where it ends: pluses and minuses. -/
def vlM (l : List Int) (N : Nat) : List Int := (List.range N).map fun (i : Nat) => if 0 < l.length ∧ 0 < ia l ((i + i / l.length) % l.length) then 1 else -1
/-- .. and weights. -/
def wtM (l : List Int) (N : Nat) : List Int := (List.range N).map fun (i : Nat) => if 0 < l.length then (ia l ((i + i / l.length) % l.length)).tmod 2 else 1
theorem vlM_len (l : List Int) (N : Nat) : (vlM l N).length = N := by simp [vlM]
theorem wtM_len (l : List Int) (N : Nat) : (wtM l N).length = N := by simp [wtM]
theorem vlM_snoc (l : List Int) (N : Nat) : vlM l (N + 1) = vlM l N ++ [if 0 < l.length ∧ 0 < ia l ((N + N / l.length) % l.length) then 1 else -1] := by simp [vlM, List.range_succ]
theorem wtM_snoc (l : List Int) (N : Nat) : wtM l (N + 1) = wtM l N ++ [if 0 < l.length then (ia l ((N + N / l.length) % l.length)).tmod 2 else 1] := by simp [wtM, List.range_succ]
theorem vlM_at (l : List Int) {N k : Nat} (h : k < N) : ia (vlM l N) k = if 0 < l.length ∧ 0 < ia l ((k + k / l.length) % l.length) then 1 else -1 := by
  have e : (vlM l N)[k]? = some (if 0 < l.length ∧ 0 < ia l ((k + k / l.length) % l.length) then 1 else -1) := by simp [vlM, h]
  unfold ia at e ⊢
  rw [List.getD_eq_getElem?_getD, e]
  rfl
theorem wtM_at (l : List Int) {N k : Nat} (h : k < N) : ia (wtM l N) k = if 0 < l.length then (ia l ((k + k / l.length) % l.length)).tmod 2 else 1 := by simp [ia, wtM, List.getD, h]
/-- The Case that made makes. -/
def ksM (h v c r s sy sx t l b q bd : Int) (vv wv : Value) : Ks :=
  let H := wi h 1 6
  let V := wi v 1 6
  let T := wi t 0 3
  let L := wi l 0 3
  let B := wi b 0 3
  let Q := wi q 0 3
  ⟨H, V, wi c 1 70, vv, wi r 1 (H + T + B), wi s 1 (V + L + Q), wi sy 1 4, wi sx 1 4, T, L, B, Q, wi bd (-1) 1, wv⟩
end Go.Proofs.Ytlilldgconlchaa
/- heddlelaw13: made. -/
namespace Go.Proofs.Ytlilldgconlchaa
open Go.RowKit Go.Shelf

/-- What made keeps: the shape's and the window's boxes, the result's block, the Case under way. -/
structure Mm (w W : World) (h v c r s sy sx t l b q : Int) (K : Ks) : Prop where
  z : w.heap.size + 4 ≤ W.heap.size
  b0 : W.rowIs w.heap.size 23 3 (hf h v c)
  b1 : W.rowIs (w.heap.size + 1) 25 8 (wiI r s sy sx t l b q)
  b2 : ∃ f, W.rowIs (w.heap.size + 2) 29 14 f
  b3 : W.rowIs (w.heap.size + 3) 29 14 K.f
  o : Below w.heap.size w W
theorem Mm.drew {w W : World} {h v c r s sy sx t l b q : Int} {K : Ks} (m : Mm w W h v c r s sy sx t l b q K) : Mm w W.drew h v c r s sy sx t l b q K := ⟨m.z, m.b0, m.b1, m.b2, m.b3, m.o.drew⟩
/-- A cell of the Case turned. -/
theorem Mm.set {w W : World} {h v c r s sy sx t l b q : Int} {K K' : Ks} (m : Mm w W h v c r s sy sx t l b q K) (i : Nat) (x : Value) (e : ∀ k, k < 14 → K'.f k = if k = i then x else K.f k) : Mm w (W.setCell ⟨w.heap.size + 3, i, none⟩ x) h v c r s sy sx t l b q K' := by
  obtain ⟨f, hf2⟩ := m.b2
  refine ⟨by have := m.z; simpa using this, m.b0.setOther (a := ⟨w.heap.size + 3, i, none⟩) (by show w.heap.size ≠ w.heap.size + 3; omega) _, m.b1.setOther (a := ⟨w.heap.size + 3, i, none⟩) (by show w.heap.size + 1 ≠ w.heap.size + 3; omega) _, ⟨f, hf2.setOther (a := ⟨w.heap.size + 3, i, none⟩) (by show w.heap.size + 2 ≠ w.heap.size + 3; omega) _⟩, (m.b3.set i x).congr fun k hk => (e k hk).symm, bl_set m.o (by omega) _⟩
theorem Mm.s0 {w W : World} {h v c r s sy sx t l b q : Int} {K : Ks} (m : Mm w W h v c r s sy sx t l b q K) (x : Int) : Mm w (W.setCell ⟨w.heap.size + 3, 0, none⟩ (.int .i64 x)) h v c r s sy sx t l b q { K with H := x } := m.set 0 _ fun k hk => by
  rcases k with _ | _ | _ | _ | _ | _ | _ | _ | _ | _ | _ | _ | _ | _ | k
  all_goals first | rfl | omega
theorem Mm.s1 {w W : World} {h v c r s sy sx t l b q : Int} {K : Ks} (m : Mm w W h v c r s sy sx t l b q K) (x : Int) : Mm w (W.setCell ⟨w.heap.size + 3, 1, none⟩ (.int .i64 x)) h v c r s sy sx t l b q { K with V := x } := m.set 1 _ fun k hk => by
  rcases k with _ | _ | _ | _ | _ | _ | _ | _ | _ | _ | _ | _ | _ | _ | k
  all_goals first | rfl | omega
theorem Mm.s2 {w W : World} {h v c r s sy sx t l b q : Int} {K : Ks} (m : Mm w W h v c r s sy sx t l b q K) (x : Int) : Mm w (W.setCell ⟨w.heap.size + 3, 2, none⟩ (.int .i64 x)) h v c r s sy sx t l b q { K with C := x } := m.set 2 _ fun k hk => by
  rcases k with _ | _ | _ | _ | _ | _ | _ | _ | _ | _ | _ | _ | _ | _ | k
  all_goals first | rfl | omega
theorem Mm.s3 {w W : World} {h v c r s sy sx t l b q : Int} {K : Ks} (m : Mm w W h v c r s sy sx t l b q K) (x : Value) : Mm w (W.setCell ⟨w.heap.size + 3, 3, none⟩ (x)) h v c r s sy sx t l b q { K with vv := x } := m.set 3 _ fun k hk => by
  rcases k with _ | _ | _ | _ | _ | _ | _ | _ | _ | _ | _ | _ | _ | _ | k
  all_goals first | rfl | omega
theorem Mm.s4 {w W : World} {h v c r s sy sx t l b q : Int} {K : Ks} (m : Mm w W h v c r s sy sx t l b q K) (x : Int) : Mm w (W.setCell ⟨w.heap.size + 3, 4, none⟩ (.int .i64 x)) h v c r s sy sx t l b q { K with r := x } := m.set 4 _ fun k hk => by
  rcases k with _ | _ | _ | _ | _ | _ | _ | _ | _ | _ | _ | _ | _ | _ | k
  all_goals first | rfl | omega
theorem Mm.s5 {w W : World} {h v c r s sy sx t l b q : Int} {K : Ks} (m : Mm w W h v c r s sy sx t l b q K) (x : Int) : Mm w (W.setCell ⟨w.heap.size + 3, 5, none⟩ (.int .i64 x)) h v c r s sy sx t l b q { K with s := x } := m.set 5 _ fun k hk => by
  rcases k with _ | _ | _ | _ | _ | _ | _ | _ | _ | _ | _ | _ | _ | _ | k
  all_goals first | rfl | omega
theorem Mm.s6 {w W : World} {h v c r s sy sx t l b q : Int} {K : Ks} (m : Mm w W h v c r s sy sx t l b q K) (x : Int) : Mm w (W.setCell ⟨w.heap.size + 3, 6, none⟩ (.int .i64 x)) h v c r s sy sx t l b q { K with sy := x } := m.set 6 _ fun k hk => by
  rcases k with _ | _ | _ | _ | _ | _ | _ | _ | _ | _ | _ | _ | _ | _ | k
  all_goals first | rfl | omega
theorem Mm.s7 {w W : World} {h v c r s sy sx t l b q : Int} {K : Ks} (m : Mm w W h v c r s sy sx t l b q K) (x : Int) : Mm w (W.setCell ⟨w.heap.size + 3, 7, none⟩ (.int .i64 x)) h v c r s sy sx t l b q { K with sx := x } := m.set 7 _ fun k hk => by
  rcases k with _ | _ | _ | _ | _ | _ | _ | _ | _ | _ | _ | _ | _ | _ | k
  all_goals first | rfl | omega
theorem Mm.s8 {w W : World} {h v c r s sy sx t l b q : Int} {K : Ks} (m : Mm w W h v c r s sy sx t l b q K) (x : Int) : Mm w (W.setCell ⟨w.heap.size + 3, 8, none⟩ (.int .i64 x)) h v c r s sy sx t l b q { K with t := x } := m.set 8 _ fun k hk => by
  rcases k with _ | _ | _ | _ | _ | _ | _ | _ | _ | _ | _ | _ | _ | _ | k
  all_goals first | rfl | omega
theorem Mm.s9 {w W : World} {h v c r s sy sx t l b q : Int} {K : Ks} (m : Mm w W h v c r s sy sx t l b q K) (x : Int) : Mm w (W.setCell ⟨w.heap.size + 3, 9, none⟩ (.int .i64 x)) h v c r s sy sx t l b q { K with l := x } := m.set 9 _ fun k hk => by
  rcases k with _ | _ | _ | _ | _ | _ | _ | _ | _ | _ | _ | _ | _ | _ | k
  all_goals first | rfl | omega
theorem Mm.s10 {w W : World} {h v c r s sy sx t l b q : Int} {K : Ks} (m : Mm w W h v c r s sy sx t l b q K) (x : Int) : Mm w (W.setCell ⟨w.heap.size + 3, 10, none⟩ (.int .i64 x)) h v c r s sy sx t l b q { K with b := x } := m.set 10 _ fun k hk => by
  rcases k with _ | _ | _ | _ | _ | _ | _ | _ | _ | _ | _ | _ | _ | _ | k
  all_goals first | rfl | omega
theorem Mm.s11 {w W : World} {h v c r s sy sx t l b q : Int} {K : Ks} (m : Mm w W h v c r s sy sx t l b q K) (x : Int) : Mm w (W.setCell ⟨w.heap.size + 3, 11, none⟩ (.int .i64 x)) h v c r s sy sx t l b q { K with q := x } := m.set 11 _ fun k hk => by
  rcases k with _ | _ | _ | _ | _ | _ | _ | _ | _ | _ | _ | _ | _ | _ | k
  all_goals first | rfl | omega
theorem Mm.s12 {w W : World} {h v c r s sy sx t l b q : Int} {K : Ks} (m : Mm w W h v c r s sy sx t l b q K) (x : Int) : Mm w (W.setCell ⟨w.heap.size + 3, 12, none⟩ (.int .i64 x)) h v c r s sy sx t l b q { K with bd := x } := m.set 12 _ fun k hk => by
  rcases k with _ | _ | _ | _ | _ | _ | _ | _ | _ | _ | _ | _ | _ | _ | k
  all_goals first | rfl | omega
theorem Mm.s13 {w W : World} {h v c r s sy sx t l b q : Int} {K : Ks} (m : Mm w W h v c r s sy sx t l b q K) (x : Value) : Mm w (W.setCell ⟨w.heap.size + 3, 13, none⟩ (x)) h v c r s sy sx t l b q { K with wv := x } := m.set 13 _ fun k hk => by
  rcases k with _ | _ | _ | _ | _ | _ | _ | _ | _ | _ | _ | _ | _ | _ | k
  all_goals first | rfl | omega
theorem Mm.win {w W : World} {h v c r s sy sx t l b q : Int} {K : Ks} (m : Mm w W h v c r s sy sx t l b q K) (x0 x1 x2 x3 x4 x5 x6 x7 : Int) : Mm w (W.setCells (w.heap.size + 3) 4 [.int .i64 x0, .int .i64 x1, .int .i64 x2, .int .i64 x3, .int .i64 x4, .int .i64 x5, .int .i64 x6, .int .i64 x7]) h v c r s sy sx t l b q { K with r := x0, s := x1, sy := x2, sx := x3, t := x4, l := x5, b := x6, q := x7 } :=
  (((((((m.s4 x0).s5 x1).s6 x2).s7 x3).s8 x4).s9 x5).s10 x6).s11 x7
theorem Mm.there {w W : World} {h v c r s sy sx t l b q : Int} {K : Ks} (m : Mm w W h v c r s sy sx t l b q K) : W.there (w.heap.size + 3) 4 8 := fun j hj => ⟨by rw [m.b3.cell (i := 4 + j) (by omega)]; rfl, m.b3.frozen (4 + j)⟩
theorem info_winE : (Try.prog.info? 25).map (·.size) = some 8 := by kernel_rfl
theorem gen_listE {P : Program} {ops : Array Oper} {Q : Exit → Act → World → Prop} {rest : List Oper} {a : Act} {W : World} (p : World → Prop) (hp : p W) (h : ∀ W', p W' → wpList P ops Q rest a W') : wpList P ops Q rest a W := h W hp
theorem Mm.grow {w W W2 : World} {h v c r s sy sx t l b q : Int} {K : Ks} {ob : Obj} {base n : Nat} {u : Value} {xs : List Value} (m : Mm w W h v c r s sy sx t l b q K) (ho : W.ownsRow base 69 1 u n xs) (hb : w.heap.size ≤ base) (gr : (W.alloc ob).grownBy W2 u.ownBlock) : Mm w W2 h v c r s sy sx t l b q K := by
  obtain ⟨f, hf2⟩ := m.b2
  have hz := m.o.size
  have hB : Below w.heap.size w W2 := (m.o.alloc hz ob).grown gr (by simp; omega) (fun q hq => by have := (ho.lt q hq).1; omega)
  have h1 := row_grown (m.b0.alloc ob) (ho.alloc ob) gr (by decide)
  have h2 := row_grown (m.b1.alloc ob) (ho.alloc ob) gr (by decide)
  have h3 := row_grown (hf2.alloc ob) (ho.alloc ob) gr (by decide)
  have h4 := row_grown (m.b3.alloc ob) (ho.alloc ob) gr (by decide)
  exact ⟨by have := h4.lt; omega, h1, h2, ⟨f, h3⟩, h4, hB⟩
/-- Which place of a list that begins anew where it ends. -/
def rp (n i : Nat) : Nat := (i + i / n) % n
theorem rp_lt {n i : Nat} (h : 0 < n) : rp n i < n := Nat.mod_lt _ h
theorem vl_end {W : World} {lv : List Int} {n i b : Nat} {y : Int} {v2 : Value} (hn : lv.length = n) (ho : W.ownsRow (b + 1) 69 1 v2 (i + 1) (i8s (vlM lv i ++ [y]))) (hy : (if 0 < n ∧ 0 < ia lv (rp n i) then (1 : Int) else -1) = y) : (W.setCell ⟨b, 3, none⟩ v2).ownsRow (b + 1) 69 1 v2 (i + 1) (i8s (vlM lv (i + 1))) := by
  rw [vlM_snoc, hn]
  unfold rp at hy
  rw [hy]
  exact ownsRow_setCell_below ho (by show b < b + 1; omega) _
theorem app_one8a {ops : Array Oper} {rest : List Oper} {o : Oper} {a : Act} {Q : Exit → Act → World → Prop} {w : World} (hgd : o.guard = none) (s x : Operand)
    (ho : o.op = .call { callee := .builtin .append, args := #[s, x], argTypes := #[26, 26] }) (base : Nat) (v : Value) (l : List Int) (n : Nat) (hs : a.eval s = v) (hown : w.ownsRow base 69 1 v n (i8s l))
    (y : Int) (hx : a.eval x = .slice (some ⟨w.heap.size, 0, none⟩) 1 1) (hM : n ≤ 140737488351252) (hb : base ≤ w.heap.size)
    (h : ∀ v' w', w'.ownsRow base 69 1 v' (n + 1) (i8s (l ++ [y])) → (w.alloc (.cells #[.int .i8 y] 69)).grownBy w' v.ownBlock → (v'.ownBlock = v.ownBlock ∨ v'.ownBlock = some (w.heap.size + 1)) → wpList Try.prog ops Q rest (a.put o.dst v') w') : wpList Try.prog ops Q (o :: rest) a (w.alloc (.cells #[.int .i8 y] 69)) := by
  obtain ⟨i0, hi, hz0, hz1, hz2⟩ := info_parts info_i8
  refine wpList_append_own_at _ hgd s x _ ho base 69 i0 (.int .i8 0) 1 1 und_i8s hi hz0 hz1 hz2 rfl (by decide) v n (i8s l) hs (hown.alloc _) ⟨w.heap.size, 0, none⟩ 1 1 [.int .i8 y] hx rfl
    (fun j u hu => ?_) (fun u hu => by simp at hu; subst hu; rfl) (by unfold maxLen; omega) (by omega) (by simp; omega) ?_
  · rcases j with _ | j
    · simp at hu; subst hu; simp [Addr.add, go_sem]
    · simp at hu
  · intro v' w' h1 h2 _ h3
    exact h v' w' (by rw [i8s_snoc]; exact h1) h2 (by simpa using h3)
/-- Two lists, apart: one grows. -/
theorem apart_grow {W W2 : World} {base n : Nat} {u x x' : Value} {xs : List Value} {ob : Obj} (hu : W.ownsRow base 69 1 u n xs) (hne : u.ownBlock = none ∨ u.ownBlock ≠ x.ownBlock) (gr : (W.alloc ob).grownBy W2 x.ownBlock) (at' : x'.ownBlock = x.ownBlock ∨ x'.ownBlock = some (W.heap.size + 1)) :
    W2.ownsRow base 69 1 u n xs ∧ (u.ownBlock = none ∨ u.ownBlock ≠ x'.ownBlock) := by
  refine ⟨own_kept2 hu hne gr, ?_⟩
  rcases hne with h | h
  · exact .inl h
  · rcases at' with e | e
    · rw [e]; exact .inr h
    · right
      rw [e]
      intro e2
      have := (hu.lt _ e2).2
      omega
theorem wt_end {W : World} {lw : List Int} {n i b : Nat} {y : Int} {v2 : Value} (hn : lw.length = n) (ho : W.ownsRow (b + 1) 69 1 v2 (i + 1) (i8s (wtM lw i ++ [y]))) (hy : (if 0 < n then (ia lw (rp n i)).tmod 2 else (1 : Int)) = y) : (W.setCell ⟨b, 13, none⟩ v2).ownsRow (b + 1) 69 1 v2 (i + 1) (i8s (wtM lw (i + 1))) := by
  rw [wtM_snoc, hn]
  unfold rp at hy
  rw [hy]
  exact ownsRow_setCell_below ho (by show b < b + 1; omega) _
theorem own_butE {w w' : World} {base g : Nat} {e : TypeId} {size n : Nat} {v : Value} {xs : List Value} (h : w.ownsRow base e size v n xs) (hb : But g w w') (hg : g < base) : w'.ownsRow base e size v n xs := by
  refine h.kept (row := some g) ⟨hb.os, hb.tape, hb.output, hb.size, fun k hk hn => hb.block k hk (fun e => hn (by rw [e]))⟩ ?_
  cases e1 : v.ownBlock with
  | none => simp
  | some k => right; intro e2; have := (h.lt k e1).1; injection e2 with e2; omega
theorem alloc_at {w : World} {o : Obj} {t n k : Nat} {f : Nat → Value} (h : (w.alloc o).rowIs w.heap.size t n f) (e : w.heap.size = k) : (w.alloc o).rowIs k t n f := e ▸ h
set_option maxHeartbeats 6400000 in
set_option maxRecDepth 100000 in
theorem madeE_any (h v c r s sy sx t l b q bd : Int) (ao : Option Addr) (lv : List Int) (n ca : Nat) (hn : lv.length = n) (bo : Option Addr) (lw : List Int) (m cb : Nat) (hm : lw.length = m) (w : World) (hnb : n ≤ 140737488351232) (hmb : m ≤ 140737488351232) (ra : R8 w ao lv) (rb : R8 w bo lw) :
    Calls Try.prog 10 #[Sg.shp h v c, Sg.win r s sy sx t l b q, .int .i64 bd, .slice ao n ca, .slice bo m cb] w fun e w' => ∃ vv wv K, K = ksM h v c r s sy sx t l b q bd vv wv ∧ e = .returned (.agg K.ls.toArray) ∧
      w'.ownsRow (w.heap.size + 4) 69 1 vv (K.H * K.V * K.C).toNat (i8s (vlM lv (K.H * K.V * K.C).toNat)) ∧ w'.ownsRow (w.heap.size + 4) 69 1 wv (K.r * K.s * K.C).toNat (i8s (wtM lw (K.r * K.s * K.C).toNat)) ∧ (vv.ownBlock = none ∨ vv.ownBlock ≠ wv.ownBlock) ∧ Below w.heap.size w w' := by
  have RA := hid1 ra
  have RB := hid1 rb
  have HN := hid1 hn
  have HM := hid1 hm
  clear ra rb hn hm
  go_enter Try.func10, Try.ntmps10
  go_upto_region 2 with fail
  refine gen_world (fun W => Mm w W h v c r s sy sx t l b q ⟨0, 0, 0, .slice none 0 0, 0, 0, 0, 0, 0, 0, 0, 0, 0, .slice none 0 0⟩) ?_ ?_
  · exact ⟨by simp, (((hf_new w _ _ _ _).alloc _).alloc _).alloc _, ((alloc_at (wiI_new _ _ _ _ _ _ _ _ _) (by simp)).alloc _).alloc _, ⟨_, (alloc_at (ks_new _ ⟨0, 0, 0, .slice none 0 0, 0, 0, 0, 0, 0, 0, 0, 0, 0, .slice none 0 0⟩) (by simp)).alloc _⟩, alloc_at (ks_new _ ⟨0, 0, 0, .slice none 0 0, 0, 0, 0, 0, 0, 0, 0, 0, 0, .slice none 0 0⟩) (by simp), bl_alloc (bl_alloc (bl_alloc (bl_alloc (Below.refl _ _) _) _) _) _⟩
  · intro W m0
    obtain ⟨H, eH⟩ : ∃ H, wi h 1 6 = H := ⟨_, rfl⟩
    obtain ⟨V, eV⟩ : ∃ V, wi v 1 6 = V := ⟨_, rfl⟩
    obtain ⟨C, eC⟩ : ∃ C, wi c 1 70 = C := ⟨_, rfl⟩
    have W1 := hid1 (fun X => withinE_any h 1 6 (by omega) (by omega) (by omega) X)
    have W2 := hid1 (fun X => withinE_any v 1 6 (by omega) (by omega) (by omega) X)
    have W3 := hid1 (fun X => withinE_any c 1 70 (by omega) (by omega) (by omega) X)
    rw [eH] at W1
    rw [eV] at W2
    rw [eC] at W3
    have c0 := hf0 m0.b0
    have c1 := hf1 m0.b0
    have c2 := hf2 m0.b0
    have k0 := m0.b3.cell (i := 0) (by omega)
    have k1 := m0.b3.cell (i := 1) (by omega)
    have k2 := m0.b3.cell (i := 2) (by omega)
    have f0 := m0.b3.frozen 0
    have f1 := m0.b3.frozen 1
    have f2 := m0.b3.frozen 2
    have z := m0.z
    have HM0 := hid1 m0
    clear m0
    refine still_tail 11 (by kernel_rfl) ?_
    simp only [List.take_succ_cons, List.take_zero, List.drop_succ_cons, List.drop_zero]
    repeat still_step
    still_call (W1.out _)
    repeat still_step
    still_call (W2.out _)
    repeat still_step
    still_call (W3.out _)
    repeat still_step
    refine wpStill_nil ?_
    go_upto_region 3 with fail
    refine gen_world (fun X => Mm w X h v c r s sy sx t l b q ⟨H, V, C, .slice none 0 0, 0, 0, 0, 0, 0, 0, 0, 0, 0, .slice none 0 0⟩) (((HM0.out.drew.s0 H).s1 V).s2 C) ?_
    clear HM0 W1 W2 W3 c0 c1 c2 k0 k1 k2 f0 f1 f2 z
    intro X m0
    obtain ⟨T, eT⟩ : ∃ x, wi t 0 3 = x := ⟨_, rfl⟩
    obtain ⟨L, eL⟩ : ∃ x, wi l 0 3 = x := ⟨_, rfl⟩
    obtain ⟨B, eB⟩ : ∃ x, wi b 0 3 = x := ⟨_, rfl⟩
    obtain ⟨Q, eQ⟩ : ∃ x, wi q 0 3 = x := ⟨_, rfl⟩
    obtain ⟨SY, eSY⟩ : ∃ x, wi sy 1 4 = x := ⟨_, rfl⟩
    obtain ⟨SX, eSX⟩ : ∃ x, wi sx 1 4 = x := ⟨_, rfl⟩
    have W1 := hid1 (fun X => withinE_any t 0 3 (by omega) (by omega) (by omega) X)
    have W2 := hid1 (fun X => withinE_any l 0 3 (by omega) (by omega) (by omega) X)
    have W3 := hid1 (fun X => withinE_any b 0 3 (by omega) (by omega) (by omega) X)
    have W4 := hid1 (fun X => withinE_any q 0 3 (by omega) (by omega) (by omega) X)
    have W5 := hid1 (fun X => withinE_any sy 1 4 (by omega) (by omega) (by omega) X)
    have W6 := hid1 (fun X => withinE_any sx 1 4 (by omega) (by omega) (by omega) X)
    rw [eT] at W1
    rw [eL] at W2
    rw [eB] at W3
    rw [eQ] at W4
    rw [eSY] at W5
    rw [eSX] at W6
    have c2 := m0.b1.cell (i := 2) (by omega)
    have c3 := m0.b1.cell (i := 3) (by omega)
    have c4 := m0.b1.cell (i := 4) (by omega)
    have c5 := m0.b1.cell (i := 5) (by omega)
    have c6 := m0.b1.cell (i := 6) (by omega)
    have c7 := m0.b1.cell (i := 7) (by omega)
    have z := m0.z
    have HM0 := hid1 m0
    clear m0
    refine still_tail 20 (by kernel_rfl) ?_
    simp only [List.take_succ_cons, List.take_zero, List.drop_succ_cons, List.drop_zero]
    repeat still_step
    still_call (W1.out _)
    repeat still_step
    still_call (W2.out _)
    repeat still_step
    still_call (W3.out _)
    repeat still_step
    still_call (W4.out _)
    repeat still_step
    still_call (W5.out _)
    repeat still_step
    still_call (W6.out _)
    repeat still_step
    refine wpStill_nil ?_
    refine wpList_store_mid rfl 25 _ _ rfl (w.heap.size + 3) 4 #[.int .i64 0, .int .i64 0, .int .i64 SY, .int .i64 SX, .int .i64 T, .int .i64 L, .int .i64 B, .int .i64 Q] (by go_simp) (by go_simp) HM0.out.drew.there info_winE (by simp [Value.oneCell']) ?_
    have HM1 := hid1 (HM0.out.drew.win 0 0 SY SX T L B Q)
    refine gen_listE (fun X => Mm w X h v c r s sy sx t l b q ⟨H, V, C, .slice none 0 0, 0, 0, SY, SX, T, L, B, Q, 0, .slice none 0 0⟩) HM1.out ?_
    clear HM0 HM1 W1 W2 W3 W4 W5 W6 c2 c3 c4 c5 c6 c7 z
    intro Y m0
    go_upto_region 4 with fail
    obtain ⟨h1, h6⟩ := (eH ▸ wi_bd (by omega) : 1 ≤ H ∧ H ≤ 6)
    obtain ⟨v1, v6⟩ := (eV ▸ wi_bd (by omega) : 1 ≤ V ∧ V ≤ 6)
    obtain ⟨c1, c70⟩ := (eC ▸ wi_bd (by omega) : 1 ≤ C ∧ C ≤ 70)
    obtain ⟨t1, t3⟩ := (eT ▸ wi_bd (by omega) : 0 ≤ T ∧ T ≤ 3)
    obtain ⟨l1, l3⟩ := (eL ▸ wi_bd (by omega) : 0 ≤ L ∧ L ≤ 3)
    obtain ⟨b1, b3⟩ := (eB ▸ wi_bd (by omega) : 0 ≤ B ∧ B ≤ 3)
    obtain ⟨q1, q3⟩ := (eQ ▸ wi_bd (by omega) : 0 ≤ Q ∧ Q ≤ 3)
    obtain ⟨R, eR⟩ : ∃ x, wi r 1 (H + T + B) = x := ⟨_, rfl⟩
    obtain ⟨S, eS⟩ : ∃ x, wi s 1 (V + L + Q) = x := ⟨_, rfl⟩
    obtain ⟨D, eD⟩ : ∃ x, wi bd (-1) 1 = x := ⟨_, rfl⟩
    have hR := wi_bd (n := r) (show 1 ≤ H + T + B by omega)
    have hS := wi_bd (n := s) (show 1 ≤ V + L + Q by omega)
    have W1 := hid1 (fun X => withinE_any r 1 (H + T + B) (by omega) (by omega) (by omega) X)
    have W2 := hid1 (fun X => withinE_any s 1 (V + L + Q) (by omega) (by omega) (by omega) X)
    have W3 := hid1 (fun X => withinE_any bd (-1) 1 (by omega) (by omega) (by omega) X)
    rw [eR] at W1 hR
    rw [eS] at W2 hS
    rw [eD] at W3
    have a1 : IntKind.i64.wrap (H + T) = H + T := by rw [IntKind.wrap_i64]; omega
    have a2 : IntKind.i64.wrap (H + T + B) = H + T + B := by rw [IntKind.wrap_i64]; omega
    have a3 : IntKind.i64.wrap (V + L) = V + L := by rw [IntKind.wrap_i64]; omega
    have a4 : IntKind.i64.wrap (V + L + Q) = V + L + Q := by rw [IntKind.wrap_i64]; omega
    have d0 : Y.cell? ⟨w.heap.size + 1, 0, none⟩ = some (.int .i64 r) := m0.b1.cell (i := 0) (by omega)
    have d1 : Y.cell? ⟨w.heap.size + 1, 1, none⟩ = some (.int .i64 s) := m0.b1.cell (i := 1) (by omega)
    have k0 : Y.cell? ⟨w.heap.size + 3, 0, none⟩ = some (.int .i64 H) := m0.b3.cell (i := 0) (by omega)
    have k1 : Y.cell? ⟨w.heap.size + 3, 1, none⟩ = some (.int .i64 V) := m0.b3.cell (i := 1) (by omega)
    have k4 : Y.cell? ⟨w.heap.size + 3, 4, none⟩ = some (.int .i64 0) := m0.b3.cell (i := 4) (by omega)
    have k5 : Y.cell? ⟨w.heap.size + 3, 5, none⟩ = some (.int .i64 0) := m0.b3.cell (i := 5) (by omega)
    have k8 : Y.cell? ⟨w.heap.size + 3, 8, none⟩ = some (.int .i64 T) := m0.b3.cell (i := 8) (by omega)
    have k9 : Y.cell? ⟨w.heap.size + 3, 9, none⟩ = some (.int .i64 L) := m0.b3.cell (i := 9) (by omega)
    have k10 : Y.cell? ⟨w.heap.size + 3, 10, none⟩ = some (.int .i64 B) := m0.b3.cell (i := 10) (by omega)
    have k11 : Y.cell? ⟨w.heap.size + 3, 11, none⟩ = some (.int .i64 Q) := m0.b3.cell (i := 11) (by omega)
    have k12 : Y.cell? ⟨w.heap.size + 3, 12, none⟩ = some (.int .i64 0) := m0.b3.cell (i := 12) (by omega)
    have f4 := m0.b3.frozen 4
    have f5 := m0.b3.frozen 5
    have f12 := m0.b3.frozen 12
    have z := m0.z
    have HM0 := hid1 m0
    clear m0
    go_wp2_with (first | (go_at_call 32; refine (W1.out _).mono ?_; rintro e y1 ⟨rfl, rfl⟩; clear W1) | (go_at_call 32; refine (W2.out _).mono ?_; rintro e y1 ⟨rfl, rfl⟩; clear W2) | (go_at_call 32; refine (W3.out _).mono ?_; rintro e y1 ⟨rfl, rfl⟩; clear W3))
    have m1 := ((HM0.out.s4 R).s5 S).s12 D
    refine gen_world (fun X => Mm w X h v c r s sy sx t l b q ⟨H, V, C, .slice none 0 0, R, S, SY, SX, T, L, B, Q, D, .slice none 0 0⟩) m1 ?_
    clear HM0 m1 d0 d1 k0 k1 k4 k5 k8 k9 k10 k11 k12 f4 f5 f12 z a1 a2 a3 a4
    intro Y1 m1
    have HM1 := hid1 m1
    obtain ⟨R1, RT⟩ := hR
    obtain ⟨S1, SS⟩ := hS
    have p1 : 0 < H * V := Int.mul_pos (by omega) (by omega)
    have p2 : H * V ≤ 6 * 6 := Int.mul_le_mul h6 v6 (by omega) (by omega)
    have p3 : 0 < H * V * C := Int.mul_pos p1 (by omega)
    have p4 : H * V * C ≤ 6 * 6 * 70 := Int.mul_le_mul p2 c70 (by omega) (by omega)
    obtain ⟨P1, eP1⟩ : ∃ x, H * V = x := ⟨_, rfl⟩
    rw [eP1] at p1 p2 p3 p4
    obtain ⟨NV, eNV⟩ : ∃ k : Nat, P1 * C = k := ⟨(P1 * C).toNat, by omega⟩
    rw [eNV] at p3 p4
    have wv1 : IntKind.i64.wrap (H * V) = P1 := by rw [eP1, IntKind.wrap_i64]; omega
    have wv2 : IntKind.i64.wrap (P1 * C) = (NV : Int) := by rw [eNV, IntKind.wrap_i64]; omega
    have hNV : NV ≤ 2520 := by omega
    have ENV := hid1 (show (H * V * C).toNat = NV by rw [eP1, eNV]; rfl)
    clear m1 eP1 eNV
    go_loopw [12] (fun x wr => ∃ (i : Nat) (u : Value), i ≤ NV ∧ x = .int .i64 i ∧ Mm w wr h v c r s sy sx t l b q ⟨H, V, C, u, R, S, SY, SX, T, L, B, Q, D, .slice none 0 0⟩ ∧ wr.ownsRow (w.heap.size + 4) 69 1 u i (i8s (vlM lv i))) (fun x _ => NV - (intOf x).toNat)
    case atStart => exact ⟨0, _, Nat.zero_le _, rfl, HM1.out, World.ownsRow_nil _ _ _ _⟩
    case round =>
      rename World => Z
      clear HM1
      obtain ⟨i, u, hi, rfl, m1, ow⟩ := hrel
      have k0 : Z.cell? ⟨w.heap.size + 3, 0, none⟩ = some (.int .i64 H) := m1.b3.cell (i := 0) (by omega)
      have k1 : Z.cell? ⟨w.heap.size + 3, 1, none⟩ = some (.int .i64 V) := m1.b3.cell (i := 1) (by omega)
      have k2 : Z.cell? ⟨w.heap.size + 3, 2, none⟩ = some (.int .i64 C) := m1.b3.cell (i := 2) (by omega)
      have HM1 := hid1 m1
      have HOW := hid1 ow
      have i0 : (0 : Int) ≤ (i : Int) := by omega
      by_cases hlt : i < NV
      · have ii : (i : Int) < (NV : Int) := by omega
        have k3 : Z.cell? ⟨w.heap.size + 3, 3, none⟩ = some u := m1.b3.cell (i := 3) (by omega)
        have z := m1.z
        have zz := m1.o.size
        clear m1 ow
        as_aux_lemma =>
          by_cases hn0 : n = 0
          · subst hn0
            go_wp2_with (at_builtin; refine app_one8 rfl _ _ rfl (w.heap.size + 4) u (vlM lv i) i (by go_simp) (HOW.out.alloc _) Z.heap.size (-1) 1 (by go_simp) (by simp [go_sem]) (by omega) (by simp; omega) ?_; intro v2 w2 ow2 gr2; obtain ⟨zo, zcp, rfl⟩ := own_form13 ow2; have m2 := HM1.out.grow HOW.out (by omega) gr2; have c3 : w2.cell? ⟨w.heap.size + 3, 3, none⟩ = some u := m2.b3.cell (i := 3) (by omega); have f3 := m2.b3.frozen 3; have z2 := m2.z; have HM2 := hid1 m2; have HO2 := hid1 ow2; clear m2 ow2 gr2)
            have o3 := vl_end HN.out HO2.out (by simp)
            exact ⟨⟨i + 1, _, by omega, by go_num, HM2.out.s3 _, o3⟩, by simp [intOf]; omega⟩
          · have n0 : 0 < n := by omega
            have in0 : (0 : Int) < (n : Int) := by omega
            have in1 : ¬ (n : Int) = 0 := by omega
            have in2 : ¬ n = 0 := by omega
            have hrl := rp_lt (i := i) n0
            obtain ⟨d, ed⟩ : ∃ d, i / n = d := ⟨_, rfl⟩
            have hdi : d ≤ i := by rw [← ed]; exact Nat.div_le_self _ _
            have idv : (i : Int) / (n : Int) = (d : Int) := by rw [← ed]; simp
            have idt : (i : Int).tdiv (n : Int) = (d : Int) := by rw [Int.tdiv_eq_ediv_of_nonneg (by omega)]; exact idv
            have wdd : IntKind.i64.wrap (d : Int) = (d : Int) := by rw [IntKind.wrap_i64]; omega
            have wid : IntKind.i64.wrap ((i : Int) + (d : Int)) = (i : Int) + (d : Int) := by rw [IntKind.wrap_i64]; omega
            obtain ⟨j, ej⟩ : ∃ j, rp n i = j := ⟨_, rfl⟩
            have ejm : (i + d) % n = j := by rw [← ej, ← ed]; rfl
            have imo : ((i : Int) + (d : Int)) % (n : Int) = (j : Int) := by rw [← ejm]; simp
            have imt : ((i : Int) + (d : Int)).tmod (n : Int) = (j : Int) := by rw [Int.tmod_eq_emod_of_nonneg (by omega)]; exact imo
            rw [ej] at hrl
            have wj : IntKind.i64.wrap (j : Int) = (j : Int) := by rw [IntKind.wrap_i64]; omega
            have j0 : (0 : Int) ≤ (j : Int) := by omega
            have jn : (j : Int) < (n : Int) := by omega
            obtain ⟨ga, oa, ea, ca⟩ := RA.out j (by rw [HN.out]; exact hrl)
            cases ea
            replace ca := keepc HM1.out.o ca
            obtain ⟨y1, ey1⟩ : ∃ y1, ia lv j = y1 := ⟨_, rfl⟩
            rw [ey1] at ca
            have EY := hid1 (show ia lv (rp n i) = y1 by rw [ej, ey1])
            clear ed ej ejm ey1
            by_cases hy1 : 0 < y1
            · have gd : decide ((0 : Int) < y1) = true := decide_eq_true hy1
              go_wp2_with (at_builtin; refine app_one8 rfl _ _ rfl (w.heap.size + 4) u (vlM lv i) i (by go_simp) (HOW.out.alloc _) Z.heap.size (1) 1 (by go_simp) (by simp [go_sem]) (by omega) (by simp; omega) ?_; intro v2 w2 ow2 gr2; obtain ⟨zo, zcp, rfl⟩ := own_form13 ow2; have m2 := HM1.out.grow HOW.out (by omega) gr2; have c3 : w2.cell? ⟨w.heap.size + 3, 3, none⟩ = some u := m2.b3.cell (i := 3) (by omega); have f3 := m2.b3.frozen 3; have z2 := m2.z; have HM2 := hid1 m2; have HO2 := hid1 ow2; clear m2 ow2 gr2)
              have o3 := vl_end HN.out HO2.out (by rw [EY.out, if_pos ⟨n0, hy1⟩])
              exact ⟨⟨i + 1, _, by omega, by go_num, HM2.out.s3 _, o3⟩, by simp [intOf]; omega⟩
            · have gd : decide ((0 : Int) < y1) = false := decide_eq_false hy1
              have HY1 := hid1 hy1
              go_wp2_with (at_builtin; refine app_one8 rfl _ _ rfl (w.heap.size + 4) u (vlM lv i) i (by go_simp) (HOW.out.alloc _) Z.heap.size (-1) 1 (by go_simp) (by simp [go_sem]) (by omega) (by simp; omega) ?_; intro v2 w2 ow2 gr2; obtain ⟨zo, zcp, rfl⟩ := own_form13 ow2; have m2 := HM1.out.grow HOW.out (by omega) gr2; have c3 : w2.cell? ⟨w.heap.size + 3, 3, none⟩ = some u := m2.b3.cell (i := 3) (by omega); have f3 := m2.b3.frozen 3; have z2 := m2.z; have HM2 := hid1 m2; have HO2 := hid1 ow2; clear m2 ow2 gr2)
              have o3 := vl_end HN.out HO2.out (by rw [EY.out, if_neg (fun hh => HY1.out hh.2)])
              exact ⟨⟨i + 1, _, by omega, by go_num, HM2.out.s3 _, o3⟩, by simp [intOf]; omega⟩
      · have hiN : i = NV := by omega
        subst hiN
        clear m1 ow k0 k1 k2
        as_aux_lemma =>
          have p1 : 0 < R * S := Int.mul_pos (by omega) (by omega)
          have p2 : R * S ≤ 12 * 12 := Int.mul_le_mul (show R ≤ 12 by omega) (show S ≤ 12 by omega) (by omega) (by omega)
          have p3 : 0 < R * S * C := Int.mul_pos p1 (by omega)
          have p4 : R * S * C ≤ 12 * 12 * 70 := Int.mul_le_mul p2 c70 (by omega) (by omega)
          obtain ⟨P2, eP2⟩ : ∃ x, R * S = x := ⟨_, rfl⟩
          rw [eP2] at p1 p2 p3 p4
          obtain ⟨NW, eNW⟩ : ∃ k : Nat, P2 * C = k := ⟨(P2 * C).toNat, by omega⟩
          rw [eNW] at p3 p4
          have wu1 : IntKind.i64.wrap (R * S) = P2 := by rw [eP2, IntKind.wrap_i64]; omega
          have wu2 : IntKind.i64.wrap (P2 * C) = (NW : Int) := by rw [eNW, IntKind.wrap_i64]; omega
          have hNW : NW ≤ 10080 := by omega
          have ENW := hid1 (show (R * S * C).toNat = NW by rw [eP2, eNW]; rfl)
          have k0 : Z.cell? ⟨w.heap.size + 3, 0, none⟩ = some (.int .i64 H) := HM1.out.b3.cell (i := 0) (by omega)
          have k1 : Z.cell? ⟨w.heap.size + 3, 1, none⟩ = some (.int .i64 V) := HM1.out.b3.cell (i := 1) (by omega)
          have k2 : Z.cell? ⟨w.heap.size + 3, 2, none⟩ = some (.int .i64 C) := HM1.out.b3.cell (i := 2) (by omega)
          clear eP2 eNW
          go_wp2_with fail
          clear k0 k1 k2
          go_loopw [14] (fun a wr => ∃ (j : Nat) (x : Value), j ≤ NW ∧ a = .int .i64 j ∧ Mm w wr h v c r s sy sx t l b q ⟨H, V, C, u, R, S, SY, SX, T, L, B, Q, D, x⟩ ∧ wr.ownsRow (w.heap.size + 4) 69 1 x j (i8s (wtM lw j)) ∧ wr.ownsRow (w.heap.size + 4) 69 1 u i (i8s (vlM lv i)) ∧ (u.ownBlock = none ∨ u.ownBlock ≠ x.ownBlock)) (fun a _ => NW - (intOf a).toNat)
          case atStart => exact ⟨0, _, Nat.zero_le _, rfl, HM1.out, World.ownsRow_nil _ _ _ _, HOW.out, by cases u.ownBlock <;> simp [Value.ownBlock]⟩
          case round =>
            rename World => Y2
            clear HM1 HOW
            obtain ⟨j, x, hj, rfl, m1, ox, ou, ne⟩ := hrel
            have k2 : Y2.cell? ⟨w.heap.size + 3, 2, none⟩ = some (.int .i64 C) := m1.b3.cell (i := 2) (by omega)
            have k4 : Y2.cell? ⟨w.heap.size + 3, 4, none⟩ = some (.int .i64 R) := m1.b3.cell (i := 4) (by omega)
            have k5 : Y2.cell? ⟨w.heap.size + 3, 5, none⟩ = some (.int .i64 S) := m1.b3.cell (i := 5) (by omega)
            have HM1 := hid1 m1
            have HOX := hid1 ox
            have HOU := hid1 ou
            have HNE := hid1 ne
            have j0 : (0 : Int) ≤ (j : Int) := by omega
            by_cases hlt2 : j < NW
            · have jj : (j : Int) < (NW : Int) := by omega
              have k13 : Y2.cell? ⟨w.heap.size + 3, 13, none⟩ = some x := m1.b3.cell (i := 13) (by omega)
              have z := m1.z
              have zz := m1.o.size
              clear m1 ox ou ne hlt hi i0
              as_aux_lemma =>
                by_cases hm0 : m = 0
                · subst hm0
                  go_wp2_with (at_builtin; refine app_one8a rfl _ _ rfl (w.heap.size + 4) x (wtM lw j) j (by go_simp) HOX.out (1) (by go_simp) (by omega) (by omega) ?_; intro v2 w2 ow2 gr2 at2; obtain ⟨zo, zcp, rfl⟩ := own_form13 ow2; have m2 := HM1.out.grow HOX.out (by omega) gr2; have c13 : w2.cell? ⟨w.heap.size + 3, 13, none⟩ = some x := m2.b3.cell (i := 13) (by omega); have f13 := m2.b3.frozen 13; have z2 := m2.z; have HM2 := hid1 m2; have HO2 := hid1 ow2; have HAP := hid1 (apart_grow HOU.out HNE.out gr2 at2); clear m2 ow2 gr2 at2)
                  have o3 := wt_end HM.out HO2.out (by simp)
                  exact ⟨⟨j + 1, _, by omega, by go_num, HM2.out.s13 _, o3, ownsRow_setCell_below HAP.out.1 (by show w.heap.size + 3 < w.heap.size + 4; omega) _, HAP.out.2⟩, by simp [intOf]; omega⟩
                · have n0 : 0 < m := by omega
                  have in0 : (0 : Int) < (m : Int) := by omega
                  have in1 : ¬ (m : Int) = 0 := by omega
                  have in2 : ¬ m = 0 := by omega
                  have hrl := rp_lt (i := j) n0
                  obtain ⟨d, ed⟩ : ∃ d, j / m = d := ⟨_, rfl⟩
                  have hdi : d ≤ j := by rw [← ed]; exact Nat.div_le_self _ _
                  have idv : (j : Int) / (m : Int) = (d : Int) := by rw [← ed]; simp
                  have idt : (j : Int).tdiv (m : Int) = (d : Int) := by rw [Int.tdiv_eq_ediv_of_nonneg (by omega)]; exact idv
                  have wdd : IntKind.i64.wrap (d : Int) = (d : Int) := by rw [IntKind.wrap_i64]; omega
                  have wid : IntKind.i64.wrap ((j : Int) + (d : Int)) = (j : Int) + (d : Int) := by rw [IntKind.wrap_i64]; omega
                  obtain ⟨p, ep⟩ : ∃ p, rp m j = p := ⟨_, rfl⟩
                  have epm : (j + d) % m = p := by rw [← ep, ← ed]; rfl
                  have imo : ((j : Int) + (d : Int)) % (m : Int) = (p : Int) := by rw [← epm]; simp
                  have imt : ((j : Int) + (d : Int)).tmod (m : Int) = (p : Int) := by rw [Int.tmod_eq_emod_of_nonneg (by omega)]; exact imo
                  rw [ep] at hrl
                  have wj : IntKind.i64.wrap (p : Int) = (p : Int) := by rw [IntKind.wrap_i64]; omega
                  have p0 : (0 : Int) ≤ (p : Int) := by omega
                  have pn : (p : Int) < (m : Int) := by omega
                  obtain ⟨ga, oa, ea, ca⟩ := RB.out p (by rw [HM.out]; exact hrl)
                  cases ea
                  replace ca := keepc HM1.out.o ca
                  obtain ⟨y1, ey1⟩ : ∃ y1, ia lw p = y1 := ⟨_, rfl⟩
                  rw [ey1] at ca
                  obtain ⟨y2, ey2⟩ : ∃ y2, y1.tmod 2 = y2 := ⟨_, rfl⟩
                  have hy2 : -2 < y2 ∧ y2 < 2 := by rw [← ey2]; have := Int.tmod_lt_of_pos y1 (show (0 : Int) < 2 by omega); have := Int.lt_tmod_of_pos y1 (show (0 : Int) < 2 by omega); omega
                  have wy : IntKind.i8.wrap y2 = y2 := by simp [IntKind.wrap, IntKind.signed, IntKind.bits]; omega
                  have EY := hid1 (show (if 0 < m then (ia lw (rp m j)).tmod 2 else (1 : Int)) = y2 by rw [if_pos n0, ep, ey1, ey2])
                  clear ed ep epm ey1
                  go_wp2_with (at_builtin; refine app_one8a rfl _ _ rfl (w.heap.size + 4) x (wtM lw j) j (by go_simp) HOX.out (y2) (by go_simp) (by omega) (by omega) ?_; intro v2 w2 ow2 gr2 at2; obtain ⟨zo, zcp, rfl⟩ := own_form13 ow2; have m2 := HM1.out.grow HOX.out (by omega) gr2; have c13 : w2.cell? ⟨w.heap.size + 3, 13, none⟩ = some x := m2.b3.cell (i := 13) (by omega); have f13 := m2.b3.frozen 13; have z2 := m2.z; have HM2 := hid1 m2; have HO2 := hid1 ow2; have HAP := hid1 (apart_grow HOU.out HNE.out gr2 at2); clear m2 ow2 gr2 at2)
                  have o3 := wt_end HM.out HO2.out (EY.out)
                  exact ⟨⟨j + 1, _, by omega, by go_num, HM2.out.s13 _, o3, ownsRow_setCell_below HAP.out.1 (by show w.heap.size + 3 < w.heap.size + 4; omega) _, HAP.out.2⟩, by simp [intOf]; omega⟩
            · have hjN : j = NW := by omega
              subst hjN
              have b3 := m1.b3
              obtain ⟨f2, b2⟩ := m1.b2
              have hz := m1.z
              have ho := m1.o
              clear m1 k2 k4 k5 HM1 HOX HOU HNE
              as_aux_lemma =>
                obtain ⟨uo, uc, rfl⟩ := own_form13 ou
                obtain ⟨xo, xc, rfl⟩ := own_form13 ox
                obtain ⟨K, eK⟩ : ∃ K : Ks, (⟨H, V, C, .slice uo i uc, R, S, SY, SX, T, L, B, Q, D, .slice xo j xc⟩ : Ks) = K := ⟨_, rfl⟩
                have k2 : Y2.cell? ⟨w.heap.size + 3, 2, none⟩ = some (.int .i64 C) := b3.cell (i := 2) (by omega)
                have k4 : Y2.cell? ⟨w.heap.size + 3, 4, none⟩ = some (.int .i64 R) := b3.cell (i := 4) (by omega)
                have k5 : Y2.cell? ⟨w.heap.size + 3, 5, none⟩ = some (.int .i64 S) := b3.cell (i := 5) (by omega)
                rw [eK] at b3
                have o1 : K.vv.oneCell' = true := by rw [← eK]; rfl
                have o2 : K.wv.oneCell' = true := by rw [← eK]; rfl
                have B3 := hid1 b3
                have B2 := hid1 b2
                have EK := hid1 eK
                have OU := hid1 ou
                have OX := hid1 ox
                clear b3 b2 eK ou ox
                go_upto_region 21 with fail
                refine wp_region_list ?_
                refine wpList_load_mid rfl 29 _ rfl (w.heap.size + 3) 0 (by go_simp) K.ls _ (ks_range B3.out) Try.underlying29 rfl info_ks ?_
                refine wpList_store_mid rfl 29 _ _ rfl (w.heap.size + 2) 0 K.ls.toArray (by go_simp) (by go_simp) (ks_there B2.out) info_ks (K.ls_one o1 o2) ?_
                go_wp2_with fail
                have btz := setCells_but (w.heap.size + 2) K.ls 0 Y2
                refine bodyPost_ret (results_cell_mid Try.results10 _ _ (w.heap.size + 2) 0 K.ls _ (by go_simp) (World.rangeAt_setCells_same Y2 _ 0 K.ls (ks_there B2.out)) Try.underlying29 rfl info_ks) rfl ?_
                refine ⟨_, _, K, ?_, rfl, ?_, ?_, ne, ?_⟩
                · rw [← EK.out]; simp only [ksM, eH, eV, eC, eT, eL, eB, eQ, eR, eS, eSY, eSX, eD]
                · rw [show (K.H * K.V * K.C).toNat = i by rw [← EK.out]; exact ENV.out]; exact own_butE OU.out btz (by omega)
                · rw [show (K.r * K.s * K.C).toNat = j by rw [← EK.out]; exact ENW.out]; exact own_butE OX.out btz (by omega)
                · exact btz.below (by omega) (by omega) ho
end Go.Proofs.Ytlilldgconlchaa
/- heddlelaw13's cases: what See, Pack answer of them. -/
namespace Go.Proofs.Ytlilldgconlchaa
open Go.RowKit Go.Shelf

/-- A case's numbers. -/
structure Cn (H V C R S sy sx T L B Q : Nat) : Prop where
  hH : 1 ≤ H ∧ H ≤ 6
  hV : 1 ≤ V ∧ V ≤ 6
  hC : 1 ≤ C ∧ C ≤ 70
  hR : 1 ≤ R ∧ R ≤ H + T + B
  hS : 1 ≤ S ∧ S ≤ V + L + Q
  hsy : 1 ≤ sy ∧ sy ≤ 4
  hsx : 1 ≤ sx ∧ sx ≤ 4
  hT : T ≤ 3
  hL : L ≤ 3
  hB : B ≤ 3
  hQ : Q ≤ 3
/-- How many places a window gives. -/
def oA (H T B R sy : Nat) : Nat := (T + H + B - R) / sy + 1
theorem oA_bd {H T B R sy : Nat} (h1 : H ≤ 6) (h2 : T ≤ 3) (h3 : B ≤ 3) (hR : 1 ≤ R) : 1 ≤ oA H T B R sy ∧ oA H T B R sy ≤ 12 := by
  unfold oA
  obtain ⟨x, ex⟩ : ∃ x, (T + H + B - R) / sy = x := ⟨_, rfl⟩
  have : x ≤ T + H + B - R := by rw [← ex]; exact Nat.div_le_self _ _
  rw [ex]
  omega
theorem oA_st {H T B R sy : Nat} (hR : R ≤ H + T + B) : Sg.stN H T B R sy = (oA H T B R sy : Nat) := by
  unfold Sg.stN oA
  rw [if_neg (by omega)]
  have e : ((T : Int) + (H : Int) + (B : Int) - (R : Int)) = ((T + H + B - R : Nat) : Int) := by omega
  rw [e]
  push_cast
  rfl
theorem chk_small {a b c : Nat} (ha : 1 ≤ a ∧ a ≤ 12) (hb : 1 ≤ b ∧ b ≤ 12) (hc : 1 ≤ c ∧ c ≤ 70) : Sg.chk a b c = 0 := by
  unfold Sg.chk
  have h1 : a * b ≤ 12 * 12 := Nat.mul_le_mul ha.2 hb.2
  have h2 : a * b * c ≤ 12 * 12 * 70 := Nat.mul_le_mul h1 hc.2
  have h3 : ((a : Int) * b * c) = ((a * b * c : Nat) : Int) := by push_cast; rfl
  rw [if_pos (by unfold Sg.Sides; omega), h3, if_neg (by omega)]
theorem Cn.wok {H V C R S sy sx T L B Q : Nat} (h : Cn H V C R S sy sx T L B Q) : Sg.wiE R S sy sx T L B Q = 0 := by
  obtain ⟨⟨_, _⟩, ⟨_, _⟩, _, ⟨_, _⟩, ⟨_, _⟩, ⟨_, _⟩, ⟨_, _⟩, _, _, _, _⟩ := h
  unfold Sg.wiE
  rw [if_pos (by unfold Sg.WOk Sg.SideOk; omega)]
theorem Cn.slv {H V C R S sy sx T L B Q : Nat} (h : Cn H V C R S sy sx T L B Q) : Sg.slV H V C R S sy sx T L B Q 1 = Sg.sle (oA H T B R sy : Nat) (oA V L Q S sx : Nat) 1 0 := by
  have a1 := oA_bd (sy := sy) h.hH.2 h.hT h.hB h.hR.1
  have a2 := oA_bd (sy := sx) h.hV.2 h.hL h.hQ h.hS.1
  have e1 := oA_st (sy := sy) h.hR.2
  have e2 := oA_st (sy := sx) h.hS.2
  have k1 : Sg.chk H V C = 0 := chk_small ⟨h.hH.1, by have := h.hH.2; omega⟩ ⟨h.hV.1, by have := h.hV.2; omega⟩ h.hC
  have k2 : Sg.chk (oA H T B R sy : Nat) (oA V L Q S sx : Nat) (1 : Nat) = 0 := chk_small a1 a2 ⟨by omega, by omega⟩
  have hw : Sg.WOk R S sy sx T L B Q := by
    have := h.wok
    unfold Sg.wiE at this
    by_cases hh : Sg.WOk R S sy sx T L B Q
    · exact hh
    · rw [if_neg hh] at this; omega
  have hE : Sg.slE H V C R S sy sx T L B Q 1 = 0 := by
    unfold Sg.slE
    rw [if_neg (by rw [k1]; simp), if_neg (by omega), if_neg (by simpa using hw), e1, e2, if_neg (by unfold Sg.mn2; split <;> omega)]
    exact k2
  unfold Sg.slV
  rw [if_pos hE, e1, e2]
/-- A list of patches in memory. -/
def Prw (W : World) (gL P M : Nat) (S1 S2 : Nat → Nat) : Prop := ∀ p, p < P → ∃ A1 K1 A2 K2, (W.cell? ⟨gL, p * 4, none⟩ = some (.int .i64 (64 * M : Nat)) ∧ W.cell? ⟨gL, p * 4 + 1, none⟩ = some (.slice (some ⟨A1, 0, none⟩) M K1) ∧ W.cell? ⟨gL, p * 4 + 2, none⟩ = some (.int .i64 (64 * M : Nat)) ∧ W.cell? ⟨gL, p * 4 + 3, none⟩ = some (.slice (some ⟨A2, 0, none⟩) M K2)) ∧ Wr W (some ⟨A1, 0, none⟩) M (S1 p) ∧ Wr W (some ⟨A2, 0, none⟩) M (S2 p)
theorem Prw.below {W X : World} {gL P M : Nat} {S1 S2 : Nat → Nat} (h : Prw W gL P M S1 S2) (hb : Below W.heap.size W X) : Prw X gL P M S1 S2 := fun p hp => by
  obtain ⟨A1, K1, A2, K2, ⟨c0, c1, c2, c3⟩, w1, w2⟩ := h p hp
  exact ⟨A1, K1, A2, K2, ⟨keepc hb c0, keepc hb c1, keepc hb c2, keepc hb c3⟩, w1.below hb, w2.below hb⟩
theorem Sr.prw {W : World} {z P M : Nat} {u : Value} {L : List (Bt × Bt)} {S1 S2 : Nat → Nat} (sr : Sr W z u L (List.range P) M S1 S2) (hP : 0 < P) : ∃ gL cap, u = .slice (some ⟨gL, 0, none⟩) P cap ∧ Prw W gL P M S1 S2 := by
  have hn : L.length = P := by rw [sr.n]; simp
  have ho := sr.o
  rw [hn] at ho
  rcases own_formsE ho with ⟨_, h0⟩ | ⟨gL, cap, rfl, _, _, _⟩
  · omega
  · refine ⟨gL, cap, rfl, fun p hp => ?_⟩
    obtain ⟨A1, K1, A2, K2, eL, _, _, o1, o2⟩ := sr.r p (by omega) (by simpa using hp)
    have e0 : (List.range P)[p]'(by simpa using hp) = p := by simp
    rw [e0] at eL o1 o2
    obtain ⟨h0, h1, h2, h3⟩ := rcs_at L p (by omega)
    rw [eL] at h0 h1 h2 h3
    exact ⟨A1, K1, A2, K2, ⟨own_atE ho h0, own_atE ho h1, own_atE ho h2, own_atE ho h3⟩, o1.wr, o2.wr⟩
/-- A case's tensor as words. -/
def cNE (l : List Int) (C P : Nat) : Nat := js (64 * nw C) (sp l C) P
theorem cNE_cuk {l : List Int} {H V C : Nat} (k : Sg.chk H V C = 0) : cuk H V C (H * V * nw C) (cNE l C (H * V)) = 0 := by
  unfold cuk
  rw [if_pos k]
  simp only [Int.toNat_natCast]
  have hp : Pok (H * V) C (cNE l C (H * V)) := fun i hi => by
    unfold cNE
    rw [js_pl (fun i _ => sp_words l C i) hi]
    exact sp_lt l C i
  rw [if_pos trivial, if_pos hp]
theorem seeC {H V C R S sy sx T L B Q : Nat} (h : Cn H V C R S sy sx T L B Q) (l : List Int) (g : Nat) (bd : Int) (hbd : -1 ≤ bd ∧ bd ≤ 1) (m A Bq P M N : Nat) (hm : H * V * nw C = m) (hA : oA H T B R sy = A) (hB : oA V L Q S sx = Bq) (hP : A * Bq = P) (hM : R * S * nw C = M) (hN : cNE l C (H * V) = N) (xs xm : Nat) (hxs : xs = if 0 < bd then ful C else 0) (hxm : xm = if bd = 0 then 0 else ful C) (w : World) (rd : Wr w (some ⟨g, 0, none⟩) m N) :
    Calls Try.prog 12 #[cuv H V C (some ⟨g, 0, none⟩) m m, Sg.win R S sy sx T L B Q, .int .i64 bd] w fun e w' => ∃ gL cap, e = .returned (.tuple #[.slice (some ⟨gL, 0, none⟩) P cap, Sg.shp A Bq 1, .int .i64 0]) ∧ Prw w' gL P M (seS H V C N S R sy sx T L Bq xs) (seM H V C S R sy sx T L Bq xm) ∧ Below w.heap.size w w' := by
  have a1 := oA_bd (sy := sy) h.hH.2 h.hT h.hB h.hR.1
  have a2 := oA_bd (sy := sx) h.hV.2 h.hL h.hQ h.hS.1
  rw [hA] at a1
  rw [hB] at a2
  have k1 : Sg.chk H V C = 0 := chk_small ⟨h.hH.1, by have := h.hH.2; omega⟩ ⟨h.hV.1, by have := h.hV.2; omega⟩ h.hC
  have kc := cNE_cuk (l := l) k1
  rw [hm, hN] at kc
  have ks := h.slv
  rw [hA, hB] at ks
  have hnw : nw C ≤ 2 := by have := h.hC.2; unfold nw; omega
  obtain ⟨⟨_, _⟩, ⟨_, _⟩, ⟨_, _⟩, ⟨_, _⟩, ⟨_, _⟩, ⟨_, _⟩, ⟨_, _⟩, _, _, _, _⟩ := id h
  have q1 : A * Bq ≤ 12 * 12 := Nat.mul_le_mul a1.2 a2.2
  have q2 : A * Bq * R ≤ 12 * 12 * 12 := Nat.mul_le_mul q1 (by omega)
  have q3 : A * Bq * R * S ≤ 12 * 12 * 12 * 12 := Nat.mul_le_mul q2 (by omega)
  have q4 : A * Bq * R * S * nw C ≤ 12 * 12 * 12 * 12 * 2 := Nat.mul_le_mul q3 hnw
  have m1 : H * V ≤ 6 * 6 := Nat.mul_le_mul (by omega) (by omega)
  have m2 : H * V * nw C ≤ 6 * 6 * 2 := Nat.mul_le_mul m1 hnw
  have hP0 : 0 < P := by rw [← hP]; exact Nat.mul_pos (by omega) (by omega)
  refine (see_ok H V C g 0 m m R S sy sx T L B Q A Bq N xs xm M P bd w (Nat.le_refl _) (by omega) rd (by omega) (by omega) (by omega) (by omega) (by omega) (by omega) (by omega) (by omega) (by omega) (by omega) (by omega) kc hm.symm h.wok hbd ks (by omega) hM hP hxs hxm).mono ?_
  rintro e w' ⟨u, Lr, rfl, sr, hb⟩
  obtain ⟨gL, cap, rfl, hp⟩ := sr.prw hP0
  exact ⟨gL, cap, rfl, hp, hb⟩
end Go.Proofs.Ytlilldgconlchaa
/- PatchCounts: the counted sum is the convolution's sum: plain mathematics. -/
namespace Go.Proofs.Ytlilldgconlchaa
open Go.RowKit Go.Shelf

theorem sm_two (f : Nat → Int) (w : Nat) : ∀ P, sm f (P * w) = sm (fun q => sm (fun k => f (q * w + k)) w) P
  | 0 => by simp [sm]
  | P + 1 => by
    have h : ∀ n, sm f (P * w + n) = sm f (P * w) + sm (fun k => f (P * w + k)) n := fun n => by
      induction n with
      | zero => simp [sm]
      | succ n ih =>
        show sm f (P * w + n) + f (P * w + n) = _
        rw [ih]
        show _ = sm f (P * w) + (sm (fun k => f (P * w + k)) n + f (P * w + n))
        omega
    rw [Nat.succ_mul, h, sm_two f w P]
    rfl
theorem sm_front {f : Nat → Int} {C : Nat} : ∀ w, C ≤ w → (∀ k, C ≤ k → k < w → f k = 0) → sm f w = sm f C
  | 0, h, _ => by obtain rfl : C = 0 := by omega
                  rfl
  | w + 1, h, hz => by
    by_cases e : C = w + 1
    · rw [e]
    · show sm f w + f w = _
      rw [hz w (by omega) (by omega), sm_front w (by omega) fun k h1 h2 => hz k h1 (by omega)]
      omega
theorem at_split {w q k : Nat} (hk : k < w) : (q * w + k) / w = q ∧ (q * w + k) % w = k := by
  have hw : 0 < w := by omega
  constructor
  · rw [Nat.mul_comm, Nat.mul_add_div hw, Nat.div_eq_of_lt hk, Nat.add_zero]
  · rw [Nat.mul_comm, Nat.mul_add_mod, Nat.mod_eq_of_lt hk]
theorem lt_place {w q k P : Nat} (hq : q < P) (hk : k < w) : q * w + k < P * w := by
  have := Nat.mul_le_mul_right w (show q + 1 ≤ P from hq)
  rw [Nat.succ_mul] at this
  omega
/-- The weights at a place's channel. -/
theorem wt_row {C P : Nat} (hC : 0 < C) (l : List Int) (hl : ∀ i, i < P * C → -1 ≤ ia l i ∧ ia l i ≤ 1) {q k : Nat} (hq : q < P) (hk : k < 64 * nw C) : wt (spN l C P) (spN (nzl l) C P) (q * (64 * nw C) + k) = if k < C then ia l (q * C + k) else 0 := by
  obtain ⟨e1, e2⟩ := at_split (q := q) hk
  have e3 := lt_place hq hk
  unfold wt
  rw [spN_bit hC, spN_bit hC, e1, e2, nzl_at]
  by_cases h : k < C
  · have hb := hl (q * C + k) (lt_place hq h)
    obtain ⟨x, ex⟩ : ∃ x, ia l (q * C + k) = x := ⟨_, rfl⟩
    rw [ex] at hb ⊢
    by_cases h0 : x = 0
    · simp [h0]
    · by_cases h1 : 0 < x
      · simp [e3, h, h0, h1]; omega
      · simp [e3, h, h0, h1]; omega
  · simp [h]
theorem ful_bitE (C k : Nat) : (ful C).testBit k = decide (k < C) := by
  unfold ful nt
  simp [Nat.testBit_two_pow_sub_one]
/-- What a place of a patch stands for. -/
def eV (H V C : Nat) (lv : List Int) (bd : Int) (y0 x0 : Int) (S q k : Nat) : Int := if Ins H V y0 x0 S q then ia lv (ixP V y0 x0 S q * C + k) else bd
/-- A patch's bits at a place's channel: its mask, and what it stands for. -/
theorem patch_bits {H V C : Nat} (hC : 0 < C) (lv : List Int) (hv : ∀ i, i < H * V * C → ia lv i = 1 ∨ ia lv i = -1) (N : Nat) (hN : cNE lv C (H * V) = N) (bd : Int) (hbd : -1 ≤ bd ∧ bd ≤ 1) (xs xm : Nat) (hxs : xs = if 0 < bd then ful C else 0) (hxm : xm = if bd = 0 then 0 else ful C) (y0 x0 : Int) (S P : Nat) {q k : Nat} (hq : q < P) (hk : k < C) :
    wt (js (64 * nw C) (plP H V (nw C) N y0 x0 S xs) P) (js (64 * nw C) (mkP H V C y0 x0 S xm) P) (q * (64 * nw C) + k) = eV H V C lv bd y0 x0 S q k ∧
    (js (64 * nw C) (mkP H V C y0 x0 S xm) P).testBit (q * (64 * nw C) + k) = (decide (Ins H V y0 x0 S q) || decide (bd ≠ 0)) := by
  have hw : C ≤ 64 * nw C := nw_le C
  have hw0 : 0 < 64 * nw C := by omega
  obtain ⟨e1, e2⟩ := at_split (w := 64 * nw C) (q := q) (k := k) (by omega)
  have e3 := lt_place (w := 64 * nw C) (k := k) hq (by omega)
  have hxs' : xs < 2 ^ (64 * nw C) := by rw [hxs]; split; exact ful_words C; exact Nat.two_pow_pos _
  have hxm' : xm < 2 ^ (64 * nw C) := by rw [hxm]; split; exact Nat.two_pow_pos _; exact ful_words C
  have b1 : ∀ i, i < P → plP H V (nw C) N y0 x0 S xs i < 2 ^ (64 * nw C) := fun i _ => by unfold plP; split; exact pl_lt _ _ _; exact hxs'
  have b2 : ∀ i, i < P → mkP H V C y0 x0 S xm i < 2 ^ (64 * nw C) := fun i _ => by unfold mkP; split; exact ful_words C; exact hxm'
  have B1 : (js (64 * nw C) (plP H V (nw C) N y0 x0 S xs) P).testBit (q * (64 * nw C) + k) = (plP H V (nw C) N y0 x0 S xs q).testBit k := by rw [js_bit hw0 P b1, e1, e2]; simp [e3]
  have B2 : (js (64 * nw C) (mkP H V C y0 x0 S xm) P).testBit (q * (64 * nw C) + k) = (mkP H V C y0 x0 S xm q).testBit k := by rw [js_bit hw0 P b2, e1, e2]; simp [e3]
  unfold wt
  rw [B1, B2]
  unfold plP mkP eV
  by_cases hin : Ins H V y0 x0 S q
  · have hix := ixP_lt hin
    have hpl : pl N (nw C) (ixP V y0 x0 S q) = sp lv C (ixP V y0 x0 S q) := by
      rw [← hN]; unfold cNE; exact js_pl (fun i _ => sp_words lv C i) hix
    rw [if_pos hin, if_pos hin, if_pos hin, hpl, ful_bitE, sp_bit]
    have hval := hv (ixP V y0 x0 S q * C + k) (lt_place hix hk)
    obtain ⟨x, ex⟩ : ∃ x, ia lv (ixP V y0 x0 S q * C + k) = x := ⟨_, rfl⟩
    rw [ex] at hval ⊢
    rcases hval with rfl | rfl <;> simp [hk, hin]
  · rw [if_neg hin, if_neg hin, if_neg hin, hxs, hxm]
    by_cases h0 : bd = 0
    · subst h0; simp [hin]
    · by_cases h1 : 0 < bd
      · obtain rfl : bd = 1 := by omega
        simp [ful_bitE, hk, hin]
      · obtain rfl : bd = -1 := by omega
        simp [ful_bitE, hk, hin]
/-- The convolution's sum at a place. -/
def cvS (H V C : Nat) (lv lw : List Int) (bd : Int) (y0 x0 : Int) (R S : Nat) : Int := sm (fun q => sm (fun k => eV H V C lv bd y0 x0 S q k * ia lw (q * C + k)) C) (R * S)
/-- .. is what is counted. -/
theorem counted {H V C : Nat} (hC : 0 < C) (lv lw : List Int) (hv : ∀ i, i < H * V * C → ia lv i = 1 ∨ ia lv i = -1) (N : Nat) (hN : cNE lv C (H * V) = N) (bd : Int) (hbd : -1 ≤ bd ∧ bd ≤ 1) (xs xm : Nat) (hxs : xs = if 0 < bd then ful C else 0) (hxm : xm = if bd = 0 then 0 else ful C) (y0 x0 : Int) (R S : Nat) (hw : ∀ i, i < R * S * C → -1 ≤ ia lw i ∧ ia lw i ≤ 1) :
    sm (fun i => wt (spN lw C (R * S)) (spN (nzl lw) C (R * S)) i * wt (js (64 * nw C) (plP H V (nw C) N y0 x0 S xs) (R * S)) (js (64 * nw C) (mkP H V C y0 x0 S xm) (R * S)) i) (R * S * (64 * nw C)) = cvS H V C lv lw bd y0 x0 R S := by
  rw [sm_two]
  unfold cvS
  refine sm_congr _ fun q hq => ?_
  rw [sm_front (C := C) (64 * nw C) (nw_le C) (fun k h1 h2 => by rw [wt_row hC lw hw hq h2, if_neg (by omega)]; simp)]
  refine sm_congr _ fun k hk => ?_
  have hk2 : k < 64 * nw C := Nat.lt_of_lt_of_le hk (nw_le C)
  rw [wt_row hC lw hw hq hk2, if_pos hk, (patch_bits hC lv hv N hN bd hbd xs xm hxs hxm y0 x0 S (R * S) hq hk).1, Int.mul_comm]
/-- .. and what is counted without the border, and the border's number times what is lost. -/
theorem counted_lost {H V C : Nat} (hC : 0 < C) (lv lw : List Int) (hv : ∀ i, i < H * V * C → ia lv i = 1 ∨ ia lv i = -1) (N : Nat) (hN : cNE lv C (H * V) = N) (bd : Int) (y0 x0 : Int) (R S : Nat) (hw : ∀ i, i < R * S * C → -1 ≤ ia lw i ∧ ia lw i ≤ 1) :
    sm (fun i => wt (spN lw C (R * S)) (spN (nzl lw) C (R * S)) i * wt (js (64 * nw C) (plP H V (nw C) N y0 x0 S 0) (R * S)) (js (64 * nw C) (mkP H V C y0 x0 S 0) (R * S)) i) (R * S * (64 * nw C)) + bd * lo (spN lw C (R * S)) (spN (nzl lw) C (R * S)) (js (64 * nw C) (mkP H V C y0 x0 S 0) (R * S)) (R * S * (64 * nw C)) = cvS H V C lv lw bd y0 x0 R S := by
  unfold lo
  rw [← sm_mul, ← sm_add, sm_two]
  unfold cvS
  refine sm_congr _ fun q hq => ?_
  rw [sm_front (C := C) (64 * nw C) (nw_le C) (fun k h1 h2 => by rw [wt_row hC lw hw hq h2, if_neg (by omega)]; simp)]
  refine sm_congr _ fun k hk => ?_
  have hk2 : k < 64 * nw C := Nat.lt_of_lt_of_le hk (nw_le C)
  obtain ⟨p1, p2⟩ := patch_bits hC lv hv N hN 0 (by omega) 0 0 (by simp) (by simp) y0 x0 S (R * S) hq hk
  rw [wt_row hC lw hw hq hk2, if_pos hk, p1, p2]
  unfold eV
  by_cases hin : Ins H V y0 x0 S q
  · simp [hin, Int.mul_comm]
  · simp [hin]
end Go.Proofs.Ytlilldgconlchaa
/- heddlelaw13: a Case's elem and sum. -/
namespace Go.Proofs.Ytlilldgconlchaa
open Go.RowKit Go.Shelf

/-- A Case of small numbers. -/
abbrev kN (H V C : Nat) (uo : Option Addr) (un uc : Nat) (R S sy sx T L B Q : Nat) (bd : Int) (xo : Option Addr) (xn xc : Nat) : Ks := ⟨H, V, C, .slice uo un uc, R, S, sy, sx, T, L, B, Q, bd, .slice xo xn xc⟩
abbrev Ks.val (v : Ks) : Value := .agg #[.int .i64 v.H, .int .i64 v.V, .int .i64 v.C, v.vv, .int .i64 v.r, .int .i64 v.s, .int .i64 v.sy, .int .i64 v.sx, .int .i64 v.t, .int .i64 v.l, .int .i64 v.b, .int .i64 v.q, .int .i64 v.bd, v.wv]
/-- An element, or the border's number. -/
def elV (H V C : Nat) (lv : List Int) (bd y x : Int) (k : Nat) : Int := if (0 ≤ y ∧ y < H) ∧ 0 ≤ x ∧ x < V then ia lv ((y.toNat * V + x.toNat) * C + k) else bd
set_option maxHeartbeats 1600000 in
set_option maxRecDepth 100000 in
theorem elem_any (H V C : Nat) (uo : Option Addr) (lv : List Int) (un uc R S sy sx T L B Q : Nat) (bd : Int) (xo : Option Addr) (xn xc : Nat) (y x : Int) (k : Nat) (w : World) (hH : H ≤ 6) (hV : V ≤ 6) (hC : C ≤ 70) (hk : k < C) (hu : un = H * V * C) (hl : lv.length = un) (rd : R8 w uo lv) (hlb : ∀ i, i < un → -1 ≤ ia lv i ∧ ia lv i ≤ 1) (hbd : -1 ≤ bd ∧ bd ≤ 1) :
    Calls Try.prog 48 #[(kN H V C uo un uc R S sy sx T L B Q bd xo xn xc).val, .int .i64 y, .int .i64 x, .int .i64 k] w fun e w' => e = .returned (.int .i64 (elV H V C lv bd y x k)) ∧ Below w.heap.size w w' := by
  have RD := hid1 rd
  have HL := hid1 hl
  have HU := hid1 hu
  have HB := hid1 hlb
  clear rd hl hu hlb
  by_cases hin : (0 ≤ y ∧ y < H) ∧ 0 ≤ x ∧ x < V
  · obtain ⟨⟨y0, y1⟩, x0, x1⟩ := id hin
    obtain ⟨Y, rfl⟩ : ∃ Y : Nat, y = Y := ⟨y.toNat, by omega⟩
    obtain ⟨X, rfl⟩ : ∃ X : Nat, x = X := ⟨x.toNat, by omega⟩
    have hYX : Y * V + X < H * V := lt_place (by omega) (by omega)
    obtain ⟨i, ei⟩ : ∃ i, (Y * V + X) * C + k = i := ⟨_, rfl⟩
    have hi : i < un := by rw [HU.out, ← ei]; exact lt_place hYX hk
    have hun : un ≤ 2520 := by
      rw [HU.out]
      exact Nat.mul_le_mul (Nat.mul_le_mul hH hV) hC
    obtain ⟨ga, oa, rfl, ca⟩ := RD.out i (by rw [HL.out]; exact hi)
    have hz := HB.out i hi
    obtain ⟨z, ez⟩ : ∃ z, ia lv i = z := ⟨_, rfl⟩
    rw [ez] at ca hz
    have gl := lt_of_cell ca
    have q1 : Y * V ≤ 6 * 6 := Nat.mul_le_mul (by omega) hV
    obtain ⟨p1, ep1⟩ : ∃ p, Y * V = p := ⟨_, rfl⟩
    rw [ep1] at q1 hYX
    have w1 : IntKind.i64.wrap ((Y : Int) * (V : Int)) = (p1 : Int) := by rw [← ep1, IntKind.wrap_i64]; push_cast; rw [← Int.natCast_mul, ep1]; omega
    have w2 : IntKind.i64.wrap ((p1 : Int) + (X : Int)) = ((p1 + X : Nat) : Int) := by rw [IntKind.wrap_i64]; omega
    have q2 : (p1 + X) * C ≤ 36 * 70 := Nat.mul_le_mul (by have : H * V ≤ 6 * 6 := Nat.mul_le_mul hH hV; omega) hC
    obtain ⟨p2, ep2⟩ : ∃ p, p1 + X = p := ⟨_, rfl⟩
    obtain ⟨p3, ep3⟩ : ∃ p, p2 * C = p := ⟨_, rfl⟩
    rw [ep2] at q2 w2
    rw [ep3] at q2
    have w3 : IntKind.i64.wrap ((p2 : Int) * (C : Int)) = (p3 : Int) := by rw [← ep3, IntKind.wrap_i64]; push_cast; rw [← Int.natCast_mul, ep3]; omega
    have w4 : IntKind.i64.wrap ((p3 : Int) + (k : Int)) = (i : Int) := by rw [← ei, ep1, ep2, ep3, IntKind.wrap_i64]; omega
    have w5 : IntKind.i64.wrap z = z := by rw [IntKind.wrap_i64]; omega
    have i0 : (0 : Int) ≤ (i : Int) := by omega
    have i1 : (i : Int) < (un : Int) := by omega
    have g1 : decide ((Y : Int) < 0) = false := decide_eq_false (by omega)
    have g2 : decide (H ≤ Y) = false := decide_eq_false (by omega)
    have g3 : decide ((X : Int) < 0) = false := decide_eq_false (by omega)
    have g4 : decide (V ≤ X) = false := decide_eq_false (by omega)
    have hans : elV H V C lv bd Y X k = z := by
      unfold elV
      rw [if_pos hin, ← ez, ← ei]
      simp
    rw [hans]
    clear ei ez ep1 ep2 ep3 hans hin
    go_enter Try.func48, Try.ntmps48
    go_wp2_with fail
    go_ret
    exact ⟨rfl, bl_alloc (Below.refl _ _) _⟩
  · have hans : elV H V C lv bd y x k = bd := by unfold elV; rw [if_neg hin]
    rw [hans]
    have w5 : IntKind.i64.wrap bd = bd := by rw [IntKind.wrap_i64]; omega
    by_cases c1 : y < 0
    · have g1 : decide (y < 0) = true := decide_eq_true c1
      go_enter Try.func48, Try.ntmps48
      go_wp2_with fail
      go_ret
      exact ⟨rfl, bl_alloc (Below.refl _ _) _⟩
    · have g1 : decide (y < 0) = false := decide_eq_false c1
      by_cases c2 : (H : Int) ≤ y
      · have g2 : decide ((H : Int) ≤ y) = true := decide_eq_true c2
        go_enter Try.func48, Try.ntmps48
        go_wp2_with fail
        go_ret
        exact ⟨rfl, bl_alloc (Below.refl _ _) _⟩
      · have g2 : decide ((H : Int) ≤ y) = false := decide_eq_false c2
        by_cases c3 : x < 0
        · have g3 : decide (x < 0) = true := decide_eq_true c3
          go_enter Try.func48, Try.ntmps48
          go_wp2_with fail
          go_ret
          exact ⟨rfl, bl_alloc (Below.refl _ _) _⟩
        · have g3 : decide (x < 0) = false := decide_eq_false c3
          have c4 : (V : Int) ≤ x := by omega
          have g4 : decide ((V : Int) ≤ x) = true := decide_eq_true c4
          go_enter Try.func48, Try.ntmps48
          go_wp2_with fail
          go_ret
          exact ⟨rfl, bl_alloc (Below.refl _ _) _⟩
end Go.Proofs.Ytlilldgconlchaa
/- heddlelaw13: a Case's sum. -/
namespace Go.Proofs.Ytlilldgconlchaa
open Go.RowKit Go.Shelf

/-- One product of the sum. -/
def tmE (H V C : Nat) (lv lw : List Int) (bd y0 x0 : Int) (S q k : Nat) : Int := eV H V C lv bd y0 x0 S q k * ia lw (q * C + k)
theorem eV_bd {H V C : Nat} {lv : List Int} {bd y0 x0 : Int} {S q k : Nat} (hl : ∀ i, i < H * V * C → -1 ≤ ia lv i ∧ ia lv i ≤ 1) (hbd : -1 ≤ bd ∧ bd ≤ 1) (hk : k < C) : -1 ≤ eV H V C lv bd y0 x0 S q k ∧ eV H V C lv bd y0 x0 S q k ≤ 1 := by
  unfold eV
  by_cases h : Ins H V y0 x0 S q
  · rw [if_pos h]; exact hl _ (lt_place (ixP_lt h) hk)
  · rw [if_neg h]; exact hbd
theorem mul_bd {a b : Int} (ha : -1 ≤ a ∧ a ≤ 1) (hb : -1 ≤ b ∧ b ≤ 1) : -1 ≤ a * b ∧ a * b ≤ 1 := by
  have h1 : a = -1 ∨ a = 0 ∨ a = 1 := by omega
  rcases h1 with rfl | rfl | rfl <;> omega
theorem el_eV (H V C : Nat) (lv : List Int) (bd y0 x0 : Int) {S r s k : Nat} (hs : s < S) : elV H V C lv bd (y0 + r) (x0 + s) k = eV H V C lv bd y0 x0 S (r * S + s) k := by
  obtain ⟨e1, e2⟩ := at_split (q := r) hs
  have hI : Ins H V y0 x0 S (r * S + s) ↔ (0 ≤ y0 + (r : Int) ∧ y0 + (r : Int) < H) ∧ 0 ≤ x0 + (s : Int) ∧ x0 + (s : Int) < V := by unfold Ins; rw [e1, e2]
  unfold elV eV
  by_cases h : Ins H V y0 x0 S (r * S + s)
  · rw [if_pos (hI.1 h), if_pos h]
    unfold ixP
    rw [e1, e2]
  · rw [if_neg (fun h2 => h (hI.2 h2)), if_neg h]
set_option maxHeartbeats 3200000 in
set_option maxRecDepth 100000 in
theorem csum_any (H V C : Nat) (uo : Option Addr) (lv : List Int) (un uc R S sy sx T L B Q : Nat) (bd : Int) (xo : Option Addr) (lw : List Int) (xn xc y x : Nat) (w : World) (cn : Cn H V C R S sy sx T L B Q) (hy : y ≤ 12) (hx : x ≤ 12) (hu : un = H * V * C) (hl : lv.length = un) (hxn : xn = R * S * C) (hlx : lw.length = xn) (ru : R8 w uo lv) (rx : R8 w xo lw) (hlb : ∀ i, i < un → -1 ≤ ia lv i ∧ ia lv i ≤ 1) (hlw : ∀ i, i < xn → -1 ≤ ia lw i ∧ ia lw i ≤ 1) (hbd : -1 ≤ bd ∧ bd ≤ 1) (y0 x0 : Int) (hy0 : y0 = (y : Int) * sy - T) (hx0 : x0 = (x : Int) * sx - L) :
    Calls Try.prog 17 #[(kN H V C uo un uc R S sy sx T L B Q bd xo xn xc).val, .int .i64 y, .int .i64 x] w fun e w' => e = .returned (.int .i64 (cvS H V C lv lw bd y0 x0 R S)) ∧ Below w.heap.size w w' := by
  obtain ⟨⟨_, _⟩, ⟨_, _⟩, ⟨_, _⟩, ⟨_, _⟩, ⟨_, _⟩, ⟨_, _⟩, ⟨_, _⟩, _, _, _, _⟩ := cn
  obtain ⟨F, eF⟩ : ∃ F : Nat → Int, F = fun q => sm (fun k => tmE H V C lv lw bd y0 x0 S q k) C := ⟨_, rfl⟩
  have ecv : cvS H V C lv lw bd y0 x0 R S = sm F (R * S) := by rw [eF]; rfl
  rw [ecv]
  have RS12 : R * S ≤ 12 * 12 := Nat.mul_le_mul (by omega) (by omega)
  have tb : ∀ q k, q < R * S → k < C → -1 ≤ tmE H V C lv lw bd y0 x0 S q k ∧ tmE H V C lv lw bd y0 x0 S q k ≤ 1 := fun q k hq hk => mul_bd (eV_bd (by rw [← hu]; exact hlb) hbd hk) (hlw _ (by rw [hxn]; exact lt_place hq hk))
  have Fb : ∀ q, q < R * S → -(C : Int) ≤ F q ∧ F q ≤ C := fun q hq => by
    have h1 := sm_bd (K := 1) C (fun k hk => tb q k hq hk)
    rw [Int.mul_one] at h1
    rw [eF]
    exact h1
  have Sb : ∀ q, q ≤ R * S → -10080 ≤ sm F q ∧ sm F q ≤ 10080 := fun q hq => by
    have h1 := sm_bd (f := F) (K := (C : Int)) q (fun i hi => Fb i (by omega))
    have h2 : (q : Int) * C ≤ 144 * 70 := Int.mul_le_mul (by omega) (by omega) (by omega) (by omega)
    omega
  have HTB := hid1 tb
  have HSB := hid1 Sb
  have RU := hid1 ru
  have RX := hid1 rx
  have HLX := hid1 hlx
  have HXN := hid1 hxn
  have HLW := hid1 hlw
  have HE := hid1 (fun W yy xx k (hk : k < C) r => elem_any H V C uo lv un uc R S sy sx T L B Q bd xo xn xc yy xx k W (by omega) (by omega) (by omega) hk hu hl r hlb hbd)
  have HFE := hid1 eF
  obtain ⟨Y1, eY1⟩ : ∃ Y1 : Int, (y : Int) * sy = Y1 := ⟨_, rfl⟩
  obtain ⟨X1, eX1⟩ : ∃ X1 : Int, (x : Int) * sx = X1 := ⟨_, rfl⟩
  have bY : 0 ≤ Y1 ∧ Y1 ≤ 12 * 4 := by rw [← eY1]; exact ⟨Int.mul_nonneg (by omega) (by omega), Int.mul_le_mul (by omega) (by omega) (by omega) (by omega)⟩
  have bX : 0 ≤ X1 ∧ X1 ≤ 12 * 4 := by rw [← eX1]; exact ⟨Int.mul_nonneg (by omega) (by omega), Int.mul_le_mul (by omega) (by omega) (by omega) (by omega)⟩
  have a1 : IntKind.i64.wrap ((y : Int) * (sy : Int)) = Y1 := by rw [eY1, IntKind.wrap_i64]; omega
  have a2 : IntKind.i64.wrap ((x : Int) * (sx : Int)) = X1 := by rw [eX1, IntKind.wrap_i64]; omega
  rw [eY1] at hy0
  rw [eX1] at hx0
  have HY0 := hid1 hy0
  have HX0 := hid1 hx0
  clear tb Fb Sb ru rx hlx hxn hu hl hlb hlw eF ecv eY1 eX1 hy0 hx0
  go_enter Try.func17, Try.ntmps17
  go_wp2_with fail
  refine gen_world (fun X => X.rowIs w.heap.size 29 14 (kN H V C uo un uc R S sy sx T L B Q bd xo xn xc).f ∧ Below w.heap.size w X) ⟨ks_new w (kN H V C uo un uc R S sy sx T L B Q bd xo xn xc), bl_alloc (Below.refl _ _) _⟩ ?_
  rintro X ⟨row, BX⟩
  have ROW := hid1 row
  have HBX := hid1 BX
  clear row BX
  go_loopw [7, 8] (fun a c wr => ∃ r : Nat, r ≤ R ∧ a = .int .i64 (sm F (r * S)) ∧ c = .int .i64 r ∧ Below X.heap.size X wr) (fun _ c _ => R - (intOf c).toNat)
  case atStart => exact ⟨0, Nat.zero_le _, by rw [Nat.zero_mul]; rfl, rfl, Below.refl _ _⟩
  case round =>
    rename World => Z
    obtain ⟨r, hr, rfl, rfl, BZ⟩ := hrel
    have k4 : Z.cell? ⟨w.heap.size, 4, none⟩ = some (.int .i64 R) := (keepr BZ ROW.out).cell (i := 4) (by omega)
    have r0 : (0 : Int) ≤ (r : Int) := by omega
    by_cases hrl : r < R
    · have rr : (r : Int) < (R : Int) := by omega
      go_wp2_with fail
      go_loopw [7, 9] (fun a c wr => ∃ s : Nat, s ≤ S ∧ a = .int .i64 (sm F (r * S + s)) ∧ c = .int .i64 s ∧ Below X.heap.size X wr) (fun _ c _ => S - (intOf c).toNat)
      case atStart => exact ⟨0, Nat.zero_le _, by rw [Nat.add_zero], rfl, BZ⟩
      case round =>
        rename World => Z1
        clear k4 BZ
        obtain ⟨s, hs, rfl, rfl, BZ⟩ := hrel
        have k5 : Z1.cell? ⟨w.heap.size, 5, none⟩ = some (.int .i64 S) := (keepr BZ ROW.out).cell (i := 5) (by omega)
        have s0 : (0 : Int) ≤ (s : Int) := by omega
        by_cases hsl : s < S
        · have ss : (s : Int) < (S : Int) := by omega
          go_wp2_with fail
          go_loopw [7, 10] (fun a c wr => ∃ k : Nat, k ≤ C ∧ a = .int .i64 (sm F (r * S + s) + sm (fun k => tmE H V C lv lw bd y0 x0 S (r * S + s) k) k) ∧ c = .int .i64 k ∧ Below X.heap.size X wr) (fun _ c _ => C - (intOf c).toNat)
          case atStart => exact ⟨0, Nat.zero_le _, by show Value.int .i64 _ = Value.int .i64 (_ + 0); rw [Int.add_zero], rfl, BZ⟩
          case round =>
            rename World => Z2
            clear k5 BZ
            obtain ⟨k, hk, rfl, rfl, BZ⟩ := hrel
            have k2 : Z2.cell? ⟨w.heap.size, 2, none⟩ = some (.int .i64 C) := (keepr BZ ROW.out).cell (i := 2) (by omega)
            have kk0 : (0 : Int) ≤ (k : Int) := by omega
            by_cases hkl : k < C
            · have kk : (k : Int) < (C : Int) := by omega
              as_aux_lemma =>
                obtain ⟨rs, ers⟩ : ∃ p, r * S = p := ⟨_, rfl⟩
                have hrs : rs + s < R * S := by rw [← ers]; exact lt_place hrl hsl
                obtain ⟨q, eq⟩ : ∃ p, rs + s = p := ⟨_, rfl⟩
                have hq : q < R * S := by omega
                obtain ⟨qc, eqc⟩ : ∃ p, q * C = p := ⟨_, rfl⟩
                have hqc : qc ≤ 144 * 70 := by rw [← eqc]; exact Nat.mul_le_mul (by omega) (by omega)
                have hi : qc + k < xn := by rw [HXN.out, ← eqc]; exact lt_place hq hkl
                obtain ⟨gb, ob, rfl, cb⟩ := RX.out (qc + k) (by rw [HLX.out]; exact hi)
                replace cb := keepc BZ (keepc HBX.out cb)
                have hbq := HTB.out q k hq hkl
                have hsq := HSB.out q (by omega)
                have hev : elV H V C lv bd (y0 + r) (x0 + s) k = eV H V C lv bd y0 x0 S q k := by rw [el_eV H V C lv bd y0 x0 hsl, ers, eq]
                have HEV := hid1 hev
                have hpart : -(k : Int) ≤ sm (fun k => tmE H V C lv lw bd y0 x0 S q k) k ∧ sm (fun k => tmE H V C lv lw bd y0 x0 S q k) k ≤ (k : Int) := by
                  have h := sm_bd (K := 1) k (fun j hj => HTB.out q j hq (by omega))
                  rw [Int.mul_one] at h
                  exact h
                obtain ⟨n1, en1⟩ : ∃ n1 : Int, sm F q + sm (fun k => tmE H V C lv lw bd y0 x0 S q k) k = n1 := ⟨_, rfl⟩
                have hn1 : -10160 ≤ n1 ∧ n1 ≤ 10160 := by omega
                have HN1 := hid1 en1
                obtain ⟨ev, eev⟩ : ∃ v, eV H V C lv bd y0 x0 S q k = v := ⟨_, rfl⟩
                obtain ⟨wv, ewv⟩ : ∃ v, ia lw (qc + k) = v := ⟨_, rfl⟩
                have htm : tmE H V C lv lw bd y0 x0 S q k = ev * wv := by unfold tmE; rw [eev, eqc, ewv]
                rw [htm] at hbq
                rw [ewv] at cb
                have hwb := HLW.out (qc + k) hi
                rw [ewv] at hwb
                have hwv : IntKind.i64.wrap wv = wv := by rw [IntKind.wrap_i64]; omega
                have hmul : IntKind.i64.wrap (ev * wv) = ev * wv := by rw [IntKind.wrap_i64]; omega
                have hadd : IntKind.i64.wrap (n1 + ev * wv) = n1 + ev * wv := by rw [IntKind.wrap_i64]; omega
                have w1 : IntKind.i64.wrap (Y1 + (r : Int)) = Y1 + (r : Int) := by rw [IntKind.wrap_i64]; omega
                have w2 : IntKind.i64.wrap (Y1 + (r : Int) - (T : Int)) = Y1 + (r : Int) - (T : Int) := by rw [IntKind.wrap_i64]; omega
                have w3 : IntKind.i64.wrap (X1 + (s : Int)) = X1 + (s : Int) := by rw [IntKind.wrap_i64]; omega
                have w4 : IntKind.i64.wrap (X1 + (s : Int) - (L : Int)) = X1 + (s : Int) - (L : Int) := by rw [IntKind.wrap_i64]; omega
                have v1 : IntKind.i64.wrap ((r : Int) * (S : Int)) = (rs : Int) := by rw [← ers, IntKind.wrap_i64]; push_cast; rw [← Int.natCast_mul, ers]; omega
                have v2 : IntKind.i64.wrap ((rs : Int) + (s : Int)) = (q : Int) := by rw [IntKind.wrap_i64]; omega
                have v3 : IntKind.i64.wrap ((q : Int) * (C : Int)) = (qc : Int) := by rw [← eqc, IntKind.wrap_i64]; push_cast; rw [← Int.natCast_mul, eqc]; omega
                have v4 : IntKind.i64.wrap ((qc : Int) + (k : Int)) = ((qc + k : Nat) : Int) := by rw [IntKind.wrap_i64]; omega
                have j0 : (0 : Int) ≤ ((qc + k : Nat) : Int) := by omega
                have j1 : ((qc + k : Nat) : Int) < (xn : Int) := by omega
                obtain ⟨ix, eix⟩ : ∃ p, qc + k = p := ⟨_, rfl⟩
                rw [eix] at cb v4 j0 j1
                have HC := hid1 (HE.out Z2 (Y1 + (r : Int) - (T : Int)) (X1 + (s : Int) - (L : Int)) k hkl (r8_below (r8_below RU.out HBX.out) BZ))
                have hres : elV H V C lv bd (Y1 + (r : Int) - (T : Int)) (X1 + (s : Int) - (L : Int)) k = ev := by rw [show Y1 + (r : Int) - (T : Int) = y0 + r by rw [HY0.out]; omega, show X1 + (s : Int) - (L : Int) = x0 + s by rw [HX0.out]; omega, HEV.out, eev]
                rw [hres] at HC
                have rowZ := keepr BZ ROW.out
                have k5 : Z2.cell? ⟨w.heap.size, 5, none⟩ = some (.int .i64 S) := rowZ.cell (i := 5) (by omega)
                have k6 : Z2.cell? ⟨w.heap.size, 6, none⟩ = some (.int .i64 sy) := rowZ.cell (i := 6) (by omega)
                have k7 : Z2.cell? ⟨w.heap.size, 7, none⟩ = some (.int .i64 sx) := rowZ.cell (i := 7) (by omega)
                have k8 : Z2.cell? ⟨w.heap.size, 8, none⟩ = some (.int .i64 T) := rowZ.cell (i := 8) (by omega)
                have k9 : Z2.cell? ⟨w.heap.size, 9, none⟩ = some (.int .i64 L) := rowZ.cell (i := 9) (by omega)
                have HRZ := hid1 rowZ
                rw [ers, eq, en1]
                have HTM := hid1 htm
                clear rowZ hev eev en1 htm hpart hres
                go_upto_region 11 with fail
                refine wp_region_list ?_
                refine wpList_load_mid rfl 29 _ rfl w.heap.size 0 (by go_simp) (kN H V C uo un uc R S sy sx T L B Q bd (some ⟨gb, ob, none⟩) xn xc).ls _ (ks_range HRZ.out) Try.underlying29 rfl info_ks ?_
                go_wp2_with fail
                refine HC.out.mono ?_
                rintro e Z3 ⟨rfl, hb⟩
                have BZ3 := bl_step BZ hb
                have rowZ3 := keepr hb HRZ.out
                have m2 : Z3.cell? ⟨w.heap.size, 2, none⟩ = some (.int .i64 C) := rowZ3.cell (i := 2) (by omega)
                have m5 : Z3.cell? ⟨w.heap.size, 5, none⟩ = some (.int .i64 S) := rowZ3.cell (i := 5) (by omega)
                have m13 : Z3.cell? ⟨w.heap.size, 13, none⟩ = some (.slice (some ⟨gb, ob, none⟩) xn xc) := rowZ3.cell (i := 13) (by omega)
                have cb3 := keepc hb cb
                clear hb rowZ3 HC HRZ
                go_wp2_with fail
                refine ⟨⟨k + 1, by omega, ?_, by go_num, BZ3⟩, by simp [intOf]; omega⟩
                show Value.int .i64 _ = Value.int .i64 (sm F q + (sm (fun k => tmE H V C lv lw bd y0 x0 S q k) k + tmE H V C lv lw bd y0 x0 S q k))
                rw [HTM.out, ← HN1.out, Int.add_assoc]
            · obtain rfl : k = C := by omega
              go_wp2_with fail
              refine ⟨⟨s + 1, by omega, ?_, by go_num, BZ⟩, by simp [intOf]; omega⟩
              rw [← Nat.add_assoc]
              show Value.int .i64 _ = Value.int .i64 (sm F (r * S + s) + F (r * S + s))
              rw [HFE.out]
        · obtain rfl : s = S := by omega
          go_wp2_with fail
          exact ⟨⟨r + 1, by omega, by rw [Nat.succ_mul], by go_num, BZ⟩, by simp [intOf]; omega⟩
    · obtain rfl : r = R := by omega
      go_wp2_with fail
      go_ret
      exact ⟨rfl, bl_step HBX.out BZ⟩
end Go.Proofs.Ytlilldgconlchaa
/- blank, set, bit of package dot. -/
namespace Go.Proofs.Ytlilldgconlchaa
open Go.RowKit

theorem wd_set (M i k : Nat) : wd (M ||| 2 ^ i) k = if k = i / 64 then wd M k ||| 2 ^ (i % 64) else wd M k := by
  rw [wd_or, wd_bit1]
  by_cases e : k = i / 64
  · rw [if_pos e, if_pos e]
  · rw [if_neg e, if_neg e]; simp

theorem ret_i8 {a b : Int} (h : a = b) : Ending.returned (.int .i8 a) = .returned (.int .i8 b) := by rw [h]
end Go.Proofs.Ytlilldgconlchaa
/- Signs. -/
namespace Go.Proofs.Ytlilldgconlchaa
open Go.RowKit

theorem row_drewN' {w : World} {b t n : Nat} {f : Nat → Value} (h : w.rowIs b t n f) (k : Nat) : (w.drewN k).rowIs b t n f := row_drewN h k
/-- What Signs tells. -/
def sgE (A B X : Bt) : Int := if dck A B ≠ 0 then dck A B else if ftB X.n X.m X.N A.n = true then 0 else 20
def sgV (A B X : Bt) : Int := if sgE A B X = 0 then tq B.N A.N X.N A.n.toNat else 0
theorem sgE_bad {A B X : Bt} (h : dck A B ≠ 0) : sgE A B X = dck A B := by unfold sgE; rw [if_pos h]
theorem sgV_bad {A B X : Bt} (h : dck A B ≠ 0) : sgV A B X = 0 := by unfold sgV; rw [if_neg (by rw [sgE_bad h]; exact h)]
theorem tq_end {C A B n : Nat} (h : C < 2 ^ n) : tq C A B (64 * nw n) = tq C A B n := tq_above h A B (nw_le n)
end Go.Proofs.Ytlilldgconlchaa
/- Some, overPlane. -/
namespace Go.Proofs.Ytlilldgconlchaa
open Go.RowKit

/-- What Some tells. -/
def soE (A B C D : Bt) : Int := if dck A B ≠ 0 then dck A B else if dck C D ≠ 0 then dck C D else if A.n = C.n then 0 else 20
def soV (A B C D : Bt) : Int := if soE A B C D = 0 then tq (B.N &&& D.N) A.N C.N A.n.toNat else 0
theorem soE_bad {A B C D : Bt} (h : dck A B ≠ 0) : soE A B C D = dck A B := by unfold soE; rw [if_pos h]
theorem soV_bad {A B C D : Bt} (h : soE A B C D ≠ 0) : soV A B C D = 0 := by unfold soV; rw [if_neg h]
theorem q_new2 (w : World) (A B C D : Bt) (t : TypeId) : ((w.alloc (.cells #[.int .i64 A.n, .slice A.ao A.m A.cap, .int .i64 B.n, .slice B.ao B.m B.cap] t)).alloc (.cells #[.int .i64 C.n, .slice C.ao C.m C.cap, .int .i64 D.n, .slice D.ao D.m D.cap] t)).rowIs (w.heap.size + 1) t 4 (qf C D) := by
  have := q_new (w.alloc (.cells #[.int .i64 A.n, .slice A.ao A.m A.cap, .int .i64 B.n, .slice B.ao B.m B.cap] t)) C D t
  simpa using this
set_option maxHeartbeats 1600000 in
set_option maxRecDepth 100000 in
theorem some_any (A B C D : Bt) (w : World) (hA : Rw w A) (hB : Rw w B) (hC : Rw w C) (hD : Rw w D) :
    Calls Try.prog 18 #[rwv A B, rwv C D] w fun e w' => e = .returned (.tuple #[.int .i64 (soV A B C D), .int .i64 (soE A B C D)]) ∧ Below w.heap.size w w' := by
  have HA := hid1 hA
  have HB := hid1 hB
  have HC := hid1 hC
  have HD := hid1 hD
  clear hA hB hC hD
  have enter : ∀ W : World, Below w.heap.size w W → Calls Try.prog 49 #[rwv A B] W fun e w' => e = .returned (.int .i64 (dck A B)) ∧ Below W.heap.size W w' := fun W hW => dcheck_any A B W (HA.out.below hW) (HB.out.below hW)
  have enter2 : ∀ W : World, Below w.heap.size w W → Calls Try.prog 49 #[rwv C D] W fun e w' => e = .returned (.int .i64 (dck C D)) ∧ Below W.heap.size W w' := fun W hW => dcheck_any C D W (HC.out.below hW) (HD.out.below hW)
  by_cases hd : dck A B = 0
  · by_cases hd2 : dck C D = 0
    · by_cases hn : A.n = C.n
      · obtain ⟨n, e1, e2, e3, e4, e5, e6, e7, _⟩ := dck_zero hd
        obtain ⟨n', f1, f2, f3, f4, f5, f6, f7, _⟩ := dck_zero hd2
        have : n' = n := by omega
        subst this
        have hE : soE A B C D = 0 := by unfold soE; rw [if_neg (by simp [hd]), if_neg (by simp [hd2]), if_pos hn]
        have hV : soV A B C D = tq (B.N &&& D.N) A.N C.N n' := by unfold soV; rw [if_pos hE, e1, Int.toNat_natCast]
        rw [hE, hV, ← tq_end (and_lt' e7)]
        have hb := nw_bd e3
        have HZ := hid1 hd
        have HZ2 := hid1 hd2
        clear hE hV hd hd2
        obtain ⟨an, aa, am, ac, AN⟩ := A
        obtain ⟨bn, ba, bm, bc, BN⟩ := B
        obtain ⟨cn, ca, cm, cc, CN⟩ := C
        obtain ⟨dn, da, dm, dc, DN⟩ := D
        dsimp only at *
        subst e4 e5 f4 f5 hn
        clear e1 e2 f1 f2
        go_enter Try.func18, Try.ntmps18
        go_wp2_with fail
        refine gen_calls (fun W => Below w.heap.size w W ∧ W.rowIs w.heap.size 46 4 (qf ⟨an, aa, nw n', ac, AN⟩ ⟨bn, ba, nw n', bc, BN⟩) ∧ W.rowIs (w.heap.size + 1) 46 4 (qf ⟨an, ca, nw n', cc, CN⟩ ⟨dn, da, nw n', dc, DN⟩)) ⟨bl_alloc (bl_alloc (Below.refl _ _) _) _, (q_new w ⟨an, aa, nw n', ac, AN⟩ ⟨bn, ba, nw n', bc, BN⟩ _).alloc _, q_new2 w ⟨an, aa, nw n', ac, AN⟩ ⟨bn, ba, nw n', bc, BN⟩ ⟨an, ca, nw n', cc, CN⟩ ⟨dn, da, nw n', dc, DN⟩ _⟩ ?_
        rintro W ⟨B0, r1, r2⟩
        refine (enter W B0).mono ?_
        rintro e w1 ⟨rfl, hb1⟩
        rw [HZ.out]
        replace r1 := keepr hb1 r1
        replace r2 := keepr hb1 r2
        replace B0 := bl_step B0 hb1
        have c0 := q0 r2
        have c1 := q1 r2
        have c2 := q2 r2
        have c3 := q3 r2
        clear hb1
        go_wp2_with fail
        refine (enter2 w1 B0).mono ?_
        rintro e w2 ⟨rfl, hb2⟩
        rw [HZ2.out]
        replace r1 := keepr hb2 r1
        replace r2 := keepr hb2 r2
        replace B0 := bl_step B0 hb2
        clear c0 c1 c2 c3 hb2 enter enter2
        have c0 := q0 r1
        have c3 := q3 r1
        have c4 := q0 r2
        go_wp2_with fail
        clear c0 c3 c4
        go_loopw [8, 32] (fun s i wr => ∃ k : Nat, k ≤ nw n' ∧ i = .int .i64 k ∧ s = .int .i64 (tq (BN &&& DN) AN CN (64 * k)) ∧ wr.rowIs w.heap.size 46 4 (qf ⟨an, aa, nw n', ac, AN⟩ ⟨bn, ba, nw n', bc, BN⟩) ∧ wr.rowIs (w.heap.size + 1) 46 4 (qf ⟨an, ca, nw n', cc, CN⟩ ⟨dn, da, nw n', dc, DN⟩) ∧ Below w.heap.size w wr) (fun _ i _ => nw n' - (intOf i).toNat)
        case atStart => exact ⟨0, Nat.zero_le _, rfl, rfl, r1, r2, B0⟩
        case round =>
          clear r1 r2 B0
          obtain ⟨k, hk, rfl, rfl, r1, r2, B0⟩ := hrel
          by_cases hlt : k < nw n'
          · obtain ⟨g1, o1, rfl, d1⟩ := (HA.out.below B0).2.2 k hlt
            obtain ⟨g2, o2, rfl, d2⟩ := (HB.out.below B0).2.2 k hlt
            obtain ⟨g3, o3, rfl, d3⟩ := (HC.out.below B0).2.2 k hlt
            obtain ⟨g4, o4, rfl, d4⟩ := (HD.out.below B0).2.2 k hlt
            unfold wf at d1 d2 d3 d4
            dsimp only at d1 d2 d3 d4
            have c1 := q1 r1
            have c3 := q1 r2
            have c4 := q3 r2
            have ik : (k : Int) < (nw n' : Nat) := by omega
            have ik0 : (0 : Int) ≤ (k : Int) := by omega
            have HAN := and_u64 (wd BN k) (wd DN k) (wd_lt _ _) (wd_lt _ _)
            rw [← wd_and] at HAN
            have HT := hid1 (tally_any (wd (BN &&& DN) k) (wd AN k) (wd CN k) (wd_lt _ _) (wd_lt _ _) (wd_lt _ _))
            have HW := hid1 (tq_word (BN &&& DN) AN CN k)
            have b1 := tq_bd (BN &&& DN) AN CN (64 * k)
            have b2 := tq_bd (wd (BN &&& DN) k) (wd AN k) (wd CN k) 64
            have H1 := hid1 r1
            have H2 := hid1 r2
            clear r1 r2
            generalize wd (BN &&& DN) k = u at *
            generalize wd BN k = y at *
            generalize wd DN k = z at *
            generalize wd AN k = v at *
            generalize wd CN k = x at *
            generalize tq u v x 64 = dt at *
            generalize tq (BN &&& DN) AN CN (64 * k) = st at *
            go_wp2_with fail
            go_quiet ((go_at_call 50; refine (HT.out _).mono ?_; rintro e w5 ⟨rfl, rfl⟩; exact ⟨rfl, _, rfl⟩))
            go_wp2_with fail
            exact ⟨⟨k + 1, by omega, by go_num, by rw [HW.out], row_drewN H1.out _, row_drewN H2.out _, bl_drewN B0 _⟩, by simp [intOf]; omega⟩
          · have hkN : k = nw n' := by omega
            subst hkN
            go_wp2_with fail
            go_ret2
            exact ⟨rfl, B0⟩
      · have hE : soE A B C D = 20 := by unfold soE; rw [if_neg (by simp [hd]), if_neg (by simp [hd2]), if_neg hn]
        rw [soV_bad (by rw [hE]; decide), hE]
        clear hE
        go_enter Try.func18, Try.ntmps18
        go_wp2_with fail
        refine gen_calls (fun W => Below w.heap.size w W ∧ W.rowIs w.heap.size 46 4 (qf A B) ∧ W.rowIs (w.heap.size + 1) 46 4 (qf C D)) ⟨bl_alloc (bl_alloc (Below.refl _ _) _) _, (q_new w A B _).alloc _, q_new2 w A B C D _⟩ ?_
        rintro W ⟨B0, r1, r2⟩
        refine (enter W B0).mono ?_
        rintro e w1 ⟨rfl, hb1⟩
        rw [hd]
        replace r1 := keepr hb1 r1
        replace r2 := keepr hb1 r2
        replace B0 := bl_step B0 hb1
        have c0 := q0 r2
        have c1 := q1 r2
        have c2 := q2 r2
        have c3 := q3 r2
        clear hb1
        go_wp2_with fail
        refine (enter2 w1 B0).mono ?_
        rintro e w2 ⟨rfl, hb2⟩
        rw [hd2]
        replace r1 := keepr hb2 r1
        replace r2 := keepr hb2 r2
        clear c0 c1 c2 c3
        have c0 := q0 r1
        have c4 := q0 r2
        go_wp2_with fail
        go_ret2
        exact ⟨rfl, bl_step B0 hb2⟩
    · have hE : soE A B C D = dck C D := by unfold soE; rw [if_neg (by simp [hd]), if_pos hd2]
      rw [soV_bad (by rw [hE]; exact hd2), hE]
      clear hE
      generalize dck C D = q at *
      go_enter Try.func18, Try.ntmps18
      go_wp2_with fail
      refine gen_calls (fun W => Below w.heap.size w W ∧ W.rowIs (w.heap.size + 1) 46 4 (qf C D)) ⟨bl_alloc (bl_alloc (Below.refl _ _) _) _, q_new2 w A B C D _⟩ ?_
      rintro W ⟨B0, r2⟩
      refine (enter W B0).mono ?_
      rintro e w1 ⟨rfl, hb1⟩
      rw [hd]
      replace r2 := keepr hb1 r2
      replace B0 := bl_step B0 hb1
      have c0 := q0 r2
      have c1 := q1 r2
      have c2 := q2 r2
      have c3 := q3 r2
      clear hb1
      go_wp2_with fail
      refine (enter2 w1 B0).mono ?_
      rintro e w2 ⟨rfl, hb2⟩
      clear enter enter2
      go_wp2_with fail
      go_ret2
      exact ⟨rfl, bl_step B0 hb2⟩
  · rw [soV_bad (by rw [soE_bad hd]; exact hd), soE_bad hd]
    generalize dck A B = q at *
    go_enter Try.func18, Try.ntmps18
    go_wp2_with fail
    refine gen_calls (fun W => Below w.heap.size w W) (bl_alloc (bl_alloc (Below.refl _ _) _) _) ?_
    intro W B0
    refine (enter W B0).mono ?_
    rintro e w1 ⟨rfl, hb1⟩
    clear enter enter2
    go_wp2_with fail
    go_ret2
    exact ⟨rfl, bl_step B0 hb1⟩

end Go.Proofs.Ytlilldgconlchaa
/- PatchCounts: its calls, of a case. -/
namespace Go.Proofs.Ytlilldgconlchaa
open Go.RowKit Go.Shelf

/-- What Check tells of a row of full words: nothing, if its signs count. -/
theorem dck_full {M c1 c2 S X : Nat} {a1 a2 : Option Addr} (hM : M ≤ 262144) (h1 : S < 2 ^ (64 * M)) (h2 : X < 2 ^ (64 * M)) (h : S &&& X = S) : dck ⟨(64 * M : Nat), a1, M, c1, S⟩ ⟨(64 * M : Nat), a2, M, c2, X⟩ = 0 := by
  have hn : nw (64 * M) = M := by unfold nw; omega
  have hc : ∀ N, N < 2 ^ (64 * M) → chk ((64 * M : Nat) : Int) M N = 0 := fun N hN => by
    unfold chk
    rw [if_neg (by omega), if_neg (by omega), Int.toNat_natCast, hn, if_neg (by simp), if_pos hN]
  unfold dck
  rw [if_neg, if_pos h]
  simp only [Bt.chk, ftB]
  rw [hc _ h1, hc _ h2]
  simp
theorem sub_of_bits {S X : Nat} (h : ∀ i, S.testBit i = true → X.testBit i = true) : S &&& X = S := by
  refine Nat.eq_of_testBit_eq fun i => ?_
  rw [Nat.testBit_and]
  cases e : S.testBit i
  · simp
  · simp [h i e]
theorem row_sub {C : Nat} (hC : 0 < C) (l : List Int) (P : Nat) : spN l C P &&& spN (nzl l) C P = spN l C P := sub_of_bits fun i h => by
  rw [spN_bit hC] at h ⊢
  rw [nzl_at]
  simp only [Bool.and_eq_true, decide_eq_true_eq] at h ⊢
  refine ⟨h.1, h.2.1, ?_⟩
  rw [if_neg (by have := h.2.2; omega)]
  omega
theorem patch_sub {H V C N : Nat} (hC : 0 < C) (lv : List Int) (hN : cNE lv C (H * V) = N) (bd : Int) (hbd : -1 ≤ bd ∧ bd ≤ 1) (xs xm : Nat) (hxs : xs = if 0 < bd then ful C else 0) (hxm : xm = if bd = 0 then 0 else ful C) (y0 x0 : Int) (S P : Nat) :
    js (64 * nw C) (plP H V (nw C) N y0 x0 S xs) P &&& js (64 * nw C) (mkP H V C y0 x0 S xm) P = js (64 * nw C) (plP H V (nw C) N y0 x0 S xs) P := by
  have hw : C ≤ 64 * nw C := nw_le C
  have hw0 : 0 < 64 * nw C := by omega
  have hxs' : xs < 2 ^ (64 * nw C) := by rw [hxs]; split; exact ful_words C; exact Nat.two_pow_pos _
  have hxm' : xm < 2 ^ (64 * nw C) := by rw [hxm]; split; exact Nat.two_pow_pos _; exact ful_words C
  have b1 : ∀ i, i < P → plP H V (nw C) N y0 x0 S xs i < 2 ^ (64 * nw C) := fun i _ => by unfold plP; split; exact pl_lt _ _ _; exact hxs'
  have b2 : ∀ i, i < P → mkP H V C y0 x0 S xm i < 2 ^ (64 * nw C) := fun i _ => by unfold mkP; split; exact ful_words C; exact hxm'
  refine sub_of_bits fun i h => ?_
  rw [js_bit hw0 P b1] at h
  rw [js_bit hw0 P b2]
  simp only [Bool.and_eq_true, decide_eq_true_eq] at h ⊢
  refine ⟨h.1, ?_⟩
  have h2 := h.2
  unfold plP at h2
  unfold mkP
  by_cases hin : Ins H V y0 x0 S (i / (64 * nw C))
  · rw [if_pos hin] at h2 ⊢
    have hpl : pl N (nw C) (ixP V y0 x0 S (i / (64 * nw C))) = sp lv C (ixP V y0 x0 S (i / (64 * nw C))) := by
      rw [← hN]; unfold cNE; exact js_pl (fun i _ => sp_words lv C i) (ixP_lt hin)
    rw [hpl, sp_bit] at h2
    rw [ful_bitE]
    simp only [Bool.and_eq_true] at h2
    exact h2.1
  · rw [if_neg hin] at h2 ⊢
    rw [hxs] at h2
    rw [hxm]
    by_cases h1 : 0 < bd
    · rw [if_pos h1] at h2
      rw [if_neg (by omega)]
      exact h2
    · rw [if_neg h1] at h2
      simp at h2
theorem se_lt {H V C N S xs P : Nat} {y0 x0 : Int} (hxs : xs < 2 ^ (64 * nw C)) : js (64 * nw C) (plP H V (nw C) N y0 x0 S xs) P < 2 ^ (64 * (P * nw C)) := js_bound fun i _ => by unfold plP; split; exact pl_lt _ _ _; exact hxs
theorem sm_lt {H V C S xm P : Nat} {y0 x0 : Int} (hxm : xm < 2 ^ (64 * nw C)) : js (64 * nw C) (mkP H V C y0 x0 S xm) P < 2 ^ (64 * (P * nw C)) := js_bound fun i _ => by unfold mkP; split; exact ful_words C; exact hxm
theorem wtM_bd (l : List Int) {N k : Nat} (h : k < N) : -1 ≤ ia (wtM l N) k ∧ ia (wtM l N) k ≤ 1 := by
  rw [wtM_at l h]
  split
  · have h1 := Int.tmod_lt_of_pos (ia l ((k + k / l.length) % l.length)) (show (0 : Int) < 2 by omega)
    have h2 := Int.lt_tmod_of_pos (ia l ((k + k / l.length) % l.length)) (show (0 : Int) < 2 by omega)
    omega
  · omega
theorem vlM_pm (l : List Int) {N k : Nat} (h : k < N) : ia (vlM l N) k = 1 ∨ ia (vlM l N) k = -1 := by
  rw [vlM_at l h]
  split
  · exact .inl rfl
  · exact .inr rfl
/-- The count against a patch. -/
theorem someC {H V C N R S M : Nat} (hC : 1 ≤ C ∧ C ≤ 70) (hRS : R * S ≤ 144) (hM : R * S * nw C = M) (lv lw : List Int) (hv : ∀ i, i < H * V * C → ia lv i = 1 ∨ ia lv i = -1) (hw : ∀ i, i < R * S * C → -1 ≤ ia lw i ∧ ia lw i ≤ 1) (hN : cNE lv C (H * V) = N) (bd : Int) (hbd : -1 ≤ bd ∧ bd ≤ 1) (xs xm : Nat) (hxs : xs = if 0 < bd then ful C else 0) (hxm : xm = if bd = 0 then 0 else ful C) (y0 x0 : Int) (g1 k1 g2 k2 A1 K1 A2 K2 : Nat) (w : World)
    (r1 : Wr w (some ⟨g1, 0, none⟩) M (spN lw C (R * S))) (r2 : Wr w (some ⟨g2, 0, none⟩) M (spN (nzl lw) C (R * S))) (p1 : Wr w (some ⟨A1, 0, none⟩) M (js (64 * nw C) (plP H V (nw C) N y0 x0 S xs) (R * S))) (p2 : Wr w (some ⟨A2, 0, none⟩) M (js (64 * nw C) (mkP H V C y0 x0 S xm) (R * S))) :
    Calls Try.prog 18 #[rwv ⟨(64 * M : Nat), some ⟨g1, 0, none⟩, M, k1, 0⟩ ⟨(64 * M : Nat), some ⟨g2, 0, none⟩, M, k2, 0⟩, rwv ⟨(64 * M : Nat), some ⟨A1, 0, none⟩, M, K1, 0⟩ ⟨(64 * M : Nat), some ⟨A2, 0, none⟩, M, K2, 0⟩] w fun e w' => e = .returned (.tuple #[.int .i64 (cvS H V C lv lw bd y0 x0 R S), .int .i64 0]) ∧ Below w.heap.size w w' := by
  have hnw : nw C ≤ 2 := by have := hC.2; unfold nw; omega
  have hMb : M ≤ 288 := by rw [← hM]; exact Nat.mul_le_mul hRS hnw
  have hm9 : M ≤ 9223372036854775807 := by omega
  have d1 : dck ⟨(64 * M : Nat), some ⟨g1, 0, none⟩, M, k1, spN lw C (R * S)⟩ ⟨(64 * M : Nat), some ⟨g2, 0, none⟩, M, k2, spN (nzl lw) C (R * S)⟩ = 0 := dck_full (by omega) r1.1 r2.1 (row_sub (by omega) lw _)
  have d2 : dck ⟨(64 * M : Nat), some ⟨A1, 0, none⟩, M, K1, js (64 * nw C) (plP H V (nw C) N y0 x0 S xs) (R * S)⟩ ⟨(64 * M : Nat), some ⟨A2, 0, none⟩, M, K2, js (64 * nw C) (mkP H V C y0 x0 S xm) (R * S)⟩ = 0 := dck_full (by omega) p1.1 p2.1 (patch_sub (by omega) lv hN bd hbd xs xm hxs hxm y0 x0 S _)
  have h := some_any ⟨(64 * M : Nat), some ⟨g1, 0, none⟩, M, k1, spN lw C (R * S)⟩ ⟨(64 * M : Nat), some ⟨g2, 0, none⟩, M, k2, spN (nzl lw) C (R * S)⟩ ⟨(64 * M : Nat), some ⟨A1, 0, none⟩, M, K1, js (64 * nw C) (plP H V (nw C) N y0 x0 S xs) (R * S)⟩ ⟨(64 * M : Nat), some ⟨A2, 0, none⟩, M, K2, js (64 * nw C) (mkP H V C y0 x0 S xm) (R * S)⟩ w ⟨r1.1, hm9, r1.2⟩ ⟨r2.1, hm9, r2.2⟩ ⟨p1.1, hm9, p1.2⟩ ⟨p2.1, hm9, p2.2⟩
  have eE : soE ⟨(64 * M : Nat), some ⟨g1, 0, none⟩, M, k1, spN lw C (R * S)⟩ ⟨(64 * M : Nat), some ⟨g2, 0, none⟩, M, k2, spN (nzl lw) C (R * S)⟩ ⟨(64 * M : Nat), some ⟨A1, 0, none⟩, M, K1, js (64 * nw C) (plP H V (nw C) N y0 x0 S xs) (R * S)⟩ ⟨(64 * M : Nat), some ⟨A2, 0, none⟩, M, K2, js (64 * nw C) (mkP H V C y0 x0 S xm) (R * S)⟩ = 0 := by
    unfold soE
    rw [if_neg (by rw [d1]; simp), if_neg (by rw [d2]; simp), if_pos rfl]
  have eV' : soV ⟨(64 * M : Nat), some ⟨g1, 0, none⟩, M, k1, spN lw C (R * S)⟩ ⟨(64 * M : Nat), some ⟨g2, 0, none⟩, M, k2, spN (nzl lw) C (R * S)⟩ ⟨(64 * M : Nat), some ⟨A1, 0, none⟩, M, K1, js (64 * nw C) (plP H V (nw C) N y0 x0 S xs) (R * S)⟩ ⟨(64 * M : Nat), some ⟨A2, 0, none⟩, M, K2, js (64 * nw C) (mkP H V C y0 x0 S xm) (R * S)⟩ = cvS H V C lv lw bd y0 x0 R S := by
    unfold soV
    rw [if_pos eE]
    dsimp only
    rw [Int.toNat_natCast, tq_some, show 64 * M = R * S * (64 * nw C) by rw [← hM, Nat.mul_left_comm]]
    exact counted (by omega) lv lw hv N hN bd hbd xs xm hxs hxm y0 x0 R S hw
  rw [eE, eV'] at h
  exact h
end Go.Proofs.Ytlilldgconlchaa
/- PatchCounts: Lost, Pack, Spread and made, of a case. -/
namespace Go.Proofs.Ytlilldgconlchaa
open Go.RowKit Go.Shelf

theorem cv_bd {H V C R S : Nat} {lv lw : List Int} {bd y0 x0 : Int} (hC : C ≤ 70) (hRS : R * S ≤ 144) (hv : ∀ i, i < H * V * C → -1 ≤ ia lv i ∧ ia lv i ≤ 1) (hw : ∀ i, i < R * S * C → -1 ≤ ia lw i ∧ ia lw i ≤ 1) (hbd : -1 ≤ bd ∧ bd ≤ 1) : -10080 ≤ cvS H V C lv lw bd y0 x0 R S ∧ cvS H V C lv lw bd y0 x0 R S ≤ 10080 := by
  have h1 : ∀ q, q < R * S → -(C : Int) ≤ sm (fun k => eV H V C lv bd y0 x0 S q k * ia lw (q * C + k)) C ∧ sm (fun k => eV H V C lv bd y0 x0 S q k * ia lw (q * C + k)) C ≤ C := fun q hq => by
    have h := sm_bd (f := fun k => eV H V C lv bd y0 x0 S q k * ia lw (q * C + k)) (K := 1) C (fun k hk => mul_bd (eV_bd hv hbd hk) (hw _ (lt_place hq hk)))
    rw [Int.mul_one] at h
    exact h
  have h2 := sm_bd (f := fun q => sm (fun k => eV H V C lv bd y0 x0 S q k * ia lw (q * C + k)) C) (K := (C : Int)) (R * S) h1
  have h3 : ((R * S : Nat) : Int) * C ≤ 144 * 70 := Int.mul_le_mul (by omega) (by omega) (by omega) (by omega)
  unfold cvS
  omega
theorem lostC {H V C N R S M : Nat} (hC : 1 ≤ C ∧ C ≤ 70) (hRS : R * S ≤ 144) (hM : R * S * nw C = M) (lv lw : List Int) (hv : ∀ i, i < H * V * C → ia lv i = 1 ∨ ia lv i = -1) (hw : ∀ i, i < R * S * C → -1 ≤ ia lw i ∧ ia lw i ≤ 1) (hN : cNE lv C (H * V) = N) (bd : Int) (y0 x0 : Int) (g1 k1 g2 k2 A1 K1 A2 K2 : Nat) (w : World)
    (r1 : Wr w (some ⟨g1, 0, none⟩) M (spN lw C (R * S))) (r2 : Wr w (some ⟨g2, 0, none⟩) M (spN (nzl lw) C (R * S))) (p1 : Wr w (some ⟨A1, 0, none⟩) M (js (64 * nw C) (plP H V (nw C) N y0 x0 S 0) (R * S))) (p2 : Wr w (some ⟨A2, 0, none⟩) M (js (64 * nw C) (mkP H V C y0 x0 S 0) (R * S))) :
    Calls Try.prog 19 #[rwv ⟨(64 * M : Nat), some ⟨g1, 0, none⟩, M, k1, 0⟩ ⟨(64 * M : Nat), some ⟨g2, 0, none⟩, M, k2, 0⟩, rwv ⟨(64 * M : Nat), some ⟨A1, 0, none⟩, M, K1, 0⟩ ⟨(64 * M : Nat), some ⟨A2, 0, none⟩, M, K2, 0⟩] w fun e w' => ∃ n : Int, e = .returned (.tuple #[.int .i64 n, .int .i64 0]) ∧ (-20000 ≤ n ∧ n ≤ 20000) ∧ cvS H V C lv lw 0 y0 x0 R S + bd * n = cvS H V C lv lw bd y0 x0 R S ∧ Below w.heap.size w w' := by
  have hnw : nw C ≤ 2 := by have := hC.2; unfold nw; omega
  have hMb : M ≤ 288 := by rw [← hM]; exact Nat.mul_le_mul hRS hnw
  have hm9 : M ≤ 9223372036854775807 := by omega
  have d1 : dck ⟨(64 * M : Nat), some ⟨g1, 0, none⟩, M, k1, spN lw C (R * S)⟩ ⟨(64 * M : Nat), some ⟨g2, 0, none⟩, M, k2, spN (nzl lw) C (R * S)⟩ = 0 := dck_full (by omega) r1.1 r2.1 (row_sub (by omega) lw _)
  have d2 : dck ⟨(64 * M : Nat), some ⟨A1, 0, none⟩, M, K1, js (64 * nw C) (plP H V (nw C) N y0 x0 S 0) (R * S)⟩ ⟨(64 * M : Nat), some ⟨A2, 0, none⟩, M, K2, js (64 * nw C) (mkP H V C y0 x0 S 0) (R * S)⟩ = 0 := dck_full (by omega) p1.1 p2.1 (patch_sub (by omega) lv hN 0 (by omega) 0 0 (by simp) (by simp) y0 x0 S _)
  have h := lost_any ⟨(64 * M : Nat), some ⟨g1, 0, none⟩, M, k1, spN lw C (R * S)⟩ ⟨(64 * M : Nat), some ⟨g2, 0, none⟩, M, k2, spN (nzl lw) C (R * S)⟩ ⟨(64 * M : Nat), some ⟨A1, 0, none⟩, M, K1, js (64 * nw C) (plP H V (nw C) N y0 x0 S 0) (R * S)⟩ ⟨(64 * M : Nat), some ⟨A2, 0, none⟩, M, K2, js (64 * nw C) (mkP H V C y0 x0 S 0) (R * S)⟩ w ⟨r1.1, hm9, r1.2⟩ ⟨r2.1, hm9, r2.2⟩ ⟨p1.1, hm9, p1.2⟩ ⟨p2.1, hm9, p2.2⟩
  have eE : loE ⟨(64 * M : Nat), some ⟨g1, 0, none⟩, M, k1, spN lw C (R * S)⟩ ⟨(64 * M : Nat), some ⟨g2, 0, none⟩, M, k2, spN (nzl lw) C (R * S)⟩ ⟨(64 * M : Nat), some ⟨A1, 0, none⟩, M, K1, js (64 * nw C) (plP H V (nw C) N y0 x0 S 0) (R * S)⟩ ⟨(64 * M : Nat), some ⟨A2, 0, none⟩, M, K2, js (64 * nw C) (mkP H V C y0 x0 S 0) (R * S)⟩ = 0 := by
    unfold loE
    rw [if_neg (by rw [d1]; simp), if_neg (by rw [d2]; simp), if_pos rfl]
  have eV' : loV ⟨(64 * M : Nat), some ⟨g1, 0, none⟩, M, k1, spN lw C (R * S)⟩ ⟨(64 * M : Nat), some ⟨g2, 0, none⟩, M, k2, spN (nzl lw) C (R * S)⟩ ⟨(64 * M : Nat), some ⟨A1, 0, none⟩, M, K1, js (64 * nw C) (plP H V (nw C) N y0 x0 S 0) (R * S)⟩ ⟨(64 * M : Nat), some ⟨A2, 0, none⟩, M, K2, js (64 * nw C) (mkP H V C y0 x0 S 0) (R * S)⟩ = lo (spN lw C (R * S)) (spN (nzl lw) C (R * S)) (js (64 * nw C) (mkP H V C y0 x0 S 0) (R * S)) (64 * M) := by
    unfold loV
    rw [if_pos eE]
    dsimp only
    rw [Int.toNat_natCast]
  rw [eE, eV'] at h
  refine h.mono ?_
  rintro e w' ⟨rfl, hb⟩
  refine ⟨_, rfl, ?_, ?_, hb⟩
  · have := lo_bd (spN lw C (R * S)) (spN (nzl lw) C (R * S)) (js (64 * nw C) (mkP H V C y0 x0 S 0) (R * S)) (64 * M)
    omega
  · have c0 := counted (by omega) lv lw hv N hN 0 (by omega) 0 0 (by simp) (by simp) y0 x0 R S hw
    have c1 := counted_lost (by omega) lv lw hv N hN bd y0 x0 R S hw
    rw [show 64 * M = R * S * (64 * nw C) by rw [← hM, Nat.mul_left_comm], ← c0]
    exact c1
/-- The case's tensor packed. -/
theorem packC {H V C un m N : Nat} (hH : 1 ≤ H ∧ H ≤ 6) (hV : 1 ≤ V ∧ V ≤ 6) (hC : 1 ≤ C ∧ C ≤ 70) (l : List Int) (hl : l.length = un) (hu : un = H * V * C) (hm : H * V * nw C = m) (hN : cNE l C (H * V) = N) (g o cap : Nat) (w : World) (hc : un ≤ cap) (hc2 : cap ≤ 9223372036854775807) (rd : R8 w (some ⟨g, o, none⟩) l) :
    Calls Try.prog 11 #[Sg.shp H V C, .slice (some ⟨g, o, none⟩) un cap] w fun e w' => ∃ G, e = .returned (.tuple #[cuv H V C (some ⟨G, 0, none⟩) m m, .int .i64 0]) ∧ Wr w' (some ⟨G, 0, none⟩) m N ∧ Below w.heap.size w w' := by
  have q1 : H * V ≤ 6 * 6 := Nat.mul_le_mul hH.2 hV.2
  have q2 : H * V * C ≤ 6 * 6 * 70 := Nat.mul_le_mul q1 hC.2
  refine (cpack_ok H V C l un hl g o cap w ⟨hH.1, by omega⟩ ⟨hV.1, by omega⟩ ⟨hC.1, by omega⟩ hu (by omega) hc hc2 (chk_small ⟨hH.1, by omega⟩ ⟨hV.1, by omega⟩ hC) m hm rd).mono ?_
  rintro e w' ⟨G, rfl, _, row, hb⟩
  refine ⟨G, rfl, ?_, hb⟩
  rw [← hN]
  refine row_wrE ?_ row
  unfold cNE
  rw [← hm]
  exact js_bound fun i _ => sp_words l C i
/-- The case's weights laid. -/
theorem spreadC {C R S M xn : Nat} (hC : 1 ≤ C ∧ C ≤ 70) (hRS : 1 ≤ R * S ∧ R * S ≤ 144) (hM : R * S * nw C = M) (l : List Int) (hl : l.length = xn) (hx : xn = R * S * C) (hw : ∀ i, i < R * S * C → -1 ≤ ia l i ∧ ia l i ≤ 1) (g o cap : Nat) (w : World) (rd : R8 w (some ⟨g, o, none⟩) l) :
    Calls Try.prog 16 #[.int .i64 C, .slice (some ⟨g, o, none⟩) xn cap] w fun e w' => ∃ G1 G2, e = .returned (.tuple #[rwv ⟨(64 * M : Nat), some ⟨G1, 0, none⟩, M, M, 0⟩ ⟨(64 * M : Nat), some ⟨G2, 0, none⟩, M, M, 0⟩, .int .i64 0]) ∧ Wr w' (some ⟨G1, 0, none⟩) M (spN l C (R * S)) ∧ Wr w' (some ⟨G2, 0, none⟩) M (spN (nzl l) C (R * S)) ∧ Below w.heap.size w w' := by
  have hnw : nw C ≤ 2 := by have := hC.2; unfold nw; omega
  have hMb : R * S * nw C ≤ 288 := Nat.mul_le_mul hRS.2 hnw
  refine (spread_walk C (R * S) xn xn g o cap l hl w ⟨hC.1, by omega⟩ hRS.1 hx.symm (by omega) (Nat.le_refl _) (fun k hk => hw k (by omega)) (fun h => absurd h (by omega)) rd).mono ?_
  rw [hM]
  rintro e w' ⟨⟨_, G1, G2, rfl, _, _, _, r1, r2⟩ | ⟨h, _⟩, hB⟩
  · have s1 := spN_lt l C (R * S)
    have s2 := spN_lt (nzl l) C (R * S)
    rw [hM] at s1 s2
    exact ⟨G1, G2, rfl, row_wrE s1 r1, row_wrE s2 r2, hB⟩
  · omega
/-- The case made. -/
theorem madeN (h v c r s sy sx t l b q bd : Int) (ao : Option Addr) (lv : List Int) (n ca : Nat) (hn : lv.length = n) (bo : Option Addr) (lw : List Int) (m cb : Nat) (hm : lw.length = m) (hnb : n ≤ 140737488351232) (hmb : m ≤ 140737488351232) : ∃ (H V C R S SY SX T L B Q : Nat) (D : Int), Cn H V C R S SY SX T L B Q ∧ (-1 ≤ D ∧ D ≤ 1) ∧ ∀ w : World, R8 w ao lv → R8 w bo lw →
    Calls Try.prog 10 #[Sg.shp h v c, Sg.win r s sy sx t l b q, .int .i64 bd, .slice ao n ca, .slice bo m cb] w fun e w' => ∃ gu uc gx xc, e = .returned (kN H V C (some ⟨gu, 0, none⟩) (H * V * C) uc R S SY SX T L B Q D (some ⟨gx, 0, none⟩) (R * S * C) xc).val ∧ (H * V * C ≤ uc ∧ uc ≤ 9223372036854775807) ∧ R8 w' (some ⟨gu, 0, none⟩) (vlM lv (H * V * C)) ∧ R8 w' (some ⟨gx, 0, none⟩) (wtM lw (R * S * C)) ∧ Below w.heap.size w w' := by
  have nat : ∀ {z a b : Int}, 0 ≤ a → a ≤ b → ∃ k : Nat, wi z a b = k ∧ a ≤ k ∧ (k : Int) ≤ b := fun {z a b} h1 h2 => by
    have := wi_bd (n := z) h2
    exact ⟨(wi z a b).toNat, by omega, by omega, by omega⟩
  obtain ⟨H, eH, _, _⟩ := nat (z := h) (a := 1) (b := 6) (by omega) (by omega)
  obtain ⟨V, eV, _, _⟩ := nat (z := v) (a := 1) (b := 6) (by omega) (by omega)
  obtain ⟨C, eC, _, _⟩ := nat (z := c) (a := 1) (b := 70) (by omega) (by omega)
  obtain ⟨T, eT, _, _⟩ := nat (z := t) (a := 0) (b := 3) (by omega) (by omega)
  obtain ⟨L, eL, _, _⟩ := nat (z := l) (a := 0) (b := 3) (by omega) (by omega)
  obtain ⟨B, eB, _, _⟩ := nat (z := b) (a := 0) (b := 3) (by omega) (by omega)
  obtain ⟨Q, eQ, _, _⟩ := nat (z := q) (a := 0) (b := 3) (by omega) (by omega)
  obtain ⟨SY, eSY, _, _⟩ := nat (z := sy) (a := 1) (b := 4) (by omega) (by omega)
  obtain ⟨SX, eSX, _, _⟩ := nat (z := sx) (a := 1) (b := 4) (by omega) (by omega)
  obtain ⟨R, eR, _, _⟩ := nat (z := r) (a := 1) (b := (H : Int) + T + B) (by omega) (by omega)
  obtain ⟨S, eS, _, _⟩ := nat (z := s) (a := 1) (b := (V : Int) + L + Q) (by omega) (by omega)
  have hD := wi_bd (n := bd) (show (-1 : Int) ≤ 1 by omega)
  refine ⟨H, V, C, R, S, SY, SX, T, L, B, Q, wi bd (-1) 1, ⟨by omega, by omega, by omega, by omega, by omega, by omega, by omega, by omega, by omega, by omega, by omega⟩, hD, fun w ra rb => ?_⟩
  refine (madeE_any h v c r s sy sx t l b q bd ao lv n ca hn bo lw m cb hm w hnb hmb ra rb).mono ?_
  rintro e w' ⟨vv, wv, K, eK, rfl, o1, o2, _, hb⟩
  have eK2 : K = ⟨H, V, C, vv, R, S, SY, SX, T, L, B, Q, wi bd (-1) 1, wv⟩ := by rw [eK]; simp only [ksM, eH, eV, eC, eT, eL, eB, eQ, eR, eS, eSY, eSX]
  subst eK2
  dsimp only at o1 o2
  have z1 : ((H : Int) * V * C).toNat = H * V * C := by rw [show (H : Int) * V * C = ((H * V * C : Nat) : Int) by push_cast; rfl, Int.toNat_natCast]
  have z2 : ((R : Int) * S * C).toNat = R * S * C := by rw [show (R : Int) * S * C = ((R * S * C : Nat) : Int) by push_cast; rfl, Int.toNat_natCast]
  rw [z1] at o1
  rw [z2] at o2
  have n1 : 0 < H * V * C := Nat.mul_pos (Nat.mul_pos (by omega) (by omega)) (by omega)
  have n2 : 0 < R * S * C := Nat.mul_pos (Nat.mul_pos (by omega) (by omega)) (by omega)
  obtain ⟨gu, uc, _, rfl, _, u1, u2, _, _⟩ := own_row o1 n1
  obtain ⟨gx, xc, _, rfl, _, _, _, _, _⟩ := own_row o2 n2
  exact ⟨gu, uc, gx, xc, rfl, ⟨u1, by unfold maxLen at u2; omega⟩, own8_r8 (vlM_len _ _) o1, own8_r8 (wtM_len _ _) o2, hb⟩
end Go.Proofs.Ytlilldgconlchaa
