import Derived.Test.YtfboegdibohciaaQBCubeScript
import Derived.Maps.AppendAt
import Derived.Laws.AppendOwnNone
import Derived.Laws.OwnMore
import Derived.Test.YtfboegdibohciaaQCCubeScript
import Derived.Test.YtfboegdibohciaaKL2
import Derived.Deep.RegionHeld3
import Derived.Test.YtfboegdibohciaaQACubeScript
import Derived.ChangeSlices
import Derived.Deep.Slices
/- CubeScript: the answers that are kept. -/
namespace Go.Proofs.Ytfboegdibohciaa
open Go.RowKit Go.Shelf

theorem own_row_neU {w : World} {base : Nat} {e t : TypeId} {size b n k : Nat} {v : Value} {xs : List Value} {f : Nat → Value} (h : w.ownsRow base e size v n xs) (r : w.rowIs b t k f) (ht : e ≠ t) : v.ownBlock ≠ some b := by
  rcases h.2 with ⟨rfl, _⟩ | ⟨g, cap, cur, rfl, _, hg, _⟩
  · simp [Value.ownBlock]
  · intro e1
    simp [Value.ownBlock] at e1
    subst e1
    obtain ⟨c, hc, _⟩ := r
    rw [hg] at hc
    exact ht (by injection hc with hc; injection hc)
theorem row_grownU {w w' : World} {base : Nat} {e t : TypeId} {size b n k : Nat} {v : Value} {xs : List Value} {f : Nat → Value} (r : w.rowIs b t k f) (hown : w.ownsRow base e size v n xs) (hg : w.grownBy w' v.ownBlock) (ht : e ≠ t) : w'.rowIs b t k f :=
  r.of_block (hg.block _ r.lt (fun e1 => own_row_neU hown r ht e1.symm))
theorem own_keepU {w w' : World} {base : Nat} {e : TypeId} {size : Nat} {v : Value} {n : Nat} {xs : List Value} (h : w.ownsRow base e size v n xs) (hb : Below w.heap.size w w') : w'.ownsRow base e size v n xs :=
  h.kept (row := none) ⟨hb.os, hb.tape, hb.output, hb.size, fun k hk _ => hb.block k hk⟩ (by cases v.ownBlock <;> simp)
theorem own_butU {w w' : World} {base g t k : Nat} {e : TypeId} {size n : Nat} {v : Value} {xs : List Value} {f : Nat → Value} (h : w.ownsRow base e size v n xs) (hb : But g w w') (r : w.rowIs g t k f) (ht : e ≠ t) : w'.ownsRow base e size v n xs := by
  refine h.kept (row := some g) ⟨hb.os, hb.tape, hb.output, hb.size, fun k hk hn => hb.block k hk (fun e => hn (by rw [e]))⟩ ?_
  have := own_row_neU h r ht
  cases e1 : v.ownBlock with
  | none => simp
  | some j => right; rw [e1] at this; exact fun e2 => this (by rw [← e2])
theorem own_kept2U {w w' : World} {base : Nat} {e : TypeId} {size n : Nat} {v v' : Value} {xs : List Value} {o : Obj} (h : w.ownsRow base e size v n xs) (hne : v.ownBlock = none ∨ v.ownBlock ≠ v'.ownBlock) (hg : (w.alloc o).grownBy w' v'.ownBlock) : w'.ownsRow base e size v n xs := by
  refine (h.alloc o).kept hg ?_
  rcases hne with e1 | e1
  · rw [e1]; cases v'.ownBlock <;> simp
  · cases e2 : v.ownBlock with
    | none => simp
    | some k => rw [e2] at e1; simpa using e1
theorem own_lenU {w : World} {base : Nat} {e : TypeId} {size : Nat} {v : Value} {n : Nat} {xs : List Value} (h : w.ownsRow base e size v n xs) : ∃ ao cap, v = .slice ao n cap ∧ (0 < n → ∃ g, ao = some ⟨g, 0, none⟩) := by
  rcases h.2 with ⟨rfl, h0⟩ | ⟨g, cap, cur, rfl, _⟩
  · exact ⟨Option.none, 0, by rw [h0], fun z => by omega⟩
  · exact ⟨_, cap, rfl, fun _ => ⟨g, rfl⟩⟩
/-- Nothing old has turned but blocks of X. -/
structure FB (X : Nat → Prop) (w W : World) : Prop where
  os : W.os = w.os
  tape : W.tape = w.tape
  output : W.output = w.output
  size : w.heap.size ≤ W.heap.size
  block : ∀ k, k < w.heap.size → ¬ X k → W.heap[k]? = w.heap[k]?
theorem FB.refl (X : Nat → Prop) (w : World) : FB X w w := ⟨rfl, rfl, rfl, Nat.le_refl _, fun _ _ _ => rfl⟩
theorem FB.but {X : Nat → Prop} {w W W' : World} {g : Nat} (h : FB X w W) (hb : But g W W') (hg : X g ∨ w.heap.size ≤ g) : FB X w W' :=
  ⟨hb.os.trans h.os, hb.tape.trans h.tape, hb.output.trans h.output, Nat.le_trans h.size hb.size, fun k hk hx => (hb.block k (Nat.lt_of_lt_of_le hk h.size) (fun e => by subst e; rcases hg with hg | hg; exact hx hg; omega)).trans (h.block k hk hx)⟩
theorem FB.below {X : Nat → Prop} {w W W' : World} (h : FB X w W) (hb : Below W.heap.size W W') : FB X w W' :=
  ⟨hb.os.trans h.os, hb.tape.trans h.tape, hb.output.trans h.output, Nat.le_trans h.size hb.size, fun k hk hx => (hb.block k (Nat.lt_of_lt_of_le hk h.size)).trans (h.block k hk hx)⟩
theorem FB.grown {X : Nat → Prop} {w W W' : World} {row : Option Nat} (h : FB X w W) (hg : W.grownBy W' row) (hr : ∀ r, row = some r → X r ∨ w.heap.size ≤ r) : FB X w W' :=
  ⟨hg.os.trans h.os, hg.tape.trans h.tape, hg.output.trans h.output, Nat.le_trans h.size hg.size, fun k hk hx => (hg.block k (Nat.lt_of_lt_of_le hk h.size) (fun e => by rcases hr k e.symm with z | z; exact hx z; omega)).trans (h.block k hk hx)⟩
theorem FB.row {X : Nat → Prop} {w W : World} {g t n : Nat} {f : Nat → Value} (h : FB X w W) (r : w.rowIs g t n f) (hx : ¬ X g) : W.rowIs g t n f := r.of_block (h.block g r.lt hx)
theorem own_fb {w w' : World} {X : Nat → Prop} {base : Nat} {e : TypeId} {size n : Nat} {v : Value} {xs : List Value} (h : w.ownsRow base e size v n xs) (fb : FB X w w') (hX : ∀ k, v.ownBlock = some k → ¬ X k) : w'.ownsRow base e size v n xs := by
  rcases h.2 with ⟨e1, e2⟩ | ⟨g, cap, cur, e1, hg, hc, r⟩
  · exact ⟨h.1, .inl ⟨e1, e2⟩⟩
  · refine ⟨h.1, .inr ⟨g, cap, cur, e1, hg, ?_, r⟩⟩
    have hlt : g < w.heap.size := by
      rcases Nat.lt_or_ge g w.heap.size with h' | h'
      · exact h'
      · rw [Array.getElem?_eq_none h'] at hc; cases hc
    rw [fb.block g hlt (hX g (by rw [e1]; rfl))]
    exact hc
theorem FB.of_below {W W' : World} (h : Below W.heap.size W W') : FB (fun _ => False) W W' := ⟨h.os, h.tape, h.output, h.size, fun k hk _ => h.block k hk⟩
theorem FB.of_but {g : Nat} {W W' : World} (h : But g W W') : FB (fun k => k = g) W W' := ⟨h.os, h.tape, h.output, h.size, fun k hk hn => h.block k hk hn⟩
theorem FB.to_below {X : Nat → Prop} {w W W' : World} (h : FB X W W') (h0 : Below w.heap.size w W) (hX : ∀ k, X k → w.heap.size ≤ k) : Below w.heap.size w W' :=
  ⟨h.os.trans h0.os, h.tape.trans h0.tape, h.output.trans h0.output, Nat.le_trans h0.size h.size, fun k hk => (h.block k (Nat.lt_of_lt_of_le hk h0.size) (fun x => by have := hX k x; omega)).trans (h0.block k hk)⟩
/-- Nothing has turned but lists of words that are none of these. -/
theorem FB.of_f3 {a b c : Nat} {W W' : World} (h : F3 a b c W W') : FB (fun k => k = a ∨ k = b ∨ k = c) W W' := ⟨h.os, h.tape, h.output, h.size, fun k hk hn => h.block k hk (fun e => hn (.inl e)) (fun e => hn (.inr (.inl e))) (fun e => hn (.inr (.inr e)))⟩
theorem FB.of_grown {W W' : World} {row : Option Nat} (h : W.grownBy W' row) : FB (fun k => row = some k) W W' := (FB.refl _ _).grown h (fun _ e => .inl e)
theorem FB.alloc {X : Nat → Prop} {w W : World} (h : FB X w W) (ob : Obj) : FB X w (W.alloc ob) := h.below (bl_alloc (Below.refl _ _) _)
/-- An answer, both sides. -/
structure Ta where
  th : Int
  tv : Int
  tc : Int
  m : Nat
  X : Nat
  tn : Int
  p : Nat
  Y : Nat
  s : Nat
  g : Nat → Int
  e : Int
  ao : Option Addr
  k : Nat
  po : Option Addr
  q : Nat
  so : Option Addr
  t : Nat
  ao' : Option Addr
  k' : Nat
  po' : Option Addr
  q' : Nat
  so' : Option Addr
  t' : Nat
def cA (x : Ta) : List Value := [.int .i64 x.th, .int .i64 x.tv, .int .i64 x.tc, .slice x.ao x.m x.k, .int .i64 x.tn, .slice x.po x.p x.q, .slice x.so x.s x.t, .int .i64 x.e]
def cB (x : Ta) : List Value := [.int .i64 x.th, .int .i64 x.tv, .int .i64 x.tc, .slice x.ao' x.m x.k', .int .i64 x.tn, .slice x.po' x.p x.q', .slice x.so' x.s x.t', .int .i64 x.e]
def tcs (f : Ta → List Value) (l : List Ta) : List Value := l.flatMap f
theorem tcs_at (f : Ta → List Value) (hf : ∀ x, (f x).length = 8) (l : List Ta) : ∀ i (h : i < l.length) (k : Nat), k < 8 → (tcs f l)[i * 8 + k]? = (f l[i])[k]? := by
  induction l with
  | nil => intro i h; simp at h
  | cons x l ih =>
    intro i h k hk
    have e : tcs f (x :: l) = f x ++ tcs f l := by simp [tcs]
    rcases i with _ | i
    · rw [e, List.getElem?_append_left (by rw [hf]; omega)]
      simp
    · rw [e, List.getElem?_append_right (by rw [hf]; omega), hf]
      have := ih i (by simp at h; omega) k hk
      rw [show (i + 1) * 8 + k - 8 = i * 8 + k by omega]
      simpa using this
theorem tcs_snoc (f : Ta → List Value) (l : List Ta) (x : Ta) : tcs f (l ++ [x]) = tcs f l ++ f x := by
  unfold tcs; rw [List.flatMap_append]; simp
theorem info_told : (Try.prog.info? 40).map (fun i => (i.zero, i.size, i.bytes)) = some (some (tov 0 0 0 none 0 0 0 none 0 0 none 0 0 0), 8, 112) := by kernel_rfl
theorem und_tolds : Try.prog.underlying 25 = some (.slice 40) := by kernel_rfl
theorem app_told {ops : Array Oper} {rest : List Oper} {o : Oper} {a : Act} {Q : Exit → Act → World → Prop} {w : World} (hgd : o.guard = none) (os xs' : Operand)
    (ho : o.op = .call { callee := .builtin .append, args := #[os, xs'], argTypes := #[25, 25] }) (base : Nat) (va : Value) (nn : Nat) (xs : List Value) (hs : a.eval os = va) (hown : w.ownsRow base 40 8 va nn xs)
    (th tv tc : Int) (ao : Option Addr) (m k : Nat) (tn : Int) (po : Option Addr) (p q : Nat) (so : Option Addr) (s t : Nat) (e : Int) (hx : a.eval xs' = .slice (some ⟨w.heap.size, 0, none⟩) 1 1) (hM : nn ≤ 925904528626) (hb : base ≤ w.heap.size)
    (hh : ∀ u w', w'.ownsRow base 40 8 u (nn + 1) (xs ++ [.int .i64 th, .int .i64 tv, .int .i64 tc, .slice ao m k, .int .i64 tn, .slice po p q, .slice so s t, .int .i64 e]) → (w.alloc (too th tv tc ao m k tn po p q so s t e)).grownBy w' va.ownBlock → (u.ownBlock = va.ownBlock ∨ u.ownBlock = some (w.heap.size + 1)) → wpList Try.prog ops Q rest (a.put o.dst u) w') : wpList Try.prog ops Q (o :: rest) a (w.alloc (too th tv tc ao m k tn po p q so s t e)) := by
  obtain ⟨i0, hi, hz0, hz1, hz2⟩ := info_parts info_told
  obtain ⟨r0, r1, r2, r3, r4, r5, r6, r7⟩ := to_cells (to_new w th tv tc ao m k tn po p q so s t e)
  refine wpList_append_own_at _ hgd os xs' _ ho base 40 i0 _ 8 112 und_tolds hi hz0 hz1 hz2 rfl (by decide) va nn xs hs (hown.alloc _) ⟨w.heap.size, 0, none⟩ 1 1 [.int .i64 th, .int .i64 tv, .int .i64 tc, .slice ao m k, .int .i64 tn, .slice po p q, .slice so s t, .int .i64 e] hx rfl
    (fun j u h => by
      rcases j with _ | _ | _ | _ | _ | _ | _ | _ | j
      · simp at h; subst h; exact r0
      · simp at h; subst h; exact r1
      · simp at h; subst h; exact r2
      · simp at h; subst h; exact r3
      · simp at h; subst h; exact r4
      · simp at h; subst h; exact r5
      · simp at h; subst h; exact r6
      · simp at h; subst h; exact r7
      · simp at h) (fun u hu => by simp at hu; rcases hu with rfl | rfl | rfl | rfl | rfl | rfl | rfl | rfl <;> rfl) (by unfold maxLen; omega) (by omega) (by simp; omega) ?_
  intro u w' h1 h2 _ h4
  exact hh u w' h1 h2 (by simpa using h4)
/-- Words, values that are kept: in blocks that are none of S. -/
def Wa (W : World) (S : Nat → Prop) (ao : Option Addr) (m N : Nat) : Prop := N < 2 ^ (64 * m) ∧ ∀ k, k < m → ∃ g o, ao = some ⟨g, o, none⟩ ∧ W.cell? ⟨g, o + k, none⟩ = some (wf N k) ∧ ¬ S g
def Ra (W : World) (S : Nat → Prop) (ao : Option Addr) (m : Nat) (f : Nat → Int) : Prop := ∀ k, k < m → ∃ g o, ao = some ⟨g, o, none⟩ ∧ W.cell? ⟨g, o + k, none⟩ = some (.int .i8 (f k)) ∧ ¬ S g
theorem Wa.wr {W : World} {S : Nat → Prop} {ao : Option Addr} {m N : Nat} (h : Wa W S ao m N) : Wr W ao m N := ⟨h.1, fun k hk => by obtain ⟨g, o, e, c, _⟩ := h.2 k hk; exact ⟨g, o, e, c⟩⟩
theorem Ra.rs {W : World} {S : Nat → Prop} {ao : Option Addr} {m : Nat} {f : Nat → Int} (h : Ra W S ao m f) : Rs W ao m (fun k => .int .i8 (f k)) := fun k hk => by obtain ⟨g, o, e, c, _⟩ := h k hk; exact ⟨g, o, e, c⟩
theorem FB.cellK {X : Nat → Prop} {W W' : World} {b o : Nat} {v : Value} (h : FB X W W') (hb : ¬ X b) (c : W.cell? ⟨b, o, none⟩ = some v) : W'.cell? ⟨b, o, none⟩ = some v :=
  (World.cell?_of_block (w := W) (w' := W') (a := ⟨b, o, none⟩) (h.block b (lt_of_cell c) hb)).trans c
theorem Wa.fb {W W' : World} {S S' X : Nat → Prop} {ao : Option Addr} {m N : Nat} (h : Wa W S ao m N) (fb : FB X W W') (hX : ∀ b, X b → S b) (hS : ∀ b, S' b → S b ∨ W.heap.size ≤ b) : Wa W' S' ao m N :=
  ⟨h.1, fun k hk => by
    obtain ⟨g, o, e, c, ns⟩ := h.2 k hk
    have := lt_of_cell c
    exact ⟨g, o, e, fb.cellK (fun z => ns (hX g z)) c, fun z => by rcases hS g z with z | z; exact ns z; omega⟩⟩
theorem Ra.fb {W W' : World} {S S' X : Nat → Prop} {ao : Option Addr} {m : Nat} {f : Nat → Int} (h : Ra W S ao m f) (fb : FB X W W') (hX : ∀ b, X b → S b) (hS : ∀ b, S' b → S b ∨ W.heap.size ≤ b) : Ra W' S' ao m f := fun k hk => by
    obtain ⟨g, o, e, c, ns⟩ := h k hk
    have := lt_of_cell c
    exact ⟨g, o, e, fb.cellK (fun z => ns (hX g z)) c, fun z => by rcases hS g z with z | z; exact ns z; omega⟩
theorem Nv.wa {w W : World} {S : Nat → Prop} {ao : Option Addr} {m N : Nat} (h : Nv w W ao m N) (hS : ∀ b, S b → b < w.heap.size) : Wa W S ao m N :=
  ⟨h.1.1, fun k hk => by
    obtain ⟨g, o, e, c⟩ := h.1.2 k hk
    exact ⟨g, o, e, c, fun z => by have := h.2 g o e; have := hS g z; omega⟩⟩
theorem N8v.ra {w W : World} {S : Nat → Prop} {ao : Option Addr} {m : Nat} {f : Nat → Int} (h : N8v w W ao m f) (hS : ∀ b, S b → b < w.heap.size) : Ra W S ao m f := fun k hk => by
    obtain ⟨g, o, e, c⟩ := h.1 k hk
    exact ⟨g, o, e, c, fun z => by have := h.2 g o e; have := hS g z; omega⟩
/-- An answer that is kept, one side. -/
structure A3 (W : World) (S : Nat → Prop) (ao : Option Addr) (m X : Nat) (po : Option Addr) (p Y : Nat) (so : Option Addr) (s : Nat) (g : Nat → Int) : Prop where
  a : Wa W S ao m X
  b : Wa W S po p Y
  l : Ra W S so s g
theorem A3.fb {W W' : World} {S S' Z : Nat → Prop} {ao : Option Addr} {m X : Nat} {po : Option Addr} {p Y : Nat} {so : Option Addr} {s : Nat} {g : Nat → Int} (h : A3 W S ao m X po p Y so s g) (fb : FB Z W W') (hX : ∀ b, Z b → S b) (hS : ∀ b, S' b → S b ∨ W.heap.size ≤ b) : A3 W' S' ao m X po p Y so s g := ⟨h.a.fb fb hX hS, h.b.fb fb hX hS, h.l.fb fb hX hS⟩
theorem A3.below {W W' : World} {S : Nat → Prop} {ao : Option Addr} {m X : Nat} {po : Option Addr} {p Y : Nat} {so : Option Addr} {s : Nat} {g : Nat → Int} (h : A3 W S ao m X po p Y so s g) (hb : Below W.heap.size W W') : A3 W' S ao m X po p Y so s g := h.fb (FB.of_below hb) (fun _ z => z.elim) (fun _ z => .inl z)
/-- The blocks that an answer is none of. -/
def Sx (bx Gl Gc Gb : Nat) (va vb : Value) : Nat → Prop := fun b => b = bx ∨ b = Gl ∨ b = Gc ∨ b = Gb ∨ va.ownBlock = some b ∨ vb.ownBlock = some b
/-- Both lists of answers. -/
structure Sa (W : World) (base bx Gl Gc Gb : Nat) (va vb : Value) (l : List Ta) : Prop where
  a : W.ownsRow base 40 8 va l.length (tcs cA l)
  b : W.ownsRow base 40 8 vb l.length (tcs cB l)
  ne : va.ownBlock = none ∨ va.ownBlock ≠ vb.ownBlock
  an : ∀ x ∈ l, A3 W (Sx bx Gl Gc Gb va vb) x.ao x.m x.X x.po x.p x.Y x.so x.s x.g ∧ A3 W (Sx bx Gl Gc Gb va vb) x.ao' x.m x.X x.po' x.p x.Y x.so' x.s x.g ∧ (x.m ≤ 9223372036854775807 ∧ x.p ≤ 9223372036854775807 ∧ x.s ≤ 9223372036854775807)
theorem Sa.fb {W W' : World} {Z : Nat → Prop} {base bx Gl Gc Gb Gl' Gc' Gb' : Nat} {va vb : Value} {l : List Ta} (h : Sa W base bx Gl Gc Gb va vb l) (fb : FB Z W W') (hX : ∀ b, Z b → b = bx ∨ b = Gl ∨ b = Gc ∨ b = Gb) (hr : ∀ r, va.ownBlock = some r ∨ vb.ownBlock = some r → ¬ Z r) (hl : Gl' = Gl ∨ W.heap.size ≤ Gl') (hc : Gc' = Gc ∨ W.heap.size ≤ Gc') (hb : Gb' = Gb ∨ W.heap.size ≤ Gb') : Sa W' base bx Gl' Gc' Gb' va vb l := by
  have k1 : ∀ b, Z b → Sx bx Gl Gc Gb va vb b := fun b z => by unfold Sx; rcases hX b z with z | z | z | z <;> simp [z]
  have k2 : ∀ b, Sx bx Gl' Gc' Gb' va vb b → Sx bx Gl Gc Gb va vb b ∨ W.heap.size ≤ b := fun b z => by
    unfold Sx at z ⊢
    rcases z with z | z | z | z | z | z
    · exact .inl (.inl z)
    · rcases hl with e | e
      · exact .inl (.inr (.inl (by omega)))
      · exact .inr (by omega)
    · rcases hc with e | e
      · exact .inl (.inr (.inr (.inl (by omega))))
      · exact .inr (by omega)
    · rcases hb with e | e
      · exact .inl (.inr (.inr (.inr (.inl (by omega)))))
      · exact .inr (by omega)
    · exact .inl (.inr (.inr (.inr (.inr (.inl z)))))
    · exact .inl (.inr (.inr (.inr (.inr (.inr z)))))
  exact ⟨own_fb h.a fb (fun k e => hr k (.inl e)), own_fb h.b fb (fun k e => hr k (.inr e)), h.ne, fun x hx => ⟨(h.an x hx).1.fb fb k1 k2, (h.an x hx).2.1.fb fb k1 k2, (h.an x hx).2.2⟩⟩
theorem Sa.below {W W' : World} {base bx Gl Gc Gb : Nat} {va vb : Value} {l : List Ta} (h : Sa W base bx Gl Gc Gb va vb l) (hb : Below W.heap.size W W') : Sa W' base bx Gl Gc Gb va vb l := h.fb (FB.of_below hb) (fun _ z => z.elim) (fun _ _ z => z) (.inl rfl) (.inl rfl) (.inl rfl)
theorem Sa.new {W : World} {base bx Gl Gc Gb Gl' Gc' Gb' : Nat} {va vb : Value} {l : List Ta} (h : Sa W base bx Gl Gc Gb va vb l) (hl : W.heap.size ≤ Gl') (hc : W.heap.size ≤ Gc') (hb : W.heap.size ≤ Gb') : Sa W base bx Gl' Gc' Gb' va vb l := h.fb (FB.refl (fun _ => False) W) (fun _ z => z.elim) (fun _ _ z => z) (.inr hl) (.inr hc) (.inr hb)
theorem Sa.nil0 (W : World) (base bx Gl Gc Gb : Nat) : Sa W base bx Gl Gc Gb (.slice none 0 0) (.slice none 0 0) [] :=
  ⟨⟨rfl, .inl ⟨rfl, rfl⟩⟩, ⟨rfl, .inl ⟨rfl, rfl⟩⟩, .inl rfl, fun x hx => by simp at hx⟩
theorem Sa.sx {W : World} {base bx Gl Gc Gb : Nat} {va vb : Value} {l : List Ta} (h : Sa W base bx Gl Gc Gb va vb l) (h1 : bx < W.heap.size) (h2 : Gl < W.heap.size) (h3 : Gc < W.heap.size) (h4 : Gb < W.heap.size) : ∀ b, Sx bx Gl Gc Gb va vb b → b < W.heap.size := fun b z => by
  unfold Sx at z
  rcases z with rfl | rfl | rfl | rfl | z | z
  · exact h1
  · exact h2
  · exact h3
  · exact h4
  · exact (h.a.lt b z).2
  · exact (h.b.lt b z).2
theorem own_flip {W W1 : World} {base bx Gl Gc Gb : Nat} {va vb : Value} {l : List Ta} {ob1 : Obj} (h : Sa W base bx Gl Gc Gb va vb l) (g1 : (W.alloc ob1).grownBy W1 va.ownBlock) : W1.ownsRow base 40 8 vb l.length (tcs cB l) := by
  refine own_kept2U h.b ?_ g1
  rcases h.ne with e | e
  · cases e2 : vb.ownBlock with
    | none => exact .inl rfl
    | some j => right; rw [e]; simp
  · exact .inr (Ne.symm e)
theorem Sa.more {W W1 W2 : World} {base bx Gl Gc Gb : Nat} {va vb va' vb' : Value} {l : List Ta} {x : Ta} {ob1 ob2 : Obj} (h : Sa W base bx Gl Gc Gb va vb l) (ha : A3 W (Sx bx Gl Gc Gb va vb) x.ao x.m x.X x.po x.p x.Y x.so x.s x.g) (hb : A3 W (Sx bx Gl Gc Gb va vb) x.ao' x.m x.X x.po' x.p x.Y x.so' x.s x.g) (hm : x.m ≤ 9223372036854775807 ∧ x.p ≤ 9223372036854775807 ∧ x.s ≤ 9223372036854775807)
    (g1 : (W.alloc ob1).grownBy W1 va.ownBlock) (o1 : W1.ownsRow base 40 8 va' (l.length + 1) (tcs cA l ++ cA x)) (t1 : va'.ownBlock = va.ownBlock ∨ va'.ownBlock = some (W.heap.size + 1))
    (g2 : (W1.alloc ob2).grownBy W2 vb.ownBlock) (o2 : W2.ownsRow base 40 8 vb' (l.length + 1) (tcs cB l ++ cB x)) (t2 : vb'.ownBlock = vb.ownBlock ∨ vb'.ownBlock = some (W1.heap.size + 1)) : Sa W2 base bx Gl Gc Gb va' vb' (l ++ [x]) := by
  have n1 : va'.ownBlock = none ∨ va'.ownBlock ≠ vb.ownBlock := by
    rcases t1 with t | t
    · rw [t]; exact h.ne
    · right
      rw [t]
      intro e
      have := (h.b.lt _ e.symm).2
      omega
  have zz : W.heap.size + 1 ≤ W1.heap.size := by have := g1.size; simpa using this
  have aux : ∀ ao m X po p Y so s g, A3 W (Sx bx Gl Gc Gb va vb) ao m X po p Y so s g → A3 W2 (Sx bx Gl Gc Gb va' vb') ao m X po p Y so s g := fun ao m X po p Y so s g z => by
    have fb : FB (fun b => va.ownBlock = some b ∨ vb.ownBlock = some b) W W2 := by
      refine FB.grown (W := W1.alloc ob2) (FB.alloc ?_ _) g2 (fun r e => .inl (.inr e))
      exact FB.grown (W := W.alloc ob1) (FB.alloc (FB.refl _ _) _) g1 (fun r e => .inl (.inl e))
    refine z.fb fb (fun b e => ?_) (fun b e => ?_)
    · unfold Sx; rcases e with e | e <;> simp [e]
    · unfold Sx at e ⊢
      rcases e with e | e | e | e | e | e
      · exact .inl (.inl e)
      · exact .inl (.inr (.inl e))
      · exact .inl (.inr (.inr (.inl e)))
      · exact .inl (.inr (.inr (.inr (.inl e))))
      · rcases t1 with t | t
        · exact .inl (.inr (.inr (.inr (.inr (.inl (by rw [← t]; exact e))))))
        · rw [t] at e; injection e with e; exact .inr (by omega)
      · rcases t2 with t | t
        · exact .inl (.inr (.inr (.inr (.inr (.inr (by rw [← t]; exact e))))))
        · rw [t] at e; injection e with e; exact .inr (by omega)
  refine ⟨?_, ?_, ?_, fun y hy => ?_⟩
  · rw [List.length_append, tcs_snoc]
    exact own_kept2U o1 n1 g2
  · rw [List.length_append, tcs_snoc]
    exact o2
  · rcases n1 with n1 | n1
    · exact .inl n1
    · rcases t2 with t | t
      · rw [t]; exact .inr n1
      · right
        rw [t]
        intro e
        have := (o1.lt _ e).2
        omega
  · rcases List.mem_append.1 hy with hy | hy
    · exact ⟨aux _ _ _ _ _ _ _ _ _ (h.an y hy).1, aux _ _ _ _ _ _ _ _ _ (h.an y hy).2.1, (h.an y hy).2.2⟩
    · simp at hy
      subst hy
      exact ⟨aux _ _ _ _ _ _ _ _ _ ha, aux _ _ _ _ _ _ _ _ _ hb, hm⟩
/-- The step that is played, and the answers. -/
def Xs (W : World) (base bx : Nat) (va vb : Value) (l0 : List Ta) : Prop := ∃ (kd sh sv sc h v c y x n : Int) (Gl Gc Gb ln cn bn N P : Nat) (l : List Int), W.rowIs bx 35 13 (opf kd sh sv sc (some ⟨Gl, 0, none⟩) ln (ln + 66) h v c (some ⟨Gc, 0, none⟩) cn (cn + 66) y x n (some ⟨Gb, 0, none⟩) bn (bn + 66)) ∧ Xm W Gl ln (ia l) Gc cn N Gb bn P ∧ l.length = ln ∧ (base ≤ Gl ∧ base ≤ Gc ∧ base ≤ Gb) ∧ Sa W base bx Gl Gc Gb va vb l0
theorem Xm.but {W W' : World} {bx : Nat} {fx : Nat → Value} {Gl ln : Nat} {f : Nat → Int} {Gc cn N Gb bn P : Nat} (h : Xm W Gl ln f Gc cn N Gb bn P) (r : W.rowIs bx 35 13 fx) (bt : But bx W W') : Xm W' Gl ln f Gc cn N Gb bn P :=
  ⟨bt.row (rows_neK h.l r (by decide)) h.l, bt.row (rows_neK h.c r (by decide)) h.c, bt.row (rows_neK h.b r (by decide)) h.b, h.ne, h.hN, h.hP, h.l1, h.c1, h.b1⟩
theorem Sa.op {W W' : World} {fx : Nat → Value} {base bx Gl Gc Gb : Nat} {va vb : Value} {l : List Ta} (h : Sa W base bx Gl Gc Gb va vb l) (bt : But bx W W') (r : W.rowIs bx 35 13 fx) : Sa W' base bx Gl Gc Gb va vb l :=
  h.fb (FB.of_but bt) (fun _ z => .inl z) (fun k e z => by rcases e with e | e; exact own_row_neU h.a r (by decide) (by rw [e, z]); exact own_row_neU h.b r (by decide) (by rw [e, z])) (.inl rfl) (.inl rfl) (.inl rfl)
theorem Sa.other {W W' : World} {base bx Gl ln : Nat} {f : Nat → Int} {Gc cn N Gb bn P Gl' Gc' Gb' : Nat} {va vb : Value} {l : List Ta} (h : Sa W base bx Gl Gc Gb va vb l) (xm : Xm W Gl ln f Gc cn N Gb bn P) (f3 : F3 Gl Gc Gb W W') (hl : Gl' = Gl ∨ W.heap.size ≤ Gl') (hc : Gc' = Gc ∨ W.heap.size ≤ Gc') (hb : Gb' = Gb ∨ W.heap.size ≤ Gb') : Sa W' base bx Gl' Gc' Gb' va vb l :=
  h.fb (FB.of_f3 f3) (fun _ z => .inr z) (fun k e z => by
    rcases e with e | e
    · rcases z with z | z | z
      · exact own_row_neU h.a xm.l (by decide) (by rw [e, z])
      · exact own_row_neU h.a xm.c (by decide) (by rw [e, z])
      · exact own_row_neU h.a xm.b (by decide) (by rw [e, z])
    · rcases z with z | z | z
      · exact own_row_neU h.b xm.l (by decide) (by rw [e, z])
      · exact own_row_neU h.b xm.c (by decide) (by rw [e, z])
      · exact own_row_neU h.b xm.b (by decide) (by rw [e, z])) hl hc hb
theorem own_at8 {W : World} {base g cap : Nat} {f : Ta → List Value} (hf : ∀ x, (f x).length = 8) {l : List Ta} (h : W.ownsRow base 40 8 (.slice (some ⟨g, 0, none⟩) l.length cap) l.length (tcs f l)) (j : Nat) (hj : j < l.length) (x : Ta) (hx : l[j] = x) : ∀ k u, k < 8 → (f x)[k]? = some u → W.cell? ⟨g, j * 8 + k, none⟩ = some u := by
  intro k u hk hu
  have ad : ∀ i, (⟨g, 0, none⟩ : Addr).add i = ⟨g, i, none⟩ := fun i => by rcases i with _ | i <;> simp [Addr.add]
  have at' := fun i u hu => h.cells (g := g) rfl i u hu
  simp only [ad] at at'
  exact at' _ _ (by rw [tcs_at f hf l j hj k hk, hx]; exact hu)
end Go.Proofs.Ytfboegdibohciaa
/- CubeScript. -/
namespace Go.Proofs.Ytfboegdibohciaa
open Go.RowKit Go.Shelf

theorem other_any (kd sh sv sc h v c y x n : Int) (L0 C0 B0 ln cn bn N P : Nat) (l : List Int) (kk : Int) (w : World) (hl : l.length = ln) (hk : -9223372036854775808 ≤ kk ∧ kk ≤ 9223372036854775807) (xm : Xm w L0 ln (ia l) C0 cn N B0 bn P) :
    Calls Try.prog 5 #[opv kd sh sv sc (some ⟨L0, 0, none⟩) ln (ln + 66) h v c (some ⟨C0, 0, none⟩) cn (cn + 66) y x n (some ⟨B0, 0, none⟩) bn (bn + 66), .int .i64 kk] w fun e w' => OtQ w sh sv sc h v L0 C0 B0 ln cn bn e w' := by
  have hm : kN kk / 2 % 6 < 6 := Nat.mod_lt _ (by decide)
  by_cases a : kN kk / 2 % 6 = 0 ∨ kN kk / 2 % 6 = 3
  · exact other_03 kd sh sv sc h v c y x n L0 C0 B0 ln cn bn N P l kk w hl hk xm a
  · by_cases b : kN kk / 2 % 6 = 1 ∨ kN kk / 2 % 6 = 4
    · exact other_14 kd sh sv sc h v c y x n L0 C0 B0 ln cn bn N P l kk w hl hk xm b
    · exact other_25 kd sh sv sc h v c y x n L0 C0 B0 ln cn bn N P l kk w hl hk xm (by omega)
/-- A list of steps that came in. -/
def LoK (W : World) (ao : Option Addr) (m : Nat) : Prop := ∀ j, j < m → ∃ (g o : Nat) (kd sh sv sc : Int) (lo : Option Addr) (ln lc : Nat) (h v c : Int) (co : Option Addr) (cn ck : Nat) (y x n : Int) (bo : Option Addr) (bn bk : Nat) (l : List Int) (N P : Nat), ao = some ⟨g, o, none⟩ ∧ (W.cell? ⟨g, o + j * 13, none⟩ = some (.int .i64 kd) ∧ W.cell? ⟨g, o + j * 13 + 1, none⟩ = some (.int .i64 sh) ∧ W.cell? ⟨g, o + j * 13 + 2, none⟩ = some (.int .i64 sv) ∧ W.cell? ⟨g, o + j * 13 + 3, none⟩ = some (.int .i64 sc) ∧ W.cell? ⟨g, o + j * 13 + 4, none⟩ = some (.slice lo ln lc) ∧ W.cell? ⟨g, o + j * 13 + 5, none⟩ = some (.int .i64 h) ∧ W.cell? ⟨g, o + j * 13 + 6, none⟩ = some (.int .i64 v) ∧ W.cell? ⟨g, o + j * 13 + 7, none⟩ = some (.int .i64 c) ∧ W.cell? ⟨g, o + j * 13 + 8, none⟩ = some (.slice co cn ck) ∧ W.cell? ⟨g, o + j * 13 + 9, none⟩ = some (.int .i64 y) ∧ W.cell? ⟨g, o + j * 13 + 10, none⟩ = some (.int .i64 x) ∧ W.cell? ⟨g, o + j * 13 + 11, none⟩ = some (.int .i64 n) ∧ W.cell? ⟨g, o + j * 13 + 12, none⟩ = some (.slice bo bn bk)) ∧ Rs W lo ln (fun k => .int .i8 (ia l k)) ∧ Wr W co cn N ∧ Wr W bo bn P ∧ l.length = ln ∧ ln ≤ 140737488351232 ∧ cn ≤ 17592186043904 ∧ bn ≤ 17592186043904
theorem kpF {W X : World} {g1 g2 o : Nat} {a0 a1 a2 a3 a4 a5 a6 a7 b0 b1 b2 b3 b4 b5 b6 b7 : Value} (h : (W.cell? ⟨g1, o, none⟩ = some (a0) ∧ W.cell? ⟨g1, o + 1, none⟩ = some (a1) ∧ W.cell? ⟨g1, o + 2, none⟩ = some (a2) ∧ W.cell? ⟨g1, o + 3, none⟩ = some (a3) ∧ W.cell? ⟨g1, o + 4, none⟩ = some (a4) ∧ W.cell? ⟨g1, o + 5, none⟩ = some (a5) ∧ W.cell? ⟨g1, o + 6, none⟩ = some (a6) ∧ W.cell? ⟨g1, o + 7, none⟩ = some (a7)) ∧ W.cell? ⟨g2, o, none⟩ = some (b0) ∧ W.cell? ⟨g2, o + 1, none⟩ = some (b1) ∧ W.cell? ⟨g2, o + 2, none⟩ = some (b2) ∧ W.cell? ⟨g2, o + 3, none⟩ = some (b3) ∧ W.cell? ⟨g2, o + 4, none⟩ = some (b4) ∧ W.cell? ⟨g2, o + 5, none⟩ = some (b5) ∧ W.cell? ⟨g2, o + 6, none⟩ = some (b6) ∧ W.cell? ⟨g2, o + 7, none⟩ = some (b7)) (hb : Below W.heap.size W X) : (X.cell? ⟨g1, o, none⟩ = some (a0) ∧ X.cell? ⟨g1, o + 1, none⟩ = some (a1) ∧ X.cell? ⟨g1, o + 2, none⟩ = some (a2) ∧ X.cell? ⟨g1, o + 3, none⟩ = some (a3) ∧ X.cell? ⟨g1, o + 4, none⟩ = some (a4) ∧ X.cell? ⟨g1, o + 5, none⟩ = some (a5) ∧ X.cell? ⟨g1, o + 6, none⟩ = some (a6) ∧ X.cell? ⟨g1, o + 7, none⟩ = some (a7)) ∧ X.cell? ⟨g2, o, none⟩ = some (b0) ∧ X.cell? ⟨g2, o + 1, none⟩ = some (b1) ∧ X.cell? ⟨g2, o + 2, none⟩ = some (b2) ∧ X.cell? ⟨g2, o + 3, none⟩ = some (b3) ∧ X.cell? ⟨g2, o + 4, none⟩ = some (b4) ∧ X.cell? ⟨g2, o + 5, none⟩ = some (b5) ∧ X.cell? ⟨g2, o + 6, none⟩ = some (b6) ∧ X.cell? ⟨g2, o + 7, none⟩ = some (b7) := by
  obtain ⟨⟨p0, p1, p2, p3, p4, p5, p6, p7⟩, q0, q1, q2, q3, q4, q5, q6, q7⟩ := h
  exact ⟨⟨keepc hb p0, keepc hb p1, keepc hb p2, keepc hb p3, keepc hb p4, keepc hb p5, keepc hb p6, keepc hb p7⟩, keepc hb q0, keepc hb q1, keepc hb q2, keepc hb q3, keepc hb q4, keepc hb q5, keepc hb q6, keepc hb q7⟩
set_option maxHeartbeats 12800000 in
set_option maxRecDepth 100000 in
theorem cubeScript_any (ao : Option Addr) (L cap : Nat) (bo' : Option Addr) (LT cap2 : Nat) (tf' : Nat → Int) (w : World) (hL : L ≤ 925904528626) (htf : ∀ k, k < LT → -9223372036854775808 ≤ tf' k ∧ tf' k ≤ 9223372036854775807) (ra : LoK w ao L) (rb : Rs w bo' LT (fun k => .int .i64 (tf' k))) :
    Calls Try.prog 3 #[.slice ao L cap, .slice bo' LT cap2] w fun e w' => e = .returned (.bool true) ∧ Below w.heap.size w w' := by
  have RA := hid1 ra
  have RB := hid1 rb
  have HTF := hid1 htf
  clear ra rb htf
  go_enter Try.func3, Try.ntmps3
  go_wp2_with fail
  refine (cbegun_any w).mono ?_
  rintro e w1 ⟨rfl, B1⟩
  go_wp2_with fail
  obtain ⟨bx, hbx⟩ : ∃ bx, w1.heap.size = bx := ⟨_, rfl⟩
  have bxw : w.heap.size ≤ bx := by rw [← hbx]; exact B1.size
  have BX := op_new w1 0 0 0 0 none 0 0 0 0 0 none 0 0 0 0 0 none 0 0
  rw [hbx] at BX
  have BA := bl_alloc B1 (opo 0 0 0 0 none 0 0 0 0 0 none 0 0 0 0 0 none 0 0)
  have HBX := hid1 BX
  have HBA := hid1 BA
  try rw [hbx]
  clear BX BA B1 hbx
  go_loopw [5, 6, 8, 9] (fun va vb hd i wr => ∃ (k : Nat) (hd' : Int) (l0 : List Ta), k ≤ L ∧ i = .int .i64 k ∧ hd = .int .i64 hd' ∧ l0.length ≤ k ∧ Below w.heap.size w wr ∧ ((k = 0 ∧ va = .slice none 0 0 ∧ vb = .slice none 0 0 ∧ l0 = [] ∧ wr.rowIs bx 35 13 (opf 0 0 0 0 none 0 0 0 0 0 none 0 0 0 0 0 none 0 0)) ∨ Xs wr w.heap.size bx va vb l0)) (fun _ _ _ i _ => L - (intOf i).toNat)
  case atStart => exact ⟨0, 0, [], Nat.zero_le _, rfl, rfl, Nat.le_refl _, HBA.out, .inl ⟨rfl, rfl, rfl, rfl, HBX.out⟩⟩
  case round =>
    clear HBX HBA
    rename World => Z
    obtain ⟨k, hd', l0, hk, rfl, rfl, hl0, B0, hor⟩ := hrel
    by_cases hlt : k < L
    · have ik : (k : Int) < (L : Nat) := by omega
      have ik0 : (0 : Int) ≤ (k : Int) := by omega
      obtain ⟨g, o0, kd, sh, sv, sc, lo, ln, lc, h, v, c, co, cn, ck, y, x, n, bo, bn, bk, l, N, P, rfl, c13, rl, rc, rb2, hll, hl1, hc1, hb1⟩ := RA.out k hlt
      have HB0 := hid1 B0
      have HOR := hid1 hor
      have HRL := hid1 (rl.below B0)
      have HRC := hid1 (rc.below B0)
      have HRB := hid1 (rb2.below B0)
      have HLL := hid1 hll
      obtain ⟨k0, k1, k2, k3, k4, k5, k6, k7, k8, k9, k10, k11, k12⟩ := c13
      have c0 := keepc B0 k0
      have c1 := keepc B0 k1
      have c2 := keepc B0 k2
      have c3 := keepc B0 k3
      have c4 := keepc B0 k4
      have c5 := keepc B0 k5
      have c6 := keepc B0 k6
      have c7 := keepc B0 k7
      have c8 := keepc B0 k8
      have c9 := keepc B0 k9
      have c10 := keepc B0 k10
      have c11 := keepc B0 k11
      have c12 := keepc B0 k12
      clear B0 hor rl rc rb2 hll k0 k1 k2 k3 k4 k5 k6 k7 k8 k9 k10 k11 k12
      obtain ⟨tb, htb⟩ : ∃ tb : Bool, decide (0 < k ∧ k < LT ∧ tf' k ≠ 0) = tb := ⟨_, rfl⟩
      go_upto_region 9 with fail
      go_cut [35] from 21 to 35 (fun s35 wx => s35 = .bool tb ∧ wx = Z)
      case first =>
        as_aux_lemma =>
          by_cases h1 : 0 < k
          · have i1 : (0 : Int) < (k : Int) := by omega
            by_cases h2 : k < LT
            · have i2 : (k : Int) < (LT : Int) := by omega
              obtain ⟨gt, ot, rfl, ct⟩ := (RB.out.below HB0.out) k h2
              dsimp only at ct
              by_cases h3 : tf' k = 0
              · rw [h3] at ct
                rw [decide_eq_false (fun z => z.2.2 h3)] at htb
                subst htb
                go_wp2_with fail
                go_meet
                exact ⟨rfl, rfl⟩
              · rw [decide_eq_true ⟨h1, h2, h3⟩] at htb
                subst htb
                have h3' : ((tf' k) != 0) = true := by simpa using h3
                generalize tf' k = tk at *
                go_wp2_with fail
                go_meet
                exact ⟨by simp, rfl⟩
            · have i2 : ¬ (k : Int) < (LT : Int) := by omega
              rw [decide_eq_false (fun z => h2 z.2.1)] at htb
              subst htb
              go_wp2_with fail
              go_meet
              exact ⟨rfl, rfl⟩
          · obtain rfl : k = 0 := by omega
            rw [decide_eq_false (fun z => h1 z.1)] at htb
            subst htb
            go_wp2_with fail
            go_meet
            exact ⟨rfl, rfl⟩
      case rest =>
        obtain ⟨rfl, rfl⟩ := hcut
        rename World => Z1
        go_upto_if 35 with fail
        go_cut [] (fun wx => Xs wx w.heap.size bx u5 u6 l0 ∧ Below w.heap.size w wx)
        case first =>
          cases tb
          · have HAL := hid1 (fun W r1 r2 r3 => alone_any kd sh sv sc lo ln lc h v c co cn ck y x n bo bn bk (ia l) N P W hl1 hc1 hb1 r1 r2 r3)
            obtain ⟨fx, hfx⟩ : ∃ fx, Z1.rowIs bx 35 13 fx := by
              rcases HOR.out with ⟨_, _, _, _, hx⟩ | ⟨_, _, _, _, _, _, _, _, _, _, _, _, _, _, _, _, _, _, _, hx, _⟩
              · exact ⟨_, hx⟩
              · exact ⟨_, hx⟩
            have hSA : ∀ G1 G2 G3, Z1.heap.size ≤ G1 → Z1.heap.size ≤ G2 → Z1.heap.size ≤ G3 → Sa Z1 w.heap.size bx G1 G2 G3 u5 u6 l0 := fun G1 G2 G3 z1 z2 z3 => by
              rcases HOR.out with ⟨_, rfl, rfl, rfl, _⟩ | ⟨_, _, _, _, _, _, _, _, _, _, _, _, _, _, _, _, _, _, _, _, _, _, _, hs⟩
              · exact Sa.nil0 _ _ _ _ _ _
              · exact hs.new z1 z2 z3
            have HSA := hid1 hSA
            clear hSA
            go_wp2_with fail
            refine (HAL.out Z1 HRL.out HRC.out HRB.out).mono ?_
            rintro e w2 ⟨Gl, Gc, Gb, rfl, ⟨g1, g2, g3⟩, xm2, hb⟩
            have o2 := keepr hb hfx
            have sa2 := (HSA.out Gl Gc Gb g1 g2 g3).below hb
            have B2 := bl_step HB0.out hb
            clear hb c0 c1 c2 c3 c4 c5 c6 c7 c8 c9 c10 c11 c12
            obtain ⟨f0, f1, f2, f3, f4, f5, f6, f7, f8, f9, f10, f11, f12⟩ := op_free o2
            have HO := hid1 o2
            have HXM := hid1 xm2
            have HS2 := hid1 sa2
            have HB2 := hid1 B2
            have d0 : w2.cell? ⟨bx, 0, none⟩ = some (fx 0) := o2.cell (by omega)
            have d1 : w2.cell? ⟨bx, 1, none⟩ = some (fx 1) := o2.cell (by omega)
            have d2 : w2.cell? ⟨bx, 2, none⟩ = some (fx 2) := o2.cell (by omega)
            have d3 : w2.cell? ⟨bx, 3, none⟩ = some (fx 3) := o2.cell (by omega)
            have d4 : w2.cell? ⟨bx, 4, none⟩ = some (fx 4) := o2.cell (by omega)
            have d5 : w2.cell? ⟨bx, 5, none⟩ = some (fx 5) := o2.cell (by omega)
            have d6 : w2.cell? ⟨bx, 6, none⟩ = some (fx 6) := o2.cell (by omega)
            have d7 : w2.cell? ⟨bx, 7, none⟩ = some (fx 7) := o2.cell (by omega)
            have d8 : w2.cell? ⟨bx, 8, none⟩ = some (fx 8) := o2.cell (by omega)
            have d9 : w2.cell? ⟨bx, 9, none⟩ = some (fx 9) := o2.cell (by omega)
            have d10 : w2.cell? ⟨bx, 10, none⟩ = some (fx 10) := o2.cell (by omega)
            have d11 : w2.cell? ⟨bx, 11, none⟩ = some (fx 11) := o2.cell (by omega)
            have d12 : w2.cell? ⟨bx, 12, none⟩ = some (fx 12) := o2.cell (by omega)
            clear o2 xm2 sa2 B2
            go_wp2_with fail
            go_meet
            have bt := But.setop bx w2 kd sh sv sc (some ⟨Gl, 0, none⟩) ln (ln + 66) h v c (some ⟨Gc, 0, none⟩) cn (cn + 66) y x n (some ⟨Gb, 0, none⟩) bn (bn + 66)
            exact ⟨⟨kd, sh, sv, sc, h, v, c, y, x, n, Gl, Gc, Gb, ln, cn, bn, N, P, l, op_set HO.out _ _ _ _ _ _ _ _ _ _ _ _ _ _ _ _ _ _ _, HXM.out.but HO.out bt, HLL.out, ⟨Nat.le_trans HB0.out.size g1, Nat.le_trans HB0.out.size g2, Nat.le_trans HB0.out.size g3⟩, HS2.out.op bt HO.out⟩, bt.below bxw HB2.out.size HB2.out⟩
          · have htk := of_decide_eq_true htb
            obtain ⟨h1, h2, h3⟩ := htk
            obtain ⟨gt, ot, rfl, ct⟩ := (RB.out.below HB0.out) k h2
            dsimp only at ct
            have hrg := HTF.out k h2
            have ikT : (k : Int) < (LT : Int) := by omega
            generalize tf' k = tk at *
            rcases HOR.out with ⟨h0, _⟩ | ⟨kd1, sh1, sv1, sc1, h1', v1, c1', y1, x1, n1, L0, C0, B0', ln1, cn1, bn1, N1, P1, l1, ox, xm1, hl1', ⟨e1, e2, e3⟩, sx'⟩
            · omega
            · have HOT := hid1 (fun W rw => other_any kd1 sh1 sv1 sc1 h1' v1 c1' y1 x1 n1 L0 C0 B0' ln1 cn1 bn1 N1 P1 l1 tk W hl1' hrg rw)
              clear c0 c1 c2 c3 c4 c5 c6 c7 c8 c9 c10 c11 c12
              obtain ⟨c0, c1, c2, c3, c4, c5, c6, c7, c8, c9, c10, c11, c12⟩ := op_cells ox
              have HOX := hid1 ox
              have HXM := hid1 xm1
              have HSX := hid1 sx'
              clear ox xm1 sx'
              go_upto_region 10 with fail
              refine still_tail 5 (by kernel_rfl) ?_
              simp only [List.take_succ_cons, List.take_zero, List.drop_succ_cons, List.drop_zero]
              repeat still_step
              refine wpStill_nil ?_
              go_wp2_with fail
              refine (HOT.out Z1.drew (HXM.out.below (Below.refl _ _).drew)).mono ?_
              rintro e w2 ⟨kd2, cq2, y2, x2, n2, Gl, Gc, Gb, N2, P2, l2, rfl, hl2, ⟨g1, g2, g3⟩, xm2, f3⟩
              have f3' : F3 L0 C0 B0' Z1 w2 := ⟨f3.os, f3.tape, f3.output, f3.size, f3.block⟩
              have d1 := rows_neK HOX.out HXM.out.l (by decide)
              have d2 := rows_neK HOX.out HXM.out.c (by decide)
              have d3 := rows_neK HOX.out HXM.out.b (by decide)
              have o2 := f3'.row HOX.out d1 d2 d3
              have sa2 := HSX.out.other HXM.out f3' g1 g2 g3
              have B2 := (FB.of_f3 f3').to_below HB0.out (fun k z => by rcases z with z | z | z <;> omega)
              have zz := HB0.out.size
              have b1 : w.heap.size ≤ Gl := by rcases g1 with z | z; omega; exact Nat.le_trans zz z
              have b2 : w.heap.size ≤ Gc := by rcases g2 with z | z; omega; exact Nat.le_trans zz z
              have b3 : w.heap.size ≤ Gb := by rcases g3 with z | z; omega; exact Nat.le_trans zz z
              clear f3 f3' d1 d2 d3 c0 c1 c2 c3 c4 c5 c6 c7 c8 c9 c10 c11 c12
              obtain ⟨d0, d1, d2, d3, d4, d5, d6, d7, d8, d9, d10, d11, d12⟩ := op_cells o2
              obtain ⟨f0, f1, f2, f3, f4, f5, f6, f7, f8, f9, f10, f11, f12⟩ := op_free o2
              have HO := hid1 o2
              have HX2 := hid1 xm2
              have HS2 := hid1 sa2
              have HB2 := hid1 B2
              have HL2 := hid1 hl2
              clear o2 xm2 sa2 B2 hl2
              go_wp2_with fail
              go_meet
              have bt := But.setop bx w2 kd2 sh1 sv1 sc1 (some ⟨Gl, 0, none⟩) ln1 (ln1 + 66) h1' v1 cq2 (some ⟨Gc, 0, none⟩) cn1 (cn1 + 66) y2 x2 n2 (some ⟨Gb, 0, none⟩) bn1 (bn1 + 66)
              exact ⟨⟨kd2, sh1, sv1, sc1, h1', v1, cq2, y2, x2, n2, Gl, Gc, Gb, ln1, cn1, bn1, N2, P2, l2, op_set HO.out _ _ _ _ _ _ _ _ _ _ _ _ _ _ _ _ _ _ _, HX2.out.but HO.out bt, HL2.out, ⟨b1, b2, b3⟩, HS2.out.op bt HO.out⟩, bt.below bxw HB2.out.size HB2.out⟩
        case rest =>
          obtain ⟨⟨kd2, sh2, sv2, sc2, h2, v2, cq2, y2, x2, n2, Gl, Gc, Gb, ln2, cn2, bn2, N2, P2, l2, ox, xm, hl2, hgb, sa⟩, B2⟩ := hcut
          rename World => Z2
          clear HOR HRL HRC HRB HLL c0 c1 c2 c3 c4 c5 c6 c7 c8 c9 c10 c11 c12
          obtain ⟨th, tv, tc, m, X, tn, p, Y, s, g', E, hmm, HR0, HM0⟩ := both_any kd2 sh2 sv2 sc2 (some ⟨Gl, 0, none⟩) ln2 (ln2 + 66) h2 v2 cq2 (some ⟨Gc, 0, none⟩) cn2 (cn2 + 66) y2 x2 n2 (some ⟨Gb, 0, none⟩) bn2 (bn2 + 66) l2 N2 P2 hl2 xm.l1 xm.c1 xm.b1 ⟨Nat.le_add_right _ _, by have := xm.l1; omega⟩ ⟨Nat.le_add_right _ _, by have := xm.c1; omega⟩
          have HRN := hid1 HR0
          have HME := hid1 HM0
          have HL2 := hid1 hl2
          clear HR0 HM0 hl2
          have HQ0 : Hid (∀ W, W.rowIs bx 35 13 (opf kd2 sh2 sv2 sc2 (some ⟨Gl, 0, none⟩) ln2 (ln2 + 66) h2 v2 cq2 (some ⟨Gc, 0, none⟩) cn2 (cn2 + 66) y2 x2 n2 (some ⟨Gb, 0, none⟩) bn2 (bn2 + 66)) → Xm W Gl ln2 (ia l2) Gc cn2 N2 Gb bn2 P2 → Sa W w.heap.size bx Gl Gc Gb u5 u6 l0 → ∀ b, (Sx bx Gl Gc Gb u5 u6) b → b < W.heap.size) := hid1 (fun W q1 q2 q3 => q3.sx q1.lt q2.l.lt q2.c.lt q2.b.lt)
          obtain ⟨c0, c1, c2, c3, c4, c5, c6, c7, c8, c9, c10, c11, c12⟩ := op_cells ox
          have HOX := hid1 ox
          have HXM := hid1 xm
          have HSA := hid1 sa
          have HB2 := hid1 B2
          clear ox xm sa B2
          go_wp2_with fail
          refine (HRN.out Z2 (rv_rs HXM.out.l) (rm_wr HXM.out.c HXM.out.hN) (rm_wr HXM.out.b HXM.out.hP)).mono ?_
          rintro e w3 ⟨ao1, k1, po1, q1, so1, t1, rfl, na, nb, nl, hb⟩
          have hsx := HQ0.out Z2 HOX.out HXM.out HSA.out
          have a1 : A3 w3 (Sx bx Gl Gc Gb u5 u6) ao1 m X po1 p Y so1 s g' := ⟨na.wa hsx, nb.wa hsx, nl.ra hsx⟩
          have ox := keepr hb HOX.out
          have xm := HXM.out.below hb
          have sa := HSA.out.below hb
          have B3 := bl_step HB2.out hb
          clear hb na nb nl hsx HOX HXM HSA HB2 c0 c1 c2 c3 c4 c5 c6 c7 c8 c9 c10 c11 c12
          obtain ⟨c0, c1, c2, c3, c4, c5, c6, c7, c8, c9, c10, c11, c12⟩ := op_cells ox
          have lbx := ox.lt
          have HOX := hid1 ox
          have HXM := hid1 xm
          have HSA := hid1 sa
          have HA1 := hid1 a1
          have HB3 := hid1 B3
          clear ox xm sa a1 B3
          go_wp2_with fail
          refine gen_calls (fun W => W.rowIs bx 35 13 (opf kd2 sh2 sv2 sc2 (some ⟨Gl, 0, none⟩) ln2 (ln2 + 66) h2 v2 cq2 (some ⟨Gc, 0, none⟩) cn2 (cn2 + 66) y2 x2 n2 (some ⟨Gb, 0, none⟩) bn2 (bn2 + 66)) ∧ Xm W Gl ln2 (ia l2) Gc cn2 N2 Gb bn2 P2 ∧ Sa W w.heap.size bx Gl Gc Gb u5 u6 l0 ∧ A3 W (Sx bx Gl Gc Gb u5 u6) ao1 m X po1 p Y so1 s g' ∧ W.rowIs w3.heap.size 40 8 (tof th tv tc ao1 m k1 tn po1 p q1 so1 s t1 E) ∧ Below w.heap.size w W) ⟨HOX.out.alloc _, HXM.out.below (bl_alloc (Below.refl _ _) _), HSA.out.below (bl_alloc (Below.refl _ _) _), HA1.out.below (bl_alloc (Below.refl _ _) _), to_new _ _ _ _ _ _ _ _ _ _ _ _ _ _ _, bl_alloc HB3.out _⟩ ?_
          clear HOX HXM HSA HA1 HB3 lbx c0 c1 c2 c3 c4 c5 c6 c7 c8 c9 c10 c11 c12
          rintro W3 ⟨ox, xm, sa, a1, t10, B3⟩
          refine (HME.out W3 (rv_rs xm.l) (rm_wr xm.c xm.hN) (rm_wr xm.b xm.hP)).mono ?_
          rintro e w4 ⟨ao2, k2, po2, q2, so2, t2, rfl, na, nb, nl, hb⟩
          have hsx := HQ0.out W3 ox xm sa
          have a2 : A3 w4 (Sx bx Gl Gc Gb u5 u6) ao2 m X po2 p Y so2 s g' := ⟨na.wa hsx, nb.wa hsx, nl.ra hsx⟩
          replace ox := keepr hb ox
          replace xm := xm.below hb
          replace sa := sa.below hb
          replace a1 := a1.below hb
          replace t10 := keepr hb t10
          have B4 := bl_step B3 hb
          clear hb na nb nl hsx B3
          obtain ⟨d0, d1, d2, d3, d4, d5, d6, d7⟩ := to_cells t10
          have l10 := t10.lt
          have HOX := hid1 ox
          have HXM := hid1 xm
          have HSA := hid1 sa
          have HA1 := hid1 a1
          have HA2 := hid1 a2
          have HT10 := hid1 t10
          have HB4 := hid1 B4
          clear ox xm sa a1 a2 t10 B4
          go_wp2_with fail
          refine gen_calls (fun W => W.rowIs bx 35 13 (opf kd2 sh2 sv2 sc2 (some ⟨Gl, 0, none⟩) ln2 (ln2 + 66) h2 v2 cq2 (some ⟨Gc, 0, none⟩) cn2 (cn2 + 66) y2 x2 n2 (some ⟨Gb, 0, none⟩) bn2 (bn2 + 66)) ∧ Xm W Gl ln2 (ia l2) Gc cn2 N2 Gb bn2 P2 ∧ Sa W w.heap.size bx Gl Gc Gb u5 u6 l0 ∧ A3 W (Sx bx Gl Gc Gb u5 u6) ao1 m X po1 p Y so1 s g' ∧ A3 W (Sx bx Gl Gc Gb u5 u6) ao2 m X po2 p Y so2 s g' ∧ W.rowIs w3.heap.size 40 8 (tof th tv tc ao1 m k1 tn po1 p q1 so1 s t1 E) ∧ W.rowIs w4.heap.size 40 8 (tof th tv tc ao2 m k2 tn po2 p q2 so2 s t2 E) ∧ (∀ j, u5.ownBlock = some j → j < w4.heap.size) ∧ Below w.heap.size w W) ⟨HOX.out.alloc _, HXM.out.below (bl_alloc (Below.refl _ _) _), HSA.out.below (bl_alloc (Below.refl _ _) _), HA1.out.below (bl_alloc (Below.refl _ _) _), HA2.out.below (bl_alloc (Below.refl _ _) _), HT10.out.alloc _, to_new _ _ _ _ _ _ _ _ _ _ _ _ _ _ _, fun j hj => (HSA.out.a.lt j hj).2, bl_alloc HB4.out _⟩ ?_
          clear HOX HXM HSA HA1 HA2 HT10 HB4 l10 d0 d1 d2 d3 d4 d5 d6 d7
          rintro W4 ⟨ox, xm, sa, a1, a2, t10, t11, hva, B4⟩
          refine (agree_true th tv tc m X tn p Y s g' E ao1 k1 po1 q1 so1 t1 ao2 k2 po2 q2 so2 t2 W4 hmm a1.a.wr a1.b.wr a1.l.rs a2.a.wr a2.b.wr a2.l.rs).mono ?_
          rintro e w5 ⟨rfl, hb⟩
          replace ox := keepr hb ox
          replace xm := xm.below hb
          replace sa := sa.below hb
          replace a1 := a1.below hb
          replace a2 := a2.below hb
          replace t10 := keepr hb t10
          replace t11 := keepr hb t11
          have B5 := bl_step B4 hb
          clear hb B4
          obtain ⟨d0, d1, d2, d3, d4, d5, d6, d7⟩ := to_cells t10
          have HOX := hid1 ox
          have HXM := hid1 xm
          have HSA := hid1 sa
          have HA1 := hid1 a1
          have HA2 := hid1 a2
          have HT10 := hid1 t10
          have HT11 := hid1 t11
          have HB5 := hid1 B5
          have HVA := hid1 hva
          clear ox xm sa a1 a2 t10 t11 B5 hva
          go_upto_region 16 with fail
          go_cut [8] from 55 to 59 (fun s8 wx => (∃ z : Int, s8 = .int .i64 z) ∧ Below w5.heap.size w5 wx)
          case first =>
            as_aux_lemma =>
              go_wp2_with fail
              refine (size_any th tv tc ao1 m k1 tn po1 p q1 so1 s t1 E w5).mono ?_
              rintro e y9 ⟨z9, rfl, hb⟩
              go_wp2_with fail
              go_meet
              exact ⟨⟨_, rfl⟩, hb⟩
          case rest =>
            obtain ⟨⟨z, rfl⟩, hb⟩ := hcut
            rename World => Z5
            have ox := keepr hb HOX.out
            have xm := HXM.out.below hb
            have sa := HSA.out.below hb
            have a1 := HA1.out.below hb
            have a2 := HA2.out.below hb
            have t10 := keepr hb HT10.out
            have t11 := keepr hb HT11.out
            have B5 := bl_step HB5.out hb
            clear hb HOX HXM HSA HA1 HA2 HT10 HT11 HB5 d0 d1 d2 d3 d4 d5 d6 d7
            obtain ⟨d0, d1, d2, d3, d4, d5, d6, d7⟩ := to_cells t10
            obtain ⟨e0, e1, e2, e3, e4, e5, e6, e7⟩ := to_cells t11
            have HOX := hid1 ox
            have HXM := hid1 xm
            have HSA := hid1 sa
            have HA1 := hid1 a1
            have HA2 := hid1 a2
            have HT11 := hid1 t11
            have HB5 := hid1 B5
            clear ox xm sa a1 a2 t10 t11 B5
            have z5 := HB5.out.size
            by_cases hz : z ≤ 33554432
            · have z5' : w.heap.size ≤ Z5.heap.size := z5
              have l30 : l0.length ≤ 925904528626 := by omega
              go_upto_region 19 with (at_builtin; refine app_told rfl _ _ rfl w.heap.size u5 l0.length (tcs cA l0) (by go_simp) HSA.out.a th tv tc ao1 m k1 tn po1 p q1 so1 s t1 E (by go_simp) l30 z5' ?_; intro v2' w6 ow6 gr6 at6)
              have B6 := (HB5.out.alloc z5 (too th tv tc ao1 m k1 tn po1 p q1 so1 s t1 E)).grown gr6 (by simp; omega) (fun q hq => (HSA.out.a.lt q hq).1)
              have t6 : w6.rowIs w4.heap.size 40 8 (tof th tv tc ao2 m k2 tn po2 p q2 so2 s t2 E) := (HT11.out.alloc (too th tv tc ao1 m k1 tn po1 p q1 so1 s t1 E)).of_block (gr6.block _ (HT11.out.alloc (too th tv tc ao1 m k1 tn po1 p q1 so1 s t1 E)).lt (fun e => by have := HVA.out _ e.symm; omega))
              have ob6 := own_flip HSA.out gr6
              have ox6 := row_grownU (HOX.out.alloc (too th tv tc ao1 m k1 tn po1 p q1 so1 s t1 E)) (HSA.out.a.alloc (too th tv tc ao1 m k1 tn po1 p q1 so1 s t1 E)) gr6 (by decide)
              have xl6 := row_grownU (HXM.out.l.alloc (too th tv tc ao1 m k1 tn po1 p q1 so1 s t1 E)) (HSA.out.a.alloc (too th tv tc ao1 m k1 tn po1 p q1 so1 s t1 E)) gr6 (by decide)
              have xc6 := row_grownU (HXM.out.c.alloc (too th tv tc ao1 m k1 tn po1 p q1 so1 s t1 E)) (HSA.out.a.alloc (too th tv tc ao1 m k1 tn po1 p q1 so1 s t1 E)) gr6 (by decide)
              have xb6 := row_grownU (HXM.out.b.alloc (too th tv tc ao1 m k1 tn po1 p q1 so1 s t1 E)) (HSA.out.a.alloc (too th tv tc ao1 m k1 tn po1 p q1 so1 s t1 E)) gr6 (by decide)
              clear d0 d1 d2 d3 d4 d5 d6 d7 e0 e1 e2 e3 e4 e5 e6 e7
              obtain ⟨e0, e1, e2, e3, e4, e5, e6, e7⟩ := to_cells t6
              have z6 : w.heap.size ≤ w6.heap.size := B6.size
              have HG6 := hid1 gr6
              have HO6 := hid1 ow6
              have HB6 := hid1 B6
              have HOB := hid1 ob6
              have HOX6 := hid1 ox6
              have HXL6 := hid1 xl6
              have HXC6 := hid1 xc6
              have HXB6 := hid1 xb6
              clear gr6 ow6 B6 ob6 ox6 xl6 xc6 xb6 t6
              go_wp2_with (at_builtin; refine app_told rfl _ _ rfl w.heap.size u6 l0.length (tcs cB l0) (by go_simp) HOB.out th tv tc ao2 m k2 tn po2 p q2 so2 s t2 E (by go_simp) l30 z6 ?_; intro v3 w7 ow7 gr7 at7)
              have B7 := (HB6.out.alloc z6 (too th tv tc ao2 m k2 tn po2 p q2 so2 s t2 E)).grown gr7 (by simp; omega) (fun q hq => (HOB.out.lt q hq).1)
              have ox7 := row_grownU (HOX6.out.alloc (too th tv tc ao2 m k2 tn po2 p q2 so2 s t2 E)) (HOB.out.alloc (too th tv tc ao2 m k2 tn po2 p q2 so2 s t2 E)) gr7 (by decide)
              have xl7 := row_grownU (HXL6.out.alloc (too th tv tc ao2 m k2 tn po2 p q2 so2 s t2 E)) (HOB.out.alloc (too th tv tc ao2 m k2 tn po2 p q2 so2 s t2 E)) gr7 (by decide)
              have xc7 := row_grownU (HXC6.out.alloc (too th tv tc ao2 m k2 tn po2 p q2 so2 s t2 E)) (HOB.out.alloc (too th tv tc ao2 m k2 tn po2 p q2 so2 s t2 E)) gr7 (by decide)
              have xb7 := row_grownU (HXB6.out.alloc (too th tv tc ao2 m k2 tn po2 p q2 so2 s t2 E)) (HOB.out.alloc (too th tv tc ao2 m k2 tn po2 p q2 so2 s t2 E)) gr7 (by decide)
              have sa7 := HSA.out.more (x := ⟨th, tv, tc, m, X, tn, p, Y, s, g', E, ao1, k1, po1, q1, so1, t1, ao2, k2, po2, q2, so2, t2⟩) HA1.out HA2.out hmm HG6.out HO6.out at6 gr7 ow7 at7
              exact ⟨⟨k + 1, z, _, by omega, by go_num, rfl, by simp; omega, B7, .inr ⟨kd2, sh2, sv2, sc2, h2, v2, cq2, y2, x2, n2, Gl, Gc, Gb, ln2, cn2, bn2, N2, P2, l2, ox7, ⟨xl7, xc7, xb7, HXM.out.ne, HXM.out.hN, HXM.out.hP, HXM.out.l1, HXM.out.c1, HXM.out.b1⟩, HL2.out, hgb, sa7⟩⟩, by simp [intOf]; omega⟩
            · clear d0 d1 d2 d3 d4 d5 d6 d7 e0 e1 e2 e3 e4 e5 e6 e7
              go_wp2_with fail
              exact ⟨⟨k + 1, z, l0, by omega, by go_num, rfl, by omega, HB5.out, .inr ⟨kd2, sh2, sv2, sc2, h2, v2, cq2, y2, x2, n2, Gl, Gc, Gb, ln2, cn2, bn2, N2, P2, l2, HOX.out, HXM.out, HL2.out, hgb, HSA.out⟩⟩, by simp [intOf]; omega⟩
    · obtain rfl : k = L := by omega
      obtain ⟨G1, G2, G3, sa⟩ : ∃ G1 G2 G3, Sa Z w.heap.size bx G1 G2 G3 u5 u6 l0 := by
        rcases hor with ⟨_, rfl, rfl, rfl, _⟩ | ⟨_, _, _, _, _, _, _, _, _, _, G1, G2, G3, _, _, _, _, _, _, _, _, _, _, hs⟩
        · exact ⟨0, 0, 0, Sa.nil0 _ _ _ _ _ _⟩
        · exact ⟨G1, G2, G3, hs⟩
      clear hor
      obtain ⟨pa, ka, rfl, ha⟩ := own_lenU sa.a
      obtain ⟨pb, kb, rfl, hb'⟩ := own_lenU sa.b
      have HSA := hid1 sa
      have HB0 := hid1 B0
      have l30 : l0.length ≤ 925904528626 := by omega
      obtain ⟨nl, hnl⟩ : ∃ nl, l0.length = nl := ⟨_, rfl⟩
      have HNL := hid1 hnl
      rw [hnl] at ha hb' l30 ⊢
      clear sa B0 hnl
      go_wp2_with fail
      go_loopw [12] (fun i wr => ∃ j : Nat, j ≤ nl ∧ i = .int .i64 j ∧ Below Z.heap.size Z wr) (fun i _ => nl - (intOf i).toNat)
      case atStart => exact ⟨0, Nat.zero_le _, rfl, Below.refl _ _⟩
      case round =>
        rename World => Y'
        obtain ⟨j, hj, rfl, BY⟩ := hrel
        by_cases hjl : j < nl
        · obtain ⟨g1, rfl⟩ := ha (by omega)
          obtain ⟨g2, rfl⟩ := hb' (by omega)
          have hjl0 : j < l0.length := by rw [HNL.out]; exact hjl
          obtain ⟨x, hx⟩ : ∃ x, l0[j] = x := ⟨_, rfl⟩
          have A5 := own_at8 (fun _ => rfl) HSA.out.a j hjl0 x hx
          have B5 := own_at8 (fun _ => rfl) HSA.out.b j hjl0 x hx
          have AN := HSA.out.an x (by rw [← hx]; exact List.getElem_mem hjl0)
          obtain ⟨an1, an2, hm⟩ := AN
          have W1 := hid1 (an1.below BY)
          have W2 := hid1 (an2.below BY)
          obtain ⟨th, tv, tc, m, X, tn, p, Y, s, g', E, ao1, k1, po1, q1, so1, t1, ao2, k2, po2, q2, so2, t2⟩ := x
          have HC : Hid ((Y'.cell? ⟨g1, j * 8, none⟩ = some (.int .i64 th) ∧ Y'.cell? ⟨g1, j * 8 + 1, none⟩ = some (.int .i64 tv) ∧ Y'.cell? ⟨g1, j * 8 + 2, none⟩ = some (.int .i64 tc) ∧ Y'.cell? ⟨g1, j * 8 + 3, none⟩ = some (.slice ao1 m k1) ∧ Y'.cell? ⟨g1, j * 8 + 4, none⟩ = some (.int .i64 tn) ∧ Y'.cell? ⟨g1, j * 8 + 5, none⟩ = some (.slice po1 p q1) ∧ Y'.cell? ⟨g1, j * 8 + 6, none⟩ = some (.slice so1 s t1) ∧ Y'.cell? ⟨g1, j * 8 + 7, none⟩ = some (.int .i64 E)) ∧ Y'.cell? ⟨g2, j * 8, none⟩ = some (.int .i64 th) ∧ Y'.cell? ⟨g2, j * 8 + 1, none⟩ = some (.int .i64 tv) ∧ Y'.cell? ⟨g2, j * 8 + 2, none⟩ = some (.int .i64 tc) ∧ Y'.cell? ⟨g2, j * 8 + 3, none⟩ = some (.slice ao2 m k2) ∧ Y'.cell? ⟨g2, j * 8 + 4, none⟩ = some (.int .i64 tn) ∧ Y'.cell? ⟨g2, j * 8 + 5, none⟩ = some (.slice po2 p q2) ∧ Y'.cell? ⟨g2, j * 8 + 6, none⟩ = some (.slice so2 s t2) ∧ Y'.cell? ⟨g2, j * 8 + 7, none⟩ = some (.int .i64 E)) := hid1 (kpF (W := Z) ⟨⟨A5 0 _ (by decide) rfl, A5 1 _ (by decide) rfl, A5 2 _ (by decide) rfl, A5 3 _ (by decide) rfl, A5 4 _ (by decide) rfl, A5 5 _ (by decide) rfl, A5 6 _ (by decide) rfl, A5 7 _ (by decide) rfl⟩, B5 0 _ (by decide) rfl, B5 1 _ (by decide) rfl, B5 2 _ (by decide) rfl, B5 3 _ (by decide) rfl, B5 4 _ (by decide) rfl, B5 5 _ (by decide) rfl, B5 6 _ (by decide) rfl, B5 7 _ (by decide) rfl⟩ BY)
          have HBY := hid1 BY
          have ij : (j : Int) < (nl : Int) := by omega
          have ij0 : (0 : Int) ≤ (j : Int) := by omega
          dsimp only at W1 W2 hm
          clear A5 B5 an1 an2 BY hx
          go_upto_region 23 with fail
          go_region_held3 (fun X' => (X'.cell? ⟨g1, j * 8, none⟩ = some (.int .i64 th) ∧ X'.cell? ⟨g1, j * 8 + 1, none⟩ = some (.int .i64 tv) ∧ X'.cell? ⟨g1, j * 8 + 2, none⟩ = some (.int .i64 tc) ∧ X'.cell? ⟨g1, j * 8 + 3, none⟩ = some (.slice ao1 m k1) ∧ X'.cell? ⟨g1, j * 8 + 4, none⟩ = some (.int .i64 tn) ∧ X'.cell? ⟨g1, j * 8 + 5, none⟩ = some (.slice po1 p q1) ∧ X'.cell? ⟨g1, j * 8 + 6, none⟩ = some (.slice so1 s t1) ∧ X'.cell? ⟨g1, j * 8 + 7, none⟩ = some (.int .i64 E)) ∧ X'.cell? ⟨g2, j * 8, none⟩ = some (.int .i64 th) ∧ X'.cell? ⟨g2, j * 8 + 1, none⟩ = some (.int .i64 tv) ∧ X'.cell? ⟨g2, j * 8 + 2, none⟩ = some (.int .i64 tc) ∧ X'.cell? ⟨g2, j * 8 + 3, none⟩ = some (.slice ao2 m k2) ∧ X'.cell? ⟨g2, j * 8 + 4, none⟩ = some (.int .i64 tn) ∧ X'.cell? ⟨g2, j * 8 + 5, none⟩ = some (.slice po2 p q2) ∧ X'.cell? ⟨g2, j * 8 + 6, none⟩ = some (.slice so2 s t2) ∧ X'.cell? ⟨g2, j * 8 + 7, none⟩ = some (.int .i64 E))
            (((try dsimp only); (with_reducible refine kpF (W := Y') HC.out ?_); repeat (first | (with_reducible exact Below.refl _ _) | (with_reducible assumption) | (with_reducible refine Below.drew ?_))))
            ((go_at_call 9; refine (agree_true th tv tc m X tn p Y s g' E ao1 k1 po1 q1 so1 t1 ao2 k2 po2 q2 so2 t2 _ hm (W1.out.a.wr.below (Below.refl _ _).drew) (W1.out.b.wr.below (Below.refl _ _).drew) (W1.out.l.rs.below (Below.refl _ _).drew) (W2.out.a.wr.below (Below.refl _ _).drew) (W2.out.b.wr.below (Below.refl _ _).drew) (W2.out.l.rs.below (Below.refl _ _).drew)).mono ?_; rintro e y2 ⟨rfl, hb⟩; have by1 : Below Y'.heap.size Y' y2 := bl_step (Below.refl _ _).drew hb; clear hb))
          go_wp2_with fail
          exact ⟨⟨j + 1, by omega, by go_num, bl_step HBY.out by1⟩, by simp [intOf]; omega⟩
        · obtain rfl : j = nl := by omega
          go_wp2_with fail
          go_ret
          exact ⟨rfl, bl_step HB0.out BY⟩
end Go.Proofs.Ytfboegdibohciaa
/- PARAMETERS THAT ARE LISTS OF STEPS OF CubeScript, LISTS OF INTS (plain rows). -/
namespace Go.Proofs.Ytfboegdibohciaa
open Go.ChangeShapes Go.WideShapes Go.ChangeAt Go.RowKit
set_option maxRecDepth 100000

theorem max_is : maxLen = 9223372036854775807 := by decide
theorem add_at (b o n : Nat) : Addr.add ⟨b, o, none⟩ n = ⟨b, o + n, none⟩ := by
  unfold Addr.add
  by_cases h : n = 0
  · subst h; rfl
  · rw [if_neg h]
theorem u64_of_wf {x : Int} (h : (Lit.int .u64 x).wf = true) : 0 ≤ x ∧ x < 18446744073709551616 := by
  simp [Lit.wf, IntKind.min, IntKind.max, IntKind.signed, IntKind.bits] at h
  exact ⟨by omega, by omega⟩
theorem cells_u64 : Try.prog.cellsOf 53 = 1 := by kernel_rfl
theorem cells_int : Try.prog.cellsOf 3 = 1 := by kernel_rfl
theorem cells_us : Try.prog.cellsOf 29 = 1 := by kernel_rfl
theorem bytes_u64 : Try.prog.bytesOf 53 = 8 := by kernel_rfl
theorem num_gen (B : Nat) (hB : 0 < B) (f : Nat → Nat) : ∀ m, (∀ k, k < m → f k < B) → ∃ N, N < B ^ m ∧ ∀ k, k < m → N / B ^ k % B = f k
  | 0, _ => ⟨0, by simp, fun k hk => absurd hk (by omega)⟩
  | m + 1, h => by
    obtain ⟨N, h1, h2⟩ := num_gen B hB f m fun k hk => h k (by omega)
    have hm := h m (by omega)
    have hp : 0 < B ^ m := Nat.pow_pos hB
    refine ⟨N + B ^ m * f m, ?_, fun k hk => ?_⟩
    · have h3 : B ^ m * (f m + 1) ≤ B ^ m * B := Nat.mul_le_mul_left _ (by omega)
      rw [Nat.mul_add, Nat.mul_one] at h3
      rw [Nat.pow_succ]
      omega
    · by_cases hkm : k = m
      · subst hkm
        rw [Nat.add_mul_div_left _ _ hp, Nat.div_eq_of_lt h1, Nat.zero_add, Nat.mod_eq_of_lt hm]
      · have hlt : k < m := by omega
        obtain ⟨q, rfl⟩ : ∃ q, m = k + (q + 1) := ⟨m - k - 1, by omega⟩
        have e : B ^ (k + (q + 1)) * f (k + (q + 1)) = B ^ k * (B * (B ^ q * f (k + (q + 1)))) := by
          rw [Nat.pow_add, Nat.pow_succ, Nat.mul_comm (B ^ q) B]
          simp only [Nat.mul_assoc]
        rw [e, Nat.add_mul_div_left _ _ (Nat.pow_pos hB), Nat.add_mul_mod_self_left]
        exact h2 k hlt
theorem num_of (f : Nat → Nat) (m : Nat) (h : ∀ k, k < m → f k < 18446744073709551616) : ∃ N, N < 2 ^ (64 * m) ∧ ∀ k, k < m → wd N k = f k := by
  obtain ⟨N, h1, h2⟩ := num_gen (2 ^ 64) (Nat.pow_pos (by decide)) f m (by rw [← two64]; exact h)
  refine ⟨N, by rw [Nat.pow_mul]; exact h1, fun k hk => ?_⟩
  have h3 := h2 k hk
  rw [← Nat.pow_mul, ← two64] at h3
  exact h3
theorem weightsAll_mem {H : Type} {P : Program} {e : TypeId} : ∀ {l : List (DataW H)} {d : DataW H}, d ∈ l → ∀ n ∈ d.weights P e, n ∈ DataW.weightsAll P e l
  | x :: l, d, hd, n, hn => by
    rw [DataW.weightsAll, List.mem_append]
    rcases List.mem_cons.mp hd with rfl | h
    · exact Or.inl hn
    · exact Or.inr (weightsAll_mem h n hn)
theorem fld {H : Type} {enc : TypeId × Value → H} {P : Program} {w : World} {base : Nat} {sp : Nat → Bool} {held : Bool} {t : TypeId} {fs : Array Field} {fuel : Nat} {cs : List Value} {x : DataW H × List MemPlace}
    (ht : P.underlying t = some (.struct fs)) (h : DataW.trod enc P w base sp held fuel t cs = some x) (i : Nat) (f : Field) (hi : fs[i]? = some f) :
    ∃ n y, DataW.trod enc P w base sp held n f.type ((cs.drop f.offset).take (P.cellsOf f.type)) = some y := by
  obtain ⟨xs, n, _, _, _, hxl, hf⟩ := DataW.trod_struct ht h
  have g := hf i f hi
  have hlt : i < xs.length := by
    rw [hxl]
    exact (Array.getElem?_eq_some_iff.1 hi).1
  rw [List.getElem?_eq_getElem hlt] at g
  exact ⟨n, _, g⟩
theorem fldI {H : Type} {enc : TypeId × Value → H} {P : Program} {w : World} {base : Nat} {sp : Nat → Bool} {held : Bool} {t : TypeId} {fs : Array Field} {fuel : Nat} {cs : List Value} {x : DataW H × List MemPlace}
    (ht : P.underlying t = some (.struct fs)) (h : DataW.trod enc P w base sp held fuel t cs = some x) (i : Nat) (f : Field) (hi : fs[i]? = some f) (hu : P.underlying f.type = some (.int .i64)) (hc : P.cellsOf f.type = 1) :
    ∃ z : Int, (cs.drop f.offset).take 1 = [.int .i64 z] := by
  obtain ⟨n, y, g⟩ := fld ht h i f hi
  rw [hc] at g
  obtain ⟨z, e, _⟩ := DataW.trod_int hu g
  exact ⟨z, e⟩
theorem cells_shp : Try.prog.cellsOf 27 = 3 := by kernel_rfl
theorem len3 {l : List Value} (h : l.length = 3) : ∃ a b c, l = [a, b, c] := by
  match l, h with
  | [a, b, c], _ => exact ⟨a, b, c, rfl⟩
theorem shape_cells {H : Type} {enc : TypeId × Value → H} {w : World} {base : Nat} {sp : Nat → Bool} {held : Bool} {fuel : Nat} {cs : List Value} {x : DataW H × List MemPlace}
    (h : DataW.trod enc Try.prog w base sp held fuel 27 cs = some x) : ∃ a b c : Int, cs = [.int .i64 a, .int .i64 b, .int .i64 c] := by
  have hl : cs.length = 3 := by
    obtain ⟨_, _, _, _, hlen, _, _⟩ := DataW.trod_struct Try.underlying27 h
    exact hlen.trans cells_shp
  obtain ⟨z0, e0⟩ := fldI Try.underlying27 h 0 _ rfl Try.underlying3 cells_int
  obtain ⟨z1, e1⟩ := fldI Try.underlying27 h 1 _ rfl Try.underlying3 cells_int
  obtain ⟨z2, e2⟩ := fldI Try.underlying27 h 2 _ rfl Try.underlying3 cells_int
  obtain ⟨a, b, c, rfl⟩ := len3 hl
  simp at e0 e1 e2
  subst e0 e1 e2
  exact ⟨z0, z1, z2, rfl⟩
theorem open_list {H : Type} {enc : TypeId × Value → H} {W : World} {base : Nat} {t e : TypeId} {N : Nat} {v : Value} {d : DataW H} {p : List MemPlace} (ht : Try.prog.underlying t = some (.slice e)) (hN : Try.prog.cellsOf e = N) (hpos : 0 < N)
    (hv : Value.okWide Try.prog W .any base t v) (h : DataW.Trod enc Try.prog W 0 (fun _ => true) true t v d p) :
    ∃ (ao : Option Addr) (m cap : Nat), v = .slice ao m cap ∧ m ≤ 9223372036854775807 ∧ ∀ k, k < m → ∃ (g o n : Nat) (cs : List Value) (y : DataW H × List MemPlace), ao = some ⟨g, o, none⟩ ∧ DataW.trod enc Try.prog W 0 (fun _ => true) true n e cs = some y ∧ cs.length = N ∧
      ∀ j, j < N → W.cell? ⟨g, o + k * N + j, none⟩ = cs[j]? := by
  obtain ⟨a0, len, cap, rfl⟩ := okWide_slice ht hv
  obtain ⟨fuel, hf⟩ := h
  rcases Deep.open_slice ht hf with ⟨hc, hx⟩ | ⟨a, len', cap', mm, n, D, Pl, hc, _, hl, hm, hmm, hx, hcell⟩
  · simp [Value.cells] at hc
    obtain ⟨rfl, rfl, rfl⟩ := hc
    exact ⟨none, 0, 0, rfl, by omega, fun k hk => absurd hk (by omega)⟩
  · simp [Value.cells] at hc
    obtain ⟨rfl, rfl, rfl⟩ := hc
    simp only [if_true] at hmm
    refine ⟨some a, len, cap, rfl, by have := max_is; omega, fun k hk => ?_⟩
    obtain ⟨b, o, s⟩ := a
    obtain rfl : s = none := by
      obtain ⟨cs0, h0, _⟩ := hcell 0 (by omega)
      rw [hN] at h0
      obtain ⟨_, hlen, hc0⟩ := World.cells?_some h0
      have e0 := hc0 0 hpos
      rw [Deep.add_add, List.getElem?_eq_getElem (by omega)] at e0
      have := World.cell?_spot e0
      simpa [Addr.add] using this
    obtain ⟨cs, h1, h2⟩ := hcell k (by omega)
    rw [hN] at h1
    obtain ⟨_, hlen, hc1⟩ := World.cells?_some h1
    refine ⟨b, o, n, cs, _, rfl, h2, hlen, fun j hj => ?_⟩
    have := hc1 j hj
    rw [Deep.add_add, add_at, ← Nat.add_assoc] at this
    exact this
section
variable {H : Type} {enc : TypeId × Value → H} {W : World} {fuel : Nat} {cs : List Value} {x : DataW H × List MemPlace}
theorem open_words (h : DataW.trod enc Try.prog W 0 (fun _ => true) true fuel 29 cs = some x) :
    ∃ (ao : Option Addr) (m cap N : Nat), cs = [.slice ao m cap] ∧ m ≤ cap ∧ cap ≤ 9223372036854775807 ∧ N < 2 ^ (64 * m) ∧ ∀ k, k < m → ∃ g o, ao = some ⟨g, o, none⟩ ∧ W.cell? ⟨g, o + k, none⟩ = some (wf N k) := by
  rcases open_ints und_u64s Try.underlying53 cells_u64 h with ⟨hc, hx⟩ | ⟨a, len, cap, zs, hc, _, hl, hm, hzl, hx, hcell, hwf⟩
  · exact ⟨none, 0, 0, 0, hc, by omega, by omega, by simp, fun k hk => absurd hk (by omega)⟩
  · simp only [if_true] at hzl
    have hmx := max_is
    have hr : ∀ k, k < len → 0 ≤ zs.getD k 0 ∧ zs.getD k 0 < 18446744073709551616 := fun k hk => by
      have hk2 : k < zs.length := by omega
      have e : zs.getD k 0 = zs[k] := by simp [List.getD, hk2]
      rw [e]
      exact u64_of_wf (hwf _ (List.getElem_mem hk2))
    obtain ⟨N, hN, hNk⟩ := num_of (fun k => (zs.getD k 0).toNat) len fun k hk => by have := hr k hk; omega
    obtain ⟨b, o, s⟩ := a
    have at_ : ∀ k, k < len → s = none ∧ W.cell? ⟨b, o + k, none⟩ = some (wf N k) := fun k hk => by
      have c := hcell k (by omega)
      have c0 := hcell 0 (by omega)
      have hs := World.cell?_spot c0
      simp [Addr.add] at hs
      subst hs
      rw [add_at] at c
      refine ⟨rfl, ?_⟩
      rw [c]
      unfold wf
      rw [hNk k hk]
      have := hr k hk
      congr 2
      omega
    refine ⟨some ⟨b, o, s⟩, len, cap, N, hc, hl, by omega, hN, fun k hk => ?_⟩
    obtain ⟨rfl, c⟩ := at_ k hk
    exact ⟨b, o, rfl, c⟩
theorem fldZ {t : TypeId} {fs : Array Field} (ht : Try.prog.underlying t = some (.struct fs)) (h : DataW.trod enc Try.prog W 0 (fun _ => true) true fuel t cs = some x) (hz : ∀ n ∈ x.1.weights Try.prog t, n ≤ reachBytes) (i : Nat) (f : Field) (hi : fs[i]? = some f) :
    ∃ n y, DataW.trod enc Try.prog W 0 (fun _ => true) true n f.type ((cs.drop f.offset).take (Try.prog.cellsOf f.type)) = some y ∧ ∀ m ∈ y.1.weights Try.prog f.type, m ≤ reachBytes := by
  obtain ⟨xs, n, _, ex, _, hxl, hf⟩ := DataW.trod_struct ht h
  have g := hf i f hi
  have hlt : i < xs.length := by
    rw [hxl]
    exact (Array.getElem?_eq_some_iff.1 hi).1
  rw [List.getElem?_eq_getElem hlt] at g
  refine ⟨n, _, g, fun m hm => hz m ?_⟩
  rw [ex]
  simp only [DataW.weights, ht]
  refine DataW.weights_mem_each (j := i) (t := f.type) (d := xs[i].1) ?_ ?_ _ hm
  · simp [hi]
  · rw [List.getElem?_map, List.getElem?_eq_getElem hlt]
    rfl
theorem open_wordsZ (h : DataW.trod enc Try.prog W 0 (fun _ => true) true fuel 29 cs = some x) (hz : ∀ n ∈ x.1.weights Try.prog 29, n ≤ reachBytes) :
    ∃ (ao : Option Addr) (m cap N : Nat), cs = [.slice ao m cap] ∧ (ao = none → cap = 0) ∧ m ≤ 17592186043904 ∧ N < 2 ^ (64 * m) ∧ ∀ k, k < m → ∃ g o, ao = some ⟨g, o, none⟩ ∧ W.cell? ⟨g, o + k, none⟩ = some (wf N k) := by
  obtain ⟨ao, m, cap, N, e, h1, h2, h3, h4⟩ := open_words h
  refine ⟨ao, m, cap, N, e, ?_, ?_, h3, h4⟩
  · rcases open_ints und_u64s Try.underlying53 cells_u64 h with ⟨hc, hx⟩ | ⟨a, len, cap', zs, hc, _⟩
    · rw [e] at hc
      simp at hc
      exact fun _ => hc.2.2
    · rw [e] at hc
      simp at hc
      intro hn
      rw [hn] at hc
      cases hc.1
  · rcases open_ints und_u64s Try.underlying53 cells_u64 h with ⟨hc, hx⟩ | ⟨a, len, cap', zs, hc, _, hl, hm, hzl, hx, _⟩
    · rw [e] at hc
      simp at hc
      omega
    · rw [e] at hc
      simp at hc
      simp only [if_true] at hzl
      have w1 := hz ((lits (H := H) .u64 (zs.take len)).length + (lits (H := H) .u64 (zs.drop len)).length |>.mul 8) (by
        rw [hx]
        simp only [DataW.weights, und_u64s, bytes_u64]
        exact List.mem_cons_self)
      rw [reach_is] at w1
      have e1 : (lits (H := H) .u64 (zs.take len)).length + (lits (H := H) .u64 (zs.drop len)).length = zs.length := by simp [lits]; omega
      rw [e1] at w1
      have w2 : zs.length * 8 ≤ 140737488351232 := w1
      omega
theorem cells_cube : Try.prog.cellsOf 31 = 4 := by kernel_rfl
theorem open_cubeZ (h : DataW.trod enc Try.prog W 0 (fun _ => true) true fuel 31 cs = some x) (hz : ∀ n ∈ x.1.weights Try.prog 31, n ≤ reachBytes) :
    ∃ (h v c : Int) (ao : Option Addr) (m cap N : Nat), cs = [.int .i64 h, .int .i64 v, .int .i64 c, .slice ao m cap] ∧ Wr W ao m N ∧ m ≤ 17592186043904 := by
  have hl : cs.length = 4 := by
    obtain ⟨_, _, _, _, hlen, _, _⟩ := DataW.trod_struct Try.underlying31 h
    exact hlen.trans cells_cube
  obtain ⟨_, y0, t0, _⟩ := fldZ Try.underlying31 h hz 0 _ rfl
  obtain ⟨_, y1, t1, z1⟩ := fldZ Try.underlying31 h hz 1 _ rfl
  replace t0 : DataW.trod enc Try.prog W 0 (fun _ => true) true _ 27 ((cs.drop 0).take (Try.prog.cellsOf 27)) = some y0 := t0
  replace t1 : DataW.trod enc Try.prog W 0 (fun _ => true) true _ 29 ((cs.drop 3).take (Try.prog.cellsOf 29)) = some y1 := t1
  rw [cells_shp] at t0
  rw [cells_us] at t1
  obtain ⟨hh, v, c, e0⟩ := shape_cells t0
  obtain ⟨ao, m, cap, N, e1, h1, h2, h3, h4⟩ := open_wordsZ t1 z1
  match cs, hl with
  | [a, b, d, f], _ =>
    simp at e0 e1
    obtain ⟨rfl, rfl, rfl⟩ := e0
    subst e1
    exact ⟨hh, v, c, ao, m, cap, N, rfl, ⟨h3, h4⟩, h2⟩
end
theorem i8_of_wf {x : Int} (h : (Lit.int .i8 x).wf = true) : -128 ≤ x ∧ x ≤ 127 := by
  simp [Lit.wf, IntKind.min, IntKind.max, IntKind.signed, IntKind.bits] at h
  exact ⟨by omega, by omega⟩
theorem cells_is : Try.prog.cellsOf 28 = 1 := by kernel_rfl
theorem cells_bits : Try.prog.cellsOf 33 = 2 := by kernel_rfl
section
variable {H : Type} {enc : TypeId × Value → H} {W : World} {fuel : Nat} {cs : List Value} {x : DataW H × List MemPlace}
theorem open_small (h : DataW.trod enc Try.prog W 0 (fun _ => true) true fuel 28 cs = some x) :
    ∃ (ao : Option Addr) (l : List Int) (cap : Nat), cs = [.slice ao l.length cap] ∧ l.length ≤ cap ∧ cap ≤ 9223372036854775807 ∧ (∀ y ∈ l, -128 ≤ y ∧ y ≤ 127) ∧ R8 W ao l ∧ (ao = none → cap = 0) ∧ (x.1 = .nil ∧ cap = 0 ∨ ∃ es sp, x.1 = .slice es sp ∧ es.length + sp.length = cap) := by
  rcases open_ints und_i8s Try.underlying47 cells_i8 h with ⟨hc, hx⟩ | ⟨a, len, cap, zs, hc, _, hl, hm, hzl, hx, hcell, hwf⟩
  · exact ⟨none, [], 0, hc, by simp, by omega, fun y hy => (by simp at hy), fun k hk => absurd hk (by simp), fun _ => rfl, .inl ⟨by rw [hx], rfl⟩⟩
  · simp only [if_true] at hzl
    have hmx := max_is
    have hlen : (zs.take len).length = len := by simp; omega
    obtain ⟨b, o, s⟩ := a
    have at_ : ∀ k, k < len → s = none ∧ W.cell? ⟨b, o + k, none⟩ = some (.int .i8 (ia (zs.take len) k)) := fun k hk => by
      have c := hcell k (by omega)
      have c0 := hcell 0 (by omega)
      have hs := World.cell?_spot c0
      simp [Addr.add] at hs
      subst hs
      rw [add_at] at c
      have e1 : ia (zs.take len) k = zs.getD k 0 := ia_take hk
      exact ⟨rfl, by rw [c, e1]⟩
    refine ⟨some ⟨b, o, s⟩, zs.take len, cap, by rw [hlen]; exact hc, by rw [hlen]; exact hl, by omega, fun y hy => i8_of_wf (hwf y (List.mem_of_mem_take hy)), fun k hk => ?_, fun e => (by cases e), .inr ⟨_, _, by rw [hx], by simp [lits]; omega⟩⟩
    obtain ⟨rfl, c⟩ := at_ k (by omega)
    exact ⟨b, o, rfl, c⟩
theorem open_smallZ (h : DataW.trod enc Try.prog W 0 (fun _ => true) true fuel 28 cs = some x) (hz : ∀ n ∈ x.1.weights Try.prog 28, n ≤ reachBytes) :
    ∃ (ao : Option Addr) (l : List Int) (cap : Nat), cs = [.slice ao l.length cap] ∧ R8 W ao l ∧ l.length ≤ 140737488351232 := by
  obtain ⟨ao, l, cp, rfl, q1, q2, q3, q4, q5, q6⟩ := open_small h
  have hcp : cp ≤ 140737488351232 := by
    rcases q6 with ⟨_, rfl⟩ | ⟨es, sp, ex, rfl⟩
    · omega
    · have w1 := hz ((es.length + sp.length) * 1) (by
        rw [ex]
        simp only [DataW.weights, und_i8s, bytes_i8]
        exact List.mem_cons_self)
      rw [reach_is] at w1
      omega
  exact ⟨ao, l, cp, rfl, q4, by omega⟩
theorem open_bitsK (h : DataW.trod enc Try.prog W 0 (fun _ => true) true fuel 33 cs = some x) (hz : ∀ n ∈ x.1.weights Try.prog 33, n ≤ reachBytes) :
    ∃ (n : Int) (ao : Option Addr) (m cap N : Nat), cs = [.int .i64 n, .slice ao m cap] ∧ Wr W ao m N ∧ m ≤ 17592186043904 := by
  have hl : cs.length = 2 := by
    obtain ⟨_, _, _, _, hlen, _, _⟩ := DataW.trod_struct Try.underlying33 h
    exact hlen.trans cells_bits
  obtain ⟨_, y0, t0, _⟩ := fldZ Try.underlying33 h hz 0 _ rfl
  obtain ⟨_, y1, t1, z1⟩ := fldZ Try.underlying33 h hz 1 _ rfl
  replace t0 : DataW.trod enc Try.prog W 0 (fun _ => true) true _ 3 ((cs.drop 0).take (Try.prog.cellsOf 3)) = some y0 := t0
  replace t1 : DataW.trod enc Try.prog W 0 (fun _ => true) true _ 29 ((cs.drop 1).take (Try.prog.cellsOf 29)) = some y1 := t1
  rw [cells_int] at t0
  rw [cells_us] at t1
  obtain ⟨z, e0, _, _⟩ := DataW.trod_int Try.underlying3 t0
  obtain ⟨ao, m, cap, N, e1, h1, h2, h3, h4⟩ := open_wordsZ t1 z1
  match cs, hl with
  | [a, b], _ =>
    simp at e0 e1
    subst e0 e1
    exact ⟨z, ao, m, cap, N, rfl, ⟨h3, h4⟩, h2⟩
theorem cells_opK : Try.prog.cellsOf 35 = 13 := by kernel_rfl
theorem bytes_opK : Try.prog.bytesOf 35 = 152 := by kernel_rfl
theorem und_opsK : Try.prog.underlying 22 = some (.slice 35) := by kernel_rfl
theorem open_opZ (hh : DataW.trod enc Try.prog W 0 (fun _ => true) true fuel 35 cs = some x) (hz : ∀ n ∈ x.1.weights Try.prog 35, n ≤ reachBytes) :
    ∃ (kd sh sv sc : Int) (lo : Option Addr) (ln lc : Nat) (h v c : Int) (co : Option Addr) (cn ck : Nat) (y x n : Int) (bo : Option Addr) (bn bk : Nat) (l : List Int) (N P : Nat), cs = [.int .i64 kd, .int .i64 sh, .int .i64 sv, .int .i64 sc, .slice lo ln lc, .int .i64 h, .int .i64 v, .int .i64 c, .slice co cn ck, .int .i64 y, .int .i64 x, .int .i64 n, .slice bo bn bk] ∧ Rs W lo ln (fun k => .int .i8 (ia l k)) ∧ Wr W co cn N ∧ Wr W bo bn P ∧ l.length = ln ∧ ln ≤ 140737488351232 ∧ cn ≤ 17592186043904 ∧ bn ≤ 17592186043904 := by
  have hl : cs.length = 13 := by
    obtain ⟨_, _, _, _, hlen, _, _⟩ := DataW.trod_struct Try.underlying35 hh
    exact hlen.trans cells_opK
  obtain ⟨_, y0, t0, z0⟩ := fldZ Try.underlying35 hh hz 0 _ rfl
  obtain ⟨_, y1, t1, z1⟩ := fldZ Try.underlying35 hh hz 1 _ rfl
  obtain ⟨_, y2, t2, z2⟩ := fldZ Try.underlying35 hh hz 2 _ rfl
  obtain ⟨_, y3, t3, z3⟩ := fldZ Try.underlying35 hh hz 3 _ rfl
  obtain ⟨_, y4, t4, z4⟩ := fldZ Try.underlying35 hh hz 4 _ rfl
  obtain ⟨_, y5, t5, z5⟩ := fldZ Try.underlying35 hh hz 5 _ rfl
  obtain ⟨_, y6, t6, z6⟩ := fldZ Try.underlying35 hh hz 6 _ rfl
  replace t0 : DataW.trod enc Try.prog W 0 (fun _ => true) true _ 3 ((cs.drop 0).take (Try.prog.cellsOf 3)) = some y0 := t0
  replace t1 : DataW.trod enc Try.prog W 0 (fun _ => true) true _ 27 ((cs.drop 1).take (Try.prog.cellsOf 27)) = some y1 := t1
  replace t2 : DataW.trod enc Try.prog W 0 (fun _ => true) true _ 28 ((cs.drop 4).take (Try.prog.cellsOf 28)) = some y2 := t2
  replace t3 : DataW.trod enc Try.prog W 0 (fun _ => true) true _ 31 ((cs.drop 5).take (Try.prog.cellsOf 31)) = some y3 := t3
  replace t4 : DataW.trod enc Try.prog W 0 (fun _ => true) true _ 3 ((cs.drop 9).take (Try.prog.cellsOf 3)) = some y4 := t4
  replace t5 : DataW.trod enc Try.prog W 0 (fun _ => true) true _ 3 ((cs.drop 10).take (Try.prog.cellsOf 3)) = some y5 := t5
  replace t6 : DataW.trod enc Try.prog W 0 (fun _ => true) true _ 33 ((cs.drop 11).take (Try.prog.cellsOf 33)) = some y6 := t6
  rw [cells_int] at t0 t4 t5
  rw [cells_shp] at t1
  rw [cells_is] at t2
  rw [cells_cube] at t3
  rw [cells_bits] at t6
  obtain ⟨kd, e0, _, _⟩ := DataW.trod_int Try.underlying3 t0
  obtain ⟨sh, sv, sc, e1⟩ := shape_cells t1
  obtain ⟨lo, l, lc, e2, r8, hl8⟩ := open_smallZ t2 z2
  obtain ⟨h, v, c, co, cn, ck, N, e3, wc, hc⟩ := open_cubeZ t3 z3
  obtain ⟨y, e4, _, _⟩ := DataW.trod_int Try.underlying3 t4
  obtain ⟨x', e5, _, _⟩ := DataW.trod_int Try.underlying3 t5
  obtain ⟨n, bo, bn, bk, P, e6, wb, hb⟩ := open_bitsK t6 z6
  match cs, hl with
  | [a0, a1, a2, a3, a4, a5, a6, a7, a8, a9, a10, a11, a12], _ =>
    simp at e0 e1 e2 e3 e4 e5 e6
    obtain ⟨rfl, rfl, rfl⟩ := e1
    obtain ⟨rfl, rfl, rfl, rfl⟩ := e3
    obtain ⟨rfl, rfl⟩ := e6
    subst e0 e2 e4 e5
    exact ⟨kd, sh, sv, sc, lo, l.length, lc, h, v, c, co, cn, ck, y, x', n, bo, bn, bk, l, N, P, rfl, r8_rs rfl r8, wc, wb, rfl, hl8, hc, hb⟩
end
theorem open_ops {H : Type} {enc : TypeId × Value → H} {W : World} {base : Nat} {v : Value} {d : DataW H} {p : List MemPlace}
    (hv : Value.okWide Try.prog W .any base 22 v) (h : DataW.Trod enc Try.prog W 0 (fun _ => true) true 22 v d p) (hz : ∀ n ∈ d.weights Try.prog 22, n ≤ reachBytes) :
    ∃ (ao : Option Addr) (m cap : Nat), v = .slice ao m cap ∧ m ≤ 925904528626 ∧ LoK W ao m := by
  obtain ⟨a0, len, cap, rfl⟩ := okWide_slice und_opsK hv
  obtain ⟨fuel, hf⟩ := h
  rcases Deep.open_slice und_opsK hf with ⟨hc, hx⟩ | ⟨a, len', cap', mm, n, D, Pl, hc, _, hl, hm, hmm, hx, hcell⟩
  · simp [Value.cells] at hc
    obtain ⟨rfl, rfl, rfl⟩ := hc
    exact ⟨none, 0, 0, rfl, by omega, fun j hj => absurd hj (by simp)⟩
  · simp [Value.cells] at hc
    obtain ⟨rfl, rfl, rfl⟩ := hc
    simp only [if_true] at hmm
    have hmx := max_is
    have hd : d = .slice ((List.range len).map D) ((List.range (mm - len)).map fun j => D (len + j)) := congrArg Prod.fst hx
    have hsz : len ≤ 925904528626 := by
      have w1 := hz ((((List.range len).map D).length + ((List.range (mm - len)).map fun j => D (len + j)).length) * 152) (by
        rw [hd]
        simp only [DataW.weights, und_opsK, bytes_opK]
        exact List.mem_cons_self)
      rw [reach_is] at w1
      simp at w1
      omega
    obtain ⟨b, o, s⟩ := a
    refine ⟨some ⟨b, o, s⟩, len, cap, rfl, hsz, fun j hj => ?_⟩
    obtain ⟨cs1, h1, h2⟩ := hcell j (by omega)
    rw [cells_opK] at h1
    obtain ⟨_, hlen, hc1⟩ := World.cells?_some h1
    have hzj : ∀ n ∈ (D j).weights Try.prog 35, n ≤ reachBytes := fun n hn => hz n (by
      rw [hd]
      simp only [DataW.weights, und_opsK]
      refine List.mem_cons_of_mem _ (List.mem_append.mpr (Or.inl ?_))
      exact weightsAll_mem (List.mem_map.mpr ⟨j, List.mem_range.mpr hj, rfl⟩) n hn)
    obtain ⟨kd, sh, sv, sc, lo, ln, lc, h, v, c, co, cn, ck, y, x, n', bo, bn, bk, l, N, P, rfl, r1, r2, r3, q1, q2, q3, q4⟩ := open_opZ h2 hzj
    have e0 := hc1 0 (by decide)
    have e1 := hc1 1 (by decide)
    have e2 := hc1 2 (by decide)
    have e3 := hc1 3 (by decide)
    have e4 := hc1 4 (by decide)
    have e5 := hc1 5 (by decide)
    have e6 := hc1 6 (by decide)
    have e7 := hc1 7 (by decide)
    have e8 := hc1 8 (by decide)
    have e9 := hc1 9 (by decide)
    have e10 := hc1 10 (by decide)
    have e11 := hc1 11 (by decide)
    have e12 := hc1 12 (by decide)
    rw [Deep.add_add] at e0 e1 e2 e3 e4 e5 e6 e7 e8 e9 e10 e11 e12
    have hs : s = none := by
      obtain ⟨cs0, h0, _⟩ := hcell 0 (by omega)
      rw [cells_opK] at h0
      obtain ⟨_, hlen0, hc0⟩ := World.cells?_some h0
      have e2 := hc0 0 (by decide)
      rw [Deep.add_add, List.getElem?_eq_getElem (by omega)] at e2
      have := World.cell?_spot e2
      simpa [Addr.add] using this
    subst hs
    rw [add_at] at e0 e1 e2 e3 e4 e5 e6 e7 e8 e9 e10 e11 e12
    exact ⟨b, o, kd, sh, sv, sc, lo, ln, lc, h, v, c, co, cn, ck, y, x, n', bo, bn, bk, l, N, P, rfl, ⟨by simpa using e0, by simpa [Nat.add_assoc] using e1, by simpa [Nat.add_assoc] using e2, by simpa [Nat.add_assoc] using e3, by simpa [Nat.add_assoc] using e4, by simpa [Nat.add_assoc] using e5, by simpa [Nat.add_assoc] using e6, by simpa [Nat.add_assoc] using e7, by simpa [Nat.add_assoc] using e8, by simpa [Nat.add_assoc] using e9, by simpa [Nat.add_assoc] using e10, by simpa [Nat.add_assoc] using e11, by simpa [Nat.add_assoc] using e12⟩, r1, r2, r3, q1, q2, q3, q4⟩
theorem und_intsU : Try.prog.underlying 23 = some (.slice 3) := by kernel_rfl
theorem i64_of_wfU {x : Int} (h : (Lit.int .i64 x).wf = true) : -9223372036854775808 ≤ x ∧ x ≤ 9223372036854775807 := by
  simp [Lit.wf, IntKind.min, IntKind.max, IntKind.signed, IntKind.bits] at h
  exact ⟨by omega, by omega⟩
theorem open_i64U {H : Type} {enc : TypeId × Value → H} {W : World} {base : Nat} {v : Value} {d : DataW H} {p : List MemPlace}
    (hv : Value.okWide Try.prog W .any base 23 v) (h : DataW.Trod enc Try.prog W 0 (fun _ => true) true 23 v d p) :
    ∃ (ao : Option Addr) (m cap : Nat) (f : Nat → Int), v = .slice ao m cap ∧ m ≤ 9223372036854775807 ∧ (∀ k, k < m → -9223372036854775808 ≤ f k ∧ f k ≤ 9223372036854775807) ∧ Rs W ao m (fun k => .int .i64 (f k)) := by
  obtain ⟨ao, m, cap, rfl, hm, hf⟩ := open_list und_intsU cells_int (by decide) hv h
  have each : ∀ k, k < m → ∃ z : Int, (-9223372036854775808 ≤ z ∧ z ≤ 9223372036854775807) ∧ ∃ g o, ao = some ⟨g, o, none⟩ ∧ W.cell? ⟨g, o + k, none⟩ = some (.int .i64 z) := fun k hk => by
    obtain ⟨g, o, n, cs, y, rfl, ht, _, hc⟩ := hf k hk
    obtain ⟨x, rfl, _, hw⟩ := DataW.trod_int Try.underlying3 ht
    exact ⟨x, i64_of_wfU hw, g, o, rfl, by simpa using hc 0 (by decide)⟩
  obtain ⟨q, hq⟩ := Deep.choose_lt each
  exact ⟨ao, m, cap, q, rfl, hm, fun k hk => (hq k hk).1, fun k hk => (hq k hk).2⟩
end Go.Proofs.Ytfboegdibohciaa
namespace Go.Proofs.Ytfboegdibohciaa
open Go.ChangeShapes Go.WideShapes Go.ChangeAt Go.RowKit

set_option maxRecDepth 100000 in
theorem cubeScript_lifted (os : Os) (started : os.Started) (H : Type) (enc : TypeId × Value → H) :
    ReturnsInHanded {} Try.checked os 3 .any (Rows.cubeScriptSpec.pre6 enc Try.prog Try.f3 Rows.cubeScriptRow.domain false) (Rows.cubeScriptSpec.post enc Try.prog Try.f3 false true false false) := by
  refine returnsInHanded_of_change_sized (C := Try.checked) own started (by kernel_rfl) Try.func3
    (ChangeSpec.witness6 (enc := enc) (C := Try.checked) false ⟨#[], #[.slice none 0 0, .slice none 0 0], []⟩ 8 (by kernel_rfl) (by kernel_rfl) (by kernel_rfl) (by kernel_rfl)) ?_
  intro W base args ds gs before hval0 hW hcnd hsz _
  have hval : ∀ (j : Nat) t v, Try.f3.params[j]? = some t → args[j]? = some v → Value.okWide Try.prog W .any base t v := hval0
  have hW' := hW
  obtain ⟨p, q, hA0, hV, rfl, hfz, hnd⟩ := hW
  have hA : DataW.TrodAll enc Try.prog W 0 (fun _ => true) true Try.f3.params.toList args.toList ds p := hA0
  rw [Try.params3] at hA hval hsz
  obtain ⟨v0, vs0, d0, ds0, p0, q0, hargs, rfl, rfl, h0, r0⟩ := trodAll_cons hA
  obtain ⟨v1, vs1, d1, ds1, p1, q1, rfl, rfl, rfl, h1, r1⟩ := trodAll_cons r0
  obtain ⟨rfl, rfl, rfl⟩ := trodAll_nil r1
  obtain rfl : args = #[v0, v1] := by cases args; simp_all
  obtain ⟨rfl, rfl⟩ := trodVars_none hV
  have lt0 : ∀ x ∈ p0, x.block < W.heap.size := by obtain ⟨m, hm⟩ := h0; exact DataW.trod_lt m _ _ _ hm
  have k0 := h0
  have lt1 : ∀ x ∈ p1, x.block < W.heap.size := by obtain ⟨m, hm⟩ := h1; exact DataW.trod_lt m _ _ _ hm
  have k1 := h1
  obtain ⟨ao0, m0, c0, rfl, hm0, f0⟩ := open_ops (hval 0 22 v0 rfl rfl) h0 (fun n hn => by have := List.all_eq_true.1 hsz _ (DataW.weights_mem_each (j := 0) (t := 22) (d := d0) rfl rfl n hn); simpa using this)
  obtain ⟨ao1, m1, c1, g1, rfl, hm1, z1, f1⟩ := open_i64U (hval 1 23 v1 rfl rfl) h1
  clear hA0 hval0
  refine (cubeScript_any ao0 m0 c0 ao1 m1 c1 g1 W hm0 z1 f0 f1).mono fun e W' ⟨he, bel⟩ => ?_
  subst he
  exact ⟨_, rfl, _, _, _, [], _, [], hW', trodAll_mk1 (shut_bool Try.underlying4 _), (trodAll_cons_mk (Below.trod laidOut (by kernel_rfl) (of_decide_eq_true (by kernel_rfl)) k0 bel lt0) (trodAll_cons_mk (Below.trod laidOut (by kernel_rfl) (of_decide_eq_true (by kernel_rfl)) k1 bel lt1) trodAll_mk0)), rfl, bel.frame _, fun h => by cases h⟩

theorem cubeScript_holds : Rows.CubeScriptSaid :=
  OpenClaim.holds_of_wide 3 Try.f3 rfl rfl rfl rfl rfl rfl rfl ⟨rfl, rfl, rfl, rfl, rfl⟩ rfl rfl rfl rfl rfl (by kernel_rfl) Try.func3 (by kernel_rfl)
    (of_decide_eq_true (by kernel_rfl)) (by unfold Func.isWrapper; first | (rw [if_pos (by decide +kernel)]; kernel_rfl) | (rw [if_neg (by decide +kernel)]; exact ⟨rfl, rfl⟩))
    (fun os started H enc _ => cubeScript_lifted os started H enc)
#print axioms cubeScript_holds
end Go.Proofs.Ytfboegdibohciaa
