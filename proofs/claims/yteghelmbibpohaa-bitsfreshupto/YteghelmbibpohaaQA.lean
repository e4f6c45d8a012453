import Derived.Test.YteghelmbibpohaaBW38
/- Rows of two cells as own memory: what Hand.list is made of. -/
namespace Go.Proofs.Yteghelmbibpohaa
open Go.RowKit

theorem info_bits : (Try.prog.info? 27).map (fun i => (i.zero, i.size, i.bytes)) = some (some (.agg #[.int .i64 0, .slice none 0 0]), 2, 32) := by kernel_rfl
theorem und_bits : Try.prog.underlying 51 = some (.slice 27) := by kernel_rfl
theorem info_u64s : (Try.prog.info? 25).map (fun i => (i.zero, i.size, i.bytes)) = some (some (.slice none 0 0), 1, 24) := by kernel_rfl
theorem und_wordss : Try.prog.underlying 50 = some (.slice 25) := by kernel_rfl
/-- Own memory of rows: nothing, or a whole block. -/
def Or2 (w : World) (v : Value) (go : Nat) : Prop := v = .slice none 0 0 ∨ ∃ co f, v = .slice (some ⟨go, 0, none⟩) co co ∧ w.rowIs go 27 (co * 2) f ∧ co ≤ maxLen
theorem own_none2 {w : World} {T go co : Nat} {f : Nat → Value} (h : w.rowIs go T (co * 2) f) (hc : co ≤ maxLen) : w.ownsRow 0 T 2 (.slice (some ⟨go, 0, none⟩) 0 co) 0 [] := by
  obtain ⟨c, hb, hn, _⟩ := h
  exact ⟨rfl, .inr ⟨go, co, c, rfl, Nat.zero_le _, hb, Nat.zero_le _, hc, by omega, by simp⟩⟩
theorem own_row2 {w : World} {base e : Nat} {v : Value} {n : Nat} {xs : List Value} (h : w.ownsRow base e 2 v n xs) (hn : 0 < n) :
    ∃ g cap f, v = .slice (some ⟨g, 0, none⟩) n cap ∧ base ≤ g ∧ n ≤ cap ∧ cap ≤ maxLen ∧ w.rowIs g e (cap * 2) f ∧ ∀ k, k < n * 2 → xs[k]? = some (f k) := by
  rcases h.2 with ⟨_, h0⟩ | ⟨g, cap, cur, hv, hb, hg, h4, h5, h6, h7⟩
  · omega
  · refine ⟨g, cap, fun k => cur[k]?.getD undef, hv, hb, h4, h5, ⟨cur, hg, by omega, fun i hi => ?_⟩, fun k hk => ?_⟩
    · simp [Array.getElem?_eq_getElem (show i < cur.size by omega)]
    · rw [← h7, List.getElem?_take_of_lt hk]
      simp [Array.getElem?_eq_getElem (show k < cur.size by omega)]
theorem own_slice2 {w : World} {base e n : Nat} {v : Value} {xs : List Value} (h : w.ownsRow base e 2 v n xs) : ∃ ao c, v = .slice ao n c := by
  rcases h.2 with ⟨rfl, rfl⟩ | ⟨g, cap, cur, rfl, _⟩
  · exact ⟨none, 0, rfl⟩
  · exact ⟨_, _, rfl⟩
/-- The cells of a list of rows. -/
def jf (n : Nat → Int) (m : Nat → Nat) (ad : Nat → Option Addr) (cp : Nat → Nat) : Nat → Value := fun k => if k % 2 = 0 then .int .i64 (n (k / 2)) else .slice (ad (k / 2)) (m (k / 2)) (cp (k / 2))
theorem rowL_jf {n : Nat → Int} {m : Nat → Nat} {ad : Nat → Option Addr} {cp : Nat → Nat} {J : Nat} : ∀ u ∈ rowL (jf n m ad cp) J, u.oneCell' = true := by
  intro u hu
  obtain ⟨j, hj, e⟩ := List.getElem_of_mem hu
  obtain ⟨_, rfl⟩ := rowL_get (List.getElem?_eq_some_iff.2 ⟨hj, e⟩)
  unfold jf
  by_cases h : j % 2 = 0
  · rw [if_pos h]; rfl
  · rw [if_neg h]; rfl
theorem jo_cell {rel : World → Option Addr → Nat → Nat → Prop} {w : World} {J : Nat} {n : Nat → Int} {m N : Nat → Nat} {ad : Nat → Option Addr} {cp : Nat → Nat} {lo : Option Addr} (h : Jo rel w lo J n m N ad cp) {k : Nat} (hk : k < J * 2) :
    ∃ gl ol, lo = some ⟨gl, ol, none⟩ ∧ w.cell? ⟨gl, ol + k, none⟩ = some (jf n m ad cp k) := by
  obtain ⟨gl, ol, e, c, d⟩ := h.at_ (k / 2) (by omega)
  refine ⟨gl, ol, e, ?_⟩
  unfold jf
  by_cases h2 : k % 2 = 0
  · rw [if_pos h2, ← c]; congr 2; omega
  · rw [if_neg h2, ← d]; congr 2; omega
/-- 'append' of rows that lie anywhere. -/
theorem app_jo {ops : Array Oper} {rest : List Oper} {o : Oper} {a : Act} {Q : Exit → Act → World → Prop} {w : World} (hgd : o.guard = none) (s x : Operand)
    (ho : o.op = .call { callee := .builtin .append, args := #[s, x], argTypes := #[51, 51] }) (w0 : World) (go : Nat) (v : Value) (xs : List Value) (hs : a.eval s = v) (hown : w.ownsRow 0 27 2 v 0 xs) (hmv : Mv w0 go w v)
    (la : Option Addr) (J : Nat) (n : Nat → Int) (m N : Nat → Nat) (ad : Nat → Option Addr) (cp : Nat → Nat) (cl : Nat) (hx : a.eval x = .slice la J cl) (hr : Jo Ro w la J n m N ad cp) (hn : la = none → J = 0 ∧ cl = 0) (hb : J ≤ 2097152)
    (h : ∀ v' w', w'.ownsRow 0 27 2 v' J (xs ++ rowL (jf n m ad cp) (J * 2)) → Mv w0 go w' v' → wpList Try.prog ops Q rest (a.put o.dst v') w') : wpList Try.prog ops Q (o :: rest) a w := by
  obtain ⟨i0, hi, hz0, hz1, hz2⟩ := info_parts info_bits
  cases la with
  | none =>
    obtain ⟨rfl, rfl⟩ := hn rfl
    refine wpList_append_own_none hgd s x _ ho 0 27 i0 2 und_bits hi v 0 xs hs hown hx (h _ _ ?_ hmv)
    have e : xs ++ rowL (jf n m ad cp) (0 * 2) = xs := by simp [rowL]
    rw [e]
    exact hown
  | some aa =>
    refine wpList_append_own_at w hgd s x _ ho 0 27 i0 (.agg #[.int .i64 0, .slice none 0 0]) 2 32 und_bits hi hz0 hz1 hz2 rfl (by decide) v 0 xs hs hown aa J cl (rowL (jf n m ad cp) (J * 2)) hx (by simp [rowL])
      (fun j u hu => by
        obtain ⟨h1, rfl⟩ := rowL_get hu
        obtain ⟨g, o, e, c⟩ := jo_cell hr h1
        obtain rfl : aa = ⟨g, o, none⟩ := Option.some.inj e
        by_cases h0 : j = 0
        · subst h0; exact c
        · simp [Addr.add, h0, c]) rowL_jf (by unfold maxLen; omega) (by omega) (Nat.zero_le _) ?_
    intro v' w' h1 h2 _ h4
    rw [Nat.zero_add] at h1
    exact h v' w' h1 (hmv.app h2 h4)
end Go.Proofs.Yteghelmbibpohaa
/- The Hand's list of words, and what has turned. -/
namespace Go.Proofs.Yteghelmbibpohaa
open Go.RowKit

/-- Nothing old has turned but blocks of S. -/
structure BP (S : Nat → Prop) (w w' : World) : Prop where
  os : w'.os = w.os
  tape : w'.tape = w.tape
  output : w'.output = w.output
  size : w.heap.size ≤ w'.heap.size
  block : ∀ k, k < w.heap.size → ¬ S k → w'.heap[k]? = w.heap[k]?
theorem BP.refl (S : Nat → Prop) (w : World) : BP S w w := ⟨rfl, rfl, rfl, Nat.le_refl _, fun _ _ _ => rfl⟩
theorem BP.trans {S T : Nat → Prop} {a b c : World} (h : BP S a b) (k : BP T b c) (hst : ∀ x, x < a.heap.size → T x → S x) : BP S a c :=
  ⟨k.os.trans h.os, k.tape.trans h.tape, k.output.trans h.output, Nat.le_trans h.size k.size, fun i hi hn => (k.block i (Nat.lt_of_lt_of_le hi h.size) fun ht => hn (hst i hi ht)).trans (h.block i hi hn)⟩
theorem BP.but {g : Nat} {a b : World} (h : But g a b) : BP (· = g) a b := ⟨h.os, h.tape, h.output, h.size, fun k hk hn => h.block k hk hn⟩
theorem BP.bel {S : Nat → Prop} {a b : World} (h : Below a.heap.size a b) : BP S a b := ⟨h.os, h.tape, h.output, h.size, fun k hk _ => h.block k hk⟩
theorem BP.row {S : Nat → Prop} {b t n : Nat} {f : Nat → Value} {w w' : World} (h : BP S w w') (hb : ¬ S b) (hr : w.rowIs b t n f) : w'.rowIs b t n f := hr.of_block (h.block _ hr.lt hb)
theorem BP.cell {S : Nat → Prop} {b o : Nat} {v : Value} {w w' : World} (h : BP S w w') (hb : ¬ S b) (c : w.cell? ⟨b, o, none⟩ = some v) : w'.cell? ⟨b, o, none⟩ = some v :=
  (World.cell?_of_block (w := w) (w' := w') (a := ⟨b, o, none⟩) (h.block b (lt_of_cell c) hb)).trans c
theorem BP.set {S : Nat → Prop} {g o : Nat} {w w' : World} (h : BP S w w') (hg : S g ∨ w.heap.size ≤ g) (v : Value) : BP S w (w'.setCell ⟨g, o, none⟩ v) :=
  ⟨h.os, h.tape, h.output, by simpa using h.size, fun k hk hn => (Below.heap_setCell w' ⟨g, o, none⟩ v k (by
    show k ≠ g
    rintro rfl
    rcases hg with hg | hg
    · exact hn hg
    · omega)).trans (h.block k hk hn)⟩
theorem BP.alloc {S : Nat → Prop} {w w' : World} (h : BP S w w') (o : Obj) : BP S w (w'.alloc o) :=
  ⟨h.os, h.tape, h.output, by have := h.size; simp; omega, fun k hk hn => (Below.heap_alloc w' o k (Nat.lt_of_lt_of_le hk h.size)).trans (h.block k hk hn)⟩
theorem BP.drew {S : Nat → Prop} {w w' : World} (h : BP S w w') : BP S w w'.drew := ⟨h.os, h.tape, h.output, h.size, h.block⟩
theorem Ro.bp {S : Nat → Prop} {w w' : World} {ao : Option Addr} {m N : Nat} (h : Ro w ao m N) (hb : BP S w w') (hs : ∀ p, ao = some p → 0 < m → ¬ S p.block) : Ro w' ao m N :=
  ⟨h.1, fun k hk => by
    obtain ⟨g, o, e, c⟩ := h.2 k hk
    exact ⟨g, o, e, hb.cell (hs ⟨g, o, none⟩ e (by omega)) c⟩⟩
theorem Jo.bp {S : Nat → Prop} {w w' : World} {lo : Option Addr} {J : Nat} {n : Nat → Int} {m N : Nat → Nat} {ad : Nat → Option Addr} {cp : Nat → Nat} (h : Jo Ro w lo J n m N ad cp) (hb : BP S w w') (h1 : ∀ p, lo = some p → 0 < J → ¬ S p.block) (h2 : ∀ j, j < J → ∀ p, ad j = some p → 0 < m j → ¬ S p.block) : Jo Ro w' lo J n m N ad cp :=
  ⟨fun j hj => by
    obtain ⟨gl, ol, e, c, d⟩ := h.at_ j hj
    have hn := h1 ⟨gl, ol, none⟩ e (by omega)
    exact ⟨gl, ol, e, hb.cell hn c, hb.cell hn d⟩, fun j hj => (h.rd j hj).bp hb (h2 j hj)⟩
theorem own_of_row {w : World} {T g cap n : Nat} {f : Nat → Value} (h : w.rowIs g T cap f) (hn : n ≤ cap) (hc : cap ≤ maxLen) : w.ownsRow 0 T 1 (.slice (some ⟨g, 0, none⟩) n cap) n (rowL f n) := by
  obtain ⟨c, hb, hs, hf⟩ := h
  refine ⟨rowL_len _ _, .inr ⟨g, cap, c, rfl, Nat.zero_le _, hb, hn, hc, by omega, ?_⟩⟩
  rw [Nat.mul_one]
  refine List.ext_getElem? fun i => ?_
  by_cases hi : i < n
  · rw [List.getElem?_take_of_lt hi, Array.getElem?_toList, hf i (by omega)]
    simp [rowL, hi]
  · rw [List.getElem?_eq_none (by simp; omega), List.getElem?_eq_none (by simp [rowL]; omega)]
/-- The list of words: nothing, or a row of slices. -/
def Wv (w : World) (vw : Value) (gw lw : Nat) (el : Nat → Value) : Prop :=
  (vw = .slice none 0 0 ∧ lw = 0) ∨ ∃ cw f, vw = .slice (some ⟨gw, 0, none⟩) lw cw ∧ lw ≤ cw ∧ cw ≤ maxLen ∧ w.rowIs gw 25 cw f ∧ ∀ j, j < lw → f j = el j
def wsf (gi ci : Nat → Nat) : Nat → Value := fun j => .slice (some ⟨gi j, 0, none⟩) (ci j) (ci j)
/-- The words of the Hand: slices of whole blocks, no two the same. -/
structure Wd (w : World) (vw : Value) (gw lw : Nat) (gi ci : Nat → Nat) (ff : Nat → Nat → Value) : Prop where
  val : Wv w vw gw lw (wsf gi ci)
  row : ∀ j, j < lw → w.rowIs (gi j) 35 (ci j) (ff j)
  max : ∀ j, j < lw → ci j ≤ maxLen
  inj : ∀ j k, j < lw → k < lw → gi j = gi k → j = k
/-- The same, while the slice at i is looked at. -/
structure Wo (w : World) (vw : Value) (gw lw : Nat) (gi ci : Nat → Nat) (ff : Nat → Nat → Value) (i : Nat) (v : Value) : Prop where
  lt : i < lw
  val : Wv w vw gw lw (fun j => if j = i then v else wsf gi ci j)
  row : ∀ j, j < lw → j ≠ i → w.rowIs (gi j) 35 (ci j) (ff j)
  max : ∀ j, j < lw → j ≠ i → ci j ≤ maxLen
  inj : ∀ j k, j < lw → k < lw → gi j = gi k → j = k
  om : Om w 35 v (gi i)
theorem Wd.open {w : World} {vw : Value} {gw lw : Nat} {gi ci : Nat → Nat} {ff : Nat → Nat → Value} (h : Wd w vw gw lw gi ci ff) {i : Nat} (hi : i < lw) : Wo w vw gw lw gi ci ff i (wsf gi ci i) :=
  ⟨hi, by
    rcases h.val with ⟨_, h0⟩ | ⟨cw, f, e, h1, h2, h3, h4⟩
    · omega
    · refine .inr ⟨cw, f, e, h1, h2, h3, fun j hj => ?_⟩
      by_cases hji : j = i
      · subst hji; simpa using h4 j hj
      · simpa [hji] using h4 j hj,
   fun j hj _ => h.row j hj, fun j hj _ => h.max j hj, h.inj, .inr ⟨_, _, rfl, h.row i hi, h.max i hi⟩⟩
def upd {α : Type} (f : Nat → α) (i : Nat) (x : α) : Nat → α := fun j => if j = i then x else f j
theorem upd_same {α : Type} (f : Nat → α) (i : Nat) (x : α) : upd f i x i = x := by simp [upd]
theorem upd_other {α : Type} (f : Nat → α) (i : Nat) (x : α) {j : Nat} (h : j ≠ i) : upd f i x j = f j := by simp [upd, h]
/-- The slice is laid back, behind 'filled'. -/
theorem Wo.shut {w w1 : World} {vw : Value} {gw lw i g c : Nat} {gi ci : Nat → Nat} {ff : Nat → Nat → Value} {v : Value} {F : Nat → Value} (h : Wo w vw gw lw gi ci ff i v) (hb : But (gi i) w w1) (hg : g = gi i ∨ w.heap.size ≤ g) (hgw : gw ≠ gi i) (hr : w1.rowIs g 35 c F) (hc : c ≤ maxLen) :
    Wd (w1.setCell ⟨gw, i, none⟩ (.slice (some ⟨g, 0, none⟩) c c)) vw gw lw (upd gi i g) (upd ci i c) (upd ff i F) := by
  rcases h.val with ⟨_, h0⟩ | ⟨cw, f, e, h1, h2, h3, h4⟩
  · have := h.lt; omega
  have r1 := hb.row hgw h3
  have hgg : ∀ j, j < lw → j ≠ i → gi j ≠ g := fun j hj hn he => by
    rcases hg with e1 | e1
    · exact hn (h.inj j i hj h.lt (he.trans e1))
    · have := (h.row j hj hn).lt; omega
  refine ⟨.inr ⟨cw, _, e, h1, h2, r1.set i _, fun j hj => ?_⟩, fun j hj => ?_, fun j hj => ?_, fun j k hj hk he => ?_⟩
  · by_cases hji : j = i
    · subst hji; simp [wsf, upd]
    · have h5 := h4 j hj
      simp only [if_neg hji] at h5
      simp [hji, wsf, upd, h5]
  · by_cases hji : j = i
    · subst hji
      rw [upd_same, upd_same, upd_same]
      exact hr.setOther (a := ⟨gw, j, none⟩) (row_ne hr r1 (by decide)) _
    · rw [upd_other _ _ _ hji, upd_other _ _ _ hji, upd_other _ _ _ hji]
      have r2 := hb.row (fun he => hji (h.inj j i hj h.lt he)) (h.row j hj hji)
      exact r2.setOther (a := ⟨gw, i, none⟩) (row_ne r2 r1 (by decide)) _
  · by_cases hji : j = i
    · subst hji; rw [upd_same]; exact hc
    · rw [upd_other _ _ _ hji]; exact h.max j hj hji
  · by_cases hji : j = i <;> by_cases hki : k = i
    · omega
    · subst hji
      rw [upd_same, upd_other _ _ _ hki] at he
      exact absurd he.symm (hgg k hk hki)
    · subst hki
      rw [upd_same, upd_other _ _ _ hji] at he
      exact absurd he (hgg j hj hji)
    · rw [upd_other _ _ _ hji, upd_other _ _ _ hki] at he
      exact h.inj j k hj hk he
end Go.Proofs.Yteghelmbibpohaa
/- Hand.list. -/
namespace Go.Proofs.Yteghelmbibpohaa
open Go.RowKit

theorem Wv.own {w : World} {vw : Value} {gw lw : Nat} {el : Nat → Value} (h : Wv w vw gw lw el) : w.ownsRow 0 25 1 vw lw (rowL el lw) ∧ Mv w gw w vw := by
  rcases h with ⟨rfl, rfl⟩ | ⟨cw, f, rfl, h1, h2, h3, h4⟩
  · exact ⟨World.ownsRow_nil _ _ _ _, But.refl _ _, .inl rfl⟩
  · refine ⟨?_, But.refl _ _, .inr (.inl rfl)⟩
    have e : rowL el lw = rowL f lw := List.map_congr_left fun j hj => (h4 j (by simpa using hj)).symm
    rw [e]
    exact own_of_row h3 h1 h2
/-- 'append' of an empty slice to the list of words. -/
theorem app_nilw {ops : Array Oper} {rest : List Oper} {o : Oper} {a : Act} {Q : Exit → Act → World → Prop} {w : World} (hgd : o.guard = none) (s x : Operand)
    (ho : o.op = .call { callee := .builtin .append, args := #[s, x], argTypes := #[50, 50] }) (w0 : World) (vw : Value) (gw lw : Nat) (el : Nat → Value) (hs : a.eval s = vw) (hv : Wv w0 vw gw lw el) (ow : Obj) (hw : w = w0.alloc ow) (xo : Addr) (hx : a.eval x = .slice (some xo) 1 1) (hc : w.cell? xo = some (.slice none 0 0)) (hlw : lw ≤ 2097152)
    (h : ∀ vw' gw' w', Wv w' vw' gw' (lw + 1) (fun j => if j = lw then .slice none 0 0 else el j) → But gw w0 w' → (gw' = gw ∨ w0.heap.size ≤ gw') → wpList Try.prog ops Q rest (a.put o.dst vw') w') : wpList Try.prog ops Q (o :: rest) a w := by
  subst hw
  obtain ⟨i0, hi, hz0, hz1, hz2⟩ := info_parts info_u64s
  obtain ⟨hown, hmv⟩ := hv.own
  refine wpList_append_own_at _ hgd s x _ ho 0 25 i0 (.slice none 0 0) 1 24 und_wordss hi hz0 hz1 hz2 rfl (by decide) vw lw _ hs (hown.alloc _) xo 1 1 [.slice none 0 0] hx rfl
    (fun j u hu => by
      rcases j with _ | j
      · simp at hu; subst hu; exact hc
      · simp at hu) (fun x hx => by simp at hx; subst hx; rfl) (by unfold maxLen; omega) (by omega) (Nat.zero_le _) ?_
  intro v' w' h1 h2 _ h4
  have hm := (hmv.alloc ow).app h2 h4
  obtain ⟨g, cap, f, rfl, _, hle, hmax, hrow, hf⟩ := own_row h1 (by omega)
  refine h _ g w' (.inr ⟨cap, f, rfl, hle, hmax, hrow, fun j hj => ?_⟩) hm.but ?_
  · have h5 := hf j hj
    by_cases hjl : j = lw
    · subst hjl
      rw [List.getElem?_append_right (by simp [rowL])] at h5
      simpa [rowL] using h5.symm
    · rw [List.getElem?_append_left (by simp [rowL]; omega)] at h5
      obtain ⟨_, h6⟩ := rowL_get h5
      simp [hjl, h6]
  · rcases hm.at_ with h | h | ⟨b, h, hb⟩
    · simp [Value.ownBlock] at h
    · simp [Value.ownBlock] at h; exact .inl h
    · simp [Value.ownBlock] at h; subst h; exact .inr hb
theorem Wv.but {w w' : World} {vw : Value} {gw lw g : Nat} {el : Nat → Value} (h : Wv w vw gw lw el) (hb : But g w w') (hne : gw ≠ g) : Wv w' vw gw lw el := by
  rcases h with h | ⟨cw, f, e, h1, h2, h3, h4⟩
  · exact .inl h
  · exact .inr ⟨cw, f, e, h1, h2, hb.row hne h3, h4⟩
/-- A block of none of the words' own. -/
theorem Wd.keep {w w' : World} {vw : Value} {gw lw g : Nat} {gi ci : Nat → Nat} {ff : Nat → Nat → Value} (h : Wd w vw gw lw gi ci ff) (hb : But g w w') (h1 : gw ≠ g) (h2 : ∀ j, j < lw → gi j ≠ g) : Wd w' vw gw lw gi ci ff :=
  ⟨h.val.but hb h1, fun j hj => hb.row (h2 j hj) (h.row j hj), h.max, h.inj⟩
/-- The rows as Hand.list lays them. -/
def lsf (n : Nat → Int) (m : Nat → Nat) (J : Nat) (gi ci : Nat → Nat) : Nat → Value := fun p =>
  if p / 2 < J then (if p % 2 = 0 then .int .i64 (n (p / 2)) else .slice (some ⟨gi (p / 2), 0, none⟩) (m (p / 2)) (ci (p / 2))) else (if p % 2 = 0 then .int .i64 (-77) else .slice none 0 0)
def lsk (n : Nat → Int) (m : Nat → Nat) (J : Nat) (gi ci : Nat → Nat) (f : Nat → Value) (k : Nat) : Nat → Value := fun p => if p / 2 < k then lsf n m J gi ci p else f p
/-- A row behind the last. -/
theorem lsk_mark {w : World} {g c J k : Nat} {n : Nat → Int} {m : Nat → Nat} {gi ci : Nat → Nat} {f : Nat → Value} (h : w.rowIs g 27 (c * 2) (lsk n m J gi ci f k)) (hk : J ≤ k) :
    ((w.setCell ⟨g, k * 2, none⟩ (.int .i64 (-77))).setCell ⟨g, k * 2 + 1, none⟩ (.slice none 0 0)).rowIs g 27 (c * 2) (lsk n m J gi ci f (k + 1)) :=
  ((h.set (k * 2) _).set (k * 2 + 1) _).congr fun p hp => by
    by_cases h1 : p = k * 2 + 1
    · rw [if_pos h1]; subst h1
      unfold lsk lsf
      rw [if_pos (by omega), if_neg (by omega), if_neg (by omega)]
    · rw [if_neg h1]
      by_cases h2 : p = k * 2
      · rw [if_pos h2]; subst h2
        unfold lsk lsf
        rw [if_pos (by omega), if_neg (by omega), if_pos (by omega)]
      · rw [if_neg h2]
        unfold lsk
        by_cases h3 : p / 2 < k
        · rw [if_pos h3, if_pos (by omega)]
        · rw [if_neg h3, if_neg (by omega)]
/-- A row of the list: its words lie in the Hand. -/
theorem lsk_row {w : World} {g c J k : Nat} {n : Nat → Int} {m : Nat → Nat} {gi ci : Nat → Nat} {f : Nat → Value} (h : w.rowIs g 27 (c * 2) (lsk n m J gi ci f k)) (hk : k < J) (hf : f (k * 2) = .int .i64 (n k)) :
    (w.setCell ⟨g, k * 2 + 1, none⟩ (.slice (some ⟨gi k, 0, none⟩) (m k) (ci k))).rowIs g 27 (c * 2) (lsk n m J gi ci f (k + 1)) :=
  (h.set (k * 2 + 1) _).congr fun p hp => by
    by_cases h1 : p = k * 2 + 1
    · rw [if_pos h1]; subst h1
      unfold lsk lsf
      have e : (k * 2 + 1) / 2 = k := by omega
      rw [if_pos (by omega), if_pos (by omega), if_neg (by omega), e]
    · rw [if_neg h1]
      by_cases h2 : p = k * 2
      · subst h2
        unfold lsk lsf
        have e : k * 2 / 2 = k := by omega
        rw [if_neg (by omega), if_pos (by omega), if_pos (by omega), if_pos (by omega), e, hf]
      · unfold lsk
        by_cases h3 : p / 2 < k
        · rw [if_pos h3, if_pos (by omega)]
        · rw [if_neg h3, if_neg (by omega)]
theorem lsk_upd {J k : Nat} {n : Nat → Int} {m : Nat → Nat} {gi ci : Nat → Nat} {f : Nat → Value} (x y p : Nat) : lsk n m J (upd gi k x) (upd ci k y) f k p = lsk n m J gi ci f k p := by
  unfold lsk
  by_cases h : p / 2 < k
  · rw [if_pos h, if_pos h]
    unfold lsf
    rw [upd_other _ _ _ (by omega), upd_other _ _ _ (by omega)]
  · rw [if_neg h, if_neg h]
theorem lsk_updg {J k : Nat} {n : Nat → Int} {m : Nat → Nat} {gi ci : Nat → Nat} {f : Nat → Value} (x p : Nat) : lsk n m J (upd gi k x) ci f k p = lsk n m J gi ci f k p := by
  unfold lsk
  by_cases h : p / 2 < k
  · rw [if_pos h, if_pos h]
    unfold lsf
    rw [upd_other _ _ _ (by omega)]
  · rw [if_neg h, if_neg h]
theorem Wv.congr {w : World} {vw : Value} {gw lw : Nat} {el el' : Nat → Value} (h : Wv w vw gw lw el) (he : ∀ j, j < lw → el j = el' j) : Wv w vw gw lw el' := by
  rcases h with h | ⟨cw, f, e, h1, h2, h3, h4⟩
  · exact .inl h
  · exact .inr ⟨cw, f, e, h1, h2, h3, fun j hj => (h4 j hj).trans (he j hj)⟩
/-- The words with an empty slice behind them. -/
theorem Wd.grow {w w1 : World} {vw vw' : Value} {gw gw' lw : Nat} {gi ci : Nat → Nat} {ff : Nat → Nat → Value} (h : Wd w vw gw lw gi ci ff) (hv : Wv w1 vw' gw' (lw + 1) (fun j => if j = lw then .slice none 0 0 else wsf gi ci j)) (hb : But gw w w1) :
    Wo w1 vw' gw' (lw + 1) (upd gi lw w1.heap.size) ci ff lw (.slice none 0 0) := by
  have hlt : ∀ j, j < lw → gi j < w1.heap.size := fun j hj => Nat.lt_of_lt_of_le (h.row j hj).lt hb.size
  refine ⟨by omega, hv.congr fun j hj => ?_, fun j hj hn => ?_, fun j hj hn => h.max j (by omega), fun j k hj hk he => ?_, .inl rfl⟩
  · by_cases e : j = lw
    · simp [e]
    · simp [e, wsf, upd]
  · rw [upd_other _ _ _ hn]
    have hj' : j < lw := by omega
    rcases h.val with ⟨_, h0⟩ | ⟨cw, f, e, h1, h2, h3, h4⟩
    · omega
    · exact hb.row (row_ne (h.row j hj') h3 (by decide)) (h.row j hj')
  · by_cases hji : j = lw <;> by_cases hki : k = lw
    · omega
    · subst hji
      rw [upd_same, upd_other _ _ _ hki] at he
      have := hlt k (by omega); omega
    · subst hki
      rw [upd_same, upd_other _ _ _ hji] at he
      have := hlt j (by omega); omega
    · rw [upd_other _ _ _ hji, upd_other _ _ _ hki] at he
      exact h.inj j k (by omega) (by omega) he
theorem Wo.setH {w : World} {vw v : Value} {gw lw i hb o T c : Nat} {gi ci : Nat → Nat} {ff : Nat → Nat → Value} {F : Nat → Value} (h : Wo w vw gw lw gi ci ff i v) (hr : w.rowIs hb T c F) (h1 : T ≠ 35) (h2 : T ≠ 25) (x : Value) : Wo (w.setCell ⟨hb, o, none⟩ x) vw gw lw gi ci ff i v :=
  ⟨h.lt, by
    rcases h.val with h | ⟨cw, f, e, k1, k2, k3, k4⟩
    · exact .inl h
    · exact .inr ⟨cw, f, e, k1, k2, k3.setOther (a := ⟨hb, o, none⟩) (row_ne k3 hr (Ne.symm h2)) x, k4⟩,
   fun j hj hn => (h.row j hj hn).setOther (a := ⟨hb, o, none⟩) (row_ne (h.row j hj hn) hr (Ne.symm h1)) x, h.max, h.inj, by
    rcases h.om with h | ⟨co, f, e, k1, k2⟩
    · exact .inl h
    · exact .inr ⟨co, f, e, k1.setOther (a := ⟨hb, o, none⟩) (row_ne k1 hr (Ne.symm h1)) x, k2⟩⟩
theorem Wd.setH {w : World} {vw : Value} {gw lw hb o T c : Nat} {gi ci : Nat → Nat} {ff : Nat → Nat → Value} {F : Nat → Value} (h : Wd w vw gw lw gi ci ff) (hr : w.rowIs hb T c F) (h1 : T ≠ 35) (h2 : T ≠ 25) (x : Value) : Wd (w.setCell ⟨hb, o, none⟩ x) vw gw lw gi ci ff :=
  ⟨by
    rcases h.val with h | ⟨cw, f, e, k1, k2, k3, k4⟩
    · exact .inl h
    · exact .inr ⟨cw, f, e, k1, k2, k3.setOther (a := ⟨hb, o, none⟩) (row_ne k3 hr (Ne.symm h2)) x, k4⟩,
   fun j hj => (h.row j hj).setOther (a := ⟨hb, o, none⟩) (row_ne (h.row j hj) hr (Ne.symm h1)) x, h.max, h.inj⟩
end Go.Proofs.Yteghelmbibpohaa
/- Hand.list: its memory, row by row. -/
namespace Go.Proofs.Yteghelmbibpohaa
open Go.RowKit

theorem Hd.set3 {w : World} {hb : Nat} {va vb vs vw vr : Value} (h : Hd w hb va vb vs vw vr) (x : Value) : Hd (w.setCell ⟨hb, 3, none⟩ x) hb va vb vs x vr :=
  (h.set 3 x).congr fun j hj => by
    rcases (show j = 0 ∨ j = 1 ∨ j = 2 ∨ j = 3 ∨ j = 4 by omega) with rfl | rfl | rfl | rfl | rfl <;> rfl
theorem Hd.set4 {w : World} {hb : Nat} {va vb vs vw vr : Value} (h : Hd w hb va vb vs vw vr) (x : Value) : Hd (w.setCell ⟨hb, 4, none⟩ x) hb va vb vs vw x :=
  (h.set 4 x).congr fun j hj => by
    rcases (show j = 0 ∨ j = 1 ∨ j = 2 ∨ j = 3 ∨ j = 4 by omega) with rfl | rfl | rfl | rfl | rfl <;> rfl
/-- The blocks of the Hand that list may write. -/
def Lb (hb gw gr lw : Nat) (gi : Nat → Nat) : Nat → Prop := fun b => b = hb ∨ b = gw ∨ b = gr ∨ ∃ j, j < lw ∧ b = gi j
/-- list's memory ahead of row k. -/
structure Ls (w wr : World) (S : Nat → Prop) (hb g c J : Nat) (n : Nat → Int) (m N : Nat → Nat) (f2 : Nat → Value) (va vb vs vr : Value) (k : Nat) (vw : Value) (gw lw : Nat) (gi ci : Nat → Nat) (ff : Nat → Nat → Value) : Prop where
  x : wr.rowIs g 27 (c * 2) (lsk n m J gi ci f2 k)
  h : Hd wr hb va vb vs vw vr
  d : Wd wr vw gw lw gi ci ff
  kl : k ≤ lw ∨ J ≤ lw
  ll : lw ≤ 1048576
  dn : ∀ j, j < k → j < J → ff j = fwf (N j) (m j) ∧ m j + 2 ≤ ci j
  gs : (S g ∨ w.heap.size ≤ g) ∧ (S gw ∨ w.heap.size ≤ gw) ∧ ∀ j, j < lw → S (gi j) ∨ w.heap.size ≤ gi j
  nw : gw ≠ hb ∧ gw ≠ g
  bp : BP S w wr
/-- The same, while the words at k are looked at. -/
structure Lo (w wr : World) (S : Nat → Prop) (hb g c J : Nat) (n : Nat → Int) (m N : Nat → Nat) (f2 : Nat → Value) (va vb vs vr : Value) (k : Nat) (vw : Value) (gw lw : Nat) (gi ci : Nat → Nat) (ff : Nat → Nat → Value) (v : Value) : Prop where
  x : wr.rowIs g 27 (c * 2) (lsk n m J gi ci f2 k)
  h : Hd wr hb va vb vs vw vr
  o : Wo wr vw gw lw gi ci ff k v
  ll : lw ≤ 1048576
  dn : ∀ j, j < k → j < J → ff j = fwf (N j) (m j) ∧ m j + 2 ≤ ci j
  gs : (S g ∨ w.heap.size ≤ g) ∧ (S gw ∨ w.heap.size ≤ gw) ∧ ∀ j, j < lw → S (gi j) ∨ w.heap.size ≤ gi j
  nw : gw ≠ hb ∧ gw ≠ g
  ng : gw ≠ gi k
  ni : gi k ≠ hb ∧ gi k ≠ g
  bp : BP S w wr
/-- The same, the words of row k filled. -/
structure Lm (w wr : World) (S : Nat → Prop) (hb g c J : Nat) (n : Nat → Int) (m N : Nat → Nat) (f2 : Nat → Value) (va vb vs vr : Value) (k gw lw cw : Nat) (gi ci : Nat → Nat) (ff : Nat → Nat → Value) : Prop where
  x : wr.rowIs g 27 (c * 2) (lsk n m J gi ci f2 k)
  h : Hd wr hb va vb vs (.slice (some ⟨gw, 0, none⟩) lw cw) vr
  d : Wd wr (.slice (some ⟨gw, 0, none⟩) lw cw) gw lw gi ci ff
  kl : k < lw
  ll : lw ≤ 1048576
  dn : ∀ j, j < k + 1 → j < J → ff j = fwf (N j) (m j) ∧ m j + 2 ≤ ci j
  gs : (S g ∨ w.heap.size ≤ g) ∧ (S gw ∨ w.heap.size ≤ gw) ∧ ∀ j, j < lw → S (gi j) ∨ w.heap.size ≤ gi j
  nw : gw ≠ hb ∧ gw ≠ g
  bp : BP S w wr
theorem Ls.drew {w wr : World} {S : Nat → Prop} {hb g c J k gw lw : Nat} {n : Nat → Int} {m N : Nat → Nat} {f2 : Nat → Value} {va vb vs vr vw : Value} {gi ci : Nat → Nat} {ff : Nat → Nat → Value} (h : Ls w wr S hb g c J n m N f2 va vb vs vr k vw gw lw gi ci ff) : Ls w wr.drew S hb g c J n m N f2 va vb vs vr k vw gw lw gi ci ff :=
  ⟨h.x.drew, h.h.drew, ⟨h.d.val, h.d.row, h.d.max, h.d.inj⟩, h.kl, h.ll, h.dn, h.gs, h.nw, h.bp.drew⟩
theorem Lo.fill {w wr w1 : World} {S : Nat → Prop} {hb g c J k gw lw cw g' c' : Nat} {n : Nat → Int} {m N : Nat → Nat} {f2 : Nat → Value} {va vb vs vr v : Value} {gi ci : Nat → Nat} {ff : Nat → Nat → Value}
    (h : Lo w wr S hb g c J n m N f2 va vb vs vr k (.slice (some ⟨gw, 0, none⟩) lw cw) gw lw gi ci ff v) (hb1 : But (gi k) wr w1) (hg : g' = gi k ∨ wr.heap.size ≤ g') (hr : w1.rowIs g' 35 c' (fwf (N k) (m k))) (hle : m k + 2 ≤ c') (hmax : c' ≤ maxLen) :
    Lm w (w1.setCell ⟨gw, k, none⟩ (.slice (some ⟨g', 0, none⟩) c' c')) S hb g c J n m N f2 va vb vs vr k gw lw cw (upd gi k g') (upd ci k c') (upd ff k (fwf (N k) (m k))) := by
  have hz := h.bp.size
  refine ⟨((hb1.row h.ni.2.symm h.x).setOther (a := ⟨gw, k, none⟩) h.nw.2.symm _).congr fun p _ => (lsk_upd _ _ _).symm, (hb1.row h.ni.1.symm h.h).setOther (a := ⟨gw, k, none⟩) h.nw.1.symm _, h.o.shut hb1 hg h.ng hr hmax, h.o.lt, h.ll, fun j hj hjJ => ?_, ⟨h.gs.1, h.gs.2.1, fun j hj => ?_⟩, h.nw, (h.bp.trans (BP.but hb1) fun x hx e => ?_).set h.gs.2.1 _⟩
  · by_cases e : j = k
    · subst e; rw [upd_same, upd_same]; exact ⟨rfl, hle⟩
    · rw [upd_other _ _ _ e, upd_other _ _ _ e]; exact h.dn j (by omega) hjJ
  · by_cases e : j = k
    · subst e; rw [upd_same]
      rcases hg with rfl | h1
      · exact h.gs.2.2 j hj
      · exact .inr (by omega)
    · rw [upd_other _ _ _ e]; exact h.gs.2.2 j hj
  · rw [e]
    rcases h.gs.2.2 k h.o.lt with h1 | h1
    · exact h1
    · omega
end Go.Proofs.Yteghelmbibpohaa
