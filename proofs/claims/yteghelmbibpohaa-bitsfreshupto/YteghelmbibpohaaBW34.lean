/- The law's Hand: numbers. -/
import Derived.Test.YteghelmbibpohaaBW33
namespace Go.Proofs.Yteghelmbibpohaa
open Go.RowKit

/-- Nothing old has turned but these blocks. -/
structure BS (s : List Nat) (w w' : World) : Prop where
  os : w'.os = w.os
  tape : w'.tape = w.tape
  output : w'.output = w.output
  size : w.heap.size ≤ w'.heap.size
  block : ∀ k, k < w.heap.size → k ∉ s → w'.heap[k]? = w.heap[k]?
theorem BS.refl (s : List Nat) (w : World) : BS s w w := ⟨rfl, rfl, rfl, Nat.le_refl _, fun _ _ _ => rfl⟩
theorem BS.trans {s : List Nat} {a b c : World} (h : BS s a b) (k : BS s b c) : BS s a c :=
  ⟨k.os.trans h.os, k.tape.trans h.tape, k.output.trans h.output, Nat.le_trans h.size k.size, fun i hi hn => (k.block i (Nat.lt_of_lt_of_le hi h.size) hn).trans (h.block i hi hn)⟩
theorem BS.mono {s t : List Nat} {a b : World} (h : BS s a b) (hs : ∀ x ∈ s, x ∈ t) : BS t a b := ⟨h.os, h.tape, h.output, h.size, fun k hk hn => h.block k hk fun hx => hn (hs k hx)⟩
theorem BS.but {g : Nat} {a b : World} (h : But g a b) : BS [g] a b := ⟨h.os, h.tape, h.output, h.size, fun k hk hn => h.block k hk (by simpa using hn)⟩
theorem BS.bel {s : List Nat} {a b : World} (h : Below a.heap.size a b) : BS s a b := ⟨h.os, h.tape, h.output, h.size, fun k hk _ => h.block k hk⟩
theorem BS.row {s : List Nat} {b t n : Nat} {f : Nat → Value} {w w' : World} (h : BS s w w') (hb : b ∉ s) (hr : w.rowIs b t n f) : w'.rowIs b t n f := hr.of_block (h.block _ hr.lt hb)
theorem BS.cell {s : List Nat} {b o : Nat} {v : Value} {w w' : World} (h : BS s w w') (hb : b ∉ s) (c : w.cell? ⟨b, o, none⟩ = some v) : w'.cell? ⟨b, o, none⟩ = some v :=
  (World.cell?_of_block (w := w) (w' := w') (a := ⟨b, o, none⟩) (h.block b (lt_of_cell c) hb)).trans c
theorem BS.set {s : List Nat} {g o : Nat} {w w' : World} (h : BS s w w') (hg : g ∈ s ∨ w.heap.size ≤ g) (v : Value) : BS s w (w'.setCell ⟨g, o, none⟩ v) :=
  ⟨h.os, h.tape, h.output, by simpa using h.size, fun k hk hn => (Below.heap_setCell w' ⟨g, o, none⟩ v k (by
    show k ≠ g
    rintro rfl
    rcases hg with hg | hg
    · exact hn hg
    · omega)).trans (h.block k hk hn)⟩
theorem BS.alloc {s : List Nat} {w w' : World} (h : BS s w w') (o : Obj) : BS s w (w'.alloc o) :=
  ⟨h.os, h.tape, h.output, by have := h.size; simp; omega, fun k hk hn => (Below.heap_alloc w' o k (Nat.lt_of_lt_of_le hk h.size)).trans (h.block k hk hn)⟩
/-- The five fields of the Hand. -/
def hsf (va vb vs vw vr : Value) : Nat → Value := fun k => if k = 0 then va else if k = 1 then vb else if k = 2 then vs else if k = 3 then vw else vr
abbrev Hd (w : World) (hb : Nat) (va vb vs vw vr : Value) : Prop := w.rowIs hb 53 5 (hsf va vb vs vw vr)
theorem Hd.set2 {w : World} {hb : Nat} {va vb vs vw vr : Value} (h : Hd w hb va vb vs vw vr) (x : Value) : Hd (w.setCell ⟨hb, 2, none⟩ x) hb va vb x vw vr :=
  (h.set 2 x).congr fun j hj => by
    rcases (show j = 0 ∨ j = 1 ∨ j = 2 ∨ j = 3 ∨ j = 4 by omega) with rfl | rfl | rfl | rfl | rfl <;> rfl
/-- The mark of small numbers. -/
def mk8 (i : Nat) : Int := 81 + (i : Int) % 40
def nmf (l : List Int) : Nat → Value := fun k => if k < l.length then .int .i8 (ia l k) else .int .i8 (mk8 k)
def hg8 (l : List Int) (f : Nat → Value) (k : Nat) : Nat → Value := fun j => if j < l.length then .int .i8 (ia l j) else if j < k then .int .i8 (mk8 j) else f j
/-- 'append' of small numbers that lie anywhere. -/
theorem app_r8 {ops : Array Oper} {rest : List Oper} {o : Oper} {a : Act} {Q : Exit → Act → World → Prop} {w : World} (hgd : o.guard = none) (s x : Operand)
    (ho : o.op = .call { callee := .builtin .append, args := #[s, x], argTypes := #[23, 23] }) (w0 : World) (go : Nat) (v : Value) (n : Nat) (xs : List Value) (hs : a.eval s = v) (hown : w.ownsRow 0 24 1 v n xs) (hmv : Mv w0 go w v)
    (la : Option Addr) (l : List Int) (m cl : Nat) (hml : l.length = m) (hx : a.eval x = .slice la m cl) (hr : R8 w la l) (hn : la = none → m = 0 ∧ cl = 0) (hb : n + m ≤ 33554432)
    (h : ∀ v' w', w'.ownsRow 0 24 1 v' (n + m) (xs ++ i8s l) → Mv w0 go w' v' → wpList Try.prog ops Q rest (a.put o.dst v') w') : wpList Try.prog ops Q (o :: rest) a w := by
  obtain ⟨i0, hi, hz0, hz1, hz2⟩ := info_parts info_i8
  cases la with
  | none =>
    obtain ⟨rfl, rfl⟩ := hn rfl
    refine wpList_append_own_none hgd s x _ ho 0 24 i0 1 und_i8s hi v n xs hs hown hx (h _ _ ?_ hmv)
    have e : l = [] := List.eq_nil_of_length_eq_zero hml
    subst e
    simpa [i8s] using hown
  | some ad =>
    refine wpList_append_own_at w hgd s x _ ho 0 24 i0 (.int .i8 0) 1 1 und_i8s hi hz0 hz1 hz2 rfl (by decide) v n xs hs hown ad m cl (i8s l) hx (by rw [← hml]; exact i8s_len l)
      (fun j u hu => by obtain ⟨h1, rfl⟩ := i8s_get hu; exact r8_add hr h1) i8s_one (by unfold maxLen; omega) (by omega) (Nat.zero_le _) ?_
    intro v' w' h1 h2 _ h4
    exact h v' w' h1 (hmv.app h2 h4)
set_option maxHeartbeats 3200000 in
set_option maxRecDepth 100000 in
theorem numbers_any (hb gs : Nat) (va vb vs vw vr : Value) (la : Option Addr) (l : List Int) (m cl : Nat) (hml : l.length = m) (w : World) (hm : m ≤ 1048576) (hh : Hd w hb va vb vs vw vr) (hov : Om w 24 vs gs) (hl : R8 w la l) (hn : la = none → m = 0 ∧ cl = 0)
    (hne : ∀ b o, la = some ⟨b, o, none⟩ → 0 < m → b ≠ hb) (hgh : hb ≠ gs) :
    Calls Try.prog 41 #[.pointer (some ⟨hb, 0, none⟩), .slice la m cl] w fun e w' => ∃ g c, e = .returned (.slice (some ⟨g, 0, none⟩) m c) ∧ m + 2 ≤ c ∧ c ≤ maxLen ∧ (g = gs ∨ w.heap.size ≤ g) ∧ w'.rowIs g 24 c (nmf l) ∧ Hd w' hb va vb (.slice (some ⟨g, 0, none⟩) c c) vw vr ∧ BS [gs, hb] w w' := by
  obtain ⟨i0, hi, hz0, hz1, hz2⟩ := info_parts info_i8
  have HR := hid1 hl
  have HN := hid1 hn
  have HO := hid1 hov
  have HML := hid1 hml
  have HNE := hid1 hne
  have HH := hid1 hh
  have im0 : (0 : Int) ≤ (m : Int) := by omega
  have im1 : (m : Int) ≤ 1048576 := by omega
  obtain ⟨oo, lo, co, rfl⟩ : ∃ oo lo co, vs = .slice oo lo co := by
    rcases hov with h | ⟨co, f, h, _⟩
    · exact ⟨_, _, _, h⟩
    · exact ⟨_, _, _, h⟩
  have ch : w.cell? ⟨hb, 2, none⟩ = some (.slice oo lo co) := hh.cell (by omega)
  have fh := hh.frozen 2
  clear hl hn hov hml hne hh
  go_enter Try.func41, Try.ntmps41
  go_upto_if 17 with fail
  go_cut [] (fun wx => BS [hb] w wx ∧ ∃ vx, Hd wx hb va vb vx vw vr ∧ Om wx 24 vx gs)
  case first =>
    rcases HO.out with h | ⟨co', f, h, hrow, hc⟩
    · injection h with e1 e2 e3
      subst e1 e2 e3
      go_wp2_with fail
      go_meet
      exact ⟨BS.refl _ _, _, HH.out, .inl rfl⟩
    · injection h with e1 e2 e3
      subst e1 e2 e3
      have HG := hid1 hrow
      have HC := hid1 hc
      clear hrow hc
      by_cases hbig : (m : Int) + 70000 < (co : Int)
      · go_wp2_with fail
        go_meet
        exact ⟨(BS.refl _ _).set (.inl (by simp)) _, _, Hd.set2 HH.out _, .inl rfl⟩
      · go_wp2_with fail
        go_meet
        exact ⟨BS.refl _ _, _, HH.out, .inr ⟨_, f, rfl, HG.out, HC.out⟩⟩
  case rest =>
    obtain ⟨wv, rfl⟩ : ∃ x, x = wc := ⟨wc, rfl⟩
    obtain ⟨hbs, vx, hh, hom⟩ := hcut
    have hr8 : R8 wv la l := fun k hk => by
      obtain ⟨b, o, e, c⟩ := HR.out k hk
      have hk' : 0 < m := by rw [← HML.out]; omega
      exact ⟨b, o, e, hbs.cell (by simpa using HNE.out b o e hk') c⟩
    have HR8 := hid1 hr8
    have H1 := hid1 hh
    have cx : wv.cell? ⟨hb, 2, none⟩ = some vx := hh.cell (by omega)
    clear hh hr8 ch fh
    go_upto_region 4 with fail
    go_cut [6] (fun s6 wx => ∃ ao c, s6 = .slice ao m c ∧ wx.ownsRow 0 24 1 (.slice ao m c) m (i8s l) ∧ Mv wv gs wx (.slice ao m c))
    case first =>
      rcases hom with rfl | ⟨co', f, rfl, hrow, hc⟩
      · go_wp2_with ((at_builtin; refine app_r8 rfl _ _ rfl wv gs (.slice none 0 0) 0 [] (by go_simp) (World.ownsRow_nil _ _ _ _) ⟨But.refl _ _, .inl rfl⟩ la l m cl HML.out (by go_simp) HR8.out HN.out (by omega) ?_; intro v1 w1 hown1 hmv1))
        rw [Nat.zero_add, List.nil_append] at hown1
        obtain ⟨ao, c, rfl⟩ := own_slice hown1
        go_meet
        exact ⟨ao, c, rfl, hown1, hmv1⟩
      · have HG := hid1 (own_none hrow hc)
        clear hrow hc
        go_wp2_with ((at_builtin; refine app_r8 rfl _ _ rfl wv gs (.slice (some ⟨gs, 0, none⟩) 0 co') 0 [] (by go_simp) HG.out ⟨But.refl _ _, .inr (.inl rfl)⟩ la l m cl HML.out (by go_simp) HR8.out HN.out (by omega) ?_; intro v1 w1 hown1 hmv1))
        rw [Nat.zero_add, List.nil_append] at hown1
        obtain ⟨ao, c, rfl⟩ := own_slice hown1
        go_meet
        exact ⟨ao, c, rfl, hown1, hmv1⟩
    case rest =>
      obtain ⟨ao, c, rfl, hown1, hmv1⟩ := hcut
      clear hom
      go_wp2_with ((at_builtin; refine wpList_append_own_at _ rfl _ _ 23 rfl 0 24 i0 (.int .i8 0) 1 1 und_i8s hi hz0 hz1 hz2 rfl (by decide) (.slice ao m c) m (i8s l) (by go_simp) (hown1.alloc _) ⟨_, 0, none⟩ 2 2 [.int .i8 0, .int .i8 0] (by go_simp) rfl (cell_two_new _ _ _ _) (fun x hx => by simp at hx; subst hx; rfl) (by unfold maxLen; omega) (by omega) (Nat.zero_le _) ?_; intro v2 w2 hown2 hgrow2 hnil2 hat2; have hmv2 := (hmv1.alloc _).app hgrow2 hat2; obtain ⟨g, c2, f2, rfl, _, hle, hmax, hrow2, hf2⟩ := own_row hown2 (by omega)))
      have hg : g = gs ∨ wv.heap.size ≤ g := by
        rcases hmv2.at_ with h | h | ⟨b, h, hb⟩
        · simp [Value.ownBlock] at h
        · simp [Value.ownBlock] at h; exact .inl h
        · simp [Value.ownBlock] at h; subst h; exact .inr hb
      have hstart : w2.rowIs g 24 c2 (hg8 l f2 m) := hrow2.congr fun j hj => by
        unfold hg8
        by_cases h1 : j < l.length
        · rw [if_pos h1]
          have h2 := hf2 j (by have := HML.out; omega)
          rw [List.getElem?_append_left (by simpa [i8s] using h1)] at h2
          obtain ⟨_, h3⟩ := i8s_get h2
          exact h3
        · have h2 : ¬ j < m := by rw [← HML.out]; exact h1
          rw [if_neg h1, if_neg h2]
      have hbut := hmv2.but
      have HST := hid1 hstart
      have hgb : hb ≠ g := by
        rcases hg with rfl | h
        · exact hgh
        · have := H1.out.lt; omega
      unfold maxLen at hmax
      have ic0 : (0 : Int) ≤ (c2 : Int) := by omega
      have ic1 : (c2 : Int) ≤ 9223372036854775807 := by omega
      clear hown1 hmv1 hown2 hgrow2 hnil2 hat2 hmv2 hrow2 hf2 hstart cx
      go_loopw [7] (fun i wr => ∃ k : Nat, m ≤ k ∧ k ≤ c2 ∧ i = .int .i64 k ∧ wr.rowIs g 24 c2 (hg8 l f2 k) ∧ But gs wv wr) (fun i _ => c2 - (intOf i).toNat)
      case atStart => exact ⟨m, Nat.le_refl _, by omega, rfl, HST.out, hbut⟩
      case round =>
        clear hbut
        obtain ⟨k, hk1, hk2, rfl, hrow, hbut⟩ := hrel
        have ik0 : (0 : Int) ≤ (k : Int) := by omega
        by_cases hlt : k < c2
        · have ik : (k : Int) < (c2 : Int) := by omega
          have fw := hrow.frozen k
          have cw := hrow.cell hlt
          have HH2 := hid1 hrow
          clear hrow
          go_wp2_with fail
          have hml := HML.out
          refine ⟨⟨k + 1, by omega, by omega, by go_num, (HH2.out.set k _).congr fun j _ => ?_, hbut.put hg _⟩, by simp [intOf]; omega⟩
          unfold hg8
          by_cases e : j = k
          · subst e
            rw [if_pos rfl, if_neg (by omega), if_pos (by omega)]
            rfl
          · rw [if_neg e]
            by_cases h1 : j < l.length
            · rw [if_pos h1, if_pos h1]
            · rw [if_neg h1, if_neg h1]
              by_cases h2 : j < k
              · rw [if_pos h2, if_pos (by omega)]
              · rw [if_neg h2, if_neg (by omega)]
        · have hkc : k = c2 := by omega
          subst hkc
          have hh2 := hbut.row hgh H1.out
          have ch2 : wr.cell? ⟨hb, 2, none⟩ = some vx := hh2.cell (by omega)
          have fh2 := hh2.frozen 2
          have HF := hid1 (hrow.congr (g := nmf l) fun j hj => by
            unfold hg8 nmf
            by_cases h1 : j < l.length
            · rw [if_pos h1, if_pos h1]
            · rw [if_neg h1, if_neg h1, if_pos hj])
          have H3 := hid1 hh2
          have imk : (m : Int) ≤ (k : Int) := by omega
          have imk' : m ≤ k := by omega
          clear hrow hh2
          go_wp2_with fail
          go_ret
          have hbs2 : BS [gs, hb] w wr := (hbs.mono (by simp)).trans ((BS.but hbut).mono (by simp))
          refine ⟨g, k, rfl, hle, by unfold maxLen; omega, ?_, HF.out.setOther (a := ⟨hb, 2, none⟩) (Ne.symm hgb) _, Hd.set2 H3.out _, hbs2.set (.inl (by simp)) _⟩
          rcases hg with h | h
          · exact .inl h
          · exact .inr (Nat.le_trans hbs.size h)
end Go.Proofs.Yteghelmbibpohaa
