/- The law's Hand: filled, asFilled. -/
import Derived.Test.YteghelmbibpohaaBW29
import Derived.Maps.AppendAt
namespace Go.Proofs.Yteghelmbibpohaa
open Go.RowKit

/-- The mark at place i. -/
def mkI (i : Nat) : Int := IntKind.u64.wrap (wrap64 (71 + (i : Int)))
/-- Words, and marks behind them. -/
def fwf (N m : Nat) : Nat → Value := fun k => if k < m then wf N k else .int .u64 (mkI k)
/-- The same, while the marks are being laid. -/
def hf (N m : Nat) (f : Nat → Value) (k : Nat) : Nat → Value := fun j => if j < m then wf N j else if j < k then .int .u64 (mkI j) else f j
/-- Own memory of the law: nothing, or a whole block. -/
def Om (w : World) (T : TypeId) (v : Value) (go : Nat) : Prop := v = .slice none 0 0 ∨ ∃ co f, v = .slice (some ⟨go, 0, none⟩) co co ∧ w.rowIs go T co f ∧ co ≤ maxLen
/-- Since w0 only the block go has turned, and v lies there or in new memory. -/
structure Mv (w0 : World) (go : Nat) (w : World) (v : Value) : Prop where
  but : But go w0 w
  at_ : v.ownBlock = none ∨ v.ownBlock = some go ∨ ∃ b, v.ownBlock = some b ∧ w0.heap.size ≤ b
theorem Mv.app {w0 w w' : World} {go : Nat} {v v' : Value} (h : Mv w0 go w v) (hg : w.grownBy w' v.ownBlock) (hv : v'.ownBlock = v.ownBlock ∨ v'.ownBlock = some w.heap.size) : Mv w0 go w' v' := by
  refine ⟨⟨hg.os.trans h.but.os, hg.tape.trans h.but.tape, hg.output.trans h.but.output, Nat.le_trans h.but.size hg.size, fun k hk hne => ?_⟩, ?_⟩
  · refine (hg.block k (Nat.lt_of_lt_of_le hk h.but.size) fun e => ?_).trans (h.but.block k hk hne)
    rcases h.at_ with h1 | h1 | ⟨b, h1, h2⟩
    · rw [h1] at e; cases e
    · rw [h1] at e; exact hne (Option.some.inj e)
    · rw [h1] at e; have := Option.some.inj e; omega
  · rcases hv with e | e
    · rw [e]; exact h.at_
    · exact .inr (.inr ⟨_, e, h.but.size⟩)
theorem Mv.alloc {w0 w : World} {go : Nat} {v : Value} (h : Mv w0 go w v) (o : Obj) : Mv w0 go (w.alloc o) v :=
  ⟨⟨h.but.os, h.but.tape, h.but.output, by have := h.but.size; simp; omega, fun k hk hne => (Below.heap_alloc w o k (Nat.lt_of_lt_of_le hk h.but.size)).trans (h.but.block k hk hne)⟩, h.at_⟩
theorem But.put {g go o : Nat} {w w' : World} (h : But go w w') (hg : g = go ∨ w.heap.size ≤ g) (v : Value) : But go w (w'.setCell ⟨g, o, none⟩ v) :=
  ⟨h.os, h.tape, h.output, by simpa using h.size, fun k hk hne => (Below.heap_setCell w' ⟨g, o, none⟩ v k (by show k ≠ g; omega)).trans (h.block k hk hne)⟩
theorem own_none {w : World} {T go co : Nat} {f : Nat → Value} (h : w.rowIs go T co f) (hc : co ≤ maxLen) : w.ownsRow 0 T 1 (.slice (some ⟨go, 0, none⟩) 0 co) 0 [] := by
  obtain ⟨c, hb, hn, _⟩ := h
  exact ⟨rfl, .inr ⟨go, co, c, rfl, Nat.zero_le _, hb, Nat.zero_le _, hc, by omega, by simp⟩⟩
/-- 'append' of words that lie anywhere. -/
theorem app_ro {ops : Array Oper} {rest : List Oper} {o : Oper} {a : Act} {Q : Exit → Act → World → Prop} {w : World} (hgd : o.guard = none) (s x : Operand)
    (ho : o.op = .call { callee := .builtin .append, args := #[s, x], argTypes := #[25, 25] }) (w0 : World) (go : Nat) (v : Value) (n : Nat) (xs : List Value) (hs : a.eval s = v) (hown : w.ownsRow 0 35 1 v n xs) (hmv : Mv w0 go w v)
    (la : Option Addr) (m N cl : Nat) (hx : a.eval x = .slice la m cl) (hr : Ro w la m N) (hn : la = none → m = 0 ∧ cl = 0) (hb : n + m ≤ 2097152)
    (h : ∀ v' w', w'.ownsRow 0 35 1 v' (n + m) (xs ++ rowL (wf N) m) → Mv w0 go w' v' → wpList Try.prog ops Q rest (a.put o.dst v') w') : wpList Try.prog ops Q (o :: rest) a w := by
  obtain ⟨i0, hi, hz0, hz1, hz2⟩ := info_parts info_u64
  cases la with
  | none =>
    obtain ⟨rfl, rfl⟩ := hn rfl
    refine wpList_append_own_none hgd s x _ ho 0 35 i0 1 und_u64s hi v n xs hs hown hx (h _ _ ?_ hmv)
    have e : xs ++ rowL (wf N) 0 = xs := by simp [rowL]
    rw [e]
    exact hown
  | some ad =>
    refine wpList_append_own_at w hgd s x _ ho 0 35 i0 (.int .u64 0) 1 8 und_u64s hi hz0 hz1 hz2 rfl (by decide) v n xs hs hown ad m cl (rowL (wf N) m) hx (rowL_len _ _)
      (fun j u hu => by
        obtain ⟨h1, rfl⟩ := rowL_get hu
        obtain ⟨g, o, e, c⟩ := hr.2 j h1
        obtain rfl : ad = ⟨g, o, none⟩ := Option.some.inj e
        by_cases h0 : j = 0
        · subst h0; exact c
        · simp [Addr.add, h0, c]) rowL_wf (by unfold maxLen; omega) (by omega) (Nat.zero_le _) ?_
    intro v' w' h1 h2 _ h4
    exact h v' w' h1 (hmv.app h2 h4)
theorem own_slice {w : World} {base e n : Nat} {v : Value} {xs : List Value} (h : w.ownsRow base e 1 v n xs) : ∃ ao c, v = .slice ao n c := by
  rcases h.2 with ⟨rfl, rfl⟩ | ⟨g, cap, cur, rfl, _⟩
  · exact ⟨none, 0, rfl⟩
  · exact ⟨_, _, rfl⟩
theorem cell_two_new (w : World) (x y : Value) (t : TypeId) : ∀ j u, [x, y][j]? = some u → (w.alloc (.cells #[x, y] t)).cell? ((⟨w.heap.size, 0, none⟩ : Addr).add j) = some u := by
  intro j u hu
  rcases j with _ | _ | j
  · simp at hu; subst hu; simp [Addr.add, go_sem]
  · simp at hu; subst hu; simp [Addr.add, go_sem]
  · simp at hu
set_option maxHeartbeats 3200000 in
set_option maxRecDepth 100000 in
theorem filled_any (ov : Value) (go : Nat) (la : Option Addr) (m N cl : Nat) (w : World) (hm : m ≤ 1048576) (hov : Om w 35 ov go) (hl : Ro w la m N) (hn : la = none → m = 0 ∧ cl = 0) :
    Calls Try.prog 40 #[ov, .slice la m cl] w fun e w' => ∃ g c, e = .returned (.slice (some ⟨g, 0, none⟩) c c) ∧ m + 2 ≤ c ∧ c ≤ maxLen ∧ (g = go ∨ w.heap.size ≤ g) ∧ w'.rowIs g 35 c (fwf N m) ∧ But go w w' := by
  obtain ⟨i0, hi, hz0, hz1, hz2⟩ := info_parts info_u64
  have HR := hid1 hl
  have HN := hid1 hn
  have HO := hid1 hov
  have im0 : (0 : Int) ≤ (m : Int) := by omega
  have im1 : (m : Int) ≤ 1048576 := by omega
  obtain ⟨oo, lo, co, rfl⟩ : ∃ oo lo co, ov = .slice oo lo co := by
    rcases hov with h | ⟨co, f, h, _⟩
    · exact ⟨_, _, _, h⟩
    · exact ⟨_, _, _, h⟩
  clear hl hn hov
  go_enter Try.func40, Try.ntmps40
  go_upto_if 14 with fail
  go_cut [0] (fun s0 wx => wx = w ∧ Om w 35 s0 go)
  case first =>
    rcases HO.out with h | ⟨co', f, h, hrow, hc⟩
    · injection h with e1 e2 e3
      subst e1 e2 e3
      go_wp2_with fail
      go_meet
      exact ⟨rfl, .inl rfl⟩
    · injection h with e1 e2 e3
      subst e1 e2 e3
      have HH := hid1 hrow
      have HC := hid1 hc
      clear hrow hc
      by_cases hbig : (m : Int) + 70000 < (co : Int)
      · go_wp2_with fail
        go_meet
        exact ⟨rfl, .inl rfl⟩
      · go_wp2_with fail
        go_meet
        exact ⟨rfl, .inr ⟨_, f, rfl, HH.out, HC.out⟩⟩
  case rest =>
    obtain ⟨ew, hom⟩ := hcut
    obtain rfl : w = wc := ew.symm
    clear ew
    go_upto_region 4 with fail
    go_cut [6] (fun s6 wx => ∃ ao c, s6 = .slice ao m c ∧ wx.ownsRow 0 35 1 (.slice ao m c) m (rowL (wf N) m) ∧ Mv w go wx (.slice ao m c))
    case first =>
      rcases hom with rfl | ⟨co', f, rfl, hrow, hc⟩
      · go_wp2_with ((at_builtin; refine app_ro rfl _ _ rfl w go (.slice none 0 0) 0 [] (by go_simp) (World.ownsRow_nil _ _ _ _) ⟨But.refl _ _, .inl rfl⟩ la m N cl (by go_simp) HR.out HN.out (by omega) ?_; intro v1 w1 hown1 hmv1))
        rw [Nat.zero_add, List.nil_append] at hown1
        obtain ⟨ao, c, rfl⟩ := own_slice hown1
        go_meet
        exact ⟨ao, c, rfl, hown1, hmv1⟩
      · have HH := hid1 (own_none hrow hc)
        clear hrow hc
        go_wp2_with ((at_builtin; refine app_ro rfl _ _ rfl w go (.slice (some ⟨go, 0, none⟩) 0 co') 0 [] (by go_simp) HH.out ⟨But.refl _ _, .inr (.inl rfl)⟩ la m N cl (by go_simp) HR.out HN.out (by omega) ?_; intro v1 w1 hown1 hmv1))
        rw [Nat.zero_add, List.nil_append] at hown1
        obtain ⟨ao, c, rfl⟩ := own_slice hown1
        go_meet
        exact ⟨ao, c, rfl, hown1, hmv1⟩
    case rest =>
      obtain ⟨ao, c, rfl, hown1, hmv1⟩ := hcut
      clear hom
      go_wp2_with ((at_builtin; refine wpList_append_own_at _ rfl _ _ 25 rfl 0 35 i0 (.int .u64 0) 1 8 und_u64s hi hz0 hz1 hz2 rfl (by decide) (.slice ao m c) m (rowL (wf N) m) (by go_simp) (hown1.alloc _) ⟨_, 0, none⟩ 2 2 [.int .u64 0, .int .u64 0] (by go_simp) rfl (cell_two_new _ _ _ _) (fun x hx => by simp at hx; subst hx; rfl) (by unfold maxLen; omega) (by omega) (Nat.zero_le _) ?_; intro v2 w2 hown2 hgrow2 hnil2 hat2; have hmv2 := (hmv1.alloc _).app hgrow2 hat2; obtain ⟨g, c2, f2, rfl, _, hle, hmax, hrow2, hf2⟩ := own_row hown2 (by omega)))
      have hg : g = go ∨ w.heap.size ≤ g := by
        rcases hmv2.at_ with h | h | ⟨b, h, hb⟩
        · simp [Value.ownBlock] at h
        · simp [Value.ownBlock] at h; exact .inl h
        · simp [Value.ownBlock] at h; subst h; exact .inr hb
      have hstart : w2.rowIs g 35 c2 (hf N m f2 m) := hrow2.congr fun j hj => by
        unfold hf
        by_cases h1 : j < m
        · rw [if_pos h1]
          have h2 := hf2 j (by omega)
          rw [List.getElem?_append_left (by simpa [rowL] using h1)] at h2
          obtain ⟨_, h3⟩ := rowL_get h2
          exact h3
        · rw [if_neg h1, if_neg h1]
      have hbut := hmv2.but
      have HST := hid1 hstart
      unfold maxLen at hmax
      have ic0 : (0 : Int) ≤ (c2 : Int) := by omega
      have ic1 : (c2 : Int) ≤ 9223372036854775807 := by omega
      clear hown1 hmv1 hown2 hgrow2 hnil2 hat2 hmv2 hrow2 hf2 hstart
      go_loopw [7] (fun i wr => ∃ k : Nat, m ≤ k ∧ k ≤ c2 ∧ i = .int .i64 k ∧ wr.rowIs g 35 c2 (hf N m f2 k) ∧ But go w wr) (fun i _ => c2 - (intOf i).toNat)
      case atStart => exact ⟨m, Nat.le_refl _, by omega, rfl, HST.out, hbut⟩
      case round =>
        clear hbut
        obtain ⟨k, hk1, hk2, rfl, hrow, hbut⟩ := hrel
        have ik0 : (0 : Int) ≤ (k : Int) := by omega
        by_cases hlt : k < c2
        · have ik : (k : Int) < (c2 : Int) := by omega
          have fw := hrow.frozen k
          have cw := hrow.cell hlt
          have HH := hid1 hrow
          clear hrow
          go_wp2_with fail
          refine ⟨⟨k + 1, by omega, by omega, by go_num, (HH.out.set k _).congr fun j _ => ?_, hbut.put hg _⟩, by simp [intOf]; omega⟩
          unfold hf
          by_cases e : j = k
          · subst e
            rw [if_pos rfl, if_neg (by omega), if_pos (by omega)]
            rfl
          · rw [if_neg e]
            by_cases h1 : j < m
            · rw [if_pos h1, if_pos h1]
            · rw [if_neg h1, if_neg h1]
              by_cases h2 : j < k
              · rw [if_pos h2, if_pos (by omega)]
              · rw [if_neg h2, if_neg (by omega)]
        · have hkc : k = c2 := by omega
          subst hkc
          have HH := hid1 hrow
          clear hrow
          go_wp2_with fail
          go_ret
          exact ⟨g, k, rfl, hle, by unfold maxLen; omega, hg, HH.out.congr fun j hj => by
            unfold hf fwf
            by_cases h1 : j < m
            · rw [if_pos h1, if_pos h1]
            · rw [if_neg h1, if_neg h1, if_pos hj], hbut⟩
end Go.Proofs.Yteghelmbibpohaa
