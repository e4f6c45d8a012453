/- PACKAGE rank: appendLine. -/
import Derived.Test.YtfdkjckoelmgeaaDoorRA8
import Derived.Test.YtfdkjckoelmgeaaDoorShelf
import Derived.Lib.BufferKept
namespace Go.Proofs.YtfdkjckoelmgeaaDoor
open Go.RowKit

abbrev Tp10 (base : Nat) (w : World) : Prop := Lib.TabBelow Tryd.prog base w "internal/strconv.uint64pow10" .u64 Lib.pow10Tab
/-- What lies below base stands, and so does what is no row of bytes. -/
structure Ap (base : Nat) (w w' : World) : Prop where
  bel : Below base w w'
  oth : Lib.OthersKept 5 none w w'
theorem Ap.refl (base : Nat) (w : World) : Ap base w w := ⟨Below.refl _ _, Lib.OthersKept.refl _ _ _⟩
theorem Ap.alloc {base : Nat} {w w' : World} (h : Ap base w w') (hb : base ≤ w'.heap.size) (o : Obj) : Ap base w (w'.alloc o) := ⟨h.bel.alloc hb o, h.oth.alloc o⟩
theorem Ap.trans {base : Nat} {a b c : World} (h : Ap base a b) (k : Ap base b c) : Ap base a c := ⟨h.bel.trans k.bel, h.oth.trans k.oth⟩
theorem grown_belowR {base : Nat} {e : TypeId} {size n : Nat} {v : Value} {xs : List Value} {w w' : World} {o : Obj} (hown : w.ownsRow base e size v n xs) (hb : base ≤ w.heap.size) (hg : (w.alloc o).grownBy w' v.ownBlock) : Below base w w' := by
  refine ⟨hg.os, hg.tape, hg.output, ?_, fun k hk => ?_⟩
  · have := hg.size; simp at this; omega
  · refine (hg.block k (by simp; omega) ?_).trans (Below.heap_alloc w o k (by omega))
    intro e1
    have := (hown.lt k e1.symm).1
    omega
theorem Ap.grown {base n : Nat} {v : Value} {xs : List Value} {w w' : World} {o : Obj} (hown : w.ownsRow base 5 1 v n xs) (hb : base ≤ w.heap.size) (hg : (w.alloc o).grownBy w' v.ownBlock) : Ap base w w' :=
  ⟨grown_belowR hown hb hg, ((Lib.OthersKept.refl _ none w).alloc o).grown hg (fun g e => by
    rcases (hown.alloc o).2 with ⟨rfl, _⟩ | ⟨g', cap, cur, rfl, _, h, _⟩
    · cases e
    · simp [Value.ownBlock] at e
      subst e
      exact ⟨cur, (0, 0), h⟩)⟩
theorem info_u8 : (Tryd.prog.info? 5).map (fun i => (i.zero, i.size, i.bytes)) = some (some (.int .u8 0), 1, 1) := by kernel_rfl
theorem und_u8s : Tryd.prog.underlying 45 = some (.slice 5) := by kernel_rfl
theorem bc_len (l : List UInt8) : (Lib.byteCells l).length = l.length := by simp [Lib.byteCells]
theorem bc_app (a b : List UInt8) : Lib.byteCells (a ++ b) = Lib.byteCells a ++ Lib.byteCells b := by simp [Lib.byteCells]
theorem one_cellR (w : World) (v : Value) (t : TypeId) : ∀ j u, [v][j]? = some u → (w.alloc (.cells #[v] t)).cell? ((⟨w.heap.size, 0, none⟩ : Addr).add j) = some u := fun j u h => by
  rcases j with _ | j
  · simp at h; subst h; simp [Addr.add, go_sem]
  · simp at h
/-- A byte appended to bytes of its own. -/
theorem app8R {ops : Array Oper} {rest : List Oper} {o : Oper} {a : Act} {Q : Exit → Act → World → Prop} {w : World} (hgd : o.guard = none) (s x : Operand)
    (ho : o.op = .call { callee := .builtin .append, args := #[s, x], argTypes := #[45, 45] }) (base : Nat) (v : Value) (l : List UInt8) (hs : a.eval s = v) (hown : w.ownsRow base 5 1 v l.length (Lib.byteCells l))
    (b : UInt8) (hx : a.eval x = .slice (some ⟨w.heap.size, 0, none⟩) 1 1) (hM : l.length ≤ 16777216) (hb : base ≤ w.heap.size)
    (h : ∀ v' w', w'.ownsRow base 5 1 v' (l ++ [b]).length (Lib.byteCells (l ++ [b])) → Ap base w w' → base ≤ w'.heap.size → wpList Tryd.prog ops Q rest (a.put o.dst v') w') : wpList Tryd.prog ops Q (o :: rest) a (w.alloc (.cells #[.int .u8 (b.toNat : Int)] 5)) := by
  obtain ⟨i0, hi, hz0, hz1, hz2⟩ := info_parts info_u8
  refine wpList_append_own _ hgd s x _ ho base 5 i0 (.int .u8 0) 1 1 und_u8s hi hz0 hz1 hz2 rfl (by decide) v l.length (Lib.byteCells l) hs (hown.alloc _) ⟨w.heap.size, 0, none⟩ 1 1 [.int .u8 (b.toNat : Int)] hx rfl
    (one_cellR w _ _) (fun u hu => by simp at hu; subst hu; rfl) (by unfold maxLen; omega) (by omega) (by simp; omega) ?_
  intro v' w' h1 h2 _
  exact h v' w' (by rw [List.length_append, bc_app]; exact h1) (Ap.grown hown hb h2) (by have := h2.size; simp at this; omega)
set_option maxHeartbeats 1600000 in
set_option maxRecDepth 100000 in
theorem line_any (base : Nat) (v : Value) (xs : List UInt8) (b : UInt8) (ao : Option Addr) (l : List Int) (cap : Nat) (w : World) (hb : base ≤ w.heap.size) (ho : w.ownsRow base 5 1 v xs.length (Lib.byteCells xs)) (hx : xs.length ≤ 4000000) (hl : l.length ≤ 256)
    (hi : ∀ x ∈ l, i64In x) (ht : Tp10 base w) (hn : ∀ X, Ap base w X → Nm X ao l) :
    Calls Tryd.prog 30 #[v, .int .u8 (b.toNat : Int), .slice ao l.length cap] w fun e w' => ∃ v', e = .returned v' ∧ w'.ownsRow base 5 1 v' (xs ++ lin b l).length (Lib.byteCells (xs ++ lin b l)) ∧ Ap base w w' := by
  have HN : Hid (∀ X, Ap base w X → ∀ k, k < l.length → ∃ g o, ao = some ⟨g, o, none⟩ ∧ X.cell? ⟨g, o + k, none⟩ = some (.int .i64 (l.getD k 0))) := fun X hX k hk => by
    obtain ⟨g, o, e, c⟩ := (hn X hX).at hk
    exact ⟨g, o, e, by rw [c, List.getD_eq_getElem?_getD, List.getElem?_eq_getElem hk]; rfl⟩
  have HI : Hid (∀ k, k < l.length → i64In (l.getD k 0)) := fun k hk => by
    rw [List.getD_eq_getElem?_getD, List.getElem?_eq_getElem hk]
    exact hi _ (List.getElem_mem _)
  have HP : Hid (∀ k, k ≤ l.length → (xs ++ pre b l k).length ≤ 4000000 + 22 * k) := fun k hk => by
    have := pre_len b hi k hk
    rw [List.length_append]; omega
  have HT := hid1 ht
  have HO := hid1 ho
  obtain ⟨n, en⟩ : ∃ n, l.length = n := ⟨_, rfl⟩
  have HE : Hid (xs ++ lin b l = (xs ++ pre b l n) ++ [10]) := by show _ = _; unfold lin; rw [en, List.append_assoc]
  rw [en] at HN HI HP hl ⊢
  clear hn hi ht ho en hx
  go_enter Tryd.func30, Tryd.ntmps30
  go_wp2_with fail
  go_loopw [0, 11] (fun x y wr => ∃ k : Nat, k ≤ n ∧ y = .int .i64 k ∧ Hid (wr.ownsRow base 5 1 x (xs ++ pre b l k).length (Lib.byteCells (xs ++ pre b l k))) ∧ Ap base w wr ∧ base ≤ wr.heap.size) (fun _ y _ => n - (intOf y).toNat)
  case atStart => exact ⟨0, Nat.zero_le _, rfl, by simpa [pre] using HO, Ap.refl _ _, hb⟩
  case round =>
    obtain ⟨k, hk, rfl, hown, hap, hbw⟩ := hrel
    by_cases hlt : k < n
    · obtain ⟨g, o, rfl, d1⟩ := HN.out wr hap k hlt
      have hii := HI.out k hlt
      have hpl := HP.out k (by omega)
      have hst : xs ++ pre b l (k + 1) = (if k = 0 then xs ++ pre b l k else xs ++ pre b l k ++ [b]) ++ Lib.itoa (l.getD k 0) := by
        simp only [pre]
        split <;> simp [List.append_assoc]
      generalize l.getD k 0 = z at *
      generalize xs ++ pre b l k = ys at *
      have HST := hid1 hst
      have HT2 : Tp10 base wr := HT.out.on hap.bel
      have ik : (k : Int) < (n : Int) := by omega
      have ik0 : (0 : Int) ≤ (k : Int) := by omega
      clear hst
      by_cases hk0 : k = 0
      · subst hk0
        rw [if_pos rfl] at HST
        rw [Nat.add_zero] at d1
        go_wp2_with (go_at_call 51; refine (Tryd.strconv_AppendInt_10 base ys.length z hii.1 hii.2 _ _ _ hown.out hbw (by omega) HT2).mono ?_; rintro e w2 ⟨v2, rfl, ho2, hb2, hk2⟩)
        refine ⟨⟨1, by omega, by go_num, ?_, hap.trans ⟨hb2, hk2⟩, Nat.le_trans hbw hb2.size⟩, by simp [intOf]; omega⟩
        rw [HST.out, List.length_append, bc_app]
        exact ho2
      · rw [if_neg hk0] at HST
        have kp : (0 : Int) < (k : Int) := by omega
        go_wp2_with (first
          | (at_builtin; refine app8R rfl _ _ rfl base _ ys (by go_simp) hown.out b (by go_simp) (by omega) hbw ?_; intro v1 w1 ho1 ha1 hb1; have HT3 : Tp10 base w1 := HT2.on ha1.bel)
          | (go_at_call 51; refine (Tryd.strconv_AppendInt_10 base (ys ++ [b]).length z hii.1 hii.2 _ _ _ ho1 hb1 (by simp; omega) HT3).mono ?_; rintro e w2 ⟨v2, rfl, ho2, hb2, hk2⟩))
        refine ⟨⟨k + 1, by omega, by go_num, ?_, hap.trans (ha1.trans ⟨hb2, hk2⟩), Nat.le_trans hb1 hb2.size⟩, by simp [intOf]; omega⟩
        rw [HST.out, List.length_append, bc_app]
        exact ho2
    · have hkN : k = n := by omega
      subst hkN
      have hpl := HP.out k (by omega)
      generalize xs ++ pre b l k = ys at *
      go_wp2_with (at_builtin; refine app8R rfl _ _ rfl base _ ys (by go_simp) hown.out 10 (by go_simp) (by omega) hbw ?_; intro v1 w1 ho1 ha1 hb1)
      go_ret
      exact ⟨_, rfl, by rw [HE.out]; exact ho1, hap.trans ha1⟩
end Go.Proofs.YtfdkjckoelmgeaaDoor
