/- The document's Weights and sum. -/
import Derived.Test.YtpinmfhabbcflabDoorDR1
import Derived.Test.YtpinmfhabbcflabDoorDV1
namespace Go.Proofs.YtpinmfhabbcflabDoor
open Go.RowKit

theorem info_i64 : (Tryd.prog.info? 2).map (fun i => (i.zero, i.size, i.bytes)) = some (some (.int .i64 0), 1, 8) := by kernel_rfl
theorem und_i64s : Tryd.prog.underlying 71 = some (.slice 2) := by kernel_rfl
/-- The first k numbers of f, as cells. -/
def fl (f : Nat → Int) (k : Nat) : List Value := (List.range k).map fun i => Value.int .i64 (f i)
theorem fl_len (f : Nat → Int) (k : Nat) : (fl f k).length = k := by simp [fl]
theorem fl_snoc (f : Nat → Int) (k : Nat) : fl f (k + 1) = fl f k ++ [.int .i64 (f k)] := by simp [fl, List.range_succ]
theorem fl_at {f : Nat → Int} {k j : Nat} (h : j < k) : (fl f k)[j]? = some (.int .i64 (f j)) := by simp [fl, h]
/-- The slice reads as these numbers. -/
def R64 (w : World) (ao : Option Addr) (f : Nat → Int) (n : Nat) : Prop := ∀ k, k < n → ∃ g o, ao = some ⟨g, o, none⟩ ∧ w.cell? ⟨g, o + k, none⟩ = some (.int .i64 (f k))
theorem R64.below {w w' : World} {ao : Option Addr} {f : Nat → Int} {n : Nat} (h : R64 w ao f n) (hb : Below w.heap.size w w') : R64 w' ao f n :=
  fun k hk => by obtain ⟨g, o, e, c⟩ := h k hk; exact ⟨g, o, e, keepc hb c⟩
theorem r64_own {w : World} {base n : Nat} {v : Value} {f : Nat → Int} (h : w.ownsRow base 2 1 v n (fl f n)) : ∃ ao cap, v = .slice ao n cap ∧ R64 w ao f n := by
  rcases Nat.eq_zero_or_pos n with h0 | h0
  · rcases h.2 with ⟨h1, _⟩ | ⟨g, cap, cur, hv, _, _, h4, h5, _⟩
    · exact ⟨none, 0, by rw [h0]; exact h1, fun k hk => absurd hk (by omega)⟩
    · exact ⟨_, cap, hv, fun k hk => absurd hk (by omega)⟩
  · obtain ⟨g, cap, c, hv, _, h4, h5, hr, hf⟩ := own_row h h0
    refine ⟨_, cap, hv, fun k hk => ⟨g, 0, rfl, ?_⟩⟩
    rw [Nat.zero_add]
    refine (hr.cell (by omega)).trans ?_
    have := hf k hk
    rw [fl_at hk] at this
    exact congrArg some (Option.some.inj this).symm
theorem app64 {ops : Array Oper} {rest : List Oper} {o : Oper} {a : Act} {Q : Exit → Act → World → Prop} {w : World} (hgd : o.guard = none) (s x : Operand)
    (ho : o.op = .call { callee := .builtin .append, args := #[s, x], argTypes := #[71, 71] }) (base : Nat) (v : Value) (f : Nat → Int) (n : Nat) (hs : a.eval s = v) (hown : w.ownsRow base 2 1 v n (fl f n))
    (g : Nat) (y : Int) (cb : Nat) (hx : a.eval x = .slice (some ⟨g, 0, none⟩) 1 cb) (hr : w.cell? ⟨g, 0, none⟩ = some (.int .i64 y)) (hM : n ≤ 16777216) (hb : base ≤ w.heap.size) (hy : y = f n)
    (h : ∀ v' w', w'.ownsRow base 2 1 v' (n + 1) (fl f (n + 1)) → w.grownBy w' v.ownBlock → wpList Tryd.prog ops Q rest (a.put o.dst v') w') : wpList Tryd.prog ops Q (o :: rest) a w := by
  obtain ⟨i0, hi, hz0, hz1, hz2⟩ := info_parts info_i64
  refine wpList_append_own w hgd s x _ ho base 2 i0 (.int .i64 0) 1 8 und_i64s hi hz0 hz1 hz2 rfl (by decide) v n (fl f n) hs hown ⟨g, 0, none⟩ 1 cb [.int .i64 y] hx rfl
    (fun j u hu => ?_) (fun u hu => by simp at hu; subst hu; rfl) (by unfold maxLen; omega) (by omega) hb ?_
  · rcases j with _ | j
    · simp at hu; subst hu; exact hr
    · simp at hu
  · intro v' w' h1 h2 _
    subst hy
    exact h v' w' (by rw [fl_snoc]; exact h1) h2

theorem own_keep {w w' : World} {base : Nat} {e : TypeId} {size : Nat} {v : Value} {n : Nat} {xs : List Value} (h : w.ownsRow base e size v n xs) (hb : Below w.heap.size w w') : w'.ownsRow base e size v n xs :=
  h.kept (row := none) ⟨hb.os, hb.tape, hb.output, hb.size, fun k hk _ => hb.block k hk⟩ (by cases v.ownBlock <;> simp)
/-- Behind a new cell and an append to what lies from base on: what lies below base is as it was. -/
theorem grown_below {base : Nat} {e : TypeId} {size n : Nat} {v : Value} {xs : List Value} {w w' : World} {o : Obj} (hown : w.ownsRow base e size v n xs) (hb : base ≤ w.heap.size) (hg : (w.alloc o).grownBy w' v.ownBlock) : Below base w w' :=
  (((Below.refl base w).alloc hb o)).grown hg (by simp; omega) (fun q hq => (hown.lt q hq).1)
set_option maxHeartbeats 1600000 in
set_option maxRecDepth 100000 in
theorem weights_any (A B : Bt) (n : Nat) (w : World) (hA : Rw w A) (hB : Rw w B) (h1 : n ≤ 16777216) (hn : B.n = n) (ha : A.m = nw n) (hb : B.m = nw n) :
    Calls Tryd.prog 28 #[rwv A B] w fun e w' => ∃ ao cap, e = .returned (.slice ao n cap) ∧ R64 w' ao (wt A.N B.N) n ∧ Below w.heap.size w w' := by
  have HA := hid1 hA
  have HB := hid1 hB
  have M1 := hid1 ha
  have M2 := hid1 hb
  have HN := hid1 hn
  have hbd := nw_bd h1
  have hle := nw_le n
  clear hA hB ha hb hn
  have in1 : (n : Int) ≤ 16777216 := by omega
  go_enter Tryd.func28, Tryd.ntmps28
  go_wp2_with fail
  go_loopw [3, 4] (fun v i wr => ∃ (u : Value) (k : Nat), k ≤ n ∧ v = u ∧ i = .int .i64 k ∧ wr.ownsRow (w.heap.size + 1) 2 1 u k (fl (wt A.N B.N) k) ∧ wr.rowIs w.heap.size 33 4 (qf A B) ∧ Below w.heap.size w wr) (fun _ i _ => n - (intOf i).toNat)
  case atStart => exact ⟨_, 0, Nat.zero_le _, rfl, rfl, World.ownsRow_nil _ _ _ _, q_new w A B _, bl_alloc (Below.refl _ _) _⟩
  case round =>
    obtain ⟨v, k, hk, ev, rfl, hown, r1, B0⟩ := hrel
    replace ev := ev.symm
    subst ev
    have c0 := q0 r1
    have c1 := q1 r1
    have c2 := q2 r1
    have c3 := q3 r1
    rw [HN.out] at c2
    have R1 := hid1 r1
    have HO := hid1 hown
    have sz : w.heap.size + 1 ≤ wr.heap.size := by have := r1.lt; omega
    clear r1 hown
    by_cases hlt : k < n
    · have ik : (k : Int) < (n : Int) := by omega
      have ik0 : (0 : Int) ≤ (k : Int) := by omega
      have CB : Hid (∀ X, Below w.heap.size w X → Calls Tryd.prog 46 #[B.v, .int .i64 k] X fun e w' => e = .returned (.bool (B.N.testBit k)) ∧ Below X.heap.size X w') := fun X hX => tbit_any B k X (by rw [M2.out]; omega) (by rw [M2.out]; exact hbd) (HB.out.below hX)
      have CA : Hid (∀ X, Below w.heap.size w X → Calls Tryd.prog 46 #[A.v, .int .i64 k] X fun e w' => e = .returned (.bool (A.N.testBit k)) ∧ Below X.heap.size X w') := fun X hX => tbit_any A k X (by rw [M1.out]; omega) (by rw [M1.out]; exact hbd) (HA.out.below hX)
      unfold Bt.v at CB CA
      rw [HN.out] at CB
      have HWT : Hid (wt A.N B.N k = if B.N.testBit k then (if A.N.testBit k then 1 else -1) else 0) := rfl
      go_wp2_with fail
      refine (CB.out wr B0).mono ?_
      rintro e w1 ⟨rfl, hb1⟩
      replace B0 := bl_step B0 hb1
      replace R1 := hid1 (keepr hb1 R1.out)
      replace HO := hid1 (own_keep HO.out hb1)
      replace sz : w.heap.size + 1 ≤ w1.heap.size := by have := hb1.size; omega
      clear c0 c1 c2 c3 hb1
      have c0 := q0 R1.out
      have c1 := q1 R1.out
      go_wp2_with fail
      refine (CA.out w1 B0).mono ?_
      rintro e w2 ⟨rfl, hb2⟩
      replace B0 := bl_step B0 hb2
      replace R1 := hid1 (keepr hb2 R1.out)
      replace HO := hid1 (own_keep HO.out hb2)
      replace sz : w.heap.size + 1 ≤ w2.heap.size := by have := hb2.size; omega
      clear c0 c1 hb2 CA CB
      cases hbb : B.N.testBit k
      · rw [hbb] at HWT
        replace HWT : Hid (wt A.N B.N k = 0) := HWT.out.trans (by simp)
        cases hab : A.N.testBit k
        · go_wp2_with (at_builtin; refine app64 rfl _ _ rfl (w.heap.size + 1) v (wt A.N B.N) k (by go_simp) (HO.out.alloc _) w2.heap.size (0) 1 (by go_simp) (by simp [go_sem]) (by omega) (by simp; omega) HWT.out.symm ?_; intro v' w' hown hgrow)
          have BQ := grown_below HO.out sz hgrow
          exact ⟨⟨v', k + 1, by omega, rfl, by go_num, hown, R1.out.of_block (BQ.block _ (by omega)), B0.trans (BQ.mono (by omega))⟩, by simp [intOf]; omega⟩
        · go_wp2_with (at_builtin; refine app64 rfl _ _ rfl (w.heap.size + 1) v (wt A.N B.N) k (by go_simp) (HO.out.alloc _) w2.heap.size (0) 1 (by go_simp) (by simp [go_sem]) (by omega) (by simp; omega) HWT.out.symm ?_; intro v' w' hown hgrow)
          have BQ := grown_below HO.out sz hgrow
          exact ⟨⟨v', k + 1, by omega, rfl, by go_num, hown, R1.out.of_block (BQ.block _ (by omega)), B0.trans (BQ.mono (by omega))⟩, by simp [intOf]; omega⟩
      · cases hab : A.N.testBit k
        · rw [hbb, hab] at HWT
          replace HWT : Hid (wt A.N B.N k = -1) := HWT.out.trans (by simp)
          go_wp2_with (at_builtin; refine app64 rfl _ _ rfl (w.heap.size + 1) v (wt A.N B.N) k (by go_simp) (HO.out.alloc _) w2.heap.size (-1) 1 (by go_simp) (by simp [go_sem]) (by omega) (by simp; omega) HWT.out.symm ?_; intro v' w' hown hgrow)
          have BQ := grown_below HO.out sz hgrow
          exact ⟨⟨v', k + 1, by omega, rfl, by go_num, hown, R1.out.of_block (BQ.block _ (by omega)), B0.trans (BQ.mono (by omega))⟩, by simp [intOf]; omega⟩
        · rw [hbb, hab] at HWT
          replace HWT : Hid (wt A.N B.N k = 1) := HWT.out.trans (by simp)
          go_wp2_with (at_builtin; refine app64 rfl _ _ rfl (w.heap.size + 1) v (wt A.N B.N) k (by go_simp) (HO.out.alloc _) w2.heap.size (1) 1 (by go_simp) (by simp [go_sem]) (by omega) (by simp; omega) HWT.out.symm ?_; intro v' w' hown hgrow)
          have BQ := grown_below HO.out sz hgrow
          exact ⟨⟨v', k + 1, by omega, rfl, by go_num, hown, R1.out.of_block (BQ.block _ (by omega)), B0.trans (BQ.mono (by omega))⟩, by simp [intOf]; omega⟩
    · have hkN : k = n := by omega
      subst hkN
      obtain ⟨ao, cap, rfl, hr⟩ := r64_own HO.out
      have HR := hid1 hr
      clear HO hr
      go_wp2_with fail
      go_ret
      exact ⟨ao, cap, rfl, HR.out, B0⟩

set_option maxHeartbeats 1600000 in
set_option maxRecDepth 100000 in
theorem rsum_any (f g : Nat → Int) (n : Nat) (ao bo : Option Addr) (ca cb : Nat) (w : World) (h1 : n ≤ 16777216) (hf : ∀ i, i < n → -1 ≤ f i ∧ f i ≤ 1) (hg : ∀ i, i < n → -128 ≤ g i ∧ g i ≤ 128) (ha : R64 w ao f n) (hb : R64 w bo g n) :
    Calls Tryd.prog 53 #[.slice ao n ca, .slice bo n cb] w fun e w' => e = .returned (.int .i64 (sm (fun i => f i * g i) n)) ∧ Below w.heap.size w w' := by
  have HA := hid1 ha
  have HB := hid1 hb
  have HF := hid1 hf
  have HG := hid1 hg
  have HBD : Hid (∀ k, k ≤ n → -(k * 128) ≤ sm (fun i => f i * g i) k ∧ sm (fun i => f i * g i) k ≤ k * 128) := fun k hk => sm_bd k fun i hi => by
    have h2 := hf i (by omega)
    have h3 := hg i (by omega)
    have h4 : f i = 0 ∨ f i = 1 ∨ f i = -1 := by omega
    rcases h4 with e | e | e <;> rw [e] <;> omega
  clear ha hb hf hg
  go_enter Tryd.func53, Tryd.ntmps53
  go_wp2_with fail
  go_loopw [5, 6] (fun s i wr => ∃ k : Nat, k ≤ n ∧ i = .int .i64 k ∧ s = .int .i64 (sm (fun i => f i * g i) k) ∧ Below w.heap.size w wr) (fun _ i _ => n - (intOf i).toNat)
  case atStart => exact ⟨0, Nat.zero_le _, rfl, rfl, Below.refl _ _⟩
  case round =>
    obtain ⟨k, hk, rfl, rfl, B0⟩ := hrel
    have bd := HBD.out k hk
    by_cases hlt : k < n
    · obtain ⟨ga, oa, rfl, c8⟩ := HA.out k hlt
      obtain ⟨gb, ob, rfl, c9⟩ := HB.out k hlt
      replace c8 := keepc B0 c8
      replace c9 := keepc B0 c9
      have ik : (k : Int) < (n : Int) := by omega
      have ik0 : (0 : Int) ≤ (k : Int) := by omega
      have ka := HF.out k hlt
      have kb := HG.out k hlt
      have G1 : Hid (sm (fun i => f i * g i) (k + 1) = sm (fun i => f i * g i) k + f k * g k) := rfl
      generalize sm (fun i => f i * g i) k = st at *
      generalize f k = a at *
      generalize g k = y at *
      have a3 : a = 0 ∨ a = 1 ∨ a = -1 := by omega
      clear ka
      obtain ⟨bd1, bd2⟩ := bd
      rcases a3 with rfl | rfl | rfl
      all_goals
        go_wp2_with fail
        go_quiet (fail)
        go_wp2_with fail
        exact ⟨⟨k + 1, by omega, by go_num, by rw [G1.out]; exact congrArg (Value.int .i64) (by omega), bl_drewN B0 _⟩, by simp [intOf]; omega⟩
    · have hkN : k = n := by omega
      subst hkN
      go_wp2_with fail
      go_ret
      exact ⟨rfl, B0⟩
end Go.Proofs.YtpinmfhabbcflabDoor
