/- The document's Set: truth values as a row of bits. -/
import Derived.Test.YtpinmfhabbcflabDoorDQ1
namespace Go.Proofs.YtpinmfhabbcflabDoor
open Go.RowKit

/-- The slice reads as these truth values. -/
def RB (w : World) (ao : Option Addr) (f : Nat → Bool) (n : Nat) : Prop := ∀ k, k < n → ∃ g o, ao = some ⟨g, o, none⟩ ∧ w.cell? ⟨g, o + k, none⟩ = some (.bool (f k))
theorem RB.below {w w' : World} {ao : Option Addr} {f : Nat → Bool} {n : Nat} (h : RB w ao f n) (hb : Below w.heap.size w w') : RB w' ao f n :=
  fun k hk => by obtain ⟨g, o, e, c⟩ := h k hk; exact ⟨g, o, e, keepc hb c⟩
theorem half_step (x j : Nat) : x / 2 ^ j = 2 * (x / 2 ^ (j + 1)) + (x.testBit j).toNat := by
  rw [Nat.pow_succ, ← Nat.div_div_eq_div_mul]
  have h := Nat.testBit_eq_decide_div_mod_eq (x := x) (i := j)
  have e : (x.testBit j).toNat = x / 2 ^ j % 2 := by
    rw [h]
    rcases Nat.mod_two_eq_zero_or_one (x / 2 ^ j) with e | e <;> simp [e]
  rw [e]
  omega
/-- The words of a number, the first n. -/
def wl (N n : Nat) : List Value := (List.range n).map (wf N)
theorem wl_snoc (N n : Nat) : wl N (n + 1) = wl N n ++ [wf N n] := by simp [wl, List.range_succ]
theorem wl_at {N n j : Nat} (h : j < n) : (wl N n)[j]? = some (wf N j) := by simp [wl, h]
theorem app_word {ops : Array Oper} {rest : List Oper} {o : Oper} {a : Act} {Q : Exit → Act → World → Prop} {w : World} (hgd : o.guard = none) (s x : Operand)
    (ho : o.op = .call { callee := .builtin .append, args := #[s, x], argTypes := #[29, 29] }) (base : Nat) (v : Value) (N n : Nat) (hs : a.eval s = v) (hown : w.ownsRow base 55 1 v n (wl N n))
    (g : Nat) (y : Int) (cb : Nat) (hx : a.eval x = .slice (some ⟨g, 0, none⟩) 1 cb) (hr : w.cell? ⟨g, 0, none⟩ = some (.int .u64 y)) (hM : n ≤ 17592186044000) (hb : base ≤ w.heap.size) (hy : wf N n = .int .u64 y)
    (h : ∀ v' w', w'.ownsRow base 55 1 v' (n + 1) (wl N (n + 1)) → w.grownBy w' v.ownBlock → wpList Tryd.prog ops Q rest (a.put o.dst v') w') : wpList Tryd.prog ops Q (o :: rest) a w := by
  obtain ⟨i0, hi, hz0, hz1, hz2⟩ := info_parts info_u64
  refine wpList_append_own w hgd s x _ ho base 55 i0 (.int .u64 0) 1 8 und_u64s hi hz0 hz1 hz2 rfl (by decide) v n (wl N n) hs hown ⟨g, 0, none⟩ 1 cb [.int .u64 y] hx rfl
    (fun j u hu => ?_) (fun u hu => by simp at hu; subst hu; rfl) (by unfold maxLen; omega) (by omega) hb ?_
  · rcases j with _ | j
    · simp at hu; subst hu; exact hr
    · simp at hu
  · intro v' w' h1 h2 _
    exact h v' w' (by rw [wl_snoc, hy]; exact h1) h2
theorem own_form2 {w : World} {base : Nat} {e : TypeId} {size : Nat} {v : Value} {n : Nat} {xs : List Value} (h : w.ownsRow base e size v n xs) : ∃ ao cp, v = .slice ao n cp := by
  rcases h.2 with ⟨rfl, rfl⟩ | ⟨g, cap, cur, rfl, _⟩
  · exact ⟨none, 0, rfl⟩
  · exact ⟨_, cap, rfl⟩
theorem rw_own {w : World} {base n N cap : Nat} {ao : Option Addr} (h : w.ownsRow base 55 1 (.slice ao (nw n) cap) (nw n) (wl N (nw n))) (hN : N < 2 ^ n) (h1 : n ≤ 16777216) : Rw w ⟨n, ao, nw n, cap, N⟩ := by
  have hb := nw_bd h1
  refine ⟨lt_nw hN, by show nw n ≤ _; omega, fun k hk => ?_⟩
  have hk' : k < nw n := hk
  obtain ⟨g, cp, f, hv, _, hle, _, hrow, hf⟩ := own_row h (by omega)
  injection hv with h1 h2 h3
  subst h1
  refine ⟨g, 0, rfl, ?_⟩
  rw [Nat.zero_add, hrow.cell (by omega)]
  have e := hf k hk'
  rw [wl_at hk'] at e
  exact e.symm
set_option maxHeartbeats 3200000 in
set_option maxRecDepth 100000 in
theorem setL_any (f : Nat → Bool) (n : Nat) (ao : Option Addr) (ca : Nat) (w : World) (h1 : n ≤ 16777216) (hl : RB w ao f n) :
    Calls Tryd.prog 32 #[.slice ao n ca] w fun e w' => ∃ bo cb, e = .returned (rv n bo (nw n) cb) ∧ w'.ownsRow (w.heap.size + 1) 55 1 (.slice bo (nw n) cb) (nw n) (wl (bn f n) (nw n)) ∧ Below w.heap.size w w' := by
  have HR := hid1 hl
  have hbd := nw_bd h1
  have HN := hid1 (bn_lt f n)
  have HBB : Hid (∀ i, (bn f n).testBit i = (decide (i < n) && f i)) := bn_bit f n
  obtain ⟨N, eN⟩ : ∃ N, bn f n = N := ⟨_, rfl⟩
  rw [eN] at HN HBB ⊢
  clear hl eN
  go_enter Tryd.func32, Tryd.ntmps32
  go_wp2_with fail
  go_loopw [4] (fun i wr => ∃ (k : Nat) (vo : Option Addr) (vc : Nat), k ≤ nw n ∧ i = .int .i64 ((64 * k : Nat) : Int) ∧ wr.ownsRow (w.heap.size + 2) 55 1 (.slice vo k vc) k (wl N k) ∧ wr.rowIs w.heap.size 31 2 (sf 0 none 0 0) ∧ wr.rowIs (w.heap.size + 1) 31 2 (sf n vo k vc) ∧ Below w.heap.size w wr) (fun i _ => 64 * nw n - (intOf i).toNat)
  case atStart => exact ⟨0, none, 0, Nat.zero_le _, rfl, World.ownsRow_nil _ _ _ _, (row_new _ _ _ _ _ _).alloc _, by have h := row_new (w.alloc (.cells #[.int .i64 0, .slice none 0 0] 31)) n none 0 0 31; rw [World.size_alloc] at h; exact h, bl_alloc (bl_alloc (Below.refl _ _) _) _⟩
  case round =>
    obtain ⟨k, vo, vc, hk, rfl, hown, r2, r3, B0⟩ := hrel
    have R2 := hid1 r2
    have R3 := hid1 r3
    have HO := hid1 hown
    have sz : w.heap.size + 2 ≤ wr.heap.size := by have := r3.lt; omega
    clear r2 r3 hown
    by_cases hlt : 64 * k < n
    · have hkn : k < nw n := by unfold nw; omega
      have ik : ((64 * k : Nat) : Int) < (n : Int) := by omega
      have ik0 : (0 : Int) ≤ ((64 * k : Nat) : Int) := by omega
      have ik1 : ((64 * k : Nat) : Int) ≤ 16777216 := by omega
      have hx := wd_lt N k
      have HX := hid1 (fun j => wd_bit N k j)
      obtain ⟨x, ex⟩ : ∃ x, wd N k = x := ⟨_, rfl⟩
      rw [ex] at hx HX
      have HWF : Hid (wf N k = .int .u64 (x : Int)) := hid1 (by unfold wf; rw [ex])
      generalize hP : 64 * k = P at *
      clear ex
      go_wp2_with fail
      go_loop [5, 6] (fun v j => ∃ q : Nat, q ≤ 64 ∧ j = .int .i64 ((q : Int) - 1) ∧ v = .int .u64 ((x / 2 ^ q : Nat) : Int)) (fun _ j => ((intOf j) + 1).toNat)
      case atStart => exact ⟨64, Nat.le_refl _, rfl, by rw [Nat.div_eq_of_lt (by rw [← two64]; exact hx)]; rfl⟩
      case round =>
        obtain ⟨q, hq, rfl, rfl⟩ := hrel
        rcases q with _ | q
        · have d1 := sf_ws R3.out
          have f1 := R3.out.frozen 1
          have l1 := R3.out.lt
          have hx0 : x / 2 ^ 0 = x := by simp
          rw [hx0]
          clear hx0
          go_wp2_with (at_builtin; refine app_word rfl _ _ rfl (w.heap.size + 2) (.slice vo k vc) N k (by go_simp) (HO.out.alloc _) wr.heap.size (x : Int) 1 (by go_simp) (by simp [go_sem]) (by omega) (by simp; omega) HWF.out ?_; intro v' w2 hown2 hgrow; obtain ⟨vo2, vc2, rfl⟩ := own_form2 hown2; have r32 := row_grown (R3.out.alloc _) (HO.out.alloc _) hgrow (by decide); have r22 := row_grown (R2.out.alloc _) (HO.out.alloc _) hgrow (by decide); have e1 := sf_ws r32; have ef := r32.frozen 1; have el := r32.lt; have O2 := hid1 hown2; have G2 := hid1 hgrow; have R32 := hid1 r32; have R22 := hid1 r22; clear hown2 hgrow r32 r22)
          have BQ := grown_below HO.out sz G2.out
          refine ⟨⟨k + 1, vo2, vc2, by omega, by rw [show 64 * (k + 1) = P + 64 by omega]; go_num, ownsRow_setCell_below O2.out (by show w.heap.size + 1 < w.heap.size + 2; omega) _, R22.out.setOther (a := ⟨w.heap.size + 1, 1, none⟩) (by show w.heap.size ≠ w.heap.size + 1; omega) _, (R32.out.set 1 _).congr fun j hj => ?_, (B0.trans (BQ.mono (by omega))).setCell (by show w.heap.size ≤ w.heap.size + 1; omega) _⟩, by simp [intOf]; omega⟩
          unfold sf
          rcases j with _ | _ | j
          · rfl
          · rfl
          · omega
        · have HS := hid1 (half_step x q)
          have hb1 := HX.out q
          rw [decide_eq_true (show q < 64 by omega), Bool.true_and] at hb1
          have hb2 := HBB.out (P + q)
          have hy : x / 2 ^ (q + 1) < 9223372036854775808 := by
            have h3 : x / 2 ^ (q + 1) ≤ x / 2 := by
              rw [Nat.pow_succ, Nat.mul_comm, ← Nat.div_div_eq_div_mul]
              exact Nat.div_le_self _ _
            omega
          generalize x / 2 ^ (q + 1) = y at *
          have iq : ((q + 1 : Nat) : Int) - 1 = (q : Int) := by omega
          rw [iq]
          have iq0 : (0 : Int) ≤ (q : Int) := by omega
          have iq1 : (q : Int) ≤ 63 := by omega
          by_cases hin : P + q < n
          · obtain ⟨ga, oa, rfl, c8⟩ := HR.out (P + q) hin
            replace c8 := keepc B0 c8
            have ip : (P : Int) + (q : Int) < (n : Int) := by omega
            have tp : ((P : Int) + (q : Int)).toNat = P + q := by omega
            rw [decide_eq_true hin, Bool.true_and] at hb2
            cases hf : f (P + q)
            · rw [hf] at c8 hb2
              have HT : Hid (((x / 2 ^ q : Nat) : Int) = 2 * (y : Int)) := hid1 (by rw [HS.out, hb1, hb2]; simp)
              clear hb1 hb2 hf
              go_wp2_with fail
              exact ⟨⟨q, by omega, by go_num, by rw [HT.out]; exact congrArg (Value.int .u64) (by omega)⟩, by simp [intOf]⟩
            · rw [hf] at c8 hb2
              have HT : Hid (((x / 2 ^ q : Nat) : Int) = 2 * (y : Int) + 1) := hid1 (by rw [HS.out, hb1, hb2]; simp)
              clear hb1 hb2 hf
              go_wp2_with fail
              exact ⟨⟨q, by omega, by go_num, by rw [HT.out]; exact congrArg (Value.int .u64) (by omega)⟩, by simp [intOf]⟩
          · have ip : ¬ (P : Int) + (q : Int) < (n : Int) := by omega
            rw [decide_eq_false hin, Bool.false_and] at hb2
            have HT : Hid (((x / 2 ^ q : Nat) : Int) = 2 * (y : Int)) := hid1 (by rw [HS.out, hb1, hb2]; simp)
            clear hb1 hb2
            go_wp2_with fail
            exact ⟨⟨q, by omega, by go_num, by rw [HT.out]; exact congrArg (Value.int .u64) (by omega)⟩, by simp [intOf]⟩
    · have hkn : k = nw n := by unfold nw at *; omega
      have ik : ¬ ((64 * k : Nat) : Int) < (n : Int) := by omega
      subst hkn
      have d0 := sf_len R3.out
      have d1 := sf_ws R3.out
      have e0 := sf_len R2.out
      have e1 := sf_ws R2.out
      have f0 := R2.out.frozen 0
      have f1 := R2.out.frozen 1
      have l1 := R2.out.lt
      generalize hP : 64 * nw n = P at *
      clear hP
      go_wp2_with fail
      refine bodyPost_ret (v := rv n vo (nw n) vc) (by simp [results, Tryd.results32, go_sem, e0, e1]) rfl ⟨vo, vc, rfl, ?_, ?_⟩
      · exact ownsRow_setCell_below (ownsRow_setCell_below (own_mono HO.out (by omega)) (by show w.heap.size < w.heap.size + 1; omega) _) (by show w.heap.size < w.heap.size + 1; omega) _
      · exact (B0.setCell (Nat.le_refl _) _).setCell (Nat.le_refl _) _
end Go.Proofs.YtpinmfhabbcflabDoor
