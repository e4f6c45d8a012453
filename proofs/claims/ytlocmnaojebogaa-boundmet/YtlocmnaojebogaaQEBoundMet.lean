import Derived.Test.YtlocmnaojebogaaQCBoundMet
import Derived.Test.YtlocmnaojebogaaQDBoundMet
import Derived.Test.YtlocmnaojebogaaQABoundMet
/- BOUND MET: what the walk wants. -/
namespace Go.Proofs.Ytlocmnaojebogaa.Nn
open Go.RowKit

def pkV (f : Nat → Int) (m i : Nat) (n : Int) : Int := if m = 0 then 0 else f (i % m) % n
theorem pkV_in {f : Nat → Int} {m i : Nat} {n : Int} (hn : 1 ≤ n) : 0 ≤ pkV f m i n ∧ pkV f m i n < n := by
  unfold pkV
  split
  · omega
  · exact ⟨Int.emod_nonneg _ (by omega), Int.emod_lt_of_pos _ (by omega)⟩
set_option maxHeartbeats 800000 in
set_option maxRecDepth 100000 in
theorem pick17_any (ao : Option Addr) (m cap : Nat) (f : Nat → Int) (i : Nat) (n : Int) (hm : m ≤ 9223372036854775807) (hi : i ≤ 1000000) (hn : 1 ≤ n ∧ n ≤ 256) (w : World) (h : RB w ao m f) :
    Calls Try.prog 12 #[.slice ao m cap, .int .i64 i, .int .i64 n] w fun e w' => e = .returned (.int .i64 (pkV f m i n)) ∧ w' = w := by
  by_cases h0 : m = 0
  · subst h0
    have e : pkV f 0 i n = 0 := if_pos rfl
    rw [e]
    clear e h
    go_enter Try.func12, Try.ntmps12
    go_wp2_with fail
    go_ret
    exact ⟨rfl, rfl⟩
  · have e : pkV f m i n = f (i % m) % n := if_neg h0
    rw [e]
    clear e
    obtain ⟨g, o, rfl, c, x0, x1⟩ := h (i % m) (Nat.mod_lt _ (by omega))
    have q1 : ((i : Int)).tmod (m : Int) = ((i % m : Nat) : Int) := by rw [Int.tmod_eq_emod_of_nonneg (by omega)]; rfl
    have hlt : i % m < m := Nat.mod_lt _ (by omega)
    have hle : i % m ≤ i := Nat.mod_le _ _
    obtain ⟨r, hr⟩ : ∃ r, i % m = r := ⟨_, rfl⟩
    rw [hr] at c x0 x1 q1 hlt hle ⊢
    generalize f r = x at *
    have q2 : x.tmod n = x % n := Int.tmod_eq_emod_of_nonneg x0
    have i0 : (0 : Int) < (m : Int) := by omega
    have i1 : (r : Int) < (m : Int) := by omega
    have i2 : (0 : Int) ≤ (r : Int) := by omega
    have i3 : ¬ (m : Int) = 0 := by omega
    have i4 : ¬ n = 0 := by omega
    clear hr h0
    go_enter Try.func12, Try.ntmps12
    go_wp2_with fail
    go_ret
    exact ⟨rfl, rfl⟩
/-- The sums of the two inputs are both ends. -/
def loX (f : Nat → Int) (j : Nat) : Int := if f j < 0 then 127 else -128
def hiX (f : Nat → Int) (j : Nat) : Int := if f j < 0 then -128 else 127
theorem sm_lo {f : Nat → Int} : ∀ {m : Nat}, (∀ j, j < m → -1 ≤ f j ∧ f j ≤ 1) → smV f (loX f) m = (cnW f 1 m : Nat) * (-128) - (cnW f (-1) m : Nat) * 127
  | 0, _ => rfl
  | m + 1, h => by
    have ih := sm_lo (m := m) fun j hj => h j (by omega)
    have h3 := h m (by omega)
    simp only [smV, cnW, loX]
    rw [ih]
    rcases (show f m = -1 ∨ f m = 0 ∨ f m = 1 by omega) with e | e | e <;> simp [e] <;> omega
theorem sm_hi {f : Nat → Int} : ∀ {m : Nat}, (∀ j, j < m → -1 ≤ f j ∧ f j ≤ 1) → smV f (hiX f) m = (cnW f 1 m : Nat) * 127 - (cnW f (-1) m : Nat) * (-128)
  | 0, _ => rfl
  | m + 1, h => by
    have ih := sm_hi (m := m) fun j hj => h j (by omega)
    have h3 := h m (by omega)
    simp only [smV, cnW, hiX]
    rw [ih]
    rcases (show f m = -1 ∨ f m = 0 ∨ f m = 1 by omega) with e | e | e <;> simp [e] <;> omega
theorem info_i8P : (Try.prog.info? 28).map (fun i => (i.zero, i.size, i.bytes)) = some (some (.int .i8 0), 1, 1) := by kernel_rfl
theorem und_i8P : Try.prog.underlying 27 = some (.slice 28) := by kernel_rfl
def i8L (l : List Int) : List Value := l.map (Value.int .i8)
theorem i8L_snoc (l : List Int) (x : Int) : i8L (l ++ [x]) = i8L l ++ [.int .i8 x] := by simp [i8L]
theorem step_app8 {ops : Array Oper} {o : Oper} {a : Act} {w : World} {K : Act → World → Prop} {Q : Exit → Act → World → Prop} {E : Prop} (hgd : o.guard = none) (s x : Operand)
    (ho : o.op = .call { callee := .builtin .append, args := #[s, x], argTypes := #[27, 27] }) (base : Nat) (v : Value) (l : List Int) (n : Nat) (hs : a.eval s = v) (hown : w.ownsRow base 28 1 v n (i8L l))
    (g : Nat) (y : Int) (cb : Nat) (hx : a.eval x = .slice (some ⟨g, 0, none⟩) 1 cb) (hr : w.cell? ⟨g, 0, none⟩ = some (.int .i8 y)) (hM : n ≤ 1000000000) (hb : base ≤ w.heap.size)
    (h : ∀ v' w', w'.ownsRow base 28 1 v' (n + 1) (i8L (l ++ [y])) → w.grownBy w' v.ownBlock → K (a.put o.dst v') w') : if Region.wanted o (yielded ops a.tmps) = true then Oper.wp Try.prog o a w K Q else E := by
  have hw : Region.wanted o (yielded ops a.tmps) = true := by simp [Region.wanted, hgd]
  rw [if_pos hw]
  obtain ⟨i0, hi, hz0, hz1, hz2⟩ := info_parts info_i8P
  obtain ⟨v', w', hr2, h2, h3, h4, h5⟩ := run_append_own_at (P := Try.prog) w base 27 o.type 28 i0 (.int .i8 0) 1 1 und_i8P hi hz0 hz1 hz2 rfl (by decide) v n (i8L l) hown ⟨g, 0, none⟩ 1 cb [.int .i8 y] rfl
    (fun j u hu => by
      rcases j with _ | j
      · simp at hu; subst hu; exact hr
      · simp at hu) (fun u hu => by simp at hu; subst hu; rfl) (by unfold maxLen; omega) (by omega) hb
  unfold Oper.wp execOp
  simp only [ho, resolve, invoke, builtin, Sem.run_bind, Sem.run_pure, Result.andThen_ok, List.map_toArray, List.map_cons, List.map_nil, hs, hx, hr2]
  exact h v' w' (by rw [i8L_snoc]; exact h2) h3
theorem own_isP {W : World} {b T s n : Nat} {v : Value} {xs : List Value} (h : W.ownsRow b T s v n xs) : ∃ a c, v = .slice a n c := by
  rcases h.2 with ⟨e, hn⟩ | ⟨g, c, _, e, _⟩
  · exact ⟨none, 0, by rw [e, hn]⟩
  · exact ⟨_, _, e⟩
theorem info_u8P : (Try.prog.info? 5).map (fun i => (i.zero, i.size, i.bytes)) = some (some (.int .u8 0), 1, 1) := by kernel_rfl
theorem und_u8P : Try.prog.underlying 22 = some (.slice 5) := by kernel_rfl
def u8L (l : List Int) : List Value := l.map (Value.int .u8)
theorem u8L_snoc (l : List Int) (x : Int) : u8L (l ++ [x]) = u8L l ++ [.int .u8 x] := by simp [u8L]
theorem app_u8P {ops : Array Oper} {rest : List Oper} {o : Oper} {a : Act} {Q : Exit → Act → World → Prop} {w : World} (hgd : o.guard = none) (s x : Operand)
    (ho : o.op = .call { callee := .builtin .append, args := #[s, x], argTypes := #[22, 22] }) (base : Nat) (v : Value) (l : List Int) (n : Nat) (hs : a.eval s = v) (hown : w.ownsRow base 5 1 v n (u8L l))
    (g : Nat) (y : Int) (cb : Nat) (hx : a.eval x = .slice (some ⟨g, 0, none⟩) 1 cb) (hr : w.cell? ⟨g, 0, none⟩ = some (.int .u8 y)) (hM : n ≤ 1000000000) (hb : base ≤ w.heap.size)
    (h : ∀ v' w', w'.ownsRow base 5 1 v' (n + 1) (u8L (l ++ [y])) → w.grownBy w' v.ownBlock → (v'.ownBlock = v.ownBlock ∨ v'.ownBlock = some w.heap.size) → wpList Try.prog ops Q rest (a.put o.dst v') w') : wpList Try.prog ops Q (o :: rest) a w := by
  obtain ⟨i0, hi, hz0, hz1, hz2⟩ := info_parts info_u8P
  refine wpList_append_own_at w hgd s x _ ho base 5 i0 (.int .u8 0) 1 1 und_u8P hi hz0 hz1 hz2 rfl (by decide) v n (u8L l) hs hown ⟨g, 0, none⟩ 1 cb [.int .u8 y] hx rfl
    (fun j u hu => ?_) (fun u hu => by simp at hu; subst hu; rfl) (by unfold maxLen; omega) (by omega) hb ?_
  · rcases j with _ | j
    · simp at hu; subst hu; exact hr
    · simp at hu
  · intro v' w' h1 h2 _ h3
    exact h v' w' (by rw [u8L_snoc]; exact h1) h2 h3
end Go.Proofs.Ytlocmnaojebogaa.Nn
/- BOUND MET: a network of one LDense. -/
namespace Go.Proofs.Ytlocmnaojebogaa.Nn
open Go.RowKit

def mtL (K m : Nat) (aw : Option Addr) (cw : Nat) (ab : Option Addr) (cb : Nat) (ws bs : Nat → Int) : Ly := ⟨2, 2, K, 0, 0, 0, 0, 0, 0, 0, 0, 0, aw, K * m, cw, none, 0, 0, ab, K, cb, ws, fun _ _ => 0, bs⟩
def mtN (gl m : Nat) (L : Ly) : Nt := ⟨⟨#[109, 101, 116]⟩, 1, m, 1, some ⟨gl, 0, none⟩, 1, 1, fun _ => L⟩
theorem mt_fan {K m : Nat} {aw ab : Option Addr} {cw cb : Nat} {ws bs : Nat → Int} {gl : Nat} : fan (mtL K m aw cw ab cb ws bs) (sp (mtN gl m (mtL K m aw cw ab cb ws bs)) 0).h (sp (mtN gl m (mtL K m aw cw ab cb ws bs)) 0).v (sp (mtN gl m (mtL K m aw cw ab cb ws bs)) 0).c = m := by
  unfold fan
  rw [if_pos (show (mtL K m aw cw ab cb ws bs).kd = 2 from rfl)]
  show 1 * (m : Int) * 1 = m
  omega
theorem mt_ok {K m : Nat} {aw ab : Option Addr} {cw cb : Nat} {ws bs : Nat → Int} (gl : Nat) (hK : 1 ≤ K ∧ K ≤ 4) (hm : 1 ≤ m ∧ m ≤ 20) (hw : ∀ j, j < K * m → -1 ≤ ws j ∧ ws j ≤ 1) (hb : ∀ j, j < K → -2000000 ≤ bs j ∧ bs j ≤ 2000000) : chE (mtN gl m (mtL K m aw cw ab cb ws bs)) = 0 ∧ chA (mtN gl m (mtL K m aw cw ab cb ws bs)) = 0 := by
  have hf := mt_fan (K := K) (m := m) (aw := aw) (ab := ab) (cw := cw) (cb := cb) (ws := ws) (bs := bs) (gl := gl)
  have hkm : K * m ≤ 80 := Nat.mul_le_mul hK.2 hm.2
  have h0 : whE (mtN gl m (mtL K m aw cw ab cb ws bs)) = 0 := by
    have e1 : nmB (mtN gl m (mtL K m aw cw ab cb ws bs)).nm = true := by show nmB ⟨#[109, 101, 116]⟩ = true; decide
    have e2 : chk (1 : Int) m 1 = 0 := by
      unfold chk
      rw [if_pos (show Sides (1 : Int) m 1 from ⟨by decide, ⟨by omega, by omega⟩, by decide⟩), if_neg (by omega)]
    unfold whE
    rw [if_neg (by rw [e1]; decide), if_neg (by show ¬ chk (1 : Int) m 1 ≠ 0; rw [e2]; decide), if_pos (show 1 ≤ (mtN gl m (mtL K m aw cw ab cb ws bs)).ml ∧ (mtN gl m (mtL K m aw cw ab cb ws bs)).ml ≤ 64 from ⟨Nat.le_refl 1, (show 1 ≤ 64 by decide)⟩)]
  refine ch_ok h0 fun j hj => ?_
  have hj' : j < 1 := hj
  obtain rfl : j = 0 := by omega
  show faE (mtL K m aw cw ab cb ws bs) (sp (mtN gl m (mtL K m aw cw ab cb ws bs)) 0) = 0
  have hwc : wc (mtL K m aw cw ab cb ws bs) (sp (mtN gl m (mtL K m aw cw ab cb ws bs)) 0).h (sp (mtN gl m (mtL K m aw cw ab cb ws bs)) 0).v (sp (mtN gl m (mtL K m aw cw ab cb ws bs)) 0).c = ((K * m : Nat) : Int) := by unfold wc; rw [hf]; show (K : Int) * m = _; push_cast; rfl
  have hle : lef (mtL K m aw cw ab cb ws bs) (sp (mtN gl m (mtL K m aw cw ab cb ws bs)) 0) = 2147483647 - (m : Int) * 128 := by unfold lef; rw [hf]; rfl
  unfold faE
  rw [if_neg (show ¬ (mtL K m aw cw ab cb ws bs).kd = 1 from (show ¬ (2 : Int) = 1 by decide)), if_pos (show (mtL K m aw cw ab cb ws bs).kd = 2 from rfl)]
  refine frF_ok fun j hj => ?_
  rcases (show j = 0 ∨ j = 1 ∨ j = 2 ∨ j = 3 ∨ j = 4 ∨ j = 5 ∨ j = 6 by omega) with rfl | rfl | rfl | rfl | rfl | rfl | rfl
  · exact if_pos (show (1 : Int) ≤ (K : Int) ∧ (K : Int) ≤ 4096 by omega)
  · show nwE _ = 0
    unfold nwE
    exact if_pos ⟨⟨rfl, rfl, rfl, rfl, rfl, rfl, rfl, rfl⟩, rfl⟩
  · show wkE _ = 0
    unfold wkE
    exact if_pos (.inr rfl)
  · show wrE _ _ = 0
    unfold wrE
    rw [hwc]
    exact if_pos (show (0 : Int) + ((K * m : Nat) : Int) ≤ 16777216 by omega)
  · show wsE _ _ = 0
    unfold wsE
    rw [hwc]
    exact if_pos ⟨rfl, fun j hj => ⟨hw j hj, fun _ => (show (2 : Int) ≠ 1 by decide)⟩⟩
  · show enE _ _ = 0
    unfold enE
    rw [if_pos (show (sp (mtN gl m (mtL K m aw cw ab cb ws bs)) 0).la = true from rfl)]
    exact if_pos ⟨rfl, rfl⟩
  · show reE _ _ = 0
    unfold reE
    rw [hle]
    exact if_pos ⟨by omega, fun j hj => by have := hb j hj; unfold bok; show _ ≤ bs j ∧ bs j ≤ _; omega⟩
/-- What comes in, and what the one layer makes of it. -/
def mtV (L : Ly) (m : Nat) (x : Nat → Int) (i : Nat) : Nat → Int := if i = 0 then x else ouV L m x
def mtS (K m i : Nat) : Nat := if i = 0 then m else K
theorem mt_wrk {K m : Nat} {aw ab : Option Addr} {cw cb : Nat} {ws bs : Nat → Int} (gl : Nat) (hK : 1 ≤ K ∧ K ≤ 4) (hm : 1 ≤ m ∧ m ≤ 20) (hcw : K * m ≤ cw) (hw : ∀ j, j < K * m → -1 ≤ ws j ∧ ws j ≤ 1) (hb : ∀ j, j < K → -2000000 ≤ bs j ∧ bs j ≤ 2000000) (x : Nat → Int) (hx : ∀ j, j < m → -128 ≤ x j ∧ x j ≤ 128) (i : Nat) (hi : i < 1) : Wrk (mtN gl m (mtL K m aw cw ab cb ws bs)) (mtS K m) (mtV (mtL K m aw cw ab cb ws bs) m x) i := by
  obtain rfl : i = 0 := by omega
  have hkm : K * m ≤ 80 := Nat.mul_le_mul hK.2 hm.2
  refine ⟨.inr (.inl rfl), hK.1, fun W xo xc hL hR => ?_⟩
  refine (connect_any (mtL K m aw cw ab cb ws bs) K m rfl hK.1 (by omega) rfl hm.1 (by omega) hcw hw xo xc x hx (fun k hk => ?_) 1 m 1 _ _ _ W hL hR).mono ?_
  · have hkm2 : k * m + m ≤ K * m := by have := Nat.mul_le_mul_right m (show k + 1 ≤ K by omega); rw [Nat.succ_mul] at this; exact this
    have sb := sm_bd (f := fun j => ws (k * m + j)) (g := x) (m := m) (fun j hj => hw _ (by omega)) hx m (Nat.le_refl _)
    have hbk := hb k hk
    refine .inl ⟨(show 0 < K by omega), hk, ?_, ?_⟩
    · show -4611686018427387904 ≤ smV (fun j => ws (k * m + j)) x m ∧ smV (fun j => ws (k * m + j)) x m ≤ 4611686018427387904
      omega
    · show _ ≤ bs k ∧ bs k ≤ _
      omega
  · rintro e w' ⟨v', rfl, o', hb'⟩
    exact ⟨v', rfl, o', hb'⟩
/-- Both ends. -/
theorem mt_lo {K m : Nat} {aw ab : Option Addr} {cw cb : Nat} {ws bs : Nat → Int} {k : Nat} (hK : k < K) (hw : ∀ j, j < K * m → -1 ≤ ws j ∧ ws j ≤ 1) : ouV (mtL K m aw cw ab cb ws bs) m (loX (fun j => ws (k * m + j))) k = yLo (mtL K m aw cw ab cb ws bs) m 0 k ∧ ouV (mtL K m aw cw ab cb ws bs) m (hiX (fun j => ws (k * m + j))) k = yHi (mtL K m aw cw ab cb ws bs) m 0 k := by
  have hkm2 : k * m + m ≤ K * m := by have := Nat.mul_le_mul_right m (show k + 1 ≤ K by omega); rw [Nat.succ_mul] at this; exact this
  have e1 : ∀ x, ouV (mtL K m aw cw ab cb ws bs) m x k = smV (fun j => ws (k * m + j)) x m + bs k := fun x => by unfold ouV beV; exact if_pos (show 0 < K by omega)
  have e2 : bsO (mtL K m aw cw ab cb ws bs) k = bs k := if_pos hK
  have h := fun j (hj : j < m) => hw (k * m + j) (by omega)
  rw [e1, e1, sm_lo h, sm_hi h]
  unfold yLo yHi
  rw [if_neg (show ¬ (mtL K m aw cw ab cb ws bs).kd = 3 from (show ¬ (2 : Int) = 3 by decide)), if_neg (show ¬ (mtL K m aw cw ab cb ws bs).kd = 3 from (show ¬ (2 : Int) = 3 by decide)), e2]
  exact ⟨rfl, rfl⟩
theorem mt_fanN {K m : Nat} {aw ab : Option Addr} {cw cb : Nat} {ws bs : Nat → Int} (gl : Nat) : fanN (mtN gl m (mtL K m aw cw ab cb ws bs)) 0 = m := by
  unfold fanN
  show (fan (mtL K m aw cw ab cb ws bs) _ _ _).toNat = m
  rw [mt_fan]
  rfl
theorem mt_el (m : Nat) (hm : 1 ≤ m ∧ m ≤ 20) : elN 1 m 1 = m := by
  have e2 : chk (1 : Int) m 1 = 0 := by
    unfold chk
    rw [if_pos (show Sides (1 : Int) m 1 from ⟨by decide, ⟨by omega, by omega⟩, by decide⟩), if_neg (by omega)]
  unfold elN
  rw [if_pos e2]
  omega
/-- Run of it. -/
theorem mt_run {K m : Nat} {aw ab : Option Addr} {cw cb : Nat} {ws bs : Nat → Int} (gl : Nat) (hK : 1 ≤ K ∧ K ≤ 4) (hm : 1 ≤ m ∧ m ≤ 20) (hcw : K * m ≤ cw) (hw : ∀ j, j < K * m → -1 ≤ ws j ∧ ws j ≤ 1) (hb : ∀ j, j < K → -2000000 ≤ bs j ∧ bs j ≤ 2000000) (x : Nat → Int) (hx : ∀ j, j < m → -128 ≤ x j ∧ x j ≤ 128) (ao : Option Addr) (cap : Nat) (fb : Nat → Int) (hfb : ∀ j, j < m → s8 (fb j) = x j) (w : World) (hN : NtW w (mtN gl m (mtL K m aw cw ab cb ws bs))) (hR : RB w ao m fb) :
    Calls Try.prog 14 #[ntv (mtN gl m (mtL K m aw cw ab cb ws bs)), .slice ao m cap] w fun e w' => ∃ g cp, e = .returned (.tuple #[.agg #[.slice (some ⟨g, 0, none⟩) K cp, .int .i64 (grV (ouV (mtL K m aw cw ab cb ws bs) m x) K)], .int .i64 0]) ∧ w.heap.size ≤ g ∧ (∀ t, t < K → w'.cell? ⟨g, t, none⟩ = some (.int .i64 (ouV (mtL K m aw cw ab cb ws bs) m x t))) ∧ Below w.heap.size w w' := by
  have h := prun_ok (mtN gl m (mtL K m aw cw ab cb ws bs)) (mtS K m) (mtV (mtL K m aw cw ab cb ws bs) m x) (mt_ok gl hK hm hw hb).1 (mt_el m hm) (fun i hi => mt_wrk gl hK hm hcw hw hb x hx i hi) (show K ≤ 16777216 by omega) ao cap fb hfb w hN hR
  refine h.mono ?_
  rintro e w' ⟨g, cp, rfl, hg, hr, hb'⟩
  refine ⟨g, cp, rfl, hg, fun t ht => ?_, hb'⟩
  obtain ⟨g2, o2, e2, q2⟩ := hr t ht
  cases e2
  rw [Nat.zero_add] at q2
  exact q2
theorem loX_in (f : Nat → Int) (j : Nat) : (-128 ≤ loX f j ∧ loX f j ≤ 128) ∧ (-128 ≤ hiX f j ∧ hiX f j ≤ 128) := by
  unfold loX hiX
  split <;> omega
theorem ne_symP {a b : Option Nat} (h : a = none ∨ a ≠ b) : b = none ∨ b ≠ a := by
  rcases h with h | h
  · subst h
    cases b
    · exact .inl rfl
    · exact .inr (by simp)
  · exact .inr h.symm
theorem ne_newP {a b c : Option Nat} {k : Nat} (h : a = none ∨ a ≠ b) (hat : c = a ∨ c = some k) (hb : ∀ q, b = some q → q < k) : c = none ∨ c ≠ b := by
  rcases hat with hat | hat
  · rw [hat]; exact h
  · refine .inr fun e => ?_
    have := hb k (by rw [← e, hat])
    omega
end Go.Proofs.Ytlocmnaojebogaa.Nn
/- BOUND MET: the walk. -/
namespace Go.Proofs.Ytlocmnaojebogaa.Nn
open Go.RowKit

/-- A layer under way: K outputs, weights u, biases z. -/
def lyF (K : Nat) (u z : Value) : Nat → Value := fun i => if i = 0 then .int .i64 2 else if i = 1 then .int .i64 2 else if i = 2 then .int .i64 K else if i = 12 then u else if i = 13 then .slice none 0 0 else if i = 14 then z else .int .i64 0
theorem ly_set12 {W : World} {g : Nat} {t : TypeId} {K : Nat} {u z : Value} (h : W.rowIs g t 15 (lyF K u z)) (u' : Value) : (W.setCell ⟨g, 12, none⟩ u').rowIs g t 15 (lyF K u' z) := by
  refine (h.set 12 u').congr fun i hi => ?_
  rcases (show i = 0 ∨ i = 1 ∨ i = 2 ∨ i = 3 ∨ i = 4 ∨ i = 5 ∨ i = 6 ∨ i = 7 ∨ i = 8 ∨ i = 9 ∨ i = 10 ∨ i = 11 ∨ i = 12 ∨ i = 13 ∨ i = 14 by omega) with rfl | rfl | rfl | rfl | rfl | rfl | rfl | rfl | rfl | rfl | rfl | rfl | rfl | rfl | rfl <;> rfl
theorem ly_set14 {W : World} {g : Nat} {t : TypeId} {K : Nat} {u z : Value} (h : W.rowIs g t 15 (lyF K u z)) (z' : Value) : (W.setCell ⟨g, 14, none⟩ z').rowIs g t 15 (lyF K u z') := by
  refine (h.set 14 z').congr fun i hi => ?_
  rcases (show i = 0 ∨ i = 1 ∨ i = 2 ∨ i = 3 ∨ i = 4 ∨ i = 5 ∨ i = 6 ∨ i = 7 ∨ i = 8 ∨ i = 9 ∨ i = 10 ∨ i = 11 ∨ i = 12 ∨ i = 13 ∨ i = 14 by omega) with rfl | rfl | rfl | rfl | rfl | rfl | rfl | rfl | rfl | rfl | rfl | rfl | rfl | rfl | rfl <;> rfl
theorem ly_newF (W : World) (K : Nat) (t : TypeId) : (W.alloc (.cells #[.int .i64 2, .int .i64 2, .int .i64 K, .int .i64 0, .int .i64 0, .int .i64 0, .int .i64 0, .int .i64 0, .int .i64 0, .int .i64 0, .int .i64 0, .int .i64 0, .slice none 0 0, .slice none 0 0, .slice none 0 0] t)).rowIs W.heap.size t 15 (lyF K (.slice none 0 0) (.slice none 0 0)) :=
  World.rowIs_alloc W _ t _ fun i hi => by
    have hi' : i < 15 := by simpa using hi
    rcases (show i = 0 ∨ i = 1 ∨ i = 2 ∨ i = 3 ∨ i = 4 ∨ i = 5 ∨ i = 6 ∨ i = 7 ∨ i = 8 ∨ i = 9 ∨ i = 10 ∨ i = 11 ∨ i = 12 ∨ i = 13 ∨ i = 14 by omega) with rfl | rfl | rfl | rfl | rfl | rfl | rfl | rfl | rfl | rfl | rfl | rfl | rfl | rfl | rfl <;> rfl
/-- The net under way. -/
def ntF (m : Nat) (u : Value) : Nat → Value := fun i => if i = 0 then .string ⟨#[109, 101, 116]⟩ else if i = 1 then .int .i64 1 else if i = 2 then .int .i64 m else if i = 3 then .int .i64 1 else u
theorem nt_newF (W : World) (m : Nat) (t : TypeId) : (W.alloc (.cells #[.string ⟨#[109, 101, 116]⟩, .int .i64 1, .int .i64 m, .int .i64 1, .slice none 0 0] t)).rowIs W.heap.size t 5 (ntF m (.slice none 0 0)) :=
  World.rowIs_alloc W _ t _ fun i hi => by
    have hi' : i < 5 := by simpa using hi
    rcases (show i = 0 ∨ i = 1 ∨ i = 2 ∨ i = 3 ∨ i = 4 by omega) with rfl | rfl | rfl | rfl | rfl <;> rfl
theorem nt_set4 {W : World} {g : Nat} {t : TypeId} {m : Nat} {u : Value} (h : W.rowIs g t 5 (ntF m u)) (u' : Value) : (W.setCell ⟨g, 4, none⟩ u').rowIs g t 5 (ntF m u') := by
  refine (h.set 4 u').congr fun i hi => ?_
  rcases (show i = 0 ∨ i = 1 ∨ i = 2 ∨ i = 3 ∨ i = 4 by omega) with rfl | rfl | rfl | rfl | rfl <;> rfl
theorem i8_id {z : Int} (h1 : -128 ≤ z) (h2 : z ≤ 127) : IntKind.i8.wrap z = z := by
  simp [IntKind.wrap, IntKind.bits, IntKind.signed]
  omega
theorem own_set {W : World} {base e size n c j : Nat} {v : Value} {xs : List Value} {u : Value} (h : W.ownsRow base e size v n xs) (hc : c < base) : (W.setCell ⟨c, j, none⟩ u).ownsRow base e size v n xs :=
  h.kept (row := some c) ⟨rfl, rfl, rfl, by simp, fun k _ hne => Below.heap_setCell _ _ _ _ (fun e => hne (by rw [e]))⟩ (by
    cases hv : v.ownBlock with
    | none => exact .inl rfl
    | some q => exact .inr (fun e => by cases e; have := (h.lt c hv).1; omega))
theorem own_neP {W : World} {b1 b2 e1 e2 s1 s2 n1 n2 : Nat} {v1 v2 : Value} {x1 x2 : List Value} (h1 : W.ownsRow b1 e1 s1 v1 n1 x1) (h2 : W.ownsRow b2 e2 s2 v2 n2 x2) (hne : e1 ≠ e2) : v1.ownBlock = none ∨ v1.ownBlock ≠ v2.ownBlock := by
  rcases h1.2 with ⟨e, _⟩ | ⟨g, c, cu, e, _, hg, _⟩
  · subst e; exact .inl rfl
  · refine .inr fun he => ?_
    rcases h2.2 with ⟨e', _⟩ | ⟨g', c', cu', e', _, hg', _⟩
    · subst e e'; cases he
    · subst e e'
      have : g = g' := by simpa [Value.ownBlock] using he
      subst this
      rw [hg] at hg'
      simp at hg'
      exact hne hg'.2
theorem own_cellsN {W : World} {base e n uc : Nat} {ua : Option Addr} {l : List Int} {mk : Int → Value} (h : W.ownsRow base e 1 (.slice ua n uc) n (l.map mk)) (hn : 1 ≤ n) : ∃ g, ua = some ⟨g, 0, none⟩ ∧ n ≤ uc ∧ base ≤ g ∧ ∀ k, k < n → W.cell? ⟨g, k, none⟩ = (l.map mk)[k]? := by
  rcases h.2 with ⟨_, h0⟩ | ⟨g, cap, cur, hv, hb, hg, h4, h5, h6, h7⟩
  · omega
  · cases hv
    refine ⟨g, rfl, h4, hb, fun k hk => ?_⟩
    rw [← h7, Nat.mul_one, List.getElem?_take_of_lt hk]
    rw [Array.getElem?_toList]
    simp [World.cell?, hg]
theorem cell_oneP {Y : World} {b c i j : Nat} {u x : Value} (h : Y.cell? ⟨b, i, none⟩ = some x) (hn : b ≠ c) : (Y.setCell ⟨c, j, none⟩ u).cell? ⟨b, i, none⟩ = some x :=
  (World.cell?_of_block (w := Y) (Below.heap_setCell _ _ _ _ (by show b ≠ c; exact hn))).trans h
abbrev mtO (K i gw gz uc zc : Nat) : Obj := .cells #[.int .i64 2, .int .i64 2, .int .i64 K, .int .i64 0, .int .i64 0, .int .i64 0, .int .i64 0, .int .i64 0, .int .i64 0, .int .i64 0, .int .i64 0, .int .i64 0, .slice (some ⟨gw, 0, none⟩) i uc, .slice none 0 0, .slice (some ⟨gz, 0, none⟩) K zc] 50
theorem mtW {W : World} {gl K m i gw gz uc zc : Nat} {ws bs : Nat → Int} (h : W.heap[gl]? = some (.cells #[.int .i64 2, .int .i64 2, .int .i64 K, .int .i64 0, .int .i64 0, .int .i64 0, .int .i64 0, .int .i64 0, .int .i64 0, .int .i64 0, .int .i64 0, .int .i64 0, .slice (some ⟨gw, 0, none⟩) i uc, .slice none 0 0, .slice (some ⟨gz, 0, none⟩) K zc] 50)) (hi : K * m = i) (hib : i ≤ 80) (hKb : K ≤ 4) (h2 : ∀ t, t < i → W.cell? ⟨gw, t, none⟩ = some (.int .i8 (ws t))) (h3 : ∀ t, t < K → W.cell? ⟨gz, t, none⟩ = some (.int .i64 (bs t))) : NtW W (mtN gl m (mtL K m (some ⟨gw, 0, none⟩) uc (some ⟨gz, 0, none⟩) zc ws bs)) := by
  subst hi
  refine ⟨fun j hj => ⟨gl, 0, rfl, ?_⟩, (show (1 : Nat) ≤ 9223372036854775807 by decide), (show (3 : Nat) ≤ 9223372036854775807 by decide)⟩
  have hj' : j < 1 := hj
  obtain rfl : j = 0 := by omega
  refine ⟨⟨bcl h rfl, bcl h rfl, bcl h rfl, bcl h rfl, bcl h rfl, bcl h rfl, bcl h rfl, bcl h rfl, bcl h rfl, bcl h rfl, bcl h rfl, bcl h rfl, bcl h rfl, bcl h rfl, bcl h rfl⟩, ⟨fun t ht => ⟨gw, 0, rfl, by rw [Nat.zero_add]; exact h2 t ht⟩, fun t ht => absurd ht (Nat.not_lt_zero t), fun t ht => ⟨gz, 0, rfl, by rw [Nat.zero_add]; exact h3 t ht⟩, ?_, ?_, ?_⟩⟩
  · show K * m ≤ _; omega
  · show 0 ≤ _; omega
  · show K ≤ _; omega
def loB (ws : Nat → Int) (A j : Nat) : List Int := (List.range j).map fun t => if ws (A + t) < 0 then 127 else 128
def hiB (ws : Nat → Int) (A j : Nat) : List Int := (List.range j).map fun t => if ws (A + t) < 0 then 128 else 127
theorem loB_succ (ws : Nat → Int) (A j : Nat) : loB ws A (j + 1) = loB ws A j ++ [if ws (A + j) < 0 then 127 else 128] := by unfold loB; rw [List.range_succ, List.map_append]; rfl
theorem hiB_succ (ws : Nat → Int) (A j : Nat) : hiB ws A (j + 1) = hiB ws A j ++ [if ws (A + j) < 0 then 128 else 127] := by unfold hiB; rw [List.range_succ, List.map_append]; rfl
def wsM (f : Nat → Int) (n : Nat) (i : Nat) : Int := pkV f n i 3 - 1
def wsL (f : Nat → Int) (n i : Nat) : List Int := (List.range i).map (wsM f n)
theorem wsL_succ (f : Nat → Int) (n i : Nat) : wsL f n (i + 1) = wsL f n i ++ [wsM f n i] := by unfold wsL; rw [List.range_succ, List.map_append]; rfl
def bsM (c : Int) (i : Nat) : Int := c + i
def bsL (c : Int) (i : Nat) : List Int := (List.range i).map (bsM c)
theorem bsL_succ (c : Int) (i : Nat) : bsL c (i + 1) = bsL c i ++ [bsM c i] := by unfold bsL; rw [List.range_succ, List.map_append]; rfl
set_option maxHeartbeats 6400000 in
set_option maxRecDepth 100000 in
theorem boundMet_any (ao : Option Addr) (n cap : Nat) (f : Nat → Int) (hn : n ≤ 9223372036854775807) (k0 bias : Int) (hk0 : -9223372036854775808 ≤ k0 ∧ k0 ≤ 9223372036854775807) (w : World) (hf : RB w ao n f) :
    Calls Try.prog 4 #[.slice ao n cap, .int .i64 k0, .int .i64 bias] w fun e w' => e = .returned (.bool true) ∧ Below w.heap.size w w' := by
  have HF := hid1 hf
  clear hf
  obtain ⟨k1, hk1⟩ : ∃ k1 : Int, k1 = if k0 < 0 then -1 - k0 else k0 := ⟨_, rfl⟩
  have hk1b : 0 ≤ k1 ∧ k1 ≤ 9223372036854775807 := by rw [hk1]; split <;> omega
  have HK1 := hid1 hk1
  clear hk1
  obtain ⟨K, hK⟩ := Int.eq_ofNat_of_zero_le (show 0 ≤ 1 + k1 % 4 by omega)
  have hKb : 1 ≤ K ∧ K ≤ 4 := by omega
  obtain ⟨m, hm⟩ : ∃ m, 1 + n % 20 = m := ⟨_, rfl⟩
  have hmb : 1 ≤ m ∧ m ≤ 20 := by omega
  have hkm : K * m ≤ 80 := Nat.mul_le_mul hKb.2 hmb.2
  have t1 : k1.tmod 4 = k1 % 4 := Int.tmod_eq_emod_of_nonneg hk1b.1
  have t2 : (n : Int).tmod 20 = (n : Int) % 20 := Int.tmod_eq_emod_of_nonneg (by omega)
  have hm' : 1 + (n : Int) % 20 = (m : Int) := by omega
  have hK' : 1 + k1 % 4 = (K : Int) := hK
  clear hK hm
  go_enter Try.func4, Try.ntmps4
  go_wp2_with fail
  refine (obegun_any w).mono ?_
  rintro e w1 ⟨rfl, B1⟩
  go_upto_if 28 with fail
  go_cut [1] (fun s wx => s = .int .i64 k1 ∧ wx = w1)
  case first =>
    by_cases h0 : k0 < 0
    · rw [if_pos h0] at HK1
      have hw1 : IntKind.i64.wrap (-1 - k0) = k1 := by rw [IntKind.wrap_i64, HK1.out]; omega
      go_wp2_with fail
      go_meet
      exact ⟨rfl, rfl⟩
    · rw [if_neg h0] at HK1
      go_wp2_with fail
      go_meet
      exact ⟨by rw [HK1.out], rfl⟩
  case rest =>
    obtain ⟨rfl, rfl⟩ := hcut
    obtain ⟨b, hb0⟩ : ∃ b, wc.heap.size = b := ⟨_, rfl⟩
    go_upto_region 9 with fail
    refine gen_world (fun X => Below w.heap.size w X ∧ X.rowIs b 45 5 (ntF m (.slice none 0 0)) ∧ X.rowIs (b + 1) 50 15 (lyF K (.slice none 0 0) (.slice none 0 0)) ∧ b + 2 ≤ X.heap.size) ⟨by repeat (first | (with_reducible exact Below.refl _ _) | (with_reducible refine bl_alloc ?_ _) | (with_reducible refine Below.drew ?_) | (with_reducible refine bl_drewN ?_ _) | (with_reducible refine bl_set ?_ (by omega) _) | (with_reducible refine bl_step ?_ (by assumption))), by rw [← hb0]; exact (nt_newF wc m _).alloc _, by have := ly_newF (wc.alloc (.cells #[.string ⟨#[109, 101, 116]⟩, .int .i64 1, .int .i64 m, .int .i64 1, .slice none 0 0] 45)) K 50; rw [show (wc.alloc (.cells #[.string ⟨#[109, 101, 116]⟩, .int .i64 1, .int .i64 m, .int .i64 1, .slice none 0 0] 45)).heap.size = b + 1 by simp [hb0]] at this; exact this, by simp [hb0]⟩ ?_
    have hwb : w.heap.size ≤ b := by rw [← hb0]; exact B1.size
    clear B1 hb0 HK1 t1 t2
    rintro X ⟨BX, RN, RL, zX⟩
    obtain ⟨P, hP⟩ : ∃ P, K * m = P := ⟨_, rfl⟩
    have qP : IntKind.i64.wrap ((K : Int) * (m : Int)) = (P : Int) := by rw [IntKind.wrap_i64, ← hP]; push_cast; have := hP; omega
    rw [hP] at hkm
    have HP := hid1 hP
    have HRN := hid1 RN
    have HRL := hid1 RL
    clear hP RN RL hm' hK' hk1b
    go_wp2_with fail
    go_loopw [10] (fun iv wr => ∃ (i : Nat) (ua : Option Addr) (uc : Nat), i ≤ P ∧ iv = .int .i64 i ∧ b + 2 ≤ wr.heap.size ∧ Below w.heap.size w wr ∧ Hid (wr.rowIs b 45 5 (ntF m (.slice none 0 0))) ∧ Hid (wr.rowIs (b + 1) 50 15 (lyF K (.slice ua i uc) (.slice none 0 0))) ∧ Hid (wr.ownsRow (b + 2) 28 1 (.slice ua i uc) i (i8L (wsL f n i)))) (fun iv _ => P - (intOf iv).toNat)
    case atStart => exact ⟨0, none, 0, Nat.zero_le _, rfl, zX, BX, HRN, HRL, hid1 (World.ownsRow_nil _ _ _ _)⟩
    case round =>
      clear BX HRN HRL zX X
      obtain ⟨i, ua, uc, hi, rfl, zX, BX, HRN, HRL, HO⟩ := hrel
      have ii0 : (0 : Int) ≤ (i : Int) := by omega
      by_cases hlt : i < P
      · as_aux_lemma =>
        have ii : (i : Int) < (P : Int) := by omega
        have CP := hid1 (pick17_any ao n cap f i 3 hn (by omega) (by decide) wr.drew (HF.out.keep (Below.drew BX)))
        have hpk := pkV_in (f := f) (m := n) (i := i) (n := 3) (by decide)
        have HWS : Hid (wsM f n i = pkV f n i 3 - 1) := hid1 rfl
        have HSU := hid1 (wsL_succ f n i)
        obtain ⟨y, hy⟩ : ∃ y, pkV f n i 3 = y := ⟨_, rfl⟩
        rw [hy] at CP hpk HWS
        rw [HWS.out] at HSU
        clear hy HWS
        have wI : IntKind.i64.wrap (y - 1) = y - 1 := by rw [IntKind.wrap_i64]; omega
        have wJ : IntKind.i8.wrap (y - 1) = y - 1 := i8_id (by omega) (by omega)
        have l12 : wr.cell? ⟨b + 1, 12, none⟩ = some (.slice ua i uc) := HRL.out.cell (i := 12) (by decide)
        have lb1 := HRL.out.lt
        have huo : ∀ q, (Value.slice ua i uc).ownBlock = some q → b + 2 ≤ q := fun q hq => (HO.out.lt q hq).1
        have HUO := hid1 huo
        have HBX := hid1 BX
        clear huo BX
        go_upto_region 12 with fail
        go_region_law (first
          | (refine step_app8 rfl (.tmp 51) (.tmp 57) rfl (b + 2) (.slice ua i uc) (wsL f n i) i (by go_simp) (own_bl HO.out (by repeat (first | (with_reducible exact Below.refl _ _) | (with_reducible refine Below.drew ?_) | (with_reducible refine bl_alloc ?_ _)))) wr.heap.size (y - 1) 1 (by go_simp) (by simp [go_sem]) (by omega) (by simp; omega) ?_; intro v3 y3 own3 gr3; obtain ⟨a3, c3, rfl⟩ := own_isP own3; have RL3 := World.rowIs.of_block HRL.out ((gr3.block (b + 1) (by simp; omega) (fun e => by have := HUO.out (b + 1) e.symm; omega)).trans ((show Below wr.heap.size wr _ from (by repeat (first | (with_reducible exact Below.refl _ _) | (with_reducible refine Below.drew ?_) | (with_reducible refine bl_alloc ?_ _)))).block (b + 1) lb1)); have m12 : y3.cell? ⟨b + 1, 12, none⟩ = some (.slice ua i uc) := RL3.cell (i := 12) (by decide); have fz := RL3.frozen 12; have HRL3 := hid1 RL3; have HN3 := hid1 (World.rowIs.of_block HRN.out ((gr3.block b (by simp; omega) (fun e => by have := HUO.out b e.symm; omega)).trans ((show Below wr.heap.size wr _ from (by repeat (first | (with_reducible exact Below.refl _ _) | (with_reducible refine Below.drew ?_) | (with_reducible refine bl_alloc ?_ _)))).block b (by omega))));have BW3 := hid1 (gr_bel gr3 (show Below w.heap.size w _ from bl_step HBX.out (by repeat (first | (with_reducible exact Below.refl _ _) | (with_reducible refine Below.drew ?_) | (with_reducible refine bl_alloc ?_ _)))) (fun q hq => by have := HUO.out q hq; omega)); have z3 := gr3.size; have O3 := hid1 own3; have G3 := hid1 gr3; clear own3 gr3 RL3)
          | (go_simp; go_at_call 12; refine CP.out.mono ?_; rintro e y0 ⟨rfl, rfl⟩))
        all_goals
          have z3' : b + 2 ≤ y3.heap.size := by simp at z3; omega
          have E1 : Hid ((y3.setCell ⟨b + 1, 12, none⟩ (.slice a3 (i + 1) c3)).ownsRow (b + 2) 28 1 (.slice a3 (i + 1) c3) (i + 1) (i8L (wsL f n (i + 1)))) := hid1 (own_set (by rw [HSU.out]; exact O3.out) (by omega))
          have E2 : Hid ((y3.setCell ⟨b + 1, 12, none⟩ (.slice a3 (i + 1) c3)).rowIs (b + 1) 50 15 (lyF K (.slice a3 (i + 1) c3) (.slice none 0 0))) := hid1 (ly_set12 HRL3.out _)
          have E3 : Hid ((y3.setCell ⟨b + 1, 12, none⟩ (.slice a3 (i + 1) c3)).rowIs b 45 5 (ntF m (.slice none 0 0))) := hid1 (HN3.out.setOther (by show b ≠ b + 1; omega) _)
          have E4 : Below w.heap.size w (y3.setCell ⟨b + 1, 12, none⟩ (.slice a3 (i + 1) c3)) := bl_set BW3.out (by omega) _
          go_wp2
          exact ⟨⟨i + 1, a3, c3, by omega, by go_num, by simpa using z3', E4, E3, E2, E1⟩, by simp [intOf]; omega⟩
      · have hiP : i = P := by omega
        subst hiP
        clear ii0 hlt hi
        have K1 := HRN
        have K2 := HRL
        have K3 := HO
        clear HRN HRL HO
        obtain ⟨c, hc⟩ : ∃ c, clV bias (-1000000) 1000000 = c := ⟨_, rfl⟩
        have hcb : -1000000 ≤ c ∧ c ≤ 1000000 := by rw [← hc]; exact clV_in (by decide)
        have CC := hid1 (fun W => clamped_any bias (-1000000) 1000000 W)
        rw [hc] at CC
        clear hc
        go_wp2_with fail
        go_loopw [11] (fun jv wy => ∃ (j : Nat) (za : Option Addr) (zc : Nat), j ≤ K ∧ jv = .int .i64 j ∧ b + 2 ≤ wy.heap.size ∧ Below w.heap.size w wy ∧ Hid (wy.rowIs b 45 5 (ntF m (.slice none 0 0))) ∧ Hid (wy.rowIs (b + 1) 50 15 (lyF K (.slice ua i uc) (.slice za j zc))) ∧ Hid (wy.ownsRow (b + 2) 28 1 (.slice ua i uc) i (i8L (wsL f n i))) ∧ Hid (wy.ownsRow (b + 2) 2 1 (.slice za j zc) j (i64L (bsL c j)))) (fun jv _ => K - (intOf jv).toNat)
        case atStart => exact ⟨0, none, 0, Nat.zero_le _, rfl, zX, BX, K1, K2, K3, hid1 (World.ownsRow_nil _ _ _ _)⟩
        case round =>
          clear BX K1 K2 K3 zX
          obtain ⟨j, za, zc, hj, rfl, zX, BX, HRN, HRL, HOW, HO⟩ := hrel
          have ij0 : (0 : Int) ≤ (j : Int) := by omega
          by_cases hlt : j < K
          · as_aux_lemma =>
            have ij : (j : Int) < (K : Int) := by omega
            have HSU := hid1 (bsL_succ c j)
            have wI : IntKind.i64.wrap (c + (j : Int)) = c + (j : Int) := by rw [IntKind.wrap_i64]; omega
            have HBM : Hid (bsM c j = c + (j : Int)) := hid1 rfl
            rw [HBM.out] at HSU
            have l14 : wr.cell? ⟨b + 1, 14, none⟩ = some (.slice za j zc) := HRL.out.cell (i := 14) (by decide)
            have lb1 := HRL.out.lt
            have HUO := hid1 (show ∀ q, (Value.slice za j zc).ownBlock = some q → b + 2 ≤ q from fun q hq => (HO.out.lt q hq).1)
            have HBX := hid1 BX
            clear BX
            go_upto_region 16 with fail
            go_region_law (first
              | (refine step_appP rfl (.tmp 66) (.tmp 71) rfl (b + 2) (.slice za j zc) (bsL c j) j (by go_simp) (own_bl HO.out (by repeat (first | (with_reducible exact Below.refl _ _) | (with_reducible refine Below.drew ?_) | (with_reducible refine bl_alloc ?_ _)))) wr.heap.size (c + (j : Int)) 1 (by go_simp) (by simp [go_sem]) (by omega) (by simp; omega) ?_; intro v3 y3 own3 gr3 _; obtain ⟨a3, c3, rfl⟩ := own_isP own3; have RL3 := World.rowIs.of_block HRL.out ((gr3.block (b + 1) (by simp; omega) (fun e => by have := HUO.out (b + 1) e.symm; omega)).trans ((show Below wr.heap.size wr _ from (by repeat (first | (with_reducible exact Below.refl _ _) | (with_reducible refine Below.drew ?_) | (with_reducible refine bl_alloc ?_ _)))).block (b + 1) lb1)); have m14 : y3.cell? ⟨b + 1, 14, none⟩ = some (.slice za j zc) := RL3.cell (i := 14) (by decide); have fz := RL3.frozen 14; have HRL3 := hid1 RL3; have HN3 := hid1 (World.rowIs.of_block HRN.out ((gr3.block b (by simp; omega) (fun e => by have := HUO.out b e.symm; omega)).trans ((show Below wr.heap.size wr _ from (by repeat (first | (with_reducible exact Below.refl _ _) | (with_reducible refine Below.drew ?_) | (with_reducible refine bl_alloc ?_ _)))).block b (by omega)))); have OW3 := hid1 ((own_bl HOW.out (by repeat (first | (with_reducible exact Below.refl _ _) | (with_reducible refine Below.drew ?_) | (with_reducible refine bl_alloc ?_ _)))).kept gr3 (own_neP HOW.out HO.out (by decide))); have BW3 := hid1 (gr_bel gr3 (show Below w.heap.size w _ from bl_step HBX.out (by repeat (first | (with_reducible exact Below.refl _ _) | (with_reducible refine Below.drew ?_) | (with_reducible refine bl_alloc ?_ _)))) (fun q hq => by have := HUO.out q hq; omega)); have z3 := gr3.size; have O3 := hid1 own3; clear own3 gr3 RL3)
              | (go_simp; go_at_call 9; refine (CC.out _).mono ?_; rintro e y0 ⟨rfl, rfl⟩))
            all_goals
              have z3' : b + 2 ≤ y3.heap.size := by simp at z3; omega
              have E1 : Hid ((y3.setCell ⟨b + 1, 14, none⟩ (.slice a3 (j + 1) c3)).ownsRow (b + 2) 2 1 (.slice a3 (j + 1) c3) (j + 1) (i64L (bsL c (j + 1)))) := hid1 (own_set (by rw [HSU.out]; exact O3.out) (by omega))
              have E5 : Hid ((y3.setCell ⟨b + 1, 14, none⟩ (.slice a3 (j + 1) c3)).ownsRow (b + 2) 28 1 (.slice ua i uc) i (i8L (wsL f n i))) := hid1 (own_set OW3.out (by omega))
              have E2 : Hid ((y3.setCell ⟨b + 1, 14, none⟩ (.slice a3 (j + 1) c3)).rowIs (b + 1) 50 15 (lyF K (.slice ua i uc) (.slice a3 (j + 1) c3))) := hid1 (ly_set14 HRL3.out _)
              have E3 : Hid ((y3.setCell ⟨b + 1, 14, none⟩ (.slice a3 (j + 1) c3)).rowIs b 45 5 (ntF m (.slice none 0 0))) := hid1 (HN3.out.setOther (by show b ≠ b + 1; omega) _)
              have E4 : Below w.heap.size w (y3.setCell ⟨b + 1, 14, none⟩ (.slice a3 (j + 1) c3)) := bl_set BW3.out (by omega) _
              go_wp2
              exact ⟨⟨j + 1, a3, c3, by omega, by go_num, by simpa using z3', E4, E3, E2, E5, E1⟩, by simp [intOf]; omega⟩
          · have hjK : K = j := by omega
            subst hjK
            clear ij0 hlt hj
            have hi1 : 1 ≤ i := by rw [← HP.out]; exact Nat.mul_pos hKb.1 hmb.1
            obtain ⟨gw, euw, huc, hgw, cw8⟩ := own_cellsN (mk := Value.int .i8) HOW.out hi1
            obtain ⟨gz, ezz, hzc, hgz, cz6⟩ := own_cellsN (mk := Value.int .i64) HO.out hKb.1
            have HWC : Hid (∀ t, t < i → wr.cell? ⟨gw, t, none⟩ = some (.int .i8 (wsM f n t))) := hid1 (fun t ht => by rw [cw8 t ht]; simp [wsL, ht])
            have HZC : Hid (∀ t, t < K → wr.cell? ⟨gz, t, none⟩ = some (.int .i64 (bsM c t))) := hid1 (fun t ht => by rw [cz6 t ht]; simp [bsL, ht])
            subst euw ezz
            clear cw8 cz6 HOW HO CC
            obtain ⟨gl, hgl⟩ : ∃ g, wr.heap.size = g := ⟨_, rfl⟩
            have lgw : gw < gl := by rw [← hgl]; exact lt_of_cell (HWC.out 0 hi1)
            have lgz : gz < gl := by rw [← hgl]; exact lt_of_cell (HZC.out 0 hKb.1)
            have l0 := HRL.out.cell (i := 0) (by decide); have l1 := HRL.out.cell (i := 1) (by decide); have l2 := HRL.out.cell (i := 2) (by decide); have l3 := HRL.out.cell (i := 3) (by decide); have l4 := HRL.out.cell (i := 4) (by decide); have l5 := HRL.out.cell (i := 5) (by decide); have l6 := HRL.out.cell (i := 6) (by decide); have l7 := HRL.out.cell (i := 7) (by decide); have l8 := HRL.out.cell (i := 8) (by decide); have l9 := HRL.out.cell (i := 9) (by decide); have l10 := HRL.out.cell (i := 10) (by decide); have l11 := HRL.out.cell (i := 11) (by decide); have l12 := HRL.out.cell (i := 12) (by decide); have l13 := HRL.out.cell (i := 13) (by decide); have l14 := HRL.out.cell (i := 14) (by decide)
            simp only [lyF] at l0 l1 l2 l3 l4 l5 l6 l7 l8 l9 l10 l11 l12 l13 l14
            simp at l0 l1 l2 l3 l4 l5 l6 l7 l8 l9 l10 l11 l12 l13 l14
            have n4 : wr.cell? ⟨b, 4, none⟩ = some (.slice none 0 0) := HRN.out.cell (i := 4) (by decide)
            have fz4 := HRN.out.frozen 4
            have lbn : b < gl := by rw [← hgl]; exact HRN.out.lt
            have lbn2 : b ≠ gl := by omega
            go_upto_region 18 with fail
            refine gen_world (W := (wr.setCell ⟨b, 4, none⟩ (.slice (some ⟨gl, 0, none⟩) 1 1)).alloc (mtO K i gw gz uc zc)) (fun X => Below w.heap.size w X ∧ X.rowIs b 45 5 (ntF m (.slice (some ⟨gl, 0, none⟩) 1 1)) ∧ NtW X (mtN gl m (mtL K m (some ⟨gw, 0, none⟩) uc (some ⟨gz, 0, none⟩) zc (wsM f n) (bsM c))) ∧ X.rowIs (b + 1) 50 15 (lyF K (.slice (some ⟨gw, 0, none⟩) i uc) (.slice (some ⟨gz, 0, none⟩) K zc)) ∧ (∀ t, t < i → X.cell? ⟨gw, t, none⟩ = some (.int .i8 (wsM f n t)))) ⟨by have := bl_set BX (show w.heap.size ≤ b by omega) (o := 4) (.slice (some ⟨gl, 0, none⟩) 1 1); exact bl_alloc this _, (nt_set4 HRN.out _).alloc _, mtW (new_at (W := wr.setCell ⟨b, 4, none⟩ (.slice (some ⟨gl, 0, none⟩) 1 1)) (by simpa using hgl) _) HP.out hkm hKb.2 (fun t ht => keepc (bl_alloc (Below.refl _ _) _) (cell_oneP (HWC.out t ht) (by omega))) (fun t ht => keepc (bl_alloc (Below.refl _ _) _) (cell_oneP (HZC.out t ht) (by omega))), (HRL.out.setOther (by show b + 1 ≠ b; omega) _).alloc _, fun t ht => keepc (bl_alloc (Below.refl _ _) _) (cell_oneP (HWC.out t ht) (by omega))⟩ ?_
            clear BX HRN HRL HWC HZC l0 l1 l2 l3 l4 l5 l6 l7 l8 l9 l10 l11 l12 l13 l14 n4 fz4 lbn lbn2 hgl lgw lgz
            rintro Y ⟨BY, RN, NW, RL, WC⟩
            have hws : ∀ t, -1 ≤ wsM f n t ∧ wsM f n t ≤ 1 := fun t => by have := pkV_in (f := f) (m := n) (i := t) (n := 3) (by decide); unfold wsM; omega
            have hbs : ∀ t, t < K → -2000000 ≤ bsM c t ∧ bsM c t ≤ 2000000 := fun t ht => by unfold bsM; omega
            have hok := mt_ok (K := K) (m := m) (aw := some ⟨gw, 0, none⟩) (ab := some ⟨gz, 0, none⟩) (cw := uc) (cb := zc) (ws := wsM f n) (bs := bsM c) gl hKb hmb (fun t _ => hws t) hbs
            have huc' : K * m ≤ uc := by rw [HP.out]; exact huc
            have CN := bnet_any _ Y NW (fun _ _ => huc')
            rw [hok.1, hok.2] at CN
            have HRUN := hid1 (fun x hx ao' cap' fb hfb W hNW' hRB' => mt_run (K := K) (m := m) (aw := some ⟨gw, 0, none⟩) (ab := some ⟨gz, 0, none⟩) (cw := uc) (cb := zc) (ws := wsM f n) (bs := bsM c) gl hKb hmb huc' (fun t _ => hws t) hbs x hx ao' cap' fb hfb W hNW' hRB')
            have HEN := hid1 (fun k hk => mt_lo (K := K) (m := m) (aw := some ⟨gw, 0, none⟩) (ab := some ⟨gz, 0, none⟩) (cw := uc) (cb := zc) (ws := wsM f n) (bs := bsM c) (k := k) hk (fun t _ => hws t))
            have HFN := hid1 (mt_fanN (K := K) (m := m) (aw := some ⟨gw, 0, none⟩) (ab := some ⟨gz, 0, none⟩) (cw := uc) (cb := zc) (ws := wsM f n) (bs := bsM c) gl)
            obtain ⟨L, hL⟩ : ∃ L, mtL K m (some ⟨gw, 0, none⟩) uc (some ⟨gz, 0, none⟩) zc (wsM f n) (bsM c) = L := ⟨_, rfl⟩
            have HLk : Hid (L.k = (K : Int)) := hid1 (by rw [← hL]; rfl)
            have hcN : cN (mtN gl m L) 1 = K := by rw [← hL]; rfl
            rw [hL] at NW hok CN HRUN HEN HFN
            clear hL
            have n0 := RN.cell (i := 0) (by decide); have n1 := RN.cell (i := 1) (by decide); have n2 := RN.cell (i := 2) (by decide); have n3 := RN.cell (i := 3) (by decide); have n4 := RN.cell (i := 4) (by decide)
            simp only [ntF] at n0 n1 n2 n3 n4
            simp at n0 n1 n2 n3 n4
            have HBY := hid1 BY
            have HRN := hid1 RN
            have HRL := hid1 RL
            have HWC := hid1 WC
            have HNW := hid1 NW
            have HOK := hid1 hok
            clear BY RN RL WC NW hok hbs huc'
            go_wp2_with fail
            refine CN.mono ?_
            rintro e y1 ⟨v, rfl, hb, hv⟩
            obtain ⟨G, gs, -, rfl, YL⟩ := hv.2 HOK.out.1
            obtain ⟨g0, hg0⟩ : ∃ g0, gs 0 = g0 := ⟨_, rfl⟩
            have rs0 : y1.cell? ⟨G, 0, none⟩ = some (.slice (some ⟨g0, 0, none⟩) K K) := by
              rw [World.rowIs.cell YL.2 (i := 0) (show 0 < 1 by decide)]
              unfold lsf
              rw [if_pos (show 0 < (mtN gl m L).ml from (show 0 < 1 by decide))]
              show some (Value.slice (some ⟨gs 0, 0, none⟩) (cN (mtN gl m L) 1) (cN (mtN gl m L) 1)) = _
              rw [hcN, hg0]
            have RS : ∀ t, t < K → y1.cell? ⟨g0, t * 2, none⟩ = some (.int .i64 (yLo L m 0 t)) ∧ y1.cell? ⟨g0, t * 2 + 1, none⟩ = some (.int .i64 (yHi L m 0 t)) := fun t ht => by
              have := Rc.at (YL.1 0 (show 0 < 1 by decide)).2.2 (j := t) (by rw [hcN]; exact ht) (by rw [hcN]; exact ht)
              rw [HFN.out, hg0] at this
              exact this
            have BB := hid1 (bl_step HBY.out hb)
            have JRN := hid1 (World.rowIs.of_block HRN.out (hb.block _ (World.rowIs.lt HRN.out)))
            have JRL := hid1 (World.rowIs.of_block HRL.out (hb.block _ (World.rowIs.lt HRL.out)))
            have JWC : Hid (∀ t, t < i → y1.cell? ⟨gw, t, none⟩ = some (.int .i8 (wsM f n t))) := hid1 (fun t ht => keepc hb (HWC.out t ht))
            have JNW := hid1 (HNW.out.keep hb)
            have JRS := hid1 (And.intro rs0 RS)
            have eml : (mtN gl m L).ml = 1 := rfl
            clear hb hv YL HBY HRN HRL HWC HNW CN n0 n1 n2 n3 n4 RS hg0 hcN HFN
            have ikk : ((K : Int) != (K : Int)) = false := by simp
            go_wp2_with fail
            clear rs0
            go_loopw [15] (fun tv wr => ∃ t : Nat, t ≤ K ∧ tv = .int .i64 t ∧ Below y1.heap.size y1 wr) (fun tv _ => K - (intOf tv).toNat)
            case atStart => exact ⟨0, Nat.zero_le _, rfl, Below.refl _ _⟩
            case round =>
              obtain ⟨t, ht, rfl, BX⟩ := hrel
              obtain ⟨W0, rfl⟩ : ∃ W0, W0 = wr := ⟨_, rfl⟩
              have it0 : (0 : Int) ≤ (t : Int) := by omega
              by_cases hlt : t < K
              · have it : (t : Int) < (K : Int) := by omega
                have hA : t * m + m ≤ i := by rw [← HP.out]; have := Nat.mul_le_mul_right m (show t + 1 ≤ K by omega); rw [Nat.succ_mul] at this; exact this
                obtain ⟨A, eA⟩ : ∃ A, t * m = A := ⟨_, rfl⟩
                rw [eA] at hA
                have qA : IntKind.i64.wrap ((t : Int) * (m : Int)) = (A : Int) := by rw [IntKind.wrap_i64, ← eA]; push_cast; have := eA; omega
                have HEA := hid1 eA
                clear eA
                go_wp2_with fail
                go_loopw [16, 17, 18] (fun s16 s17 s18 wy => ∃ (j : Nat) (la : Option Addr) (lc : Nat) (ha : Option Addr) (hc : Nat), j ≤ m ∧ s16 = .slice la j lc ∧ s17 = .slice ha j hc ∧ s18 = .int .i64 j ∧ Below W0.heap.size W0 wy ∧ Hid (wy.ownsRow W0.heap.size 5 1 (.slice la j lc) j (u8L (loB (wsM f n) A j))) ∧ Hid (wy.ownsRow W0.heap.size 5 1 (.slice ha j hc) j (u8L (hiB (wsM f n) A j))) ∧ Hid ((Value.slice la j lc).ownBlock = none ∨ (Value.slice la j lc).ownBlock ≠ (Value.slice ha j hc).ownBlock)) (fun _ _ s18 _ => m - (intOf s18).toNat)
                case atStart => exact ⟨0, none, 0, none, 0, Nat.zero_le _, rfl, rfl, rfl, Below.refl _ _, hid1 (World.ownsRow_nil _ _ _ _), hid1 (World.ownsRow_nil _ _ _ _), hid1 (.inl rfl)⟩
                case round =>
                  obtain ⟨j, la, lc, ha, hc, hj, rfl, rfl, rfl, BY, HO1, HO2, HNE⟩ := hrel
                  have ij0 : (0 : Int) ≤ (j : Int) := by omega
                  by_cases hjl : j < m
                  · as_aux_lemma =>
                    have ij : (j : Int) < (m : Int) := by omega
                    have l12 : wr.cell? ⟨b + 1, 12, none⟩ = some (.slice (some ⟨gw, 0, none⟩) i uc) := keepc (bl_step BX BY) (JRL.out.cell (i := 12) (by decide))
                    have cw0 : wr.cell? ⟨gw, A + j, none⟩ = some (.int .i8 (wsM f n (A + j))) := keepc (bl_step BX BY) (JWC.out (A + j) (by omega))
                    have qB : IntKind.i64.wrap ((A : Int) + (j : Int)) = ((A + j : Nat) : Int) := by rw [IntKind.wrap_i64]; push_cast; omega
                    have iAj : ((A + j : Nat) : Int) < (i : Int) := by omega
                    have iAj0 : (0 : Int) ≤ ((A + j : Nat) : Int) := by omega
                    have HS1 := hid1 (loB_succ (wsM f n) A j)
                    have HS2 := hid1 (hiB_succ (wsM f n) A j)
                    obtain ⟨x, hx⟩ : ∃ x, wsM f n (A + j) = x := ⟨_, rfl⟩
                    rw [hx] at cw0 HS1 HS2
                    clear hx
                    obtain ⟨D, hD⟩ : ∃ D, A + j = D := ⟨_, rfl⟩
                    rw [hD] at cw0 qB iAj iAj0
                    clear hD
                    by_cases hneg : x < 0
                    · rw [if_pos hneg] at HS1 HS2
                      go_wp2_with (first | (at_builtin; refine app_u8P rfl _ _ rfl W0.heap.size (.slice la j lc) (loB (wsM f n) A j) j (by go_simp) (own_bl HO1.out (bl_alloc (Below.refl _ _) _)) wr.heap.size 127 1 (by go_simp) (by simp [go_sem]) (by omega) (by have := BY.size; simp; omega) ?_; intro v3 y3 own3 gr3 at3; have N3 := hid1 (ne_newP HNE.out at3 (fun q hq => by have := (HO2.out.lt q hq).2; simp; omega)); obtain ⟨a3, c3, rfl⟩ := own_isP own3; have H3 := hid1 own3; have K3 := hid1 ((own_bl HO2.out (bl_alloc (Below.refl _ _) (.cells #[.int .u8 127] 5))).kept gr3 (ne_symP HNE.out)); have B3 : Below W0.heap.size W0 y3 := gr_bel gr3 (bl_alloc BY _) (fun q hq => (HO1.out.lt q hq).1); clear own3 gr3 at3) | (at_builtin; refine app_u8P rfl _ _ rfl W0.heap.size (.slice ha j hc) (hiB (wsM f n) A j) j (by go_simp) (own_bl K3.out (bl_alloc (Below.refl _ _) _)) y3.heap.size 128 1 (by go_simp) (by simp [go_sem]) (by omega) (by have := B3.size; simp; omega) ?_; intro v5 y5 own5 gr5 at5; have N5 := hid1 (ne_symP (ne_newP (ne_symP N3.out) at5 (fun q hq => by have := (H3.out.lt q hq).2; simp; omega))); obtain ⟨a5, c5, rfl⟩ := own_isP own5; have H5 := hid1 own5; have K5 := hid1 ((own_bl H3.out (bl_alloc (Below.refl _ _) (.cells #[.int .u8 128] 5))).kept gr5 N3.out); have B5 : Below W0.heap.size W0 y5 := gr_bel gr5 (bl_alloc B3 _) (fun q hq => (K3.out.lt q hq).1); clear own5 gr5 at5))
                      exact ⟨⟨j + 1, a3, c3, a5, c5, by omega, rfl, rfl, by go_num, B5, hid1 (by rw [HS1.out]; exact K5.out), hid1 (by rw [HS2.out]; exact H5.out), N5⟩, by simp [intOf]; omega⟩
                    · rw [if_neg hneg] at HS1 HS2
                      go_wp2_with (first | (at_builtin; refine app_u8P rfl _ _ rfl W0.heap.size (.slice la j lc) (loB (wsM f n) A j) j (by go_simp) (own_bl HO1.out (bl_alloc (Below.refl _ _) _)) wr.heap.size 128 1 (by go_simp) (by simp [go_sem]) (by omega) (by have := BY.size; simp; omega) ?_; intro v3 y3 own3 gr3 at3; have N3 := hid1 (ne_newP HNE.out at3 (fun q hq => by have := (HO2.out.lt q hq).2; simp; omega)); obtain ⟨a3, c3, rfl⟩ := own_isP own3; have H3 := hid1 own3; have K3 := hid1 ((own_bl HO2.out (bl_alloc (Below.refl _ _) (.cells #[.int .u8 128] 5))).kept gr3 (ne_symP HNE.out)); have B3 : Below W0.heap.size W0 y3 := gr_bel gr3 (bl_alloc BY _) (fun q hq => (HO1.out.lt q hq).1); clear own3 gr3 at3) | (at_builtin; refine app_u8P rfl _ _ rfl W0.heap.size (.slice ha j hc) (hiB (wsM f n) A j) j (by go_simp) (own_bl K3.out (bl_alloc (Below.refl _ _) _)) y3.heap.size 127 1 (by go_simp) (by simp [go_sem]) (by omega) (by have := B3.size; simp; omega) ?_; intro v5 y5 own5 gr5 at5; have N5 := hid1 (ne_symP (ne_newP (ne_symP N3.out) at5 (fun q hq => by have := (H3.out.lt q hq).2; simp; omega))); obtain ⟨a5, c5, rfl⟩ := own_isP own5; have H5 := hid1 own5; have K5 := hid1 ((own_bl H3.out (bl_alloc (Below.refl _ _) (.cells #[.int .u8 127] 5))).kept gr5 N3.out); have B5 : Below W0.heap.size W0 y5 := gr_bel gr5 (bl_alloc B3 _) (fun q hq => (K3.out.lt q hq).1); clear own5 gr5 at5))
                      exact ⟨⟨j + 1, a3, c3, a5, c5, by omega, rfl, rfl, by go_num, B5, hid1 (by rw [HS1.out]; exact K5.out), hid1 (by rw [HS2.out]; exact H5.out), N5⟩, by simp [intOf]; omega⟩
                  · as_aux_lemma =>
                    have hjm : j = m := by omega
                    rw [hjm] at HO1 HO2
                    obtain ⟨g1, e1, -, hg1, c1⟩ := own_cellsN (mk := Value.int .u8) HO1.out hmb.1
                    obtain ⟨g2, e2, -, hg2, c2⟩ := own_cellsN (mk := Value.int .u8) HO2.out hmb.1
                    have RB1 : Hid (RB wr la m (fun q => if wsM f n (A + q) < 0 then 127 else 128)) := hid1 (fun q hq => ⟨g1, 0, e1, by rw [Nat.zero_add, c1 q hq]; simp [loB, hq], by dsimp only; split <;> omega⟩)
                    have RB2 : Hid (RB wr ha m (fun q => if wsM f n (A + q) < 0 then 128 else 127)) := hid1 (fun q hq => ⟨g2, 0, e2, by rw [Nat.zero_add, c2 q hq]; simp [hiB, hq], by dsimp only; split <;> omega⟩)
                    clear c1 c2 e1 e2 hg1 hg2 HO1 HO2 HNE
                    subst hjm
                    have hbw := bl_step BX BY
                    have C1 := hid1 (fun W (hW : Below wr.heap.size wr W) => HRUN.out (loX (fun q => wsM f n (t * j + q))) (fun q _ => (loX_in _ q).1) la lc _ (fun q _ => by rw [HEA.out]; unfold loX s8; dsimp only; split <;> simp) W (JNW.out.keep (bl_step hbw hW)) (RB1.out.keep hW))
                    have C2 := hid1 (fun W (hW : Below wr.heap.size wr W) => HRUN.out (hiX (fun q => wsM f n (t * j + q))) (fun q _ => (loX_in _ q).2) ha hc _ (fun q _ => by rw [HEA.out]; unfold hiX s8; dsimp only; split <;> simp) W (JNW.out.keep (bl_step hbw hW)) (RB2.out.keep hW))
                    have hen := HEN.out t hlt
                    have rs := JRS.out.2 t hlt
                    have EA := hid1 hen.1
                    have EB := hid1 hen.2
                    have JR0 := hid1 (keepc hbw JRS.out.1)
                    have JR1 := hid1 (keepc hbw rs.1)
                    have JR2 := hid1 (keepc hbw rs.2)
                    have JN := hid1 (World.rowIs.of_block JRN.out (hbw.block _ (World.rowIs.lt JRN.out)))
                    clear hen rs RB1 RB2
                    generalize yLo L j 0 t = vA at EA JR1
                    generalize yHi L j 0 t = vB at EB JR2
                    have n0 := JN.out.cell (i := 0) (by decide); have n1 := JN.out.cell (i := 1) (by decide); have n2 := JN.out.cell (i := 2) (by decide); have n3 := JN.out.cell (i := 3) (by decide); have n4 := JN.out.cell (i := 4) (by decide)
                    simp only [ntF] at n0 n1 n2 n3 n4
                    simp at n0 n1 n2 n3 n4
                    go_wp2_with fail
                    refine (C1.out wr (Below.refl _ _)).mono ?_
                    rintro e z1 ⟨q1, p1, rfl, -, L1, hb1⟩
                    have M1 := L1 t hlt
                    rw [EA.out] at M1
                    obtain ⟨x1, ex1⟩ : ∃ x1, z1.heap.size = x1 := ⟨_, rfl⟩
                    clear L1 n0 n1 n2 n3 n4
                    go_upto_region 36 with fail
                    refine gen_world (fun Z => Below wr.heap.size wr Z ∧ Z.cell? ⟨q1, t, none⟩ = some (.int .i64 vA) ∧ Z.cell? ⟨x1, 0, none⟩ = some (.slice (some ⟨q1, 0, none⟩) K p1)) ⟨bl_step hb1 (bl_alloc (Below.refl _ _) _), keepc (bl_alloc (Below.refl _ _) _) M1, by rw [← ex1]; exact (rs_new z1 (some ⟨q1, 0, none⟩) K p1 _ _).cell (i := 0) (by decide)⟩ ?_
                    clear M1 hb1 ex1
                    rintro Z ⟨BZ, M1, X1⟩
                    have n0 := keepc BZ (JN.out.cell (i := 0) (by decide)); have n1 := keepc BZ (JN.out.cell (i := 1) (by decide)); have n2 := keepc BZ (JN.out.cell (i := 2) (by decide)); have n3 := keepc BZ (JN.out.cell (i := 3) (by decide)); have n4 := keepc BZ (JN.out.cell (i := 4) (by decide))
                    simp only [ntF] at n0 n1 n2 n3 n4
                    simp at n0 n1 n2 n3 n4
                    go_wp2_with fail
                    refine (C2.out Z BZ).mono ?_
                    rintro e z2 ⟨q2, p2, rfl, -, L2, hb2⟩
                    have M2 := L2 t hlt
                    rw [EB.out] at M2
                    obtain ⟨x2, ex2⟩ : ∃ x2, z2.heap.size = x2 := ⟨_, rfl⟩
                    clear L2 n0 n1 n2 n3 n4
                    go_upto_region 37 with fail
                    refine gen_world (fun V => Below wr.heap.size wr V ∧ V.cell? ⟨q1, t, none⟩ = some (.int .i64 vA) ∧ V.cell? ⟨x1, 0, none⟩ = some (.slice (some ⟨q1, 0, none⟩) K p1) ∧ V.cell? ⟨q2, t, none⟩ = some (.int .i64 vB) ∧ V.cell? ⟨x2, 0, none⟩ = some (.slice (some ⟨q2, 0, none⟩) K p2)) ⟨bl_alloc (bl_step BZ hb2) _, keepc (bl_alloc (Below.refl _ _) _) (keepc hb2 M1), keepc (bl_alloc (Below.refl _ _) _) (keepc hb2 X1), keepc (bl_alloc (Below.refl _ _) _) M2, by rw [← ex2]; exact (rs_new z2 (some ⟨q2, 0, none⟩) K p2 _ _).cell (i := 0) (by decide)⟩ ?_
                    clear M1 X1 M2 hb2 ex2 BZ
                    rintro V ⟨BV, M1, X1, M2, X2⟩
                    have r0 := keepc BV JR0.out
                    have r1 := keepc BV JR1.out
                    have r2 := keepc BV JR2.out
                    go_quiet (fail)
                    go_wp2_with fail
                    exact ⟨⟨t + 1, by omega, by go_num, bl_drewN (bl_step hbw BV) _⟩, by simp [intOf]; omega⟩
              · have htK : t = K := by omega
                go_wp2_with fail
                go_ret
                exact ⟨rfl, bl_step BB.out BX⟩
end Go.Proofs.Ytlocmnaojebogaa.Nn
namespace Go.Proofs.Ytlocmnaojebogaa
open Go.ChangeShapes Go.WideShapes Go.ChangeAt Go.RowKit

set_option maxRecDepth 100000 in
theorem boundMet_lifted (os : Os) (started : os.Started) (H : Type) (enc : TypeId × Value → H) :
    ReturnsInHanded {} Try.checked os 4 .any (Rows.boundMetSpec.pre6 enc Try.prog Try.f4 Rows.boundMetRow.domain false) (Rows.boundMetSpec.post enc Try.prog Try.f4 false true false false) := by
  refine returnsInHanded_of_change_sized (C := Try.checked) own started (by kernel_rfl) Try.func4
    (ChangeSpec.witness6 (enc := enc) (C := Try.checked) false ⟨#[], #[.slice none 0 0, .int .i64 0, .int .i64 0], []⟩ 8 (by kernel_rfl) (by kernel_rfl) (by kernel_rfl) (by kernel_rfl)) ?_
  intro W base args ds gs before hval0 hW _ _ _
  have hval : ∀ (j : Nat) t v, Try.f4.params[j]? = some t → args[j]? = some v → Value.okWide Try.prog W .any base t v := hval0
  have hW' := hW
  obtain ⟨p, q, hA0, hV, rfl, hfz, hnd⟩ := hW
  have hA : DataW.TrodAll enc Try.prog W 0 (fun _ => true) true Try.f4.params.toList args.toList ds p := hA0
  rw [Try.params4] at hA hval
  obtain ⟨v0, vs0, d0, ds0, p0, q0, hargs, rfl, rfl, h0, r0⟩ := trodAll_cons hA
  obtain ⟨v1, vs1, d1, ds1, p1, q1, rfl, rfl, rfl, h1, r1⟩ := trodAll_cons r0
  obtain ⟨v2, vs2, d2, ds2, p2, q2, rfl, rfl, rfl, h2, r2⟩ := trodAll_cons r1
  obtain ⟨rfl, rfl, rfl⟩ := trodAll_nil r2
  obtain rfl : args = #[v0, v1, v2] := by cases args; simp_all
  obtain ⟨rfl, rfl⟩ := trodVars_none hV
  have lt0 : ∀ x ∈ p0, x.block < W.heap.size := by obtain ⟨m, hm⟩ := h0; exact DataW.trod_lt m _ _ _ hm
  have k0 := h0
  have lt1 : ∀ x ∈ p1, x.block < W.heap.size := by obtain ⟨m, hm⟩ := h1; exact DataW.trod_lt m _ _ _ hm
  have k1 := h1
  have lt2 : ∀ x ∈ p2, x.block < W.heap.size := by obtain ⟨m, hm⟩ := h2; exact DataW.trod_lt m _ _ _ hm
  have k2 := h2
  obtain ⟨ao0, m0, c0, fn0, rfl, hm0, hc0, f0⟩ := open_u8s (hval 0 22 v0 rfl rfl) h0
  obtain ⟨x1, rfl, rfl, rfl, w1⟩ := open_int Try.underlying3 (hval 1 3 v1 rfl rfl) h1
  obtain ⟨x2, rfl, rfl, rfl, w2⟩ := open_int Try.underlying2 (hval 2 2 v2 rfl rfl) h2
  clear hA0 hval0
  refine (Nn.boundMet_any ao0 m0 c0 fn0 (by omega) x1 x2 (i64_of_wfO w1) W (fun k hk => by obtain ⟨h, g, o, e, c⟩ := f0 k hk; exact ⟨g, o, e, c, h.1, h.2⟩)).mono fun e W' ⟨he, bel⟩ => ?_
  subst he
  exact ⟨_, rfl, _, _, _, [], _, [], hW', trodAll_mk1 (shut_bool Try.underlying4 _), (trodAll_cons_mk (Below.trod laidOut (by kernel_rfl) (of_decide_eq_true (by kernel_rfl)) k0 bel lt0) (trodAll_cons_mk (Below.trod laidOut (by kernel_rfl) (of_decide_eq_true (by kernel_rfl)) k1 bel lt1) (trodAll_cons_mk (Below.trod laidOut (by kernel_rfl) (of_decide_eq_true (by kernel_rfl)) k2 bel lt2) trodAll_mk0))), rfl, bel.frame _, fun h => by cases h⟩

theorem boundMet_holds : Rows.BoundMetSaid :=
  OpenClaim.holds_of_wide 4 Try.f4 rfl rfl rfl rfl rfl rfl rfl ⟨rfl, rfl, rfl, rfl, rfl⟩ rfl rfl rfl rfl rfl (by kernel_rfl) Try.func4 (by kernel_rfl)
    (of_decide_eq_true (by kernel_rfl)) (by unfold Func.isWrapper; first | (rw [if_pos (by decide +kernel)]; kernel_rfl) | (rw [if_neg (by decide +kernel)]; exact ⟨rfl, rfl⟩))
    (fun os started H enc _ => boundMet_lifted os started H enc)
#print axioms boundMet_holds
end Go.Proofs.Ytlocmnaojebogaa
