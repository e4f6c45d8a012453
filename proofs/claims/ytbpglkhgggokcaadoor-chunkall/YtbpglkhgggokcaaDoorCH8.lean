/- CHUNKALL: those. -/
import Derived.Test.YtbpglkhgggokcaaDoorCH7
namespace Go.Proofs.YtbpglkhgggokcaaDoor
open Go.RowKit

theorem own_none2 {w : World} {T go co : Nat} {f : Nat → Value} (h : w.rowIs go T (co * 2) f) (hc : co ≤ maxLen) : w.ownsRow 0 T 2 (.slice (some ⟨go, 0, none⟩) 0 co) 0 [] := by
  obtain ⟨c, hb, hn, _⟩ := h
  exact ⟨rfl, .inr ⟨go, co, c, rfl, Nat.zero_le _, hb, Nat.zero_le _, hc, by omega, by simp⟩⟩
theorem own_row2 {w : World} {base e : Nat} {v : Value} {n : Nat} {xs : List Value} (h : w.ownsRow base e 2 v n xs) (hn : 0 < n) :
    ∃ g cap f, v = .slice (some ⟨g, 0, none⟩) n cap ∧ base ≤ g ∧ n ≤ cap ∧ cap ≤ maxLen ∧ w.rowIs g e (cap * 2) f ∧ ∀ k, k < n * 2 → xs[k]? = some (f k) := by
  rcases h.2 with ⟨_, h0⟩ | ⟨g, cap, cur, hv, hb, hg, h4, h5, h6, h7⟩
  · omega
  · refine ⟨g, cap, fun k => cur[k]?.getD undef, hv, hb, h4, h5, ⟨cur, hg, by omega, fun i hi => ?_⟩, fun k hk => ?_⟩
    · simp [Array.getElem?_eq_getElem (show i < cur.size by omega)]
    · rw [← h7, List.getElem?_take_of_lt hk]
      simp [Array.getElem?_eq_getElem (show k < cur.size by omega)]
theorem own_slice2 {w : World} {base e n : Nat} {v : Value} {xs : List Value} (h : w.ownsRow base e 2 v n xs) : ∃ ao c, v = .slice ao n c := by
  rcases h.2 with ⟨rfl, rfl⟩ | ⟨g, cap, cur, rfl, _⟩
  · exact ⟨none, 0, rfl⟩
  · exact ⟨_, _, rfl⟩
theorem Ov.om2 {w : World} {T : TypeId} {v : Value} (h : Ov w T 2 v) : ∃ go, (v = .slice none 0 0 ∨ ∃ co f, v = .slice (some ⟨go, 0, none⟩) co co ∧ w.rowIs go T (co * 2) f ∧ co ≤ maxLen) ∧ (v.ownBlock = some go ∨ w.heap.size ≤ go) := by
  rcases h with h | ⟨b, co, f, e, r, m⟩
  · exact ⟨w.heap.size, .inl h, .inr (Nat.le_refl _)⟩
  · exact ⟨b, .inr ⟨co, f, e, r, m⟩, .inl (by rw [e]; rfl)⟩
/-- 'append' of chunks that lie anywhere. -/
theorem app_cks {ops : Array Oper} {rest : List Oper} {o : Oper} {a : Act} {Q : Exit → Act → World → Prop} {w : World} (hgd : o.guard = none) (s x : Operand)
    (ho : o.op = .call { callee := .builtin .append, args := #[s, x], argTypes := #[27, 27] }) (w0 : World) (go : Nat) (v : Value) (n : Nat) (xs : List Value) (hs : a.eval s = v) (hown : w.ownsRow 0 44 2 v n xs) (hmv : Mv w0 go w v)
    (la : Option Addr) (m cl : Nat) (f : Nat → Value) (hx : a.eval x = .slice la m cl) (hr : ∀ j, j < m * 2 → ∃ gl ol, la = some ⟨gl, ol, none⟩ ∧ w.cell? ⟨gl, ol + j, none⟩ = some (f j) ∧ (f j).oneCell' = true) (hb : n + m ≤ 4398046511104)
    (h : ∀ v' w', w'.ownsRow 0 44 2 v' (n + m) (xs ++ rowL f (m * 2)) → Mv w0 go w' v' → wpList Tryd.prog ops Q rest (a.put o.dst v') w') : wpList Tryd.prog ops Q (o :: rest) a w := by
  obtain ⟨i0, hi, hz0, hz1, hz2⟩ := info_parts info_chunk
  cases la with
  | none =>
    have hb0 : m = 0 := by
      rcases m with _ | m
      · rfl
      · obtain ⟨_, _, e, _⟩ := hr 0 (by omega)
        exact absurd e (by simp)
    subst hb0
    refine wp_of_run hgd s x _ ho _ _ hs hx (run_append_none w 0 _ _ _ i0 2 und_chunks hi _ _ _ hown cl) ?_
    exact h v w (by simpa [rowL] using hown) hmv
  | some ad =>
    refine wpList_append_own_at w hgd s x _ ho 0 44 i0 (.agg #[.int .u32 0, .slice none 0 0]) 2 32 und_chunks hi hz0 hz1 hz2 rfl (by decide) v n xs hs hown ad m cl (rowL f (m * 2)) hx (by simp [rowL])
      (fun j u hj => by
        obtain ⟨hj', rfl⟩ := rowL_get hj
        obtain ⟨gg, oo, e, c, _⟩ := hr j hj'
        injection e with e
        subst e
        unfold Addr.add
        by_cases h0 : j = 0
        · subst h0; simpa using c
        · simpa [h0] using c)
      (fun u hu => by
        obtain ⟨j, hj⟩ := List.getElem?_of_mem hu
        obtain ⟨hj', rfl⟩ := rowL_get hj
        obtain ⟨_, _, _, _, e⟩ := hr j hj'
        exact e) (by unfold maxLen; omega) (by omega) (Nat.zero_le _) ?_
    intro v' w' h1 h2 _ h4
    exact h v' w' h1 (hmv.app h2 h4)
/-- The body of a chunk. -/
abbrev bd (cs : List Ck) (j : Nat) : List Nat := (cs.getD j (0, [])).2
/-- The chunks as Hand.those lays them. -/
def tsf (cs : List Ck) (gi ci : Nat → Nat) : Nat → Value := fun p =>
  if p / 2 < cs.length then (if p % 2 = 0 then .int .u32 ((cs.getD (p / 2) (0, [])).1 : Nat) else .slice (some ⟨gi (p / 2), 0, none⟩) (bd cs (p / 2)).length (ci (p / 2))) else (if p % 2 = 0 then .int .u32 205 else .slice none 0 0)
def tsk (cs : List Ck) (gi ci : Nat → Nat) (f : Nat → Value) (k : Nat) : Nat → Value := fun p => if p / 2 < k then tsf cs gi ci p else f p
/-- those' memory ahead of chunk k. -/
structure Ts (w wr : World) (S : Nat → Prop) (hb g c : Nat) (cs : List Ck) (f2 : Nat → Value) (vb vl vc : Value) (k : Nat) (ve : Value) (le : Nat) (gi ci : Nat → Nat) (fs : Nat → Nat → Value) : Prop where
  x : wr.rowIs g 44 (c * 2) (tsk cs gi ci f2 k)
  q : Hq wr S hb vb ve vl vc le gi ci fs
  kl : k ≤ le ∨ cs.length ≤ le
  dn : ∀ j, j < k → j < cs.length → fs j = ff (bd cs j) ∧ (bd cs j).length + 3 ≤ ci j
  l : Ov wr 25 1 vl
  nl : ∀ g, vl.ownBlock = some g → ve.ownBlock ≠ some g
  bp : BP S w wr
section
variable {w wr w1 : World} {S : Nat → Prop} {hb g c : Nat} {cs : List Ck} {f2 : Nat → Value} {vb vl vc ve : Value} {k le : Nat} {gi ci : Nat → Nat} {fs : Nat → Nat → Value}
theorem Ts.place {ve' : Value} {le' : Nat} {gi' ci' : Nat → Nat} {fs' : Nat → Nat → Value} (h : Ts w wr S hb g c cs f2 vb vl vc k ve le gi ci fs) (hk : k < cs.length) (hf : f2 (k * 2) = .int .u32 ((cs.getD k (0, [])).1 : Nat)) (hg : S g) (hp : Pl wr w1 S hb vb ve ve' vl vc le le' gi gi' ci ci' fs fs' k (bd cs k)) :
    Ts w (w1.setCell ⟨g, k * 2 + 1, none⟩ (.slice (some ⟨gi' k, 0, none⟩) (bd cs k).length (ci' k))) S hb g c cs f2 vb vl vc (k + 1) ve' le' gi' ci' fs' := by
  obtain ⟨r1, n1⟩ := hp.rw _ _ _ _ (by decide) (by decide) (h.q.d.val.ne h.x (by decide)) h.x
  have hlt : ∀ j, j < k → j < le := fun j hj => by rcases h.kl with e | e <;> omega
  refine ⟨(r1.set (k * 2 + 1) _).congr fun p hj => ?_, hp.q.setX r1 (by decide) (by decide) n1 _, .inl (by have := hp.lt; omega), fun j hj hjL => ?_, ?_, ?_, (h.bp.trans hp.bp fun x _ e => e).set (.inl hg) _⟩
  · by_cases e : p = k * 2 + 1
    · subst e
      have e2 : (k * 2 + 1) / 2 = k := by omega
      rw [if_pos rfl]
      unfold tsk tsf
      rw [e2, if_pos (by omega), if_pos hk, if_neg (by omega)]
    · rw [if_neg e]
      by_cases e3 : p = k * 2
      · subst e3
        have e2 : k * 2 / 2 = k := by omega
        unfold tsk tsf
        rw [e2, if_neg (by omega), if_pos (by omega), if_pos hk, if_pos (by omega), hf]
      · unfold tsk
        by_cases h3 : p / 2 < k
        · rw [if_pos h3, if_pos (by omega)]
          unfold tsf
          by_cases h4 : p / 2 < cs.length
          · rw [if_pos h4, if_pos h4, (hp.ot _ (hlt _ h3) (by omega)).1, (hp.ot _ (hlt _ h3) (by omega)).2.1]
          · rw [if_neg h4, if_neg h4]
        · rw [if_neg h3, if_neg (by omega)]
  · by_cases e : j = k
    · subst e; exact hp.me
    · obtain ⟨_, e2, e3⟩ := hp.ot j (hlt j (by omega)) e
      rw [e2, e3]
      exact h.dn j (by omega) hjL
  · rcases h.l with e | ⟨b, co, f, e, r, m⟩
    · exact .inl e
    · have := (hp.rw _ _ _ _ (by decide) (by decide) (h.nl b (by rw [e]; rfl)) r).1
      exact (show Ov w1 _ _ _ from .inr ⟨b, co, f, e, this, m⟩).set _ _ _
  · intro g' e
    obtain ⟨_, _, r⟩ := h.l.row e
    exact (hp.rw _ _ _ _ (by decide) (by decide) (h.nl g' e) r).2
theorem Ts.mark (h : Ts w wr S hb g c cs f2 vb vl vc k ve le gi ci fs) (hk : cs.length ≤ k) (hg : S g) :
    Ts w ((wr.setCell ⟨g, k * 2, none⟩ (.int .u32 205)).setCell ⟨g, k * 2 + 1, none⟩ (.slice none 0 0)) S hb g c cs f2 vb vl vc (k + 1) ve le gi ci fs := by
  have r1 := h.x.set (k * 2) (.int .u32 205)
  refine ⟨(r1.set (k * 2 + 1) _).congr fun p hj => ?_, (h.q.setX h.x (by decide) (by decide) (h.q.d.val.ne h.x (by decide)) _).setX r1 (by decide) (by decide) (h.q.d.val.ne h.x (by decide)) _, .inr (by rcases h.kl with e | e <;> omega), fun j hj hjL => h.dn j (by omega) hjL, (h.l.set _ _ _).set _ _ _, h.nl, (h.bp.set (.inl hg) _).set (.inl hg) _⟩
  by_cases h1 : p = k * 2 + 1
  · rw [if_pos h1]; subst h1
    unfold tsk tsf
    rw [if_pos (by omega), if_neg (by omega), if_neg (by omega)]
  · rw [if_neg h1]
    by_cases h2 : p = k * 2
    · rw [if_pos h2]; subst h2
      unfold tsk tsf
      rw [if_pos (by omega), if_neg (by omega), if_pos (by omega)]
    · rw [if_neg h2]
      unfold tsk
      by_cases h3 : p / 2 < k
      · rw [if_pos h3, if_pos (by omega)]
      · rw [if_neg h3, if_neg (by omega)]
end
/-- Chunks that lie in no block of S. -/
def CsO (w : World) (S : Nat → Prop) (lo : Option Addr) (cs : List Ck) : Prop := ∀ (j : Nat) (x : Ck), cs[j]? = some x → ∃ (gl ol : Nat) (ao : Option Addr) (c : Nat), lo = some ⟨gl, ol, none⟩ ∧ w.cell? ⟨gl, ol + j * 2, none⟩ = some (.int .u32 (x.1 : Int)) ∧ w.cell? ⟨gl, ol + j * 2 + 1, none⟩ = some (.slice ao x.2.length c) ∧ By w ao x.2 ∧ x.1 < 4294967296 ∧ ¬ S gl ∧ ∀ p, ao = some p → x.2 ≠ [] → ¬ S p.block
theorem CsO.bp {w w' : World} {S T : Nat → Prop} {lo : Option Addr} {cs : List Ck} (h : CsO w S lo cs) (hb : BP T w w') (hT : ∀ b, T b → S b) : CsO w' S lo cs := fun j l hj => by
  obtain ⟨gl, ol, ao, c, e, k0, k, y, ht, s1, s2⟩ := h j l hj
  exact ⟨gl, ol, ao, c, e, hb.cell (fun h => s1 (hT _ h)) k0, hb.cell (fun h => s1 (hT _ h)) k, y.bp hb fun p hp hl h => s2 p hp hl (hT _ h), ht, s1, s2⟩
/-- those has laid all. -/
structure Tz (w w' : World) (S : Nat → Prop) (hb g c : Nat) (cs : List Ck) (vb ve vl : Value) (le : Nat) (gi ci : Nat → Nat) (fs : Nat → Nat → Value) : Prop where
  f : Hf w' S hb vb ve vl (.slice (some ⟨g, 0, none⟩) c c) le gi ci fs
  x : w'.rowIs g 44 (c * 2) (tsf cs gi ci)
  kl : cs.length ≤ le
  dn : ∀ j, j < cs.length → fs j = ff (bd cs j) ∧ (bd cs j).length + 3 ≤ ci j
  bp : BP S w w'
theorem getC_at {cs : List Ck} {k : Nat} (h : k < cs.length) : cs[k]? = some (cs.getD k (0, [])) := by
  rw [List.getD_eq_getElem?_getD, List.getElem?_eq_getElem h]; rfl
set_option maxHeartbeats 3200000 in
set_option maxRecDepth 100000 in
theorem those_any (S : Nat → Prop) (hb : Nat) (vb ve vl vc : Value) (le : Nat) (gi ci : Nat → Nat) (fs : Nat → Nat → Value) (la : Option Addr) (cl : Nat) (cs : List Ck) (w : World) (hJ : cs.length ≤ 4398046510976) (hm : ∀ x ∈ cs, x.2.length ≤ 140737488351232) (hz : ∀ b, w.heap.size ≤ b → S b) (hf : Hf w S hb vb ve vl vc le gi ci fs) (hl : CsO w S la cs) :
    Calls Tryd.prog 14 #[.pointer (some ⟨hb, 0, none⟩), .slice la cs.length cl] w fun e w' => ∃ g c ve' le' gi' ci' fs', e = .returned (.slice (some ⟨g, 0, none⟩) cs.length c) ∧ cs.length + 1 ≤ c ∧ c ≤ maxLen ∧ Tz w w' S hb g c cs vb ve' vl le' gi' ci' fs' := by
  obtain ⟨oo, lo, co, evl⟩ := hf.c.val
  subst evl
  have HF := hid1 hf
  have HZ := hid1 hz
  have HL := hid1 hl
  have HM := hid1 hm
  obtain ⟨J, eJ⟩ : ∃ J, cs.length = J := ⟨_, rfl⟩
  have EJ := hid1 eJ
  obtain ⟨go, hom, hgo⟩ := hf.c.om2
  have HO := hid1 hom
  have HGO := hid1 hgo
  have HSL := hid1 hf.sl
  have c2 : w.cell? ⟨hb, 3, none⟩ = some (.slice oo lo co) := hf.q.h.cell (by omega)
  obtain ⟨f, hfv, hf0⟩ : ∃ f : Nat → Value, (∀ j, j < J * 2 → ∃ gl ol, la = some ⟨gl, ol, none⟩ ∧ w.cell? ⟨gl, ol + j, none⟩ = some (f j) ∧ (f j).oneCell' = true) ∧ ∀ k, k < J → f (k * 2) = .int .u32 ((cs.getD k (0, [])).1 : Nat) := by
    refine ⟨fun j => match la with | some p => (w.cell? ⟨p.block, p.off + j, none⟩).getD undef | none => undef, fun j hj => ?_, fun k hk => ?_⟩
    · obtain ⟨gl, ol, ao, c, e, k0, k1, _⟩ := hl (j / 2) _ (getC_at (by omega))
      subst e
      by_cases h2 : j % 2 = 0
      · rw [show ol + j / 2 * 2 = ol + j by omega] at k0
        exact ⟨gl, ol, rfl, by simp [k0], by simp [k0]; rfl⟩
      · rw [show ol + j / 2 * 2 + 1 = ol + j by omega] at k1
        exact ⟨gl, ol, rfl, by simp [k1], by simp [k1]; rfl⟩
    · obtain ⟨gl, ol, ao, c, e, k0, k1, _⟩ := hl k _ (getC_at (by omega))
      subst e
      simp [k0]
  have HFV := hid1 hfv
  have HF0 := hid1 hf0
  rw [eJ] at hJ ⊢
  have iJ0 : (0 : Int) ≤ (J : Int) := by omega
  have iJ1 : (J : Int) ≤ 4398046510976 := by omega
  have s0 : 0 + J ≤ 4398046511104 := by omega
  clear hf hz hl hm hom hgo hfv hf0 eJ
  go_enter Tryd.func14, Tryd.ntmps14
  go_upto_region 1 with fail
  go_cut [5] (fun s5 wx => ∃ g c f2, s5 = .slice (some ⟨g, 0, none⟩) (J + 1) c ∧ J + 1 ≤ c ∧ c ≤ maxLen ∧ wx.rowIs g 44 (c * 2) f2 ∧ (∀ p, p < J * 2 → f2 p = f p) ∧ ((Value.slice oo lo co).ownBlock = some g ∨ w.heap.size ≤ g) ∧ BP (fun b => (Value.slice oo lo co).ownBlock = some b) w wx)
  case first =>
    have fin : Hid (∀ (v : Value) (wx : World) (ys : List Value), wx.ownsRow 0 44 2 v (0 + J + 1) ([] ++ rowL f (J * 2) ++ ys) → Mv w go wx v → ∃ g c f2, v = .slice (some ⟨g, 0, none⟩) (J + 1) c ∧ J + 1 ≤ c ∧ c ≤ maxLen ∧ wx.rowIs g 44 (c * 2) f2 ∧ (∀ p, p < J * 2 → f2 p = f p) ∧ ((Value.slice oo lo co).ownBlock = some g ∨ w.heap.size ≤ g) ∧ BP (fun b => (Value.slice oo lo co).ownBlock = some b) w wx) := hid1 fun v wx ys ho hmv => by
      rw [Nat.zero_add, List.nil_append] at ho
      obtain ⟨g, c, f2, rfl, _, hle, hmax, hrow, hx⟩ := own_row2 ho (by omega)
      refine ⟨g, c, f2, rfl, hle, hmax, hrow, fun p hp => ?_, ?_, hmv.but.mono fun x hx e => ?_⟩
      · have h2 := hx p (by omega)
        rw [List.getElem?_append_left (by simp [rowL]; omega)] at h2
        exact (rowL_get h2).2
      · rcases hmv.at_ with h | h | ⟨b, h, hb⟩
        · simp [Value.ownBlock] at h
        · simp [Value.ownBlock] at h; subst h; exact HGO.out
        · simp [Value.ownBlock] at h; subst h; exact .inr hb
      · subst e
        rcases HGO.out with h | h
        · exact h
        · omega
    have b1 : ∀ (W : World) (j : Nat), j < 1 * 2 → ∃ gl ol, some (⟨W.heap.size, 0, none⟩ : Addr) = some ⟨gl, ol, none⟩ ∧ (W.alloc (.cells #[.int .u32 0, .slice none 0 0] 44)).cell? ⟨gl, ol + j, none⟩ = some ((fun j => if j = 0 then .int .u32 0 else .slice none 0 0 : Nat → Value) j) ∧ ((fun j => if j = 0 then .int .u32 0 else .slice none 0 0 : Nat → Value) j).oneCell' = true := fun W j hj => by
      refine ⟨W.heap.size, 0, rfl, ?_⟩
      rcases (show j = 0 ∨ j = 1 by omega) with rfl | rfl
      · exact ⟨by simp [go_sem], rfl⟩
      · exact ⟨by simp [go_sem], rfl⟩
    rcases HO.out with h | ⟨co', f0, h, hrow, hc⟩
    · injection h with e1 e2 e3
      subst e1 e2 e3
      go_wp2_with (first
        | (at_builtin; refine app_cks rfl (.tmp 11) (.tmp 12) rfl w go (.slice none 0 0) 0 [] (by go_simp) (World.ownsRow_nil _ _ _ _) ⟨BP.refl _ _, .inl rfl⟩ la J cl f (by go_simp) HFV.out s0 ?_; intro v1 w1 hown1 hmv1; obtain ⟨a1, c1, rfl⟩ := own_slice2 hown1; have O1 := hid1 hown1; have M1 := hid1 hmv1; clear hown1 hmv1)
        | (at_builtin; refine app_cks rfl (.tmp 13) (.tmp 15) rfl w go (.slice a1 (0 + J) c1) (0 + J) ([] ++ rowL f (J * 2)) (by go_simp) (O1.out.alloc _) (M1.out.alloc _) (some ⟨_, 0, none⟩) 1 1 (fun j => if j = 0 then .int .u32 0 else .slice none 0 0) (by go_simp) (b1 _) (by omega) ?_; intro v2 w2 hown2 hmv2; obtain ⟨a2, c2', rfl⟩ := own_slice2 hown2; have F2 := fin.out _ _ _ hown2 hmv2; clear hown2 hmv2))
      go_meet
      rw [Nat.zero_add] at F2
      exact F2
    · injection h with e1 e2 e3
      subst e1 e2 e3
      have HH := hid1 (own_none2 hrow hc)
      clear hrow hc
      go_wp2_with (first
        | (at_builtin; refine app_cks rfl (.tmp 11) (.tmp 12) rfl w go (.slice (some ⟨go, 0, none⟩) 0 co) 0 [] (by go_simp) HH.out ⟨BP.refl _ _, .inr (.inl rfl)⟩ la J cl f (by go_simp) HFV.out s0 ?_; intro v1 w1 hown1 hmv1; obtain ⟨a1, c1, rfl⟩ := own_slice2 hown1; have O1 := hid1 hown1; have M1 := hid1 hmv1; clear hown1 hmv1)
        | (at_builtin; refine app_cks rfl (.tmp 13) (.tmp 15) rfl w go (.slice a1 (0 + J) c1) (0 + J) ([] ++ rowL f (J * 2)) (by go_simp) (O1.out.alloc _) (M1.out.alloc _) (some ⟨_, 0, none⟩) 1 1 (fun j => if j = 0 then .int .u32 0 else .slice none 0 0) (by go_simp) (b1 _) (by omega) ?_; intro v2 w2 hown2 hmv2; obtain ⟨a2, c2', rfl⟩ := own_slice2 hown2; have F2 := fin.out _ _ _ hown2 hmv2; clear hown2 hmv2))
      go_meet
      rw [Nat.zero_add] at F2
      exact F2
  case rest =>
    obtain ⟨g, c, f2, rfl, hle, hmax, hrow2, hff, hg, hbut⟩ := hcut
    have hst : Ts w wc S hb g c cs f2 vb vl (.slice oo lo co) 0 ve le gi ci fs := ⟨hrow2.congr fun j hj => by simp [tsk], HF.out.q.bpl HF.out.c (by decide) (by decide) (fun g' e e2 => by
        obtain ⟨_, _, r⟩ := HF.out.c.row e
        exact HF.out.q.d.val.ne r (by decide) e2) hbut, .inl (Nat.zero_le _), fun j hj => absurd hj (by omega), HF.out.l.bp hbut (fun g' e e2 => by
        obtain ⟨_, _, r⟩ := HF.out.c.row e2
        exact HF.out.l.ne r (by decide) e), HF.out.nl, (BP.refl S w).trans hbut fun x _ e => HF.out.sc x e⟩
    have hsg : S g := by
      rcases hg with h | h
      · exact HF.out.sc g h
      · exact HZ.out g h
    have HST := hid1 hst
    have HFF := hid1 (fun k (hk : k < J) => (hff (k * 2) (by omega)).trans (HF0.out k hk))
    unfold maxLen at hmax
    have ic0 : (0 : Int) ≤ (c : Int) := by omega
    have ic1 : (c : Int) ≤ 9223372036854775807 := by omega
    generalize hvc : (Value.slice oo lo co) = vc at *
    clear hst hrow2 hg hbut hff HF HO HGO HFV HF0 c2 s0
    go_wp2_with fail
    go_loopw [6] (fun i wr => ∃ k ve le gi ci fs, k ≤ c ∧ i = .int .i64 (k : Nat) ∧ Ts w wr S hb g c cs f2 vb vl vc k ve le gi ci fs) (fun i _ => c - (intOf i).toNat)
    case atStart => exact ⟨0, ve, le, gi, ci, fs, Nat.zero_le _, rfl, HST.out⟩
    case round =>
      clear HST
      obtain ⟨k, ve, le, gi, ci, fs, hk, rfl, hls⟩ := hrel
      have ik0 : (0 : Int) ≤ (k : Int) := by omega
      by_cases hlt : k < c
      · have ik : (k : Int) < (c : Int) := by omega
        by_cases hkJ : k < J
        · have ikJ : (k : Int) < (J : Int) := by omega
          have hkL : k < cs.length := by rw [EJ.out]; exact hkJ
          obtain ⟨gl, ol, ao, cp, rfl, _, ck, yk, _, _, sk⟩ := (HL.out.bp hls.bp fun _ h => h) k _ (getC_at hkL)
          have PA := hid1 (place_any S hb vb ve vl vc le gi ci fs k ao cp (bd cs k) wr (HM.out _ (List.mem_of_getElem? (getC_at hkL))) (by rcases hls.kl with e | e <;> omega) (by omega) (fun b hb => HZ.out b (by have := hls.bp.size; omega)) hls.q yk sk)
          obtain ⟨ln, eln⟩ : ∃ n, (bd cs k).length = n := ⟨_, rfl⟩
          rw [eln] at PA
          rw [show (cs.getD k (0, [])).2.length = ln from eln] at ck
          have ELN := hid1 eln
          have HLS := hid1 hls
          clear hls yk sk eln
          go_wp2_with fail
          refine PA.out.mono ?_
          rintro e w1 ⟨ve', le', gi', ci', fs', rfl, hp⟩
          have r1 := (hp.rw _ _ _ _ (by decide) (by decide) (HLS.out.q.d.val.ne HLS.out.x (by decide)) HLS.out.x).1
          have fx := r1.frozen (k * 2 + 1)
          have cx := r1.cell (i := k * 2 + 1) (by omega)
          have HP := hid1 hp
          clear PA hp r1
          go_wp2_with fail
          have hfin := HLS.out.place hkL (HFF.out k hkJ) hsg HP.out
          rw [ELN.out] at hfin
          exact ⟨⟨k + 1, ve', le', gi', ci', fs', by omega, by go_num, hfin⟩, by simp [intOf]; omega⟩
        · have ikJ : (J : Int) ≤ (k : Int) := by omega
          have fx0 := hls.x.frozen (k * 2)
          have cx0 := hls.x.cell (i := k * 2) (by omega)
          have fx := hls.x.frozen (k * 2 + 1)
          have cx := hls.x.cell (i := k * 2 + 1) (by omega)
          have HLS := hid1 hls
          have zx := hls.x.lt
          clear hls
          go_wp2_with fail
          have hfin := HLS.out.mark (by rw [EJ.out]; omega) hsg
          exact ⟨⟨k + 1, ve, le, gi, ci, fs, by omega, by go_num, hfin⟩, by simp [intOf]; omega⟩
      · have hkc : k = c := by omega
        subst hkc
        have cx := hls.q.h.cell (i := 3) (by omega)
        have fx := hls.q.h.frozen 3
        have HLS := hid1 hls
        have ikJ : (J : Int) ≤ (k : Int) := by omega
        have ikJ' : J ≤ k := by omega
        clear hls
        go_wp2_with fail
        go_ret
        have hls := HLS.out
        have hhx := row_ne hls.x hls.q.h (by decide)
        refine ⟨g, k, ve, le, gi, ci, fs, rfl, hle, by unfold maxLen; omega, ⟨⟨hls.q.setC _, hls.l.set _ _ _, .inr ⟨g, k, _, rfl, hls.x.setOther (a := ⟨hb, 3, none⟩) hhx _, by unfold maxLen; omega⟩, hls.nl, ?_, fun g' e => ?_⟩, (hls.x.setOther (a := ⟨hb, 3, none⟩) hhx _).congr fun p hj => by unfold tsk; rw [if_pos (by omega)], ?_, fun j hj => hls.dn j (by rw [EJ.out] at hj; omega) hj, hls.bp.set (.inl hls.q.s.1) _⟩⟩
        · exact HSL.out
        · rw [ob_some e]; exact hsg
        · rcases hls.kl with e | e
          · rw [EJ.out]; omega
          · exact e
end Go.Proofs.YtbpglkhgggokcaaDoor
