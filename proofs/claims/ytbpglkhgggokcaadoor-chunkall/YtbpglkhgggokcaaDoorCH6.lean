/- CHUNKALL: one, list. -/
import Derived.Test.YtbpglkhgggokcaaDoorCH5
namespace Go.Proofs.YtbpglkhgggokcaaDoor
open Go.RowKit

set_option maxHeartbeats 1600000 in
set_option maxRecDepth 100000 in
theorem one_any (S : Nat → Prop) (hb : Nat) (vb ve vl vc : Value) (le : Nat) (gi ci : Nat → Nat) (fs : Nat → Nat → Value) (la : Option Addr) (cl : Nat) (l : List Nat) (w : World) (hm : l.length ≤ 140737488351232) (hz : ∀ b, w.heap.size ≤ b → S b) (hf : Hf w S hb vb ve vl vc le gi ci fs) (hl : By w la l) :
    Calls Tryd.prog 16 #[.pointer (some ⟨hb, 0, none⟩), .slice la l.length cl] w fun e w' => ∃ g c, e = .returned (.slice (some ⟨g, 0, none⟩) l.length c) ∧ l.length + 3 ≤ c ∧ c ≤ maxLen ∧ Hf w' S hb (.slice (some ⟨g, 0, none⟩) c c) ve vl vc le gi ci fs ∧ w'.rowIs g 5 c (ff l) ∧ BP S w w' := by
  obtain ⟨bo, bn, bc, evb⟩ := hf.q.b.val
  subst evb
  have HF := hid1 hf
  have HZ := hid1 hz
  have FO := hid1 (filled_own (.slice bo bn bc) la cl l w hm hf.q.b hl)
  have c0 : w.cell? ⟨hb, 0, none⟩ = some (.slice bo bn bc) := hf.q.h.cell (by omega)
  obtain ⟨m, em⟩ : ∃ m, l.length = m := ⟨_, rfl⟩
  rw [em] at hm FO ⊢
  have im0 : (0 : Int) ≤ (m : Int) := by omega
  clear hf hz hl em
  go_enter Tryd.func16, Tryd.ntmps16
  go_wp2_with fail
  refine FO.out.mono ?_
  rintro e w1 ⟨g, c, rfl, hle, hmax, hg, hrow, hbut⟩
  have h1 := hbut.row (fun e => HF.out.q.b.ne HF.out.q.h (by decide) e) HF.out.q.h
  have c10 := h1.cell (i := 0) (by omega)
  have f10 := h1.frozen 0
  have HB := hid1 hbut
  have HG := hid1 hg
  have HR := hid1 hrow
  have H1 := hid1 h1
  have imc : (m : Int) ≤ (c : Int) := by omega
  have imc' : m ≤ c := by omega
  clear h1 hbut hg hrow FO c0
  go_wp2_with fail
  go_ret
  obtain ⟨q, r⟩ := HF.out.q.fillB HZ.out HB.out HG.out HR.out hmax
  refine ⟨g, c, rfl, hle, hmax, ⟨q, (HF.out.l.bp HB.out fun g' e e2 => ?_).set _ _ _, (HF.out.c.bp HB.out fun g' e e2 => ?_).set _ _ _, HF.out.nl, HF.out.sl, HF.out.sc⟩, r, ((BP.refl S w).trans HB.out fun x _ e => HF.out.q.s.2.1 x e).set (.inl HF.out.q.s.1) _⟩
  · obtain ⟨_, _, r⟩ := HF.out.q.b.row e2
    exact HF.out.l.ne r (by decide) e
  · obtain ⟨_, _, r⟩ := HF.out.q.b.row e2
    exact HF.out.c.ne r (by decide) e
/-- 'append' of lists that lie anywhere. -/
theorem app_sls {ops : Array Oper} {rest : List Oper} {o : Oper} {a : Act} {Q : Exit → Act → World → Prop} {w : World} (hgd : o.guard = none) (s x : Operand)
    (ho : o.op = .call { callee := .builtin .append, args := #[s, x], argTypes := #[26, 26] }) (w0 : World) (go : Nat) (v : Value) (n : Nat) (xs : List Value) (hs : a.eval s = v) (hown : w.ownsRow 0 25 1 v n xs) (hmv : Mv w0 go w v)
    (la : Option Addr) (m cl : Nat) (f : Nat → Value) (hx : a.eval x = .slice la m cl) (hr : ∀ j, j < m → ∃ gl ol, la = some ⟨gl, ol, none⟩ ∧ w.cell? ⟨gl, ol + j, none⟩ = some (f j) ∧ (f j).oneCell' = true) (hb : n + m ≤ 5864062014805)
    (h : ∀ v' w', w'.ownsRow 0 25 1 v' (n + m) (xs ++ rowL f m) → Mv w0 go w' v' → wpList Tryd.prog ops Q rest (a.put o.dst v') w') : wpList Tryd.prog ops Q (o :: rest) a w := by
  obtain ⟨i0, hi, hz0, hz1, hz2⟩ := info_parts info_u8s
  cases la with
  | none =>
    have hb0 : m = 0 := by
      rcases m with _ | m
      · rfl
      · obtain ⟨_, _, e, _⟩ := hr 0 (by omega)
        exact absurd e (by simp)
    subst hb0
    refine wp_of_run hgd s x _ ho _ _ hs hx (run_append_none w 0 _ _ _ i0 1 und_u8ss hi _ _ _ hown cl) ?_
    exact h v w (by simpa [rowL] using hown) hmv
  | some ad =>
    refine wpList_append_own_at w hgd s x _ ho 0 25 i0 (.slice none 0 0) 1 24 und_u8ss hi hz0 hz1 hz2 rfl (by decide) v n xs hs hown ad m cl (rowL f m) hx (rowL_len _ _)
      (fun j u hj => by
        obtain ⟨hj', rfl⟩ := rowL_get hj
        obtain ⟨gg, oo, e, c, _⟩ := hr j hj'
        injection e with e
        subst e
        unfold Addr.add
        by_cases h0 : j = 0
        · subst h0; simpa using c
        · simpa [h0] using c)
      (fun u hu => by
        obtain ⟨j, hj⟩ := List.getElem?_of_mem hu
        obtain ⟨hj', rfl⟩ := rowL_get hj
        obtain ⟨_, _, _, _, e⟩ := hr j hj'
        exact e) (by unfold maxLen; omega) (by omega) (Nat.zero_le _) ?_
    intro v' w' h1 h2 _ h4
    exact h v' w' h1 (hmv.app h2 h4)
theorem own_none1 {w : World} {T go co : Nat} {f : Nat → Value} (h : w.rowIs go T co f) (hc : co ≤ maxLen) : w.ownsRow 0 T 1 (.slice (some ⟨go, 0, none⟩) 0 co) 0 [] := by
  obtain ⟨c, hb, hn, _⟩ := h
  exact ⟨rfl, .inr ⟨go, co, c, rfl, Nat.zero_le _, hb, Nat.zero_le _, hc, by omega, by simp⟩⟩
/-- The lists as Hand.list lays them. -/
def lsf (L : List (List Nat)) (gi ci pt : Nat → Nat) : Nat → Value := fun j => if j < L.length then .slice (some ⟨gi j, 0, none⟩) (L.getD j []).length (ci j) else .slice (some ⟨pt j, 0, none⟩) 1 1
def lsk (L : List (List Nat)) (gi ci pt : Nat → Nat) (f : Nat → Value) (k : Nat) : Nat → Value := fun j => if j < k then lsf L gi ci pt j else f j
/-- list's memory ahead of place k. -/
structure Ls (w wr : World) (S : Nat → Prop) (hb g c : Nat) (L : List (List Nat)) (f2 : Nat → Value) (vb vl vc : Value) (k : Nat) (ve : Value) (le : Nat) (gi ci pt : Nat → Nat) (fs : Nat → Nat → Value) : Prop where
  x : wr.rowIs g 25 c (lsk L gi ci pt f2 k)
  q : Hq wr S hb vb ve vl vc le gi ci fs
  nx : ve.ownBlock ≠ some g
  kl : k ≤ le ∨ L.length ≤ le
  dn : ∀ j, j < k → j < L.length → fs j = ff (L.getD j []) ∧ (L.getD j []).length + 3 ≤ ci j
  pt : ∀ j, j < k → L.length ≤ j → wr.rowIs (pt j) 5 1 (fun _ => .int .u8 204)
  c : Ov wr 44 2 vc
  bp : BP S w wr
section
variable {w wr w1 : World} {S : Nat → Prop} {hb g c : Nat} {L : List (List Nat)} {f2 : Nat → Value} {vb vl vc ve : Value} {k le : Nat} {gi ci pt : Nat → Nat} {fs : Nat → Nat → Value}
/-- A list is placed. -/
theorem Ls.place {ve' : Value} {le' : Nat} {gi' ci' : Nat → Nat} {fs' : Nat → Nat → Value} (h : Ls w wr S hb g c L f2 vb vl vc k ve le gi ci pt fs) (hk : k < L.length) (hkc : k < c) (hg : S g) (hp : Pl wr w1 S hb vb ve ve' vl vc le le' gi gi' ci ci' fs fs' k (L.getD k [])) :
    Ls w (w1.setCell ⟨g, k, none⟩ (.slice (some ⟨gi' k, 0, none⟩) (L.getD k []).length (ci' k))) S hb g c L f2 vb vl vc (k + 1) ve' le' gi' ci' pt fs' := by
  obtain ⟨r1, n1⟩ := hp.rw _ _ _ _ (by decide) (by decide) h.nx h.x
  have hlt : ∀ j, j < k → j < le := fun j hj => by rcases h.kl with e | e <;> omega
  refine ⟨(r1.set k _).congr fun j hj => ?_, hp.q.setX r1 (by decide) (by decide) n1 _, n1, .inl (by have := hp.lt; omega), fun j hj hjL => ?_, fun j hj hjL => absurd hjL (by omega), ?_, (h.bp.trans hp.bp fun x _ e => e).set (.inl hg) _⟩
  · by_cases e : j = k
    · subst e
      rw [if_pos rfl]
      unfold lsk lsf
      rw [if_pos (by omega), if_pos hk]
    · rw [if_neg e]
      unfold lsk
      by_cases h3 : j < k
      · rw [if_pos h3, if_pos (by omega)]
        unfold lsf
        by_cases h4 : j < L.length
        · rw [if_pos h4, if_pos h4, (hp.ot j (hlt j h3) e).1, (hp.ot j (hlt j h3) e).2.1]
        · rw [if_neg h4, if_neg h4]
      · rw [if_neg h3, if_neg (by omega)]
  · by_cases e : j = k
    · subst e; exact hp.me
    · obtain ⟨_, e2, e3⟩ := hp.ot j (hlt j (by omega)) e
      rw [e2, e3]
      exact h.dn j (by omega) hjL
  · rcases h.c with e | ⟨b, co, f, e, r, m⟩
    · exact .inl e
    · have := (hp.rw _ _ _ _ (by decide) (by decide) (h.q.d.val.ne r (by decide)) r).1
      exact (show Ov w1 _ _ _ from .inr ⟨b, co, f, e, this, m⟩).set _ _ _
/-- A mark behind the lists. -/
theorem Ls.mark {t : TypeId} (h : Ls w wr S hb g c L f2 vb vl vc k ve le gi ci pt fs) (hk : L.length ≤ k) (hkc : k < c) (hg : S g) (ht : t = 5) :
    Ls w ((wr.alloc (.cells #[.int .u8 204] t)).setCell ⟨g, k, none⟩ (.slice (some ⟨wr.heap.size, 0, none⟩) 1 1)) S hb g c L f2 vb vl vc (k + 1) ve le gi ci (upd pt k wr.heap.size) fs := by
  subst ht
  have hb0 : Below wr.heap.size wr (wr.alloc (.cells #[.int .u8 204] 5)) := bl_alloc (Below.refl _ _) _
  have r1 := keepr hb0 h.x
  have hne : ∀ {b T n F}, T ≠ 25 → (wr.alloc (.cells #[.int .u8 204] 5)).rowIs b T n F → b ≠ g := fun hT hr => row_ne hr r1 hT
  have rn : (wr.alloc (.cells #[.int .u8 204] 5)).rowIs wr.heap.size 5 1 (fun _ => .int .u8 204) := World.rowIs_alloc wr _ _ _ (fun i hi => by
    rcases i with _ | i
    · rfl
    · simp at hi)
  refine ⟨(r1.set k _).congr fun j hj => ?_, (h.q.below hb0).setX r1 (by decide) (by decide) h.nx _, h.nx, .inr (by rcases h.kl with e | e <;> omega), fun j hj hjL => h.dn j (by omega) hjL, fun j hj hjL => ?_, (h.c.bp (S := fun _ => False) (BP.bel hb0) fun _ _ h => h).set _ _ _, (h.bp.step hb0).set (.inl hg) _⟩
  · by_cases e : j = k
    · subst e
      rw [if_pos rfl]
      unfold lsk lsf
      rw [if_pos (by omega), if_neg (by omega), upd_same]
    · rw [if_neg e]
      unfold lsk
      by_cases h3 : j < k
      · rw [if_pos h3, if_pos (by omega)]
        unfold lsf
        rw [upd_other _ _ _ e]
      · rw [if_neg h3, if_neg (by omega)]
  · by_cases e : j = k
    · subst e
      rw [upd_same]
      exact rn.setOther (a := ⟨g, j, none⟩) (hne (by decide) rn) _
    · rw [upd_other _ _ _ e]
      have r2 := keepr hb0 (h.pt j (by omega) hjL)
      exact r2.setOther (a := ⟨g, k, none⟩) (hne (by decide) r2) _
end
theorem Hq.setL {w : World} {S : Nat → Prop} {hb : Nat} {vb vl vc ve : Value} {le : Nat} {gi ci : Nat → Nat} {fs : Nat → Nat → Value} (h : Hq w S hb vb ve vl vc le gi ci fs) (x : Value) : Hq (w.setCell ⟨hb, 2, none⟩ x) S hb vb ve x vc le gi ci fs :=
  ⟨Hd.set2 h.h x, h.b.set _ _ _, ⟨h.d.val.setO (h.d.val.ne h.h (by decide)) _ _, fun j hj => (h.d.row j hj).setOther (a := ⟨hb, 2, none⟩) (row_ne (h.d.row j hj) h.h (by decide)) _, h.d.max, h.d.inj⟩, h.ll, h.nb, h.s⟩
theorem Hq.setC {w : World} {S : Nat → Prop} {hb : Nat} {vb vl vc ve : Value} {le : Nat} {gi ci : Nat → Nat} {fs : Nat → Nat → Value} (h : Hq w S hb vb ve vl vc le gi ci fs) (x : Value) : Hq (w.setCell ⟨hb, 3, none⟩ x) S hb vb ve vl x le gi ci fs :=
  ⟨Hd.set3 h.h x, h.b.set _ _ _, ⟨h.d.val.setO (h.d.val.ne h.h (by decide)) _ _, fun j hj => (h.d.row j hj).setOther (a := ⟨hb, 3, none⟩) (row_ne (h.d.row j hj) h.h (by decide)) _, h.d.max, h.d.inj⟩, h.ll, h.nb, h.s⟩
/-- Lists that lie in no block of S. -/
def BysO (w : World) (S : Nat → Prop) (lo : Option Addr) (L : List (List Nat)) : Prop := ∀ (j : Nat) (l : List Nat), L[j]? = some l → ∃ (gl ol : Nat) (ao : Option Addr) (c : Nat), lo = some ⟨gl, ol, none⟩ ∧ w.cell? ⟨gl, ol + j, none⟩ = some (.slice ao l.length c) ∧ By w ao l ∧ ¬ S gl ∧ ∀ p, ao = some p → l ≠ [] → ¬ S p.block
theorem BysO.bp {w w' : World} {S T : Nat → Prop} {lo : Option Addr} {L : List (List Nat)} (h : BysO w S lo L) (hb : BP T w w') (hT : ∀ b, T b → S b) : BysO w' S lo L := fun j l hj => by
  obtain ⟨gl, ol, ao, c, e, k, y, s1, s2⟩ := h j l hj
  exact ⟨gl, ol, ao, c, e, hb.cell (fun h => s1 (hT _ h)) k, y.bp hb fun p hp hl h => s2 p hp hl (hT _ h), s1, s2⟩
/-- list has laid all. -/
structure Lz (w w' : World) (S : Nat → Prop) (hb g c : Nat) (L : List (List Nat)) (vb ve vc : Value) (le : Nat) (gi ci pt : Nat → Nat) (fs : Nat → Nat → Value) : Prop where
  f : Hf w' S hb vb ve (.slice (some ⟨g, 0, none⟩) c c) vc le gi ci fs
  x : w'.rowIs g 25 c (lsf L gi ci pt)
  kl : L.length ≤ le
  dn : ∀ j, j < L.length → fs j = ff (L.getD j []) ∧ (L.getD j []).length + 3 ≤ ci j
  pt : ∀ j, j < c → L.length ≤ j → w'.rowIs (pt j) 5 1 (fun _ => .int .u8 204)
  bp : BP S w w'
theorem getD_at {L : List (List Nat)} {k : Nat} (h : k < L.length) : L[k]? = some (L.getD k []) := by
  rw [List.getD_eq_getElem?_getD, List.getElem?_eq_getElem h]; rfl
set_option maxHeartbeats 3200000 in
set_option maxRecDepth 100000 in
theorem list_any (S : Nat → Prop) (hb : Nat) (vb ve vl vc : Value) (le : Nat) (gi ci : Nat → Nat) (fs : Nat → Nat → Value) (la : Option Addr) (cl : Nat) (L : List (List Nat)) (w : World) (hJ : L.length ≤ 5864062014634) (hm : ∀ l ∈ L, l.length ≤ 140737488351232) (hz : ∀ b, w.heap.size ≤ b → S b) (hf : Hf w S hb vb ve vl vc le gi ci fs) (hl : BysO w S la L) :
    Calls Tryd.prog 12 #[.pointer (some ⟨hb, 0, none⟩), .slice la L.length cl] w fun e w' => ∃ g c ve' le' gi' ci' pt fs', e = .returned (.slice (some ⟨g, 0, none⟩) L.length c) ∧ L.length + 1 ≤ c ∧ c ≤ maxLen ∧ Lz w w' S hb g c L vb ve' vc le' gi' ci' pt fs' := by
  obtain ⟨oo, lo, co, evl⟩ := hf.l.val
  subst evl
  have HF := hid1 hf
  have HZ := hid1 hz
  have HL := hid1 hl
  have HM := hid1 hm
  obtain ⟨J, eJ⟩ : ∃ J, L.length = J := ⟨_, rfl⟩
  have EJ := hid1 eJ
  obtain ⟨go, hom, hgo⟩ := hf.l.om
  have HO := hid1 hom
  have HGO := hid1 hgo
  have HSC := hid1 hf.sc
  have c2 : w.cell? ⟨hb, 2, none⟩ = some (.slice oo lo co) := hf.q.h.cell (by omega)
  obtain ⟨f, hfv⟩ : ∃ f : Nat → Value, ∀ j, j < J → ∃ gl ol, la = some ⟨gl, ol, none⟩ ∧ w.cell? ⟨gl, ol + j, none⟩ = some (f j) ∧ (f j).oneCell' = true := by
    refine ⟨fun j => match la with | some p => (w.cell? ⟨p.block, p.off + j, none⟩).getD undef | none => undef, fun j hj => ?_⟩
    obtain ⟨gl, ol, ao, c, e, k, _⟩ := hl j _ (getD_at (by omega))
    subst e
    exact ⟨gl, ol, rfl, by simp [k], by simp [k]; rfl⟩
  have HFV := hid1 hfv
  rw [eJ] at hJ ⊢
  have iJ0 : (0 : Int) ≤ (J : Int) := by omega
  have iJ1 : (J : Int) ≤ 5864062014634 := by omega
  have s0 : 0 + J ≤ 5864062014805 := by omega
  clear hf hz hl hm hom hgo hfv eJ
  go_enter Tryd.func12, Tryd.ntmps12
  go_upto_region 1 with fail
  go_cut [5] (fun s5 wx => ∃ g c f, s5 = .slice (some ⟨g, 0, none⟩) (J + 1) c ∧ J + 1 ≤ c ∧ c ≤ maxLen ∧ wx.rowIs g 25 c f ∧ ((Value.slice oo lo co).ownBlock = some g ∨ w.heap.size ≤ g) ∧ BP (fun b => (Value.slice oo lo co).ownBlock = some b) w wx)
  case first =>
    have fin : Hid (∀ (v : Value) (wx : World) (xs : List Value), wx.ownsRow 0 25 1 v (0 + J + 1) xs → Mv w go wx v → ∃ g c f, v = .slice (some ⟨g, 0, none⟩) (J + 1) c ∧ J + 1 ≤ c ∧ c ≤ maxLen ∧ wx.rowIs g 25 c f ∧ ((Value.slice oo lo co).ownBlock = some g ∨ w.heap.size ≤ g) ∧ BP (fun b => (Value.slice oo lo co).ownBlock = some b) w wx) := hid1 fun v wx xs ho hmv => by
      rw [Nat.zero_add] at ho
      obtain ⟨g, c, f, rfl, _, hle, hmax, hrow, _⟩ := own_row ho (by omega)
      refine ⟨g, c, f, rfl, hle, hmax, hrow, ?_, hmv.but.mono fun x hx e => ?_⟩
      · rcases hmv.at_ with h | h | ⟨b, h, hb⟩
        · simp [Value.ownBlock] at h
        · simp [Value.ownBlock] at h; subst h; exact HGO.out
        · simp [Value.ownBlock] at h; subst h; exact .inr hb
      · subst e
        rcases HGO.out with h | h
        · exact h
        · omega
    have b1 : ∀ (W : World) (j : Nat), j < 1 → ∃ gl ol, some (⟨W.heap.size, 0, none⟩ : Addr) = some ⟨gl, ol, none⟩ ∧ (W.alloc (.cells #[.slice none 0 0] 25)).cell? ⟨gl, ol + j, none⟩ = some (.slice none 0 0) ∧ (Value.slice none 0 0).oneCell' = true := fun W j hj => ⟨W.heap.size, 0, rfl, by
      have : j = 0 := by omega
      subst this
      simp [go_sem], rfl⟩
    rcases HO.out with h | ⟨co', f0, h, hrow, hc⟩
    · injection h with e1 e2 e3
      subst e1 e2 e3
      go_wp2_with (first
        | (at_builtin; refine app_sls rfl (.tmp 12) (.tmp 13) rfl w go (.slice none 0 0) 0 [] (by go_simp) (World.ownsRow_nil _ _ _ _) ⟨BP.refl _ _, .inl rfl⟩ la J cl f (by go_simp) HFV.out s0 ?_; intro v1 w1 hown1 hmv1; obtain ⟨a1, c1, rfl⟩ := own_slice' hown1; have O1 := hid1 hown1; have M1 := hid1 hmv1; clear hown1 hmv1)
        | (at_builtin; refine app_sls rfl (.tmp 14) (.tmp 15) rfl w go (.slice a1 (0 + J) c1) (0 + J) ([] ++ rowL f J) (by go_simp) (O1.out.alloc _) (M1.out.alloc _) (some ⟨_, 0, none⟩) 1 1 (fun _ => .slice none 0 0) (by go_simp) (b1 _) (by omega) ?_; intro v2 w2 hown2 hmv2; obtain ⟨a2, c2', rfl⟩ := own_slice' hown2; have F2 := fin.out _ _ _ hown2 hmv2; clear hown2 hmv2))
      go_meet
      rw [Nat.zero_add] at F2
      exact F2
    · injection h with e1 e2 e3
      subst e1 e2 e3
      have HH := hid1 (own_none1 hrow hc)
      clear hrow hc
      go_wp2_with (first
        | (at_builtin; refine app_sls rfl (.tmp 12) (.tmp 13) rfl w go (.slice (some ⟨go, 0, none⟩) 0 co) 0 [] (by go_simp) HH.out ⟨BP.refl _ _, .inr (.inl rfl)⟩ la J cl f (by go_simp) HFV.out s0 ?_; intro v1 w1 hown1 hmv1; obtain ⟨a1, c1, rfl⟩ := own_slice' hown1; have O1 := hid1 hown1; have M1 := hid1 hmv1; clear hown1 hmv1)
        | (at_builtin; refine app_sls rfl (.tmp 14) (.tmp 15) rfl w go (.slice a1 (0 + J) c1) (0 + J) ([] ++ rowL f J) (by go_simp) (O1.out.alloc _) (M1.out.alloc _) (some ⟨_, 0, none⟩) 1 1 (fun _ => .slice none 0 0) (by go_simp) (b1 _) (by omega) ?_; intro v2 w2 hown2 hmv2; obtain ⟨a2, c2', rfl⟩ := own_slice' hown2; have F2 := fin.out _ _ _ hown2 hmv2; clear hown2 hmv2))
      go_meet
      rw [Nat.zero_add] at F2
      exact F2
  case rest =>
    obtain ⟨g, c, f2, rfl, hle, hmax, hrow2, hg, hbut⟩ := hcut
    have hst : Ls w wc S hb g c L f2 vb (.slice oo lo co) vc 0 ve le gi ci (fun _ => 0) fs := ⟨hrow2.congr fun j hj => by simp [lsk], HF.out.q.bpl HF.out.l (by decide) (by decide) HF.out.nl hbut, fun e => by
      rcases hg with h | h
      · exact HF.out.nl g h e
      · exact HF.out.q.d.val.new h e, .inl (Nat.zero_le _), fun j hj => absurd hj (by omega), fun j hj => absurd hj (by omega), HF.out.c.bp hbut (fun g' e e2 => by
        obtain ⟨_, _, r⟩ := HF.out.l.row e2
        exact HF.out.c.ne r (by decide) e), (BP.refl S w).trans hbut fun x _ e => HF.out.sl x e⟩
    have hsg : S g := by
      rcases hg with h | h
      · exact HF.out.sl g h
      · exact HZ.out g h
    have HST := hid1 hst
    unfold maxLen at hmax
    have ic0 : (0 : Int) ≤ (c : Int) := by omega
    have ic1 : (c : Int) ≤ 9223372036854775807 := by omega
    generalize hvl : (Value.slice oo lo co) = vl at *
    clear hst hrow2 hg hbut HF HO HGO HFV c2 s0
    go_wp2_with fail
    go_loopw [6] (fun i wr => ∃ k ve le gi ci pt fs, k ≤ c ∧ i = .int .i64 (k : Nat) ∧ Ls w wr S hb g c L f2 vb vl vc k ve le gi ci pt fs) (fun i _ => c - (intOf i).toNat)
    case atStart => exact ⟨0, ve, le, gi, ci, _, fs, Nat.zero_le _, rfl, HST.out⟩
    case round =>
      clear HST
      obtain ⟨k, ve, le, gi, ci, pt, fs, hk, rfl, hls⟩ := hrel
      have ik0 : (0 : Int) ≤ (k : Int) := by omega
      by_cases hlt : k < c
      · have ik : (k : Int) < (c : Int) := by omega
        by_cases hkJ : k < J
        · have ikJ : (k : Int) < (J : Int) := by omega
          have hkL : k < L.length := by rw [EJ.out]; exact hkJ
          obtain ⟨gl, ol, ao, cp, rfl, ck, yk, _, sk⟩ := (HL.out.bp hls.bp fun _ h => h) k _ (getD_at hkL)
          have PA := hid1 (place_any S hb vb ve vl vc le gi ci fs k ao cp (L.getD k []) wr (HM.out _ (List.mem_of_getElem? (getD_at hkL))) (by rcases hls.kl with e | e <;> omega) (by omega) (fun b hb => HZ.out b (by have := hls.bp.size; omega)) hls.q yk sk)
          obtain ⟨ln, eln⟩ : ∃ n, (L.getD k []).length = n := ⟨_, rfl⟩
          rw [eln] at ck PA
          have ELN := hid1 eln
          have HLS := hid1 hls
          clear hls yk sk eln
          go_wp2_with fail
          refine PA.out.mono ?_
          rintro e w1 ⟨ve', le', gi', ci', fs', rfl, hp⟩
          have r1 := (hp.rw _ _ _ _ (by decide) (by decide) HLS.out.nx HLS.out.x).1
          have fx := r1.frozen k
          have cx := r1.cell hlt
          have HP := hid1 hp
          clear PA hp r1
          go_wp2_with fail
          have hfin := HLS.out.place hkL hlt hsg HP.out
          rw [ELN.out] at hfin
          exact ⟨⟨k + 1, ve', le', gi', ci', pt, fs', by omega, by go_num, hfin⟩, by simp [intOf]; omega⟩
        · have ikJ : (J : Int) ≤ (k : Int) := by omega
          have fx := hls.x.frozen k
          have cx := hls.x.cell hlt
          have HLS := hid1 hls
          have zx := hls.x.lt
          clear hls
          go_wp2_with fail
          have hfin := HLS.out.mark (by rw [EJ.out]; omega) hlt hsg rfl
          rw [World.setCell_alloc_past _ _ _ _ zx] at hfin
          exact ⟨⟨k + 1, ve, le, gi, ci, _, fs, by omega, by go_num, hfin⟩, by simp [intOf]; omega⟩
      · have hkc : k = c := by omega
        subst hkc
        have cx := hls.q.h.cell (i := 2) (by omega)
        have fx := hls.q.h.frozen 2
        have HLS := hid1 hls
        have ikJ : (J : Int) ≤ (k : Int) := by omega
        have ikJ' : J ≤ k := by omega
        clear hls
        go_wp2_with fail
        go_ret
        have hls := HLS.out
        have hhx := row_ne hls.x hls.q.h (by decide)
        refine ⟨g, k, ve, le, gi, ci, pt, fs, rfl, hle, by unfold maxLen; omega, ⟨⟨hls.q.setL _, .inr ⟨g, k, _, rfl, by rw [Nat.mul_one]; exact hls.x.setOther (a := ⟨hb, 2, none⟩) hhx _, by unfold maxLen; omega⟩, hls.c.set _ _ _, fun g' e => ?_, fun g' e => ?_, ?_⟩, (hls.x.setOther (a := ⟨hb, 2, none⟩) hhx _).congr fun j hj => by unfold lsk; rw [if_pos hj], ?_, fun j hj => hls.dn j (by rw [EJ.out] at hj; omega) hj, fun j hj hjL => (hls.pt j hj hjL).setOther (a := ⟨hb, 2, none⟩) (row_ne (hls.pt j hj hjL) hls.q.h (by decide)) _, hls.bp.set (.inl hls.q.s.1) _⟩⟩
        · rw [ob_some e]; exact hls.nx
        · rw [ob_some e]; exact hsg
        · exact HSC.out
        · rcases hls.kl with e | e
          · rw [EJ.out]; omega
          · exact e
end Go.Proofs.YtbpglkhgggokcaaDoor
