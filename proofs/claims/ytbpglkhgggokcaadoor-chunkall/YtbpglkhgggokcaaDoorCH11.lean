/- CHUNKALL: an operation, what it is answered; wanted of every operation. -/
import Derived.Test.YtbpglkhgggokcaaDoorCH9
import Derived.Test.YtbpglkhgggokcaaDoorCH10
namespace Go.Proofs.YtbpglkhgggokcaaDoor
open Go.RowKit

/-- An operation's numbers. -/
structure Oq where
  k : Int
  L : List (List Nat)
  m : Nat
  cs : List Ck
  l : List Nat
/-- The container that Write answers. -/
def wrB (m : Nat) (cs : List Ck) : List Nat := if cs.length ≤ 1024 ∧ szC cs ≤ 16777216 then cont m cs else []
def wrE (cs : List Ck) : Nat := if cs.length ≤ 1024 ∧ szC cs ≤ 16777216 then 0 else 2
def aB (o : Oq) : List Nat := if o.k = 2 then wrB o.m o.cs else []
def aC (o : Oq) : List Ck := if o.k = 3 then rdL o.m o.l else []
def aS (o : Oq) : Nat := if o.k = 1 then crc (cat o.L) else 0
def aE (o : Oq) : Nat := if o.k = 2 then wrE o.cs else if o.k = 3 then readE o.m o.l else 0
theorem write_tot (m : Nat) (lo : Option Addr) (cl : Nat) (cs : List Ck) (w : World) (LD : Laid w) (hn : cs.length ≤ 9223372036854775807) (h : Cs w lo cs) :
    Calls Tryd.prog 8 #[.int .u32 m, .slice lo cs.length cl] w fun e w' => ∃ bo bn, e = .returned (.tuple #[.slice bo bn bn, .int .i64 (wrE cs : Nat)]) ∧ bn = (wrB m cs).length ∧ w'.ownsRow w.heap.size 5 1 (.slice bo bn bn) bn (u8s (wrB m cs)) ∧ Below w.heap.size w w' := by
  unfold wrE wrB
  by_cases e : cs.length ≤ 1024 ∧ szC cs ≤ 16777216
  · rw [if_pos e, if_pos e]
    refine (write_good m lo cl cs w LD h e.1 e.2).mono ?_
    rintro x w' ⟨g, rfl, ho, hb⟩
    exact ⟨_, _, rfl, by have := ho.1; simp [u8s] at this; exact this.symm, ho, hb⟩
  · rw [if_neg e, if_neg e]
    refine (write_long m lo cl cs w hn h (by omega)).mono ?_
    rintro x w' ⟨rfl, hb⟩
    exact ⟨none, 0, rfl, rfl, World.ownsRow_nil _ _ _ _, hb⟩
theorem read_tot (m : Nat) (ao : Option Addr) (cap : Nat) (l : List Nat) (w : World) (LD : Laid w) (hb : By w ao l) (hc : l.length ≤ cap) (hc2 : cap ≤ 9223372036854775807) :
    Calls Tryd.prog 9 #[.int .u32 m, .slice ao l.length cap] w fun x w' => ∃ co n cp gs, x = .returned (.tuple #[.slice co n cp, .int .i64 (readE m l : Nat)]) ∧ n = (rdL m l).length ∧ Ans w' w.heap.size (.slice co n cp) (rdL m l) gs ∧ Below w.heap.size w w' := by
  refine (read_any m ao cap l w LD hb hc hc2).mono ?_
  rintro x w' ⟨h1, h2, h3⟩
  unfold rdL
  by_cases e : readE m l = 0
  · obtain ⟨v, gs, rfl, hf⟩ := h1 e
    obtain ⟨lo, cp, rfl, _⟩ := hf.val
    rw [if_pos e]
    exact ⟨lo, _, cp, gs, by rw [e]; rfl, rfl, hf, h3⟩
  · rw [if_neg e, h2 e]
    exact ⟨none, 0, 0, [], rfl, rfl, Ans.nil _ _, h3⟩
/-- An operation's lists lie in memory, in no block of S. -/
structure Ow (w : World) (S : Nat → Prop) (o : Oq) (lo : Option Addr) (co : Option Addr) (bo : Option Addr) (bc : Nat) : Prop where
  L : BysO w S lo o.L
  Ln : o.L.length ≤ 5864062014634
  Lm : ∀ l ∈ o.L, l.length ≤ 140737488351232
  c : CsO w S co o.cs
  cn : o.cs.length ≤ 4398046510976
  cm : ∀ x ∈ o.cs, x.2.length ≤ 140737488351232
  b : By w bo o.l
  bs : ∀ p, bo = some p → o.l ≠ [] → ¬ S p.block
  bn : o.l.length ≤ 140737488351232
  bm : o.l.length ≤ bc ∧ bc ≤ 9223372036854775807
theorem Ow.bp {w w' : World} {S T : Nat → Prop} {o : Oq} {lo co bo : Option Addr} {bc : Nat} (h : Ow w S o lo co bo bc) (hb : BP T w w') (hT : ∀ b, T b → S b) : Ow w' S o lo co bo bc :=
  ⟨h.L.bp hb hT, h.Ln, h.Lm, h.c.bp hb hT, h.cn, h.cm, h.b.bp hb fun p hp hl k => h.bs p hp hl (hT _ k), h.bs, h.bn, h.bm⟩
theorem BysO.sub {w : World} {S T : Nat → Prop} {lo : Option Addr} {L : List (List Nat)} (h : BysO w S lo L) (hT : ∀ b, T b → S b) : BysO w T lo L := fun j l hj => by
  obtain ⟨gl, ol, ao, c, e, k, y, s1, s2⟩ := h j l hj
  exact ⟨gl, ol, ao, c, e, k, y, fun h => s1 (hT _ h), fun p hp hl h => s2 p hp hl (hT _ h)⟩
theorem CsO.sub {w : World} {S T : Nat → Prop} {lo : Option Addr} {cs : List Ck} (h : CsO w S lo cs) (hT : ∀ b, T b → S b) : CsO w T lo cs := fun j l hj => by
  obtain ⟨gl, ol, ao, c, e, k0, k, y, ht, s1, s2⟩ := h j l hj
  exact ⟨gl, ol, ao, c, e, k0, k, y, ht, fun h => s1 (hT _ h), fun p hp hl h => s2 p hp hl (hT _ h)⟩
theorem Ow.sub {w : World} {S T : Nat → Prop} {o : Oq} {lo co bo : Option Addr} {bc : Nat} (h : Ow w S o lo co bo bc) (hT : ∀ b, T b → S b) : Ow w T o lo co bo bc :=
  ⟨h.L.sub hT, h.Ln, h.Lm, h.c.sub hT, h.cn, h.cm, h.b, fun p hp hl k => h.bs p hp hl (hT _ k), h.bn, h.bm⟩
theorem BysO.bys {w : World} {S : Nat → Prop} {lo : Option Addr} {L : List (List Nat)} (h : BysO w S lo L) : Bys w lo L := fun j l hj => by
  obtain ⟨gl, ol, ao, c, e, k, y, _, _⟩ := h j l hj
  exact ⟨gl, ol, ao, c, e, k, y⟩
theorem CsO.cs {w : World} {S : Nat → Prop} {lo : Option Addr} {cs : List Ck} (h : CsO w S lo cs) (hm : ∀ x ∈ cs, x.2.length ≤ 140737488351232) : Cs w lo cs := fun j x hj => by
  obtain ⟨gl, ol, ao, c, e, k0, k, y, ht, s1, s2⟩ := h j x hj
  exact ⟨gl, ol, ao, c, e, k0, k, y, ht, by have := hm x (List.mem_of_getElem? hj); omega⟩
theorem cso_nil (w : World) (S : Nat → Prop) (lo : Option Addr) : CsO w S lo [] := fun j c hj => by simp at hj
/-- What the law asks of every operation. -/
theorem wanted_any (o : Oq) (S : Nat → Prop) (lo : Option Addr) (lc : Nat) (co : Option Addr) (cc : Nat) (bo : Option Addr) (bc : Nat) (w : World) (h : Ow w S o lo co bo bc) :
    Calls Tryd.prog 7 #[ov o.k lo o.L.length lc o.m co o.cs.length cc bo o.l.length bc] w fun e w' => ∃ b bn bcp c cn cp, e = .returned (tld b bn bcp c cn cp (aS o : Nat) (aE o : Nat)) ∧ bn = (aB o).length ∧ cn = (aC o).length ∧ By w' b (aB o) ∧ Cs w' c (aC o) ∧ (∀ p, b = some p → w.heap.size ≤ p.block) ∧ CsO w' (· < w.heap.size) c (aC o) ∧ Below w.heap.size w w' := by
  obtain ⟨k, L, m, cs, l⟩ := o
  unfold aS aE aB aC
  simp only
  by_cases k1 : k = 1
  · subst k1
    refine (wanted_sum lo lc L m co cs.length cc bo l.length bc w (by have := h.Ln; simp only at this; omega) (fun x hx => by have := h.Lm x hx; omega) h.L.bys).mono ?_
    rintro e w' ⟨rfl, hb⟩
    exact ⟨none, 0, 0, none, 0, 0, by simp, by simp, by simp, by simpa using By.nil _ _, by simpa using (Ans.nil w' 0).cs.2, fun p hp => (by cases hp), by simpa using cso_nil _ _ _, hb⟩
  · by_cases k2 : k = 2
    · subst k2
      unfold wrE wrB
      by_cases e : cs.length ≤ 1024 ∧ szC cs ≤ 16777216
      · refine (wanted_write_good lo L.length lc m co cc cs bo l.length bc w (h.c.cs h.cm) e.1 e.2).mono ?_
        rintro x w' ⟨a, c, rfl, hy, hfr, hb⟩
        have hlen : (cont m cs).length = szC cs := cont_len m cs
        exact ⟨a, szC cs, c, none, 0, 0, by simp [e], by simp [e, hlen], by simp, by simpa [e] using hy, by simpa using (Ans.nil w' 0).cs.2, hfr, by simpa using cso_nil _ _ _, hb⟩
      · refine (wanted_write_long lo L.length lc m co cc cs bo l.length bc w (h.c.cs h.cm) (by have := h.cn; simp only at this; omega) (by omega)).mono ?_
        rintro x w' ⟨rfl, hb⟩
        exact ⟨none, 0, 0, none, 0, 0, by simp [e], by simp [e], by simp, by simpa [e] using By.nil _ _, by simpa using (Ans.nil w' 0).cs.2, fun p hp => (by cases hp), by simpa using cso_nil _ _ _, hb⟩
    · by_cases k3 : k = 3
      · subst k3
        refine (wanted_read lo L.length lc m co cs.length cc bo bc l w h.b h.bm.1 h.bm.2).mono ?_
        rintro x w' ⟨a, c, rfl, hc, hco, hb⟩
        exact ⟨none, 0, 0, a, (rdL m l).length, c, by simp, by simp, by simp, by simpa using By.nil _ _, by simpa using hc, fun p hp => (by cases hp), by simpa using hco, hb⟩
      · refine (wanted_none k lo L.length lc m co cs.length cc bo l.length bc w k1 k2 k3).mono ?_
        rintro x w' ⟨rfl, hb⟩
        exact ⟨none, 0, 0, none, 0, 0, by simp [k1, k2, k3], by simp [k2], by simp [k3], by simpa [k2] using By.nil _ _, by simpa [k3] using (Ans.nil w' 0).cs.2, fun p hp => (by cases hp), by simpa [k3] using cso_nil _ _ _, hb⟩
section
variable {w0 w w1 : World} {S T : Nat → Prop} {hb g c : Nat} {vb vl ve vc : Value} {le : Nat} {gi ci pt : Nat → Nat} {fs : Nat → Nat → Value}
theorem ff_by {n : Nat} {l : List Nat} (hr : w.rowIs g 5 n (ff l)) (hl : l.length ≤ n) (hx : ∀ x ∈ l, x < 256) : By w (some ⟨g, 0, none⟩) l := fun k x hk => by
  have hkl : k < l.length := by
    refine Classical.byContradiction fun hn => ?_
    rw [List.getElem?_eq_none (by omega)] at hk
    exact absurd hk (by simp)
  have h := hr.cell (i := k) (by omega)
  obtain ⟨y, e, y1, _⟩ := ff_val (l := l) (j := k)
  rw [e] at h
  rw [y1 hkl] at hk
  injection hk with hk
  subst hk
  exact ⟨g, 0, rfl, by rw [Nat.zero_add]; exact h, hx _ (List.mem_of_getElem? (y1 hkl))⟩
theorem Lz.bys {L : List (List Nat)} (h : Lz w0 w S hb g c L vb ve vc le gi ci pt fs) (hJ : L.length ≤ c) (hx : ∀ l ∈ L, ∀ x ∈ l, x < 256) : Bys w (some ⟨g, 0, none⟩) L := fun j l hj => by
  have hjL : j < L.length := by
    refine Classical.byContradiction fun hn => ?_
    rw [List.getElem?_eq_none (by omega)] at hj
    exact absurd hj (by simp)
  have h2 := h.x.cell (i := j) (by omega)
  have e : L.getD j [] = l := by
    have := getD_at hjL
    rw [hj] at this
    injection this with this
    exact this.symm
  unfold lsf at h2
  rw [if_pos hjL, e] at h2
  obtain ⟨d1, d2⟩ := h.dn j hjL
  rw [e] at d1 d2
  refine ⟨g, 0, some ⟨gi j, 0, none⟩, ci j, rfl, by rw [Nat.zero_add]; exact h2, ff_by (n := ci j) ?_ (by omega) (hx l (List.mem_of_getElem? hj))⟩
  rw [← d1]
  exact h.f.q.d.row j (by have := h.kl; omega)
theorem Tz.cs {cs : List Ck} (h : Tz w0 w S hb g c cs vb ve vl le gi ci fs) (hJ : cs.length ≤ c) (hm : ∀ x ∈ cs, x.2.length ≤ 140737488351232) (hx : ∀ x ∈ cs, x.Ok) : Cs w (some ⟨g, 0, none⟩) cs := fun j x hj => by
  have hjL : j < cs.length := by
    refine Classical.byContradiction fun hn => ?_
    rw [List.getElem?_eq_none (by omega)] at hj
    exact absurd hj (by simp)
  have h2 := h.x.cell (i := j * 2) (by omega)
  have h3 := h.x.cell (i := j * 2 + 1) (by omega)
  have e : cs.getD j (0, []) = x := by
    have := getC_at hjL
    rw [hj] at this
    injection this with this
    exact this.symm
  unfold tsf bd at h2 h3
  rw [show j * 2 / 2 = j by omega, if_pos hjL, if_pos (by omega), e] at h2
  rw [show (j * 2 + 1) / 2 = j by omega, if_pos hjL, if_neg (by omega), e] at h3
  obtain ⟨d1, d2⟩ := h.dn j hjL
  unfold bd at d1 d2
  rw [e] at d1 d2
  have hmem := List.mem_of_getElem? hj
  refine ⟨g, 0, some ⟨gi j, 0, none⟩, ci j, rfl, by rw [Nat.zero_add]; exact h2, by rw [Nat.zero_add]; exact h3, ff_by (n := ci j) ?_ (by omega) (hx x hmem).2, (hx x hmem).1, by have := hm x hmem; omega⟩
  rw [← d1]
  exact h.f.q.d.row j (by have := h.kl; omega)
/-- The same, in a lesser set, from now on; behind what turns no block of it. -/
theorem Lz.now {L : List (List Nat)} (h : Lz w0 w S hb g c L vb ve vc le gi ci pt fs) {U : Nat → Prop} (hu : BP U w w1) (hU : ∀ b, U b → ¬ S b ∧ ∀ n F, ¬ w.rowIs b 5 n F) (hT : ∀ b, S b → b < w.heap.size → T b) : Lz w1 w1 T hb g c L vb ve vc le gi ci pt fs := by
  have hs := h.f.sub hT
  have hU' : ∀ b, S b → ¬ U b := fun b hb hu => (hU b hu).1 hb
  refine ⟨⟨⟨(h.f.bp hu hU').q.h, (h.f.bp hu hU').q.b, (h.f.bp hu hU').q.d, h.f.q.ll, h.f.q.nb, hs.q.s⟩, (h.f.bp hu hU').l, (h.f.bp hu hU').c, h.f.nl, hs.sl, hs.sc⟩, hu.row (hU' _ (h.f.sl g rfl)) h.x, h.kl, h.dn, fun j h1 h2 => hu.row (fun hp => (hU _ hp).2 _ _ (h.pt j h1 h2)) (h.pt j h1 h2), BP.refl _ _⟩
theorem Tz.now {cs : List Ck} (h : Tz w0 w S hb g c cs vb ve vl le gi ci fs) {U : Nat → Prop} (hu : BP U w w1) (hU : ∀ b, S b → ¬ U b) (hT : ∀ b, S b → b < w.heap.size → T b) : Tz w1 w1 T hb g c cs vb ve vl le gi ci fs := by
  have hs := h.f.sub hT
  refine ⟨⟨⟨(h.f.bp hu hU).q.h, (h.f.bp hu hU).q.b, (h.f.bp hu hU).q.d, h.f.q.ll, h.f.q.nb, hs.q.s⟩, (h.f.bp hu hU).l, (h.f.bp hu hU).c, h.f.nl, hs.sl, hs.sc⟩, hu.row (hU _ (h.f.sc g rfl)) h.x, h.kl, h.dn, BP.refl _ _⟩
end
end Go.Proofs.YtbpglkhgggokcaaDoor
