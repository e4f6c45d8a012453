/- CHUNKFRESH: the Quiet's memory. -/
import Derived.Test.YtinhhgiokaamhaaDoorCX5
namespace Go.Proofs.YtinhhgiokaamhaaDoor
open Go.RowKit

theorem rdV_len : ∀ (k : Nat) (l : List Nat), (rdV k l).length = k
  | 0, _ => rfl
  | k + 1, l => by simp [rdV, rdV_len k]
theorem rdV_body : ∀ (k : Nat) (l : List Nat), ∀ c ∈ rdV k l, c.2.length ≤ l.length
  | 0, _, c, h => by simp [rdV] at h
  | k + 1, l, c, h => by
    simp only [rdV, List.mem_cons] at h
    rcases h with rfl | h
    · simp [ckV]; omega
    · have := rdV_body k (ckR l) c h
      simp [ckR] at this
      omega
theorem rdL_len (m : Nat) (l : List Nat) : (rdL m l).length ≤ 1024 := by
  unfold rdL
  by_cases e : readE m l = 0
  · rw [if_pos e]
    unfold readV
    rw [rdV_len]
    unfold readE at e
    by_cases h0 : 16777216 < l.length
    · rw [if_pos h0] at e; omega
    · rw [if_neg h0] at e
      by_cases h1 : opE m l = 0
      · unfold opE at h1
        by_cases h2 : smE 8 l = 0
        · rw [if_pos h2] at h1
          by_cases h3 : num l = m
          · rw [if_pos h3] at h1
            by_cases h4 : 1024 < ckN l
            · rw [if_pos h4] at h1; omega
            · omega
          · rw [if_neg h3] at h1; omega
        · rw [if_neg h2] at h1; exact absurd h1 h2
      · rw [if_neg h1] at e; exact absurd e h1
  · rw [if_neg e]; simp
theorem aB_len (o : Oq) : (aB o).length ≤ 16777216 := by
  unfold aB wrB
  split
  · split
    · rename_i h; rw [cont_len]; exact h.2
    · simp
  · simp
theorem aC_len (o : Oq) : (aC o).length ≤ 1024 := by
  unfold aC
  split
  · exact rdL_len _ _
  · simp
theorem aC_body {o : Oq} (h : o.l.length ≤ 1048576) : ∀ c ∈ aC o, c.2.length ≤ 16777216 := by
  unfold aC rdL readV
  split
  · split
    · intro c hc
      have := rdV_body _ _ c hc
      simp at this
      omega
    · intro c hc; simp at hc
  · intro c hc; simp at hc
theorem Ans.mono {W : World} {z z' : Nat} {v : Value} {cs : List Ck} {gs : List Nat} (h : Ans W z v cs gs) (hz : z' ≤ z) : Ans W z' v cs gs :=
  ⟨h.len, own_mono h.own hz, fun j c g h1 h2 => own_mono (h.body j c g h1 h2) hz, h.ok, h.nod, h.big⟩
/-- An answer that is kept, and what was wanted. -/
structure Te where
  bo : Option Addr
  bn : Nat
  co : Option Addr
  cn : Nat
  cc : Nat
  gs : List Nat
  bs : List Nat
  cs : List Ck
  s : Int
  e : Int
structure Tw where
  b : Option Addr
  bc : Nat
  c : Option Addr
  cc : Nat
def tev (a : Te) : Nat → Value := tf (.slice a.bo a.bn a.bn) (.slice a.co a.cn a.cc) a.s a.e
def twv (a : Te) (b : Tw) : Nat → Value := tf (.slice b.b a.bn b.bc) (.slice b.c a.cn b.cc) a.s a.e
def AbT (a : Te) : Nat → Prop := Ab a.bo a.bn a.co a.cn a.cc a.gs
structure At (w : World) (a : Te) : Prop where
  o : w.ownsRow 0 5 1 (.slice a.bo a.bn a.bn) a.bn (u8s a.bs)
  k : Ans w 0 (.slice a.co a.cn a.cc) a.cs a.gs
  bn : a.bn ≤ 16777216
  cn : a.cn ≤ 1024
  cb : ∀ c ∈ a.cs, c.2.length ≤ 16777216
  ne : ∀ g ∈ a.gs, (Value.slice a.bo a.bn a.bn).ownBlock ≠ some g
  lt : ∀ x ∈ a.bs, x < 256
theorem At.bp {w w1 : World} {a : Te} {T : Nat → Prop} (h : At w a) (hu : BP T w w1) (hT : ∀ b, AbT a b → ¬ T b) : At w1 a :=
  ⟨own_keep hu h.o fun b e => hT b (.inl e), h.k.bp hu (fun b e => hT b (.inr (.inl e))) fun b hb => hT b (.inr (.inr hb)), h.bn, h.cn, h.cb, h.ne, h.lt⟩
theorem At.abl {w : World} {a : Te} (h : At w a) : ∀ b, AbT a b → b < w.heap.size := fun b hb => by
  rcases hb with e | e | e
  · exact (h.o.lt b e).2
  · exact (h.k.own.lt b e).2
  · exact (h.k.lt b e).2
theorem At.reads {w : World} {a : Te} (h : At w a) : a.bn = a.bs.length ∧ a.cn = a.cs.length ∧ By w a.bo a.bs ∧ Cs w a.co a.cs :=
  ⟨(own_slice8 h.o h.lt).1, h.k.cs.1, (own_slice8 h.o h.lt).2.2, h.k.cs.2⟩
theorem CsO.cs' {w : World} {S : Nat → Prop} {lo : Option Addr} {cs : List Ck} (h : CsO w S lo cs) (hm : ∀ x ∈ cs, x.2.length ≤ 16777216) : Cs w lo cs := fun j x hj => by
  obtain ⟨gl, ol, ao, c, e, k0, k, y, ht, s1, s2⟩ := h j x hj
  exact ⟨gl, ol, ao, c, e, k0, k, y, ht, by have := hm x (List.mem_of_getElem? hj); omega⟩
/-- A list of answers. -/
def Wt (w : World) (v : Value) (n : Nat) (el : Nat → Nat → Value) : Prop :=
  (v = .slice none 0 0 ∧ n = 0) ∨ ∃ g cw f, v = .slice (some ⟨g, 0, none⟩) n cw ∧ n ≤ cw ∧ cw ≤ maxLen ∧ w.rowIs g 47 (cw * 4) f ∧ ∀ p, p < n * 4 → f p = el (p / 4) (p % 4)
section
variable {w w1 : World} {n : Nat} {v : Value} {el : Nat → Nat → Value}
theorem Wt.row (h : Wt w v n el) {g : Nat} (hg : v.ownBlock = some g) : ∃ n f, w.rowIs g 47 n f := by
  rcases h with ⟨rfl, _⟩ | ⟨b, cw, f, rfl, _, _, r, _⟩
  · simp [Value.ownBlock] at hg
  · have := ob_some hg
    subst this
    exact ⟨_, _, r⟩
theorem Wt.ne {g U k : Nat} {F : Nat → Value} (h : Wt w v n el) (hr : w.rowIs g U k F) (hT : U ≠ 47) : v.ownBlock ≠ some g := fun e => by
  obtain ⟨_, _, r⟩ := h.row e
  exact row_ne hr r hT rfl
theorem Wt.bp {S : Nat → Prop} (h : Wt w v n el) (hb : BP S w w1) (hs : ∀ g, v.ownBlock = some g → ¬ S g) : Wt w1 v n el := by
  rcases h with h | ⟨b, cw, f, rfl, h1, h2, r, h3⟩
  · exact .inl h
  · exact .inr ⟨b, cw, f, rfl, h1, h2, hb.row (hs b rfl) r, h3⟩
theorem Wt.val (h : Wt w v n el) : ∃ o c, v = .slice o n c := by
  rcases h with ⟨e, e0⟩ | ⟨_, _, _, e, _⟩
  · subst e0; exact ⟨_, _, e⟩
  · exact ⟨_, _, e⟩
theorem own_of_row4 {T g cap n : Nat} {f : Nat → Value} (h : w.rowIs g T (cap * 4) f) (hn : n ≤ cap) (hc : cap ≤ maxLen) : w.ownsRow 0 T 4 (.slice (some ⟨g, 0, none⟩) n cap) n (rowL f (n * 4)) := by
  obtain ⟨c, hb, hs, hf⟩ := h
  refine ⟨by simp [rowL], .inr ⟨g, cap, c, rfl, Nat.zero_le _, hb, hn, hc, by omega, ?_⟩⟩
  refine List.ext_getElem? fun i => ?_
  by_cases hi : i < n * 4
  · rw [List.getElem?_take_of_lt hi, Array.getElem?_toList, hf i (by omega)]
    simp [rowL, hi]
  · rw [List.getElem?_eq_none (by simp; omega), List.getElem?_eq_none (by simp [rowL]; omega)]
theorem Wt.own (h : Wt w v n el) : w.ownsRow 0 47 4 v n (rowL (fun p => el (p / 4) (p % 4)) (n * 4)) := by
  rcases h with ⟨rfl, rfl⟩ | ⟨ge, cw, f, rfl, h1, h2, h3, h4⟩
  · exact World.ownsRow_nil _ _ _ _
  · have e : rowL (fun p => el (p / 4) (p % 4)) (n * 4) = rowL f (n * 4) := List.map_congr_left fun j hj => (h4 j (by simpa using hj)).symm
    rw [e]
    exact own_of_row4 h3 h1 h2
theorem wt_of {el' : Nat → Nat → Value} {F : Nat → Value} (h : w.ownsRow 0 47 4 v (n + 1) (rowL (fun p => el (p / 4) (p % 4)) (n * 4) ++ rowL F 4)) (he : ∀ i, i < n → ∀ q, el i q = el' i q) (hF : ∀ q, q < 4 → F q = el' n q) : Wt w v (n + 1) el' := by
  rcases h.2 with ⟨e, h0⟩ | ⟨g, cap, cur, hv, hb, hg, h4, h5, h6, h7⟩
  · omega
  · refine .inr ⟨g, cap, fun k => cur[k]?.getD undef, hv, h4, h5, ⟨cur, hg, by omega, fun i hi => ?_⟩, fun j hj => ?_⟩
    · simp [Array.getElem?_eq_getElem (show i < cur.size by omega)]
    · have h8 : (cur.toList.take ((n + 1) * 4))[j]? = (rowL (fun p => el (p / 4) (p % 4)) (n * 4) ++ rowL F 4)[j]? := by rw [h7]
      rw [List.getElem?_take_of_lt hj, Array.getElem?_toList] at h8
      show cur[j]?.getD undef = _
      rw [h8]
      by_cases h9 : j < n * 4
      · rw [List.getElem?_append_left (by simp [rowL]; omega)]
        simp [rowL, h9]
        exact he _ (by omega) _
      · rw [List.getElem?_append_right (by simp [rowL]; omega)]
        have e1 : (rowL (fun p => el (p / 4) (p % 4)) (n * 4)).length = n * 4 := by simp [rowL]
        rw [e1]
        have e2 : j / 4 = n := by omega
        have e3 : j - n * 4 = j % 4 := by omega
        rw [e2, e3]
        simp [rowL, show j % 4 < 4 by omega]
        exact hF _ (by omega)
end
/-- Blocks of the Quiet that hold none of its own cells. -/
def Qw (Q : Nat → Prop) (qb : Nat) (vg vx : Value) : Nat → Prop := fun z => Q z ∧ z ≠ qb ∧ vg.ownBlock ≠ some z ∧ vx.ownBlock ≠ some z
/-- The Quiet: its answers, each in memory of its own, and what was wanted; all of its blocks lie in Q. -/
structure Qk (w : World) (Q : Nat → Prop) (qb : Nat) (vg vx : Value) (mu : Int) (n : Nat) (a : Nat → Te) (b : Nat → Tw) : Prop where
  h : w.rowIs qb 63 3 (bkf vg vx mu)
  g : Wt w vg n (fun i => tev (a i))
  x : Wt w vx n (fun i => twv (a i) (b i))
  an : ∀ i, i < n → At w (a i)
  wn : ∀ i, i < n → By w (b i).b (a i).bs ∧ (∀ p, (b i).b = some p → (a i).bs ≠ [] → Qw Q qb vg vx p.block) ∧ CsO w (fun z => ¬ Qw Q qb vg vx z) (b i).c (a i).cs
  dj : ∀ i j, i < n → j < n → i ≠ j → ∀ z, AbT (a i) z → ¬ AbT (a j) z
  sp : ∀ g, vg.ownBlock = some g → vx.ownBlock ≠ some g
  s : Q qb ∧ (∀ g, vg.ownBlock = some g → Q g) ∧ (∀ g, vx.ownBlock = some g → Q g) ∧ ∀ i, i < n → ∀ z, AbT (a i) z → Q z
section
variable {w w1 : World} {Q T : Nat → Prop} {qb : Nat} {vg vx : Value} {mu : Int} {n : Nat} {a : Nat → Te} {b : Nat → Tw}
theorem Qk.bp (h : Qk w Q qb vg vx mu n a b) (hu : BP T w w1) (hT : ∀ z, Q z → ¬ T z) : Qk w1 Q qb vg vx mu n a b :=
  ⟨hu.row (hT _ h.s.1) h.h, h.g.bp hu fun g e => hT _ (h.s.2.1 g e), h.x.bp hu fun g e => hT _ (h.s.2.2.1 g e), fun i hi => (h.an i hi).bp hu fun z hz => hT z (h.s.2.2.2 i hi z hz), fun i hi => ⟨(h.wn i hi).1.bp hu fun p hp hl => hT _ ((h.wn i hi).2.1 p hp hl).1, (h.wn i hi).2.1, (h.wn i hi).2.2.bp hu fun z hz hq => hT z hq.1 hz⟩, h.dj, h.sp, h.s⟩
theorem Qk.below (h : Qk w Q qb vg vx mu n a b) (hu : Below w.heap.size w w1) : Qk w1 Q qb vg vx mu n a b := h.bp (T := fun _ => False) (BP.bel hu) fun _ _ h => h
end
def Qi (w : World) (Q : Nat → Prop) (qb n : Nat) : Prop := ∃ vg vx mu a b, Qk w Q qb vg vx mu n a b
theorem Qi.bp {w w1 : World} {Q T : Nat → Prop} {qb n : Nat} (h : Qi w Q qb n) (hu : BP T w w1) (hT : ∀ z, Q z → ¬ T z) : Qi w1 Q qb n := by
  obtain ⟨vg, vx, mu, a, b, h⟩ := h
  exact ⟨vg, vx, mu, a, b, h.bp hu hT⟩
theorem Qi.below {w w1 : World} {Q : Nat → Prop} {qb n : Nat} (h : Qi w Q qb n) (hu : Below w.heap.size w w1) : Qi w1 Q qb n := h.bp (T := fun _ => False) (BP.bel hu) fun _ _ h => h
theorem qi_new (w : World) (Q : Nat → Prop) (h : Q w.heap.size) : Qi (w.alloc (.cells #[.slice none 0 0, .slice none 0 0, .int .i64 0] 63)) Q w.heap.size 0 := by
  refine ⟨.slice none 0 0, .slice none 0 0, 0, fun _ => ⟨none, 0, none, 0, 0, [], [], [], 0, 0⟩, fun _ => ⟨none, 0, none, 0⟩, World.rowIs_alloc w _ _ _ (fun i hi => ?_), .inl ⟨rfl, rfl⟩, .inl ⟨rfl, rfl⟩, fun i hi => absurd hi (by omega), fun i hi => absurd hi (by omega), fun i j hi => absurd hi (by omega), fun g e => by simp [Value.ownBlock] at e, h, fun g e => by simp [Value.ownBlock] at e, fun g e => by simp [Value.ownBlock] at e, fun i hi => absurd hi (by omega)⟩
  rcases i with _ | _ | _ | i
  all_goals first
    | rfl
    | (simp at hi; omega)
set_option maxHeartbeats 800000 in
set_option maxRecDepth 100000 in
theorem qover_any (qb : Nat) (vg vx : Value) (mu x : Int) (w : World) (h : w.rowIs qb 63 3 (bkf vg vx mu)) :
    Calls Tryd.prog 43 #[.pointer (some ⟨qb, 0, none⟩), .int .i64 x] w fun e w' => ∃ r mu', e = .returned (.bool r) ∧ w' = w.setCell ⟨qb, 2, none⟩ (.int .i64 mu') := by
  have c2 := h.cell (i := 2) (by omega)
  have f2 := h.frozen 2
  simp [bkf] at c2
  clear h
  go_enter Tryd.func43, Tryd.ntmps43
  go_wp2
  go_ret
  exact ⟨_, _, rfl, rfl⟩
end Go.Proofs.YtinhhgiokaamhaaDoor
