/- CHUNKALL: the Hand's memory. -/
import Derived.Test.YtbpglkhgggokcaaDoorCH2
namespace Go.Proofs.YtbpglkhgggokcaaDoor
open Go.RowKit

theorem info_u8s : (Tryd.prog.info? 25).map (fun i => (i.zero, i.size, i.bytes)) = some (some (.slice none 0 0), 1, 24) := by kernel_rfl
theorem und_u8ss : Tryd.prog.underlying 26 = some (.slice 25) := by kernel_rfl
theorem row_ne {w : World} {b b' t t' n n' : Nat} {f f' : Nat → Value} (h : w.rowIs b t n f) (h' : w.rowIs b' t' n' f') (ht : t ≠ t') : b ≠ b' := by
  rintro rfl
  obtain ⟨c, e, _⟩ := h
  obtain ⟨c', e', _⟩ := h'
  rw [e] at e'
  exact ht (by injection e' with e'; injection e')
theorem row_sz {w : World} {b b' t t' n n' : Nat} {f f' : Nat → Value} (h : w.rowIs b t n f) (h' : w.rowIs b' t' n' f') (ht : n ≠ n') : b ≠ b' := by
  rintro rfl
  obtain ⟨c, e, s, _⟩ := h
  obtain ⟨c', e', s', _⟩ := h'
  rw [e] at e'
  injection e' with e'
  injection e' with e'
  subst e'
  exact ht (s.symm.trans s')
def upd {α : Type} (f : Nat → α) (i : Nat) (x : α) : Nat → α := fun j => if j = i then x else f j
theorem upd_same {α : Type} (f : Nat → α) (i : Nat) (x : α) : upd f i x i = x := by simp [upd]
theorem upd_other {α : Type} (f : Nat → α) (i : Nat) (x : α) {j : Nat} (h : j ≠ i) : upd f i x j = f j := by simp [upd, h]
def rowL (f : Nat → Value) (m : Nat) : List Value := (List.range m).map f
theorem rowL_len (f : Nat → Value) (m : Nat) : (rowL f m).length = m * 1 := by simp [rowL]
theorem rowL_get {f : Nat → Value} {m j : Nat} {u : Value} (h : (rowL f m)[j]? = some u) : j < m ∧ u = f j := by
  unfold rowL at h
  rw [List.getElem?_map, Option.map_eq_some_iff] at h
  obtain ⟨x, hx, rfl⟩ := h
  obtain ⟨h1, h2⟩ := List.getElem?_eq_some_iff.1 hx
  simp at h1 h2
  subst h2
  exact ⟨h1, rfl⟩
theorem own_of_row {w : World} {T g cap n : Nat} {f : Nat → Value} (h : w.rowIs g T cap f) (hn : n ≤ cap) (hc : cap ≤ maxLen) : w.ownsRow 0 T 1 (.slice (some ⟨g, 0, none⟩) n cap) n (rowL f n) := by
  obtain ⟨c, hb, hs, hf⟩ := h
  refine ⟨rowL_len _ _, .inr ⟨g, cap, c, rfl, Nat.zero_le _, hb, hn, hc, by omega, ?_⟩⟩
  rw [Nat.mul_one]
  refine List.ext_getElem? fun i => ?_
  by_cases hi : i < n
  · rw [List.getElem?_take_of_lt hi, Array.getElem?_toList, hf i (by omega)]
    simp [rowL, hi]
  · rw [List.getElem?_eq_none (by simp; omega), List.getElem?_eq_none (by simp [rowL]; omega)]
/-- Nothing, or a whole block. -/
def Ov (w : World) (T : TypeId) (k : Nat) (v : Value) : Prop := v = .slice none 0 0 ∨ ∃ g co f, v = .slice (some ⟨g, 0, none⟩) co co ∧ w.rowIs g T (co * k) f ∧ co ≤ maxLen
theorem ob_some {g n c b : Nat} (h : (Value.slice (some ⟨g, 0, none⟩) n c).ownBlock = some b) : b = g := by
  simp [Value.ownBlock] at h
  exact h.symm
theorem Ov.set {w : World} {T k : Nat} {v : Value} (h : Ov w T k v) (g o : Nat) (x : Value) : Ov (w.setCell ⟨g, o, none⟩ x) T k v := by
  rcases h with h | ⟨b, co, f, e, r, m⟩
  · exact .inl h
  · by_cases hb : b = g
    · subst hb; exact .inr ⟨b, co, _, e, r.set o x, m⟩
    · exact .inr ⟨b, co, f, e, r.setOther (a := ⟨g, o, none⟩) hb x, m⟩
theorem Ov.bp {S : Nat → Prop} {w w' : World} {T k : Nat} {v : Value} (h : Ov w T k v) (hb : BP S w w') (hs : ∀ g, v.ownBlock = some g → ¬ S g) : Ov w' T k v := by
  rcases h with h | ⟨b, co, f, e, r, m⟩
  · exact .inl h
  · exact .inr ⟨b, co, f, e, hb.row (hs b (by rw [e]; rfl)) r, m⟩
theorem Ov.row {w : World} {T k : Nat} {v : Value} (h : Ov w T k v) {g : Nat} (hg : v.ownBlock = some g) : ∃ n f, w.rowIs g T n f := by
  rcases h with rfl | ⟨b, co, f, rfl, r, m⟩
  · simp [Value.ownBlock] at hg
  · have := ob_some hg
    subst this
    exact ⟨_, _, r⟩
theorem Ov.ne {w : World} {T k g T' n : Nat} {v : Value} {F : Nat → Value} (h : Ov w T k v) (hr : w.rowIs g T' n F) (hT : T ≠ T') : v.ownBlock ≠ some g := fun e => by
  obtain ⟨_, _, r⟩ := h.row e
  exact row_ne r hr hT rfl
theorem Ov.new {w : World} {T k g : Nat} {v : Value} (h : Ov w T k v) (hg : w.heap.size ≤ g) : v.ownBlock ≠ some g := fun e => by
  obtain ⟨_, _, r⟩ := h.row e
  have := r.lt
  omega
theorem Ov.om {w : World} {T : TypeId} {v : Value} (h : Ov w T 1 v) : ∃ go, Om w T v go ∧ (v.ownBlock = some go ∨ w.heap.size ≤ go) := by
  rcases h with h | ⟨b, co, f, e, r, m⟩
  · exact ⟨w.heap.size, .inl h, .inr (Nat.le_refl _)⟩
  · rw [Nat.mul_one] at r
    exact ⟨b, .inr ⟨co, f, e, r, m⟩, .inl (by rw [e]; rfl)⟩
theorem filled_own (ov : Value) (la : Option Addr) (cl : Nat) (l : List Nat) (w : World) (hm : l.length ≤ 140737488351232) (hov : Ov w 5 1 ov) (hl : By w la l) :
    Calls Tryd.prog 29 #[ov, .slice la l.length cl] w fun e w' => ∃ g c, e = .returned (.slice (some ⟨g, 0, none⟩) c c) ∧ l.length + 3 ≤ c ∧ c ≤ maxLen ∧ (ov.ownBlock = some g ∨ w.heap.size ≤ g) ∧ w'.rowIs g 5 c (ff l) ∧ BP (fun b => ov.ownBlock = some b) w w' := by
  obtain ⟨go, h1, h2⟩ := hov.om
  refine (filled_any ov go la cl l w hm h1 hl).mono ?_
  rintro e w' ⟨g, c, rfl, a1, a2, a3, a4, a5⟩
  refine ⟨g, c, rfl, a1, a2, ?_, a4, a5.mono fun x hx e => ?_⟩
  · rcases a3 with rfl | a3
    · exact h2
    · exact .inr a3
  · subst e
    rcases h2 with h2 | h2
    · exact h2
    · omega
/-- The list of lists: nothing, or a row of slices. -/
def Wv (w : World) (ve : Value) (le : Nat) (el : Nat → Value) : Prop :=
  (ve = .slice none 0 0 ∧ le = 0) ∨ ∃ ge cw f, ve = .slice (some ⟨ge, 0, none⟩) le cw ∧ le ≤ cw ∧ cw ≤ maxLen ∧ w.rowIs ge 25 cw f ∧ ∀ j, j < le → f j = el j
theorem Wv.row {w : World} {ve : Value} {le : Nat} {el : Nat → Value} (h : Wv w ve le el) {g : Nat} (hg : ve.ownBlock = some g) : ∃ n f, w.rowIs g 25 n f := by
  rcases h with ⟨rfl, _⟩ | ⟨b, cw, f, rfl, _, _, r, _⟩
  · simp [Value.ownBlock] at hg
  · have := ob_some hg
    subst this
    exact ⟨_, _, r⟩
theorem Wv.ne {w : World} {ve : Value} {le g T n : Nat} {el F : Nat → Value} (h : Wv w ve le el) (hr : w.rowIs g T n F) (hT : T ≠ 25) : ve.ownBlock ≠ some g := fun e => by
  obtain ⟨_, _, r⟩ := h.row e
  exact row_ne hr r hT rfl
theorem Wv.new {w : World} {ve : Value} {le g : Nat} {el : Nat → Value} (h : Wv w ve le el) (hg : w.heap.size ≤ g) : ve.ownBlock ≠ some g := fun e => by
  obtain ⟨_, _, r⟩ := h.row e
  have := r.lt
  omega
theorem Wv.bp {S : Nat → Prop} {w w' : World} {ve : Value} {le : Nat} {el : Nat → Value} (h : Wv w ve le el) (hb : BP S w w') (hs : ∀ g, ve.ownBlock = some g → ¬ S g) : Wv w' ve le el := by
  rcases h with h | ⟨b, cw, f, rfl, h1, h2, r, h3⟩
  · exact .inl h
  · exact .inr ⟨b, cw, f, rfl, h1, h2, hb.row (hs b rfl) r, h3⟩
theorem Wv.setO {w : World} {ve : Value} {le : Nat} {el : Nat → Value} (h : Wv w ve le el) {g : Nat} (hg : ve.ownBlock ≠ some g) (o : Nat) (x : Value) : Wv (w.setCell ⟨g, o, none⟩ x) ve le el := by
  rcases h with h | ⟨b, cw, f, rfl, h1, h2, r, h3⟩
  · exact .inl h
  · exact .inr ⟨b, cw, f, rfl, h1, h2, r.setOther (a := ⟨g, o, none⟩) (fun e => hg (congrArg some e)) x, h3⟩
theorem Wv.congr {w : World} {ve : Value} {le : Nat} {el el' : Nat → Value} (h : Wv w ve le el) (he : ∀ j, j < le → el j = el' j) : Wv w ve le el' := by
  rcases h with h | ⟨b, cw, f, e, h1, h2, h3, h4⟩
  · exact .inl h
  · exact .inr ⟨b, cw, f, e, h1, h2, h3, fun j hj => (h4 j hj).trans (he j hj)⟩
theorem Wv.own {w : World} {ve : Value} {le : Nat} {el : Nat → Value} (h : Wv w ve le el) : w.ownsRow 0 25 1 ve le (rowL el le) := by
  rcases h with ⟨rfl, rfl⟩ | ⟨ge, cw, f, rfl, h1, h2, h3, h4⟩
  · exact World.ownsRow_nil _ _ _ _
  · have e : rowL el le = rowL f le := List.map_congr_left fun j hj => (h4 j (by simpa using hj)).symm
    rw [e]
    exact own_of_row h3 h1 h2
def wsf (gi ci : Nat → Nat) : Nat → Value := fun j => .slice (some ⟨gi j, 0, none⟩) (ci j) (ci j)
/-- The lists of the Hand: slices of whole blocks, no two the same. -/
structure Wd (w : World) (ve : Value) (le : Nat) (gi ci : Nat → Nat) (fs : Nat → Nat → Value) : Prop where
  val : Wv w ve le (wsf gi ci)
  row : ∀ j, j < le → w.rowIs (gi j) 5 (ci j) (fs j)
  max : ∀ j, j < le → ci j ≤ maxLen
  inj : ∀ j k, j < le → k < le → gi j = gi k → j = k
/-- The same, while the slice at i is looked at. -/
structure Wo (w : World) (ve : Value) (le : Nat) (gi ci : Nat → Nat) (fs : Nat → Nat → Value) (i : Nat) (v : Value) : Prop where
  lt : i < le
  val : Wv w ve le (fun j => if j = i then v else wsf gi ci j)
  row : ∀ j, j < le → j ≠ i → w.rowIs (gi j) 5 (ci j) (fs j)
  max : ∀ j, j < le → j ≠ i → ci j ≤ maxLen
  inj : ∀ j k, j < le → k < le → j ≠ i → k ≠ i → gi j = gi k → j = k
  om : Ov w 5 1 v
  nv : ∀ g, v.ownBlock = some g → ∀ j, j < le → j ≠ i → gi j ≠ g
/-- The four cells of the Hand. -/
def hdf (vb ve vl vc : Value) : Nat → Value := fun k => if k = 0 then vb else if k = 1 then ve else if k = 2 then vl else vc
abbrev Hd (w : World) (hb : Nat) (vb ve vl vc : Value) : Prop := w.rowIs hb 29 4 (hdf vb ve vl vc)
theorem Hd.set0 {w : World} {hb : Nat} {vb ve vl vc : Value} (h : Hd w hb vb ve vl vc) (x : Value) : Hd (w.setCell ⟨hb, 0, none⟩ x) hb x ve vl vc :=
  (h.set 0 x).congr fun j hj => by
    rcases (show j = 0 ∨ j = 1 ∨ j = 2 ∨ j = 3 by omega) with rfl | rfl | rfl | rfl <;> rfl
theorem Hd.set1 {w : World} {hb : Nat} {vb ve vl vc : Value} (h : Hd w hb vb ve vl vc) (x : Value) : Hd (w.setCell ⟨hb, 1, none⟩ x) hb vb x vl vc :=
  (h.set 1 x).congr fun j hj => by
    rcases (show j = 0 ∨ j = 1 ∨ j = 2 ∨ j = 3 by omega) with rfl | rfl | rfl | rfl <;> rfl
theorem Hd.set2 {w : World} {hb : Nat} {vb ve vl vc : Value} (h : Hd w hb vb ve vl vc) (x : Value) : Hd (w.setCell ⟨hb, 2, none⟩ x) hb vb ve x vc :=
  (h.set 2 x).congr fun j hj => by
    rcases (show j = 0 ∨ j = 1 ∨ j = 2 ∨ j = 3 by omega) with rfl | rfl | rfl | rfl <;> rfl
theorem Hd.set3 {w : World} {hb : Nat} {vb ve vl vc : Value} (h : Hd w hb vb ve vl vc) (x : Value) : Hd (w.setCell ⟨hb, 3, none⟩ x) hb vb ve vl x :=
  (h.set 3 x).congr fun j hj => by
    rcases (show j = 0 ∨ j = 1 ∨ j = 2 ∨ j = 3 by omega) with rfl | rfl | rfl | rfl <;> rfl
/-- The Hand; all of its blocks lie in S. -/
structure Hq (w : World) (S : Nat → Prop) (hb : Nat) (vb ve vl vc : Value) (le : Nat) (gi ci : Nat → Nat) (fs : Nat → Nat → Value) : Prop where
  h : Hd w hb vb ve vl vc
  b : Ov w 5 1 vb
  d : Wd w ve le gi ci fs
  ll : le ≤ 5864062014634
  nb : ∀ g, vb.ownBlock = some g → ∀ j, j < le → gi j ≠ g
  s : S hb ∧ (∀ g, vb.ownBlock = some g → S g) ∧ (∀ g, ve.ownBlock = some g → S g) ∧ ∀ j, j < le → S (gi j)
structure Ho (w : World) (S : Nat → Prop) (hb : Nat) (vb ve vl vc : Value) (le : Nat) (gi ci : Nat → Nat) (fs : Nat → Nat → Value) (i : Nat) (v : Value) : Prop where
  h : Hd w hb vb ve vl vc
  b : Ov w 5 1 vb
  o : Wo w ve le gi ci fs i v
  ll : le ≤ 5864062014634
  nb : ∀ g, vb.ownBlock = some g → v.ownBlock ≠ some g ∧ ∀ j, j < le → j ≠ i → gi j ≠ g
  s : S hb ∧ (∀ g, vb.ownBlock = some g → S g) ∧ (∀ g, ve.ownBlock = some g → S g) ∧ (∀ j, j < le → j ≠ i → S (gi j)) ∧ ∀ g, v.ownBlock = some g → S g
section
variable {w w1 : World} {S T : Nat → Prop} {hb le i : Nat} {vb ve vl vc v : Value} {gi ci : Nat → Nat} {fs : Nat → Nat → Value}
theorem Wd.bp (h : Wd w ve le gi ci fs) (hu : BP T w w1) (h1 : ∀ g, ve.ownBlock = some g → ¬ T g) (h2 : ∀ j, j < le → ¬ T (gi j)) : Wd w1 ve le gi ci fs :=
  ⟨h.val.bp hu h1, fun j hj => hu.row (h2 j hj) (h.row j hj), h.max, h.inj⟩
theorem Hq.bp (h : Hq w S hb vb ve vl vc le gi ci fs) (hu : BP T w w1) (hT : ∀ b, S b → ¬ T b) : Hq w1 S hb vb ve vl vc le gi ci fs :=
  ⟨hu.row (hT _ h.s.1) h.h, h.b.bp hu fun g e => hT _ (h.s.2.1 g e), h.d.bp hu (fun g e => hT _ (h.s.2.2.1 g e)) fun j hj => hT _ (h.s.2.2.2 j hj), h.ll, h.nb, h.s⟩
/-- A block of another type, none of the lists' own, turns. -/
theorem Hq.bpl {U k : Nat} {vx : Value} (h : Hq w S hb vb ve vl vc le gi ci fs) (hl : Ov w U k vx) (h1 : U ≠ 5) (h2 : U ≠ 29) (hn : ∀ g, vx.ownBlock = some g → ve.ownBlock ≠ some g) (hu : BP (fun b => vx.ownBlock = some b) w w1) : Hq w1 S hb vb ve vl vc le gi ci fs :=
  ⟨hu.row (fun e => hl.ne h.h h2 e) h.h, h.b.bp hu (fun g e e2 => by obtain ⟨_, _, r⟩ := h.b.row e; exact hl.ne r h1 e2), h.d.bp hu (fun g e e2 => hn g e2 e) (fun j hj e => hl.ne (h.d.row j hj) h1 e), h.ll, h.nb, h.s⟩
theorem Hq.below (h : Hq w S hb vb ve vl vc le gi ci fs) (hu : Below w.heap.size w w1) : Hq w1 S hb vb ve vl vc le gi ci fs := h.bp (T := fun _ => False) (BP.bel hu) fun _ _ h => h
/-- The same blocks, in another set. -/
theorem Hq.sub (h : Hq w S hb vb ve vl vc le gi ci fs) (hT : ∀ b, S b → b < w.heap.size → T b) : Hq w T hb vb ve vl vc le gi ci fs :=
  ⟨h.h, h.b, h.d, h.ll, h.nb, hT _ h.s.1 h.h.lt, fun g e => hT _ (h.s.2.1 g e) (by obtain ⟨_, _, r⟩ := h.b.row e; exact r.lt), fun g e => hT _ (h.s.2.2.1 g e) (by obtain ⟨_, _, r⟩ := h.d.val.row e; exact r.lt), fun j hj => hT _ (h.s.2.2.2 j hj) (h.d.row j hj).lt⟩
theorem Ho.below (h : Ho w S hb vb ve vl vc le gi ci fs i v) (hu : Below w.heap.size w w1) : Ho w1 S hb vb ve vl vc le gi ci fs i v := by
  have hb' : BP (fun _ => False) w w1 := BP.bel hu
  exact ⟨hb'.row (fun h => h) h.h, h.b.bp hb' fun _ _ h => h, ⟨h.o.lt, h.o.val.bp hb' fun _ _ h => h, fun j hj hn => hb'.row (fun h => h) (h.o.row j hj hn), h.o.max, h.o.inj, h.o.om.bp hb' fun _ _ h => h, h.o.nv⟩, h.ll, h.nb, h.s⟩
theorem Hq.open (h : Hq w S hb vb ve vl vc le gi ci fs) (hi : i < le) : Ho w S hb vb ve vl vc le gi ci fs i (wsf gi ci i) :=
  ⟨h.h, h.b, ⟨hi, h.d.val.congr fun j hj => by
    by_cases e : j = i
    · rw [if_pos e, e]
    · rw [if_neg e], fun j hj _ => h.d.row j hj, fun j hj _ => h.d.max j hj, fun j k hj hk _ _ => h.d.inj j k hj hk, .inr ⟨gi i, ci i, fs i, rfl, by rw [Nat.mul_one]; exact h.d.row i hi, h.d.max i hi⟩, fun g e j hj hn e2 => hn (h.d.inj j i hj hi (e2.trans (ob_some e)))⟩,
   h.ll, fun g e => ⟨fun e2 => h.nb g e i hi (ob_some e2).symm, fun j hj _ => h.nb g e j hj⟩, h.s.1, h.s.2.1, h.s.2.2.1, fun j hj _ => h.s.2.2.2 j hj, fun g e => by rw [ob_some e]; exact h.s.2.2.2 i hi⟩
/-- An empty list behind the lists. -/
theorem Hq.grow {ve' : Value} (h : Hq w S hb vb ve vl vc le gi ci fs) (hl : le < 5864062014634) (hz : ∀ b, w.heap.size ≤ b → S b) (hv : Wv w1 ve' (le + 1) (fun j => if j = le then .slice none 0 0 else wsf gi ci j)) (hu : BP (fun b => ve.ownBlock = some b) w w1) (hg : ∀ g, ve'.ownBlock = some g → ve.ownBlock = some g ∨ w.heap.size ≤ g) :
    Ho (w1.setCell ⟨hb, 1, none⟩ ve') S hb vb ve' vl vc (le + 1) gi ci fs le (.slice none 0 0) := by
  have h1 : Hd w1 hb vb ve vl vc := hu.row (h.d.val.ne h.h (by decide)) h.h
  have row' : ∀ j, j < le → w1.rowIs (gi j) 5 (ci j) (fs j) := fun j hj => hu.row (h.d.val.ne (h.d.row j hj) (by decide)) (h.d.row j hj)
  refine ⟨Hd.set1 h1 _, (h.b.bp hu fun g e e2 => ?_).set _ _ _, ⟨by omega, hv.setO (hv.ne h1 (by decide)) _ _, fun j hj hn => ?_, fun j hj hn => h.d.max j (by omega), fun j k hj hk hn hm => h.d.inj j k (by omega) (by omega), .inl rfl, fun g e => by simp [Value.ownBlock] at e⟩, by omega, fun g e => ⟨by simp [Value.ownBlock], fun j hj hn => h.nb g e j (by omega)⟩, h.s.1, h.s.2.1, fun g e => ?_, fun j hj hn => h.s.2.2.2 j (by omega), fun g e => by simp [Value.ownBlock] at e⟩
  · obtain ⟨_, _, r⟩ := h.b.row e
    exact h.d.val.ne r (by decide) e2
  · have r := row' j (by omega)
    exact r.setOther (a := ⟨hb, 1, none⟩) (row_ne r h1 (by decide)) _
  · rcases hg g e with e3 | e3
    · exact h.s.2.2.1 g e3
    · exact hz g e3
/-- The list is laid back, filled. -/
theorem Ho.fill {g c ge cw : Nat} {F : Nat → Value} (h : Ho w S hb vb ve vl vc le gi ci fs i v) (hz : ∀ b, w.heap.size ≤ b → S b) (hv : ve = .slice (some ⟨ge, 0, none⟩) le cw) (hu : BP (fun b => v.ownBlock = some b) w w1) (hg : v.ownBlock = some g ∨ w.heap.size ≤ g) (hr : w1.rowIs g 5 c F) (hc : c ≤ maxLen) :
    Hq (w1.setCell ⟨ge, i, none⟩ (.slice (some ⟨g, 0, none⟩) c c)) S hb vb ve vl vc le (upd gi i g) (upd ci i c) (upd fs i F) := by
  subst hv
  have hge : v.ownBlock ≠ some ge := fun e => by
    obtain ⟨_, _, r⟩ := h.o.om.row e
    exact h.o.val.ne r (by decide) rfl
  obtain ⟨f, k1, k2, k3, k4⟩ : ∃ f, le ≤ cw ∧ cw ≤ maxLen ∧ w.rowIs ge 25 cw f ∧ ∀ j, j < le → f j = (if j = i then v else wsf gi ci j) := by
    rcases h.o.val with ⟨e, _⟩ | ⟨b, c', f, e, k1, k2, k3, k4⟩
    · injection e with e; cases e
    · injection e with e _ e2
      injection e with e
      injection e with e
      subst e e2
      exact ⟨f, k1, k2, k3, k4⟩
  have r1 := hu.row hge k3
  have h1 : Hd w1 hb vb (.slice (some ⟨ge, 0, none⟩) le cw) vl vc := hu.row (fun e => h.o.om.ne h.h (by decide) e) h.h
  have hgg : ∀ j, j < le → j ≠ i → gi j ≠ g := fun j hj hn he => by
    rcases hg with e | e
    · exact h.o.nv g e j hj hn he
    · have := (h.o.row j hj hn).lt; omega
  refine ⟨h1.setOther (a := ⟨ge, i, none⟩) (row_ne h1 r1 (by decide)) _, (h.b.bp hu fun g' e e2 => (h.nb g' e).1 e2).set _ _ _, ⟨.inr ⟨ge, cw, _, rfl, k1, k2, r1.set i _, fun j hj => ?_⟩, fun j hj => ?_, fun j hj => ?_, fun j k hj hk he => ?_⟩, h.ll, fun g' e j hj => ?_, h.s.1, h.s.2.1, h.s.2.2.1, fun j hj => ?_⟩
  · by_cases hji : j = i
    · subst hji; simp [wsf, upd]
    · have h5 := k4 j hj
      simp only [if_neg hji] at h5
      simp [hji, wsf, upd, h5]
  · by_cases hji : j = i
    · subst hji
      rw [upd_same, upd_same, upd_same]
      exact hr.setOther (a := ⟨ge, j, none⟩) (row_ne hr r1 (by decide)) _
    · rw [upd_other _ _ _ hji, upd_other _ _ _ hji, upd_other _ _ _ hji]
      have r2 := hu.row (fun e => h.o.nv _ e j hj hji rfl) (h.o.row j hj hji)
      exact r2.setOther (a := ⟨ge, i, none⟩) (row_ne r2 r1 (by decide)) _
  · by_cases hji : j = i
    · subst hji; rw [upd_same]; exact hc
    · rw [upd_other _ _ _ hji]; exact h.o.max j hj hji
  · by_cases hji : j = i <;> by_cases hki : k = i
    · omega
    · subst hji
      rw [upd_same, upd_other _ _ _ hki] at he
      exact absurd he.symm (hgg k hk hki)
    · subst hki
      rw [upd_same, upd_other _ _ _ hji] at he
      exact absurd he (hgg j hj hji)
    · rw [upd_other _ _ _ hji, upd_other _ _ _ hki] at he
      exact h.o.inj j k hj hk hji hki he
  · by_cases hji : j = i
    · subst hji
      rw [upd_same]
      rintro rfl
      rcases hg with e2 | e2
      · exact (h.nb g e).1 e2
      · exact h.b.new e2 e
    · rw [upd_other _ _ _ hji]
      exact (h.nb g' e).2 j hj hji
  · by_cases hji : j = i
    · subst hji
      rw [upd_same]
      rcases hg with e2 | e2
      · exact h.s.2.2.2.2 g e2
      · exact hz g e2
    · rw [upd_other _ _ _ hji]; exact h.s.2.2.2.1 j hj hji
/-- A store into a block that is none of the lists' own. -/
theorem Hq.setX {g o n U : Nat} {F : Nat → Value} (h : Hq w S hb vb ve vl vc le gi ci fs) (hr : w.rowIs g U n F) (h1 : U ≠ 5) (h2 : U ≠ 29) (hg : ve.ownBlock ≠ some g) (x : Value) : Hq (w.setCell ⟨g, o, none⟩ x) S hb vb ve vl vc le gi ci fs :=
  ⟨h.h.setOther (a := ⟨g, o, none⟩) (row_ne h.h hr (Ne.symm h2)) x, h.b.set _ _ _, ⟨h.d.val.setO hg _ _, fun j hj => (h.d.row j hj).setOther (a := ⟨g, o, none⟩) (row_ne (h.d.row j hj) hr (Ne.symm h1)) x, h.d.max, h.d.inj⟩, h.ll, h.nb, h.s⟩
/-- The list at i is written over. -/
theorem Hq.onE {F : Nat → Value} (h : Hq w S hb vb ve vl vc le gi ci fs) (hi : i < le) (hu : BP (· = gi i) w w1) (hr : w1.rowIs (gi i) 5 (ci i) F) : Hq w1 S hb vb ve vl vc le gi ci (upd fs i F) :=
  ⟨hu.row (row_ne h.h (h.d.row i hi) (by decide)) h.h, h.b.bp hu fun g e e2 => h.nb g e i hi e2.symm,
   ⟨h.d.val.bp hu fun g e e2 => h.d.val.ne (h.d.row i hi) (by decide) (e.trans (by rw [e2])), fun j hj => by
      by_cases e : j = i
      · subst e; rw [upd_same]; exact hr
      · rw [upd_other _ _ _ e]; exact hu.row (fun e2 => e (h.d.inj j i hj hi e2)) (h.d.row j hj), h.d.max, h.d.inj⟩, h.ll, h.nb, h.s⟩
/-- The bytes are written over. -/
theorem Hq.onB {g c : Nat} {F : Nat → Value} (h : Hq w S hb (.slice (some ⟨g, 0, none⟩) c c) ve vl vc le gi ci fs) (hu : BP (· = g) w w1) (hr : w1.rowIs g 5 c F) : Hq w1 S hb (.slice (some ⟨g, 0, none⟩) c c) ve vl vc le gi ci fs := by
  obtain ⟨f0, r0, hc⟩ : ∃ f0, w.rowIs g 5 c f0 ∧ c ≤ maxLen := by
    rcases h.b with e | ⟨b, co, f, e, r, m⟩
    · injection e with e; cases e
    · injection e with e e1
      injection e with e
      injection e with e
      subst e e1
      rw [Nat.mul_one] at r
      exact ⟨f, r, m⟩
  exact ⟨hu.row (row_ne h.h r0 (by decide)) h.h, .inr ⟨g, c, F, rfl, by rw [Nat.mul_one]; exact hr, hc⟩, h.d.bp hu (fun g' e e2 => h.d.val.ne r0 (by decide) (e.trans (by rw [e2]))) fun j hj e => h.nb g rfl j hj e, h.ll, h.nb, h.s⟩
/-- filled of h.bytes. -/
theorem Hq.fillB {g c : Nat} {F : Nat → Value} (h : Hq w S hb vb ve vl vc le gi ci fs) (hz : ∀ b, w.heap.size ≤ b → S b) (hu : BP (fun b => vb.ownBlock = some b) w w1) (hg : vb.ownBlock = some g ∨ w.heap.size ≤ g) (hr : w1.rowIs g 5 c F) (hc : c ≤ maxLen) :
    Hq (w1.setCell ⟨hb, 0, none⟩ (.slice (some ⟨g, 0, none⟩) c c)) S hb (.slice (some ⟨g, 0, none⟩) c c) ve vl vc le gi ci fs ∧ (w1.setCell ⟨hb, 0, none⟩ (.slice (some ⟨g, 0, none⟩) c c)).rowIs g 5 c F := by
  have h1 : Hd w1 hb vb ve vl vc := hu.row (fun e => h.b.ne h.h (by decide) e) h.h
  have hr' := hr.setOther (a := ⟨hb, 0, none⟩) (row_ne hr h1 (by decide)) (.slice (some ⟨g, 0, none⟩) c c)
  have row' : ∀ j, j < le → w1.rowIs (gi j) 5 (ci j) (fs j) := fun j hj => hu.row (fun e => h.nb _ e j hj rfl) (h.d.row j hj)
  have hv : Wv w1 ve le (wsf gi ci) := h.d.val.bp hu fun g' e e2 => by
    obtain ⟨_, _, r⟩ := h.b.row e2
    exact h.d.val.ne r (by decide) e
  refine ⟨⟨Hd.set0 h1 _, .inr ⟨g, c, F, rfl, by rw [Nat.mul_one]; exact hr', hc⟩, ⟨hv.setO (hv.ne h1 (by decide)) _ _, fun j hj => (row' j hj).setOther (a := ⟨hb, 0, none⟩) (row_ne (row' j hj) h1 (by decide)) _, h.d.max, h.d.inj⟩, h.ll, fun g' e j hj e2 => ?_, h.s.1, fun g' e => ?_, h.s.2.2.1, h.s.2.2.2⟩, hr'⟩
  · have := ob_some e
    subst this
    rcases hg with e3 | e3
    · exact h.nb _ e3 j hj e2
    · have := (h.d.row j hj).lt; omega
  · have := ob_some e
    subst this
    rcases hg with e3 | e3
    · exact h.s.2.1 _ e3
    · exact hz _ e3
end
/-- The whole Hand. -/
structure Hf (w : World) (S : Nat → Prop) (hb : Nat) (vb ve vl vc : Value) (le : Nat) (gi ci : Nat → Nat) (fs : Nat → Nat → Value) : Prop where
  q : Hq w S hb vb ve vl vc le gi ci fs
  l : Ov w 25 1 vl
  c : Ov w 44 2 vc
  nl : ∀ g, vl.ownBlock = some g → ve.ownBlock ≠ some g
  sl : ∀ g, vl.ownBlock = some g → S g
  sc : ∀ g, vc.ownBlock = some g → S g
theorem Hf.bp {w w1 : World} {S T : Nat → Prop} {hb le : Nat} {vb ve vl vc : Value} {gi ci : Nat → Nat} {fs : Nat → Nat → Value} (h : Hf w S hb vb ve vl vc le gi ci fs) (hu : BP T w w1) (hT : ∀ b, S b → ¬ T b) : Hf w1 S hb vb ve vl vc le gi ci fs :=
  ⟨h.q.bp hu hT, h.l.bp hu fun g e => hT _ (h.sl g e), h.c.bp hu fun g e => hT _ (h.sc g e), h.nl, h.sl, h.sc⟩
theorem Hf.below {w w1 : World} {S : Nat → Prop} {hb le : Nat} {vb ve vl vc : Value} {gi ci : Nat → Nat} {fs : Nat → Nat → Value} (h : Hf w S hb vb ve vl vc le gi ci fs) (hu : Below w.heap.size w w1) : Hf w1 S hb vb ve vl vc le gi ci fs := h.bp (T := fun _ => False) (BP.bel hu) fun _ _ h => h
theorem Hf.sub {w : World} {S T : Nat → Prop} {hb le : Nat} {vb ve vl vc : Value} {gi ci : Nat → Nat} {fs : Nat → Nat → Value} (h : Hf w S hb vb ve vl vc le gi ci fs) (hT : ∀ b, S b → b < w.heap.size → T b) : Hf w T hb vb ve vl vc le gi ci fs :=
  ⟨h.q.sub hT, h.l, h.c, h.nl, fun g e => hT _ (h.sl g e) (by obtain ⟨_, _, r⟩ := h.l.row e; exact r.lt), fun g e => hT _ (h.sc g e) (by obtain ⟨_, _, r⟩ := h.c.row e; exact r.lt)⟩
/-- The Hand, whatever stands in it. -/
def Hi (w : World) (S : Nat → Prop) (hb : Nat) : Prop := ∃ vb ve vl vc le gi ci fs, Hf w S hb vb ve vl vc le gi ci fs
/-- What place has left. -/
structure Pl (w w' : World) (S : Nat → Prop) (hb : Nat) (vb ve ve' vl vc : Value) (le le' : Nat) (gi gi' ci ci' : Nat → Nat) (fs fs' : Nat → Nat → Value) (i : Nat) (l : List Nat) : Prop where
  q : Hq w' S hb vb ve' vl vc le' gi' ci' fs'
  lt : i < le'
  lel : le ≤ le'
  ot : ∀ j, j < le → j ≠ i → gi' j = gi j ∧ ci' j = ci j ∧ fs' j = fs j
  me : fs' i = ff l ∧ l.length + 3 ≤ ci' i
  bp : BP S w w'
  rw : ∀ b T n F, T ≠ 5 → T ≠ 29 → ve.ownBlock ≠ some b → w.rowIs b T n F → w'.rowIs b T n F ∧ ve'.ownBlock ≠ some b
end Go.Proofs.YtbpglkhgggokcaaDoor
