/- CHUNKFRESH: the Book's memory; most, number, over. -/
import Derived.Test.YtinhhgiokaamhaaDoorCH15
import Derived.ArgAppend
import Derived.Deep.RegionLaw
import Derived.Deep.RegionLawGrows
namespace Go.Proofs.YtinhhgiokaamhaaDoor
open Go.RowKit

/-- The byte of the i-th list at its place j. -/
def nmr (i j : Nat) : Nat := (1 + i / 2) / 2 ^ (8 * (j % 3)) % 256
theorem nmr_lt (i j : Nat) : nmr i j < 256 := Nat.mod_lt _ (by decide)
theorem nmr_odd {i : Nat} (h : i % 2 = 0) (j : Nat) : nmr (i + 1) j = nmr i j := by
  unfold nmr
  rw [show (i + 1) / 2 = i / 2 by omega]
def nms (i n : Nat) : List Nat := (List.range n).map (nmr i)
theorem nms_len (i n : Nat) : (nms i n).length = n := by simp [nms]
theorem nms_lt (i n : Nat) : ∀ x ∈ nms i n, x < 256 := fun x hx => by
  obtain ⟨j, _, rfl⟩ := List.mem_map.1 hx
  exact nmr_lt i j
theorem nms_get {i n j : Nat} (h : j < n) : (nms i n)[j]? = some (nmr i j) := by simp [nms, h]
theorem nms_succ (i n : Nat) : nms i (n + 1) = nms i n ++ [nmr i n] := by simp [nms, List.range_succ]
theorem nms_odd {i : Nat} (h : i % 2 = 0) (n : Nat) : nms (i + 1) n = nms i n := List.map_congr_left fun j _ => nmr_odd h j
theorem nms_zero (i : Nat) : nms i 0 = [] := rfl
set_option maxHeartbeats 800000 in
set_option maxRecDepth 100000 in
theorem nmr_any (i j : Nat) (hi : i ≤ 4611686018427387904) (w : World) : Calls Tryd.prog 42 #[.int .i64 i, .int .i64 j] w fun e w' => e = .returned (.int .u8 (nmr i j : Nat)) ∧ w' = w := by
  have h0 : (0 : Int) ≤ (i : Int) := by omega
  have h1 : (i : Int) ≤ 4611686018427387904 := by omega
  have h2 : (0 : Int) ≤ (j : Int) := by omega
  have h4 : (0 : Int) ≤ (j : Int) % 3 := by omega
  have h5 : (j : Int) % 3 ≤ 2 := by omega
  go_enter Tryd.func42, Tryd.ntmps42
  go_wp2
  go_ret
  refine ⟨ret_int ?_, rfl⟩
  unfold nmr
  rcases (show j % 3 = 0 ∨ j % 3 = 1 ∨ j % 3 = 2 by omega) with e | e | e <;> rw [e] <;> simp <;> omega
def mo (n a : Nat) : Nat := if n + 70000 < a then n + 70000 else a
set_option maxHeartbeats 800000 in
set_option maxRecDepth 100000 in
theorem most_any (n a : Nat) (hn : n ≤ 9223372036854705807) (w : World) : Calls Tryd.prog 38 #[.int .i64 n, .int .i64 a] w fun e w' => e = .returned (.int .i64 (mo n a : Nat)) ∧ w' = w := by
  have in0 : (0 : Int) ≤ (n : Int) := by omega
  have in1 : (n : Int) ≤ 9223372036854705807 := by omega
  go_enter Tryd.func38, Tryd.ntmps38
  by_cases h : n + 70000 < a
  · have ih : (n : Int) + 70000 < (a : Int) := by omega
    have HM : Hid (mo n a = n + 70000) := hid1 (by unfold mo; rw [if_pos h])
    go_wp2
    go_ret
    exact ⟨by rw [HM.out]; rfl, rfl⟩
  · have ih : ¬ (n : Int) + 70000 < (a : Int) := by omega
    have HM : Hid (mo n a = a) := hid1 (by unfold mo; rw [if_neg h])
    go_wp2
    go_ret
    exact ⟨by rw [HM.out]; rfl, rfl⟩
def bkf (vy vl : Value) (mu : Int) : Nat → Value := fun k => if k = 0 then vy else if k = 1 then vl else .int .i64 mu
set_option maxHeartbeats 800000 in
set_option maxRecDepth 100000 in
theorem over_any (bb : Nat) (vy vl : Value) (mu x : Int) (w : World) (h : w.rowIs bb 58 3 (bkf vy vl mu)) :
    Calls Tryd.prog 39 #[.pointer (some ⟨bb, 0, none⟩), .int .i64 x] w fun e w' => ∃ r mu', e = .returned (.bool r) ∧ w' = w.setCell ⟨bb, 2, none⟩ (.int .i64 mu') := by
  have c2 := h.cell (i := 2) (by omega)
  have f2 := h.frozen 2
  simp [bkf] at c2
  clear h
  go_enter Tryd.func39, Tryd.ntmps39
  go_wp2
  go_ret
  exact ⟨_, _, rfl, rfl⟩
/-- A list of lists: nothing, or a row of slices. -/
def Wg (w : World) (T : TypeId) (v : Value) (n : Nat) (el : Nat → Value) : Prop :=
  (v = .slice none 0 0 ∧ n = 0) ∨ ∃ g cw f, v = .slice (some ⟨g, 0, none⟩) n cw ∧ n ≤ cw ∧ cw ≤ maxLen ∧ w.rowIs g T cw f ∧ ∀ j, j < n → f j = el j
section
variable {w w1 : World} {T n : Nat} {v : Value} {el : Nat → Value}
theorem Wg.row (h : Wg w T v n el) {g : Nat} (hg : v.ownBlock = some g) : ∃ n f, w.rowIs g T n f := by
  rcases h with ⟨rfl, _⟩ | ⟨b, cw, f, rfl, _, _, r, _⟩
  · simp [Value.ownBlock] at hg
  · have := ob_some hg
    subst this
    exact ⟨_, _, r⟩
theorem Wg.ne {g U k : Nat} {F : Nat → Value} (h : Wg w T v n el) (hr : w.rowIs g U k F) (hT : U ≠ T) : v.ownBlock ≠ some g := fun e => by
  obtain ⟨_, _, r⟩ := h.row e
  exact row_ne hr r hT rfl
theorem Wg.bp {S : Nat → Prop} (h : Wg w T v n el) (hb : BP S w w1) (hs : ∀ g, v.ownBlock = some g → ¬ S g) : Wg w1 T v n el := by
  rcases h with h | ⟨b, cw, f, rfl, h1, h2, r, h3⟩
  · exact .inl h
  · exact .inr ⟨b, cw, f, rfl, h1, h2, hb.row (hs b rfl) r, h3⟩
theorem Wg.val (h : Wg w T v n el) : ∃ o c, v = .slice o n c := by
  rcases h with ⟨e, e0⟩ | ⟨_, _, _, e, _⟩
  · subst e0; exact ⟨_, _, e⟩
  · exact ⟨_, _, e⟩
theorem Wg.own (h : Wg w T v n el) : w.ownsRow 0 T 1 v n (rowL el n) := by
  rcases h with ⟨rfl, rfl⟩ | ⟨ge, cw, f, rfl, h1, h2, h3, h4⟩
  · exact World.ownsRow_nil _ _ _ _
  · have e : rowL el n = rowL f n := List.map_congr_left fun j hj => (h4 j (by simpa using hj)).symm
    rw [e]
    exact own_of_row h3 h1 h2
theorem Wg.congr {el' : Nat → Value} (h : Wg w T v n el) (he : ∀ j, j < n → el j = el' j) : Wg w T v n el' := by
  rcases h with h | ⟨b, cw, f, e, h1, h2, h3, h4⟩
  · exact .inl h
  · exact .inr ⟨b, cw, f, e, h1, h2, h3, fun j hj => (h4 j hj).trans (he j hj)⟩
end
/-- The cells of marked chunks. -/
def mkc (t : Int) : Nat → Value := fun p => if p % 2 = 0 then .int .u32 t else .slice none 0 0
def tgm (i : Nat) : Int := IntKind.u32.wrap (5000 + (i : Int) / 2)
theorem tgm_odd {i : Nat} (h : i % 2 = 0) : tgm (i + 1) = tgm i := by
  unfold tgm
  rw [show ((i + 1 : Nat) : Int) / 2 = (i : Int) / 2 by omega]
def sv (ao : Nat → Option Addr) (n c : Nat → Nat) : Nat → Value := fun i => .slice (ao i) (n i) (c i)
/-- The Book: its lists of bytes and of chunks, each full of its mark; all of its blocks lie in B. -/
structure Bk (w : World) (B : Nat → Prop) (bb : Nat) (vy vl : Value) (mu : Int) (ny nl : Nat) (ao : Nat → Option Addr) (n c : Nat → Nat) (lo : Nat → Option Addr) (m d : Nat → Nat) : Prop where
  h : w.rowIs bb 58 3 (bkf vy vl mu)
  y : Wg w 23 vy ny (sv ao n c)
  l : Wg w 28 vl nl (sv lo m d)
  ey : ∀ i, i < ny → w.ownsRow 0 5 1 (.slice (ao i) (n i) (c i)) (n i) (u8s (nms i (n i)))
  el : ∀ i, i < nl → w.ownsRow 0 37 2 (.slice (lo i) (m i) (d i)) (m i) (rowL (mkc (tgm i)) (m i * 2))
  ev : ∀ i, i < ny → i % 2 = 0 → c i = n i
  sm : ∀ i, i < ny → n i ≤ 16777216 + i % 2
  s : B bb ∧ (∀ g, vy.ownBlock = some g → B g) ∧ (∀ g, vl.ownBlock = some g → B g) ∧ (∀ i, i < ny → ∀ g, (Value.slice (ao i) (n i) (c i)).ownBlock = some g → B g) ∧ ∀ i, i < nl → ∀ g, (Value.slice (lo i) (m i) (d i)).ownBlock = some g → B g
section
variable {w w1 : World} {B T : Nat → Prop} {bb : Nat} {vy vl : Value} {mu : Int} {ny nl : Nat} {ao : Nat → Option Addr} {n c : Nat → Nat} {lo : Nat → Option Addr} {m d : Nat → Nat}
theorem Bk.bp (h : Bk w B bb vy vl mu ny nl ao n c lo m d) (hu : BP T w w1) (hT : ∀ b, B b → ¬ T b) : Bk w1 B bb vy vl mu ny nl ao n c lo m d :=
  ⟨hu.row (hT _ h.s.1) h.h, h.y.bp hu fun g e => hT _ (h.s.2.1 g e), h.l.bp hu fun g e => hT _ (h.s.2.2.1 g e), fun i hi => own_keep hu (h.ey i hi) fun g e => hT _ (h.s.2.2.2.1 i hi g e), fun i hi => own_keep hu (h.el i hi) fun g e => hT _ (h.s.2.2.2.2 i hi g e), h.ev, h.sm, h.s⟩
theorem Bk.sub (h : Bk w B bb vy vl mu ny nl ao n c lo m d) (hT : ∀ b, B b → b < w.heap.size → T b) : Bk w T bb vy vl mu ny nl ao n c lo m d :=
  ⟨h.h, h.y, h.l, h.ey, h.el, h.ev, h.sm, hT _ h.s.1 h.h.lt, fun g e => hT _ (h.s.2.1 g e) (by obtain ⟨_, _, r⟩ := h.y.row e; exact r.lt), fun g e => hT _ (h.s.2.2.1 g e) (by obtain ⟨_, _, r⟩ := h.l.row e; exact r.lt), fun i hi g e => hT _ (h.s.2.2.2.1 i hi g e) ((h.ey i hi).lt g e).2, fun i hi g e => hT _ (h.s.2.2.2.2 i hi g e) ((h.el i hi).lt g e).2⟩
/-- much alone turns. -/
theorem Bk.over (h : Bk w B bb vy vl mu ny nl ao n c lo m d) (mu' : Int) : Bk (w.setCell ⟨bb, 2, none⟩ (.int .i64 mu')) B bb vy vl mu' ny nl ao n c lo m d := by
  have hu : BP (· = bb) w (w.setCell ⟨bb, 2, none⟩ (.int .i64 mu')) := BP.self _ _ _ _
  refine ⟨(h.h.set 2 _).congr fun j hj => ?_, h.y.bp hu fun g e e2 => h.y.ne h.h (by decide) (e.trans (by rw [e2])), h.l.bp hu fun g e e2 => h.l.ne h.h (by decide) (e.trans (by rw [e2])), fun i hi => own_keep hu (h.ey i hi) fun g e e2 => own_row_ne (h.ey i hi) h.h (by decide) (e.trans (by rw [e2])), fun i hi => own_keep hu (h.el i hi) fun g e e2 => own_row_ne (h.el i hi) h.h (by decide) (e.trans (by rw [e2])), h.ev, h.sm, h.s⟩
  rcases (show j = 0 ∨ j = 1 ∨ j = 2 by omega) with rfl | rfl | rfl <;> rfl
end
/-- The Book, whatever lists it has. -/
def Bi (w : World) (B : Nat → Prop) (bb ny nl : Nat) : Prop := ∃ vy vl mu ao n c lo m d, Bk w B bb vy vl mu ny nl ao n c lo m d
theorem Bi.bp {w w1 : World} {B T : Nat → Prop} {bb ny nl : Nat} (h : Bi w B bb ny nl) (hu : BP T w w1) (hT : ∀ b, B b → ¬ T b) : Bi w1 B bb ny nl := by
  obtain ⟨vy, vl, mu, ao, n, c, lo, m, d, h⟩ := h
  exact ⟨vy, vl, mu, ao, n, c, lo, m, d, h.bp hu hT⟩
theorem Bi.below {w w1 : World} {B : Nat → Prop} {bb ny nl : Nat} (h : Bi w B bb ny nl) (hu : Below w.heap.size w w1) : Bi w1 B bb ny nl := h.bp (T := fun _ => False) (BP.bel hu) fun _ _ h => h
theorem Bi.sub {w : World} {B T : Nat → Prop} {bb ny nl : Nat} (h : Bi w B bb ny nl) (hT : ∀ b, B b → b < w.heap.size → T b) : Bi w T bb ny nl := by
  obtain ⟨vy, vl, mu, ao, n, c, lo, m, d, h⟩ := h
  exact ⟨vy, vl, mu, ao, n, c, lo, m, d, h.sub hT⟩
theorem bi_new (w : World) (B : Nat → Prop) (h : B w.heap.size) : Bi (w.alloc (.cells #[.slice none 0 0, .slice none 0 0, .int .i64 0] 58)) B w.heap.size 0 0 := by
  refine ⟨.slice none 0 0, .slice none 0 0, 0, fun _ => none, fun _ => 0, fun _ => 0, fun _ => none, fun _ => 0, fun _ => 0, World.rowIs_alloc w _ _ _ (fun i hi => ?_), .inl ⟨rfl, rfl⟩, .inl ⟨rfl, rfl⟩, fun i hi => absurd hi (by omega), fun i hi => absurd hi (by omega), fun i hi => absurd hi (by omega), fun i hi => absurd hi (by omega), h, fun g e => by simp [Value.ownBlock] at e, fun g e => by simp [Value.ownBlock] at e, fun i hi => absurd hi (by omega), fun i hi => absurd hi (by omega)⟩
  rcases i with _ | _ | _ | i
  all_goals first
    | rfl
    | (simp at hi; omega)
end Go.Proofs.YtinhhgiokaamhaaDoor
