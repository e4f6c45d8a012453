/- RankCounts: bytes; Eq of scores. -/
import Derived.Test.YtfdkjckoelmgeaaDoorRC1
namespace Go.Proofs.YtfdkjckoelmgeaaDoor
open Go.RowKit Go.Sort

/-- Bytes lie in memory. -/
def By8 (w : World) (ao : Option Addr) (m : Nat) (f : Nat → Nat) : Prop := ∀ j, j < m → f j < 256 ∧ ∃ g o, ao = some ⟨g, o, none⟩ ∧ w.cell? ⟨g, o + j, none⟩ = some (.int .u8 (f j : Int))
theorem By8.below {w w' : World} {ao : Option Addr} {m : Nat} {f : Nat → Nat} (h : By8 w ao m f) (hb : Below w.heap.size w w') : By8 w' ao m f := fun j hj => by
  obtain ⟨h1, g, o, e, c⟩ := h j hj; exact ⟨h1, g, o, e, keepc hb c⟩
set_option maxHeartbeats 1600000 in
set_option maxRecDepth 100000 in
theorem eqs_any (ao bo : Option Addr) (a b : List (List Int)) (ca cb : Nat) (w : World) (hl : a.length ≤ 1099511627776) (hr : ∀ r ∈ a, r.length ≤ 1099511627776) (h1 : Tn w ao a) (h2 : Tn w bo b) :
    Calls Tryd.prog 16 #[tbv ao a.length ca, tbv bo b.length cb] w fun e w' => e = .returned (.bool (decide (a = b))) ∧ Below w.heap.size w w' := by
  have HB : Below w.heap.size w ((w.alloc (.cells #[.slice ao a.length ca] 36)).alloc (.cells #[.slice bo b.length cb] 36)) := bl_alloc (bl_alloc (Below.refl _ _) _) _
  have HC := hid1 (eqt_any ao bo a b ca cb _ hl hr (h1.below HB) (h2.below HB))
  clear h1 h2 hr
  generalize decide (a = b) = D at *
  generalize a.length = n at *
  generalize b.length = m at *
  go_enter Tryd.func16, Tryd.ntmps16
  go_wp2_with (go_at_call 24; refine HC.out.mono ?_; rintro e w1 ⟨rfl, hq⟩)
  go_ret
  exact ⟨rfl, hq.below HB⟩
theorem Tz.oth {w : World} {M G n : Nat} {b K : Nat → Nat} {T : List (List Int)} (h : Tz w M G b K T n) {a : Addr} (h1 : G ≠ a.block) (h2 : ∀ i, i < T.length → b i ≠ a.block) (v : Value) : Tz (w.setCell a v) M G b K T n :=
  ⟨h.out.setOther h1 v, fun i hi => (h.row i hi).other (h2 i hi) v, h.low, h.apart, h.len⟩
/-- A store into a box. -/
theorem Tz.box {w : World} {M G n p : Nat} {b K : Nat → Nat} {T : List (List Int)} {f : Nat → Value} (h : Tz w M G b K T n) (hp : w.rowIs p 36 1 f) (v : Value) : Tz (w.setCell ⟨p, 0, none⟩ v) M G b K T n :=
  h.oth (a := ⟨p, 0, none⟩) (row_ne h.out hp (by decide)) (fun i hi => by obtain ⟨f', r, _⟩ := h.row i hi; exact row_ne r hp (by decide)) v
theorem Bx.put {w X : World} {p M G k : Nat} {b K : Nat → Nat} {T : List (List Int)} {f : Nat → Value} (hb : Below w.heap.size w X) (hl : w.heap.size ≤ p) (hp : X.rowIs p 36 1 f) (ht : Tb X M G b K T) (hM : w.heap.size ≤ M) (hs : Sc k T) :
    Bx w (X.setCell ⟨p, 0, none⟩ (.slice (some ⟨G, 0, none⟩) k k)) p G b K k T :=
  ⟨bl_set hb hl _, (hp.set 0 _).congr fun i hi => by simp [show i = 0 by omega], Tz.box (Tz.mono ht hM) hp _, hs⟩
theorem Bx.keep {w X : World} {q p G k : Nat} {b K : Nat → Nat} {T : List (List Int)} {f : Nat → Value} (h : Bx w X q G b K k T) (hp : X.rowIs p 36 1 f) (hl : w.heap.size ≤ p) (hne : q ≠ p) (v : Value) : Bx w (X.setCell ⟨p, 0, none⟩ v) q G b K k T :=
  ⟨bl_set h.bel hl _, h.box.setOther hne _, Tz.box h.tb hp _, h.sc⟩
/-- Two scores in their boxes. -/
def Two (w X : World) (p q k : Nat) (A B : List (List Int)) : Prop := p ≠ q ∧ w.heap.size ≤ p ∧ w.heap.size ≤ q ∧ (∃ G b K, Bx w X p G b K k A) ∧ ∃ G b K, Bx w X q G b K k B
theorem Two.step {w X Y : World} {p q k : Nat} {A B : List (List Int)} (h : Two w X p q k A B) (hb : Below X.heap.size X Y) : Two w Y p q k A B := by
  obtain ⟨h1, h2, h3, ⟨G, b, K, h4⟩, G', b', K', h5⟩ := h
  exact ⟨h1, h2, h3, ⟨G, b, K, h4.step hb⟩, G', b', K', h5.step hb⟩
theorem Two.bel {w X : World} {p q k : Nat} {A B : List (List Int)} (h : Two w X p q k A B) : Below w.heap.size w X := by
  obtain ⟨_, _, _, ⟨_, _, _, h⟩, _⟩ := h; exact h.bel
/-- What the calls tell of a score in a box. -/
theorem bx_right {w X : World} {p G k : Nat} {b K : Nat → Nat} {T : List (List Int)} (h : Bx w X p G b K k T) (hk : k ≤ 256) : ∀ Y, Below X.heap.size X Y → Calls Tryd.prog 14 #[tbv (some ⟨G, 0, none⟩) k k] Y fun e w' => e = .returned (.tuple #[.int .i64 (rV T), .int .i64 (cV T), .int .i64 (cE T)]) ∧ Below Y.heap.size Y w' := fun Y hY => by
  have := right_any (some ⟨G, 0, none⟩) T k Y (by rw [h.sc.len]; omega) (h.small hk) (h.tn.below hY)
  rw [h.sc.len] at this; exact this
theorem bx_show {w X : World} {p G k : Nat} {b K : Nat → Nat} {T : List (List Int)} (h : Bx w X p G b K k T) (hk : k ≤ 256) (L : LaidP w) : ∀ Y, Below X.heap.size X Y → Calls Tryd.prog 15 #[tbv (some ⟨G, 0, none⟩) k k] Y fun e w' => e = .returned (.tuple #[.string ⟨(sT T).toArray⟩, .int .i64 (cE T)]) ∧ Below Y.heap.size Y w' := fun Y hY => by
  have := show_any (some ⟨G, 0, none⟩) T k Y (by rw [h.sc.len]; omega) (h.small hk) (h.tn.below hY) (L.on (bl_step h.bel hY))
  rw [h.sc.len] at this; exact this
theorem bx_bad {w X : World} {p G k : Nat} {b K : Nat → Nat} {T : List (List Int)} (h : Bx w X p G b K k T) (hk : k ≤ 256) {r t E : Int} (hE : aE T r t = E) (h0 : E ≠ 0) : ∀ Y, Below X.heap.size X Y → Calls Tryd.prog 13 #[tbv (some ⟨G, 0, none⟩) k k, .int .i64 r, .int .i64 t] Y fun e w' => e = .returned (.tuple #[tbv none 0 0, .int .i64 E]) ∧ Below Y.heap.size Y w' := fun Y hY => by
  have := add_bad (some ⟨G, 0, none⟩) T k r t Y (by rw [h.sc.len]; omega) (h.small hk) (h.tn.below hY) (by rw [hE]; exact h0)
  rw [h.sc.len, hE] at this; exact this
theorem bx_add {w X : World} {p G k : Nat} {b K : Nat → Nat} {T : List (List Int)} (h : Bx w X p G b K k T) (hk : k ≤ 256) {r t : Nat} (hE : aE T r t = 0) : ∀ Y, Below X.heap.size X Y → Calls Tryd.prog 13 #[tbv (some ⟨G, 0, none⟩) k k, .int .i64 r, .int .i64 t] Y fun e w' => ∃ G b K, e = .returned (.tuple #[tbv (some ⟨G, 0, none⟩) k k, .int .i64 0]) ∧ Tb w' Y.heap.size G b K (ad T r t) ∧ Below Y.heap.size Y w' := fun Y hY => by
  have := add_ok (some ⟨G, 0, none⟩) T k r t Y (h.tn.below hY) (h.small hk) hE
  rw [h.sc.len] at this; exact this
end Go.Proofs.YtfdkjckoelmgeaaDoor
