import Derived.Test.YteghelmbibpohaaBX48
import Derived.Test.YteghelmbibpohaaQH
import Derived.Test.YteghelmbibpohaaBP1
import Derived.Test.YteghelmbibpohaaQI
import Derived.Deep.Slices
import Derived.Test.YteghelmbibpohaaRows
import Derived.JoinedCond
/- Quiet: answers that are left untouched: its memory; over. -/
namespace Go.Proofs.Yteghelmbibpohaa
open Go.RowKit

set_option maxHeartbeats 800000 in
set_option maxRecDepth 100000 in
theorem qover_any (qb : Nat) (vg vh : Value) (mu x : Int) (w : World) (h0 : 0 ≤ mu) (h1 : mu ≤ 1152921504606846976) (h2 : 0 ≤ x) (h3 : x ≤ 1152921504606846976) (h : w.rowIs qb 72 3 (bkf vg vh mu)) :
    Calls Try.prog 57 #[.pointer (some ⟨qb, 0, none⟩), .int .i64 x] w fun e w' => e = .returned (.bool (decide (33554432 < mu + 400 + x))) ∧ w'.rowIs qb 72 3 (bkf vg vh (mu + 400 + x)) ∧ But qb w w' := by
  have c2 : w.cell? ⟨qb, 2, none⟩ = some (.int .i64 mu) := h.cell (by omega)
  have f2 := h.frozen 2
  have H := hid1 h
  clear h
  go_enter Try.func57, Try.ntmps57
  go_wp2
  go_ret
  exact ⟨rfl, (H.out.set 2 _).congr fun j hj => by rcases (show j = 0 ∨ j = 1 ∨ j = 2 by omega) with rfl | rfl | rfl <;> rfl, But.self _ _ _⟩
/-- An answer that is kept: what it is, where its lists lie. -/
structure Te where
  t : TS
  ao : Option Addr
  c : Nat
  so : Option Addr
  sc : Nat
def tef (e : Te) : Nat → Value := tdf e.t.n e.ao e.t.m e.c e.so e.t.l e.sc e.t.k e.t.mask e.t.e
/-- A list of answers: nothing, or a row of six cells each. -/
def Wt (w : World) (v : Value) (g n : Nat) (a : Nat → Te) : Prop :=
  (v = .slice none 0 0 ∧ n = 0) ∨ ∃ c f, v = .slice (some ⟨g, 0, none⟩) n c ∧ n ≤ c ∧ c ≤ maxLen ∧ w.rowIs g 57 (c * 6) f ∧ ∀ p, p < n * 6 → f p = tef (a (p / 6)) (p % 6)
theorem Wt.bp {T : Nat → Prop} {w w1 : World} {v : Value} {g n : Nat} {a : Nat → Te} (h : Wt w v g n a) (hu : BP T w w1) (hT : v = .slice none 0 0 ∨ ¬ T g) : Wt w1 v g n a := by
  rcases h with h | ⟨cw, f, e, h1, h2, h3, h4⟩
  · exact .inl h
  · refine .inr ⟨cw, f, e, h1, h2, hu.row ?_ h3, h4⟩
    rcases hT with hT | hT
    · rw [e] at hT; injection hT with hT; cases hT
    · exact hT
theorem own6_of_row {w : World} {T g cap n : Nat} {f : Nat → Value} (h : w.rowIs g T (cap * 6) f) (hn : n ≤ cap) (hc : cap ≤ maxLen) : w.ownsRow 0 T 6 (.slice (some ⟨g, 0, none⟩) n cap) n (rowL f (n * 6)) := by
  obtain ⟨c, hb, hs, hf⟩ := h
  refine ⟨by simp [rowL], .inr ⟨g, cap, c, rfl, Nat.zero_le _, hb, hn, hc, by omega, ?_⟩⟩
  refine List.ext_getElem? fun i => ?_
  by_cases hi : i < n * 6
  · rw [List.getElem?_take_of_lt hi, Array.getElem?_toList, hf i (by omega)]
    simp [rowL, hi]
  · rw [List.getElem?_eq_none (by simp; omega), List.getElem?_eq_none (by simp [rowL]; omega)]
theorem own6_row {w : World} {base e : Nat} {v : Value} {n : Nat} {xs : List Value} (h : w.ownsRow base e 6 v n xs) (hn : 0 < n) :
    ∃ g cap f, v = .slice (some ⟨g, 0, none⟩) n cap ∧ base ≤ g ∧ n ≤ cap ∧ cap ≤ maxLen ∧ w.rowIs g e (cap * 6) f ∧ ∀ k, k < n * 6 → xs[k]? = some (f k) := by
  rcases h.2 with ⟨_, h0⟩ | ⟨g, cap, cur, hv, hb, hg, h4, h5, h6, h7⟩
  · omega
  · refine ⟨g, cap, fun k => cur[k]?.getD undef, hv, hb, h4, h5, ⟨cur, hg, by omega, fun i hi => ?_⟩, fun k hk => ?_⟩
    · simp [Array.getElem?_eq_getElem (show i < cur.size by omega)]
    · rw [← h7, List.getElem?_take_of_lt hk]
      simp [Array.getElem?_eq_getElem (show k < cur.size by omega)]
theorem Wt.own {w : World} {v : Value} {g n : Nat} {a : Nat → Te} (h : Wt w v g n a) : w.ownsRow 0 57 6 v n (rowL (fun p => tef (a (p / 6)) (p % 6)) (n * 6)) := by
  rcases h with ⟨rfl, rfl⟩ | ⟨cw, f, rfl, h1, h2, h3, h4⟩
  · exact World.ownsRow_nil _ _ _ _
  · have e : rowL (fun p => tef (a (p / 6)) (p % 6)) (n * 6) = rowL f (n * 6) := List.map_congr_left fun j hj => (h4 j (by simpa using hj)).symm
    rw [e]
    exact own6_of_row h3 h1 h2
theorem Wt.mv {w : World} {v : Value} {g n : Nat} {a : Nat → Te} (h : Wt w v g n a) : ∃ go, (∀ X, Mv X go X v) ∧ (go = w.heap.size ∨ (go = g ∧ v ≠ .slice none 0 0 ∧ ∃ c f, w.rowIs g 57 c f)) := by
  rcases h with ⟨rfl, rfl⟩ | ⟨cw, f, rfl, h1, h2, h3, h4⟩
  · exact ⟨w.heap.size, fun X => ⟨But.refl _ _, .inl rfl⟩, .inl rfl⟩
  · exact ⟨g, fun X => ⟨But.refl _ _, .inr (.inl rfl)⟩, .inr ⟨rfl, (fun e => by injection e with e; cases e), _, _, h3⟩⟩
/-- One answer more behind the list. -/
theorem Wt.grow {y : World} {g n c : Nat} {f : Nat → Value} {a : Nat → Te} {e : Te} (hr : y.rowIs g 57 (c * 6) f) (hn : n + 1 ≤ c) (hc : c ≤ maxLen) (hf : ∀ k, k < (n + 1) * 6 → (rowL (fun p => tef (a (p / 6)) (p % 6)) (n * 6) ++ rowL (tef e) 6)[k]? = some (f k)) :
    Wt y (.slice (some ⟨g, 0, none⟩) (n + 1) c) g (n + 1) (upd a n e) := by
  refine .inr ⟨c, f, rfl, hn, hc, hr, fun p hp => ?_⟩
  have h := hf p hp
  by_cases h1 : p < n * 6
  · rw [List.getElem?_append_left (by simpa [rowL] using h1)] at h
    obtain ⟨_, h2⟩ := rowL_get h
    rw [h2, upd_other _ _ _ (by omega)]
  · rw [List.getElem?_append_right (by simp [rowL]; omega)] at h
    have hl : (rowL (fun p => tef (a (p / 6)) (p % 6)) (n * 6)).length = n * 6 := by simp [rowL]
    rw [hl] at h
    obtain ⟨_, h2⟩ := rowL_get h
    rw [h2, show p / 6 = n by omega, upd_same, show p % 6 = p - n * 6 by omega]
theorem info_told : (Try.prog.info? 57).map (fun i => (i.zero, i.size, i.bytes)) = some (some (.agg #[.int .i64 0, .slice none 0 0, .slice none 0 0, .int .i64 0, .int .u64 0, .int .i64 0]), 6, 80) := by kernel_rfl
theorem und_tolds : Try.prog.underlying 70 = some (.slice 57) := by kernel_rfl
end Go.Proofs.Yteghelmbibpohaa
/- Quiet.asked. -/
namespace Go.Proofs.Yteghelmbibpohaa
open Go.RowKit

/-- The blocks of an answer that hold something. -/
def Am (ao so : Option Addr) (m l : Nat) : Nat → Prop := fun x => (∃ p, ao = some p ∧ 0 < m ∧ x = p.block) ∨ ∃ p, so = some p ∧ 0 < l ∧ x = p.block
theorem Rs.bp0 {S : Nat → Prop} {w w' : World} {ao : Option Addr} {m : Nat} {f : Nat → Value} (h : Rs w ao m f) (hb : BP S w w') (hs : ∀ p, ao = some p → 0 < m → ¬ S p.block) : Rs w' ao m f := fun k hk => by
  obtain ⟨g, o, e, c⟩ := h k hk
  exact ⟨g, o, e, hb.cell (hs ⟨g, o, none⟩ e (by omega)) c⟩
theorem am_lt {w : World} {ao so : Option Addr} {m l N : Nat} {f : Nat → Value} (h1 : Ro w ao m N) (h2 : Rs w so l f) : ∀ x, Am ao so m l x → x < w.heap.size := by
  rintro x (⟨p, e, h0, rfl⟩ | ⟨p, e, h0, rfl⟩)
  · obtain ⟨g, o, e1, c⟩ := h1.2 0 h0
    rw [e] at e1; injection e1 with e1; subst e1
    exact lt_of_cell c
  · obtain ⟨g, o, e1, c⟩ := h2 0 h0
    rw [e] at e1; injection e1 with e1; subst e1
    exact lt_of_cell c
/-- Quiet's own blocks. -/
def Q0 (qb gg gh : Nat) (vg vh : Value) : Nat → Prop := fun x => x = qb ∨ (x = gg ∧ vg ≠ .slice none 0 0) ∨ (x = gh ∧ vh ≠ .slice none 0 0)
/-- Quiet's memory: n answers as they were given, n as they are to be. -/
structure Qk (w : World) (S : Nat → Prop) (qb n : Nat) (vg vh : Value) (mu : Int) (gg gh : Nat) (a b : Nat → Te) : Prop where
  row : w.rowIs qb 72 3 (bkf vg vh mu)
  gl : Wt w vg gg n a
  hl : Wt w vh gh n b
  tt : ∀ i, i < n → (b i).t = (a i).t
  ow : ∀ i, i < n → Own w 35 (a i).ao (a i).t.m (a i).c (wf (a i).t.N) ∧ Own w 24 (a i).so (a i).t.l (a i).sc (fun k => .int .i8 ((a i).t.f k))
  ra : ∀ i, i < n → Ro w (a i).ao (a i).t.m (a i).t.N ∧ Rs w (a i).so (a i).t.l (fun k => .int .i8 ((a i).t.f k))
  rb : ∀ i, i < n → Ro w (b i).ao (a i).t.m (a i).t.N ∧ Rs w (b i).so (a i).t.l (fun k => .int .i8 ((a i).t.f k))
  bd : ∀ i, i < n → (a i).t.m ≤ 262144 ∧ (a i).t.l ≤ 16777216
  nb : n ≤ 4194304
  ap : ¬ S qb ∧ (vg = .slice none 0 0 ∨ ¬ S gg) ∧ (vh = .slice none 0 0 ∨ ¬ S gh)
  aa : ∀ i, i < n → ∀ x, Ab (a i).ao (a i).so x → ¬ S x ∧ x < w.heap.size ∧ ¬ Q0 qb gg gh vg vh x
  ab : ∀ i, i < n → ∀ x, Am (b i).ao (b i).so (a i).t.m (a i).t.l x → ¬ S x ∧ x < w.heap.size ∧ ¬ Q0 qb gg gh vg vh x
  dj : ∀ i j, i < n → j < n → i ≠ j → ∀ x, Ab (a i).ao (a i).so x → ¬ Ab (a j).ao (a j).so x
  ne : vg = .slice none 0 0 ∨ vh = .slice none 0 0 ∨ gg ≠ gh
section
variable {w w1 : World} {S S' : Nat → Prop} {qb n : Nat} {vg vh : Value} {mu : Int} {gg gh : Nat} {a b : Nat → Te}
theorem Rs.ab {f : Nat → Value} {so : Option Addr} {l : Nat} (h : Rs w so l f) (hu : BP S w w1) (hs : ∀ p, so = some p → ¬ S p.block) : Rs w1 so l f := h.bp hu hs
theorem Qk.bp (h : Qk w S qb n vg vh mu gg gh a b) (hu : BP S w w1) : Qk w1 S qb n vg vh mu gg gh a b := by
  have oa : ∀ i, i < n → (∀ p, (a i).ao = some p → ¬ S p.block) ∧ ∀ p, (a i).so = some p → ¬ S p.block := fun i hi => ⟨fun p hp => (h.aa i hi _ (.inl ⟨p, hp, rfl⟩)).1, fun p hp => (h.aa i hi _ (.inr ⟨p, hp, rfl⟩)).1⟩
  have ob : ∀ i, i < n → (∀ p, (b i).ao = some p → 0 < (a i).t.m → ¬ S p.block) ∧ ∀ p, (b i).so = some p → 0 < (a i).t.l → ¬ S p.block := fun i hi => ⟨fun p hp h0 => (h.ab i hi _ (.inl ⟨p, hp, h0, rfl⟩)).1, fun p hp h0 => (h.ab i hi _ (.inr ⟨p, hp, h0, rfl⟩)).1⟩
  exact ⟨hu.row h.ap.1 h.row, h.gl.bp hu h.ap.2.1, h.hl.bp hu h.ap.2.2, h.tt, fun i hi => ⟨(h.ow i hi).1.bp hu (oa i hi).1, (h.ow i hi).2.bp hu (oa i hi).2⟩,
    fun i hi => ⟨(h.ra i hi).1.bp hu fun p hp _ => (oa i hi).1 p hp, (h.ra i hi).2.bp hu (oa i hi).2⟩, fun i hi => ⟨(h.rb i hi).1.bp hu (ob i hi).1, (h.rb i hi).2.bp0 hu (ob i hi).2⟩, h.bd, h.nb, h.ap,
    fun i hi x hx => ⟨(h.aa i hi x hx).1, Nat.lt_of_lt_of_le (h.aa i hi x hx).2.1 hu.size, (h.aa i hi x hx).2.2⟩, fun i hi x hx => ⟨(h.ab i hi x hx).1, Nat.lt_of_lt_of_le (h.ab i hi x hx).2.1 hu.size, (h.ab i hi x hx).2.2⟩, h.dj, h.ne⟩
theorem Qk.below (h : Qk w S qb n vg vh mu gg gh a b) (hu : Below w.heap.size w w1) : Qk w1 S qb n vg vh mu gg gh a b := h.bp (BP.bel hu)
/-- The Hand's blocks are others now: old ones of S, or new ones. -/
theorem Qk.re (h : Qk w S qb n vg vh mu gg gh a b) (hS : ∀ x, S' x → S x ∨ w.heap.size ≤ x) : Qk w S' qb n vg vh mu gg gh a b := by
  have no : ∀ x, ¬ S x → x < w.heap.size → ¬ S' x := fun x h1 h2 h3 => by
    rcases hS x h3 with k | k
    · exact h1 k
    · omega
  refine ⟨h.row, h.gl, h.hl, h.tt, h.ow, h.ra, h.rb, h.bd, h.nb, ⟨no _ h.ap.1 h.row.lt, ?_, ?_⟩, fun i hi x hx => ⟨no x (h.aa i hi x hx).1 (h.aa i hi x hx).2.1, (h.aa i hi x hx).2⟩, fun i hi x hx => ⟨no x (h.ab i hi x hx).1 (h.ab i hi x hx).2.1, (h.ab i hi x hx).2⟩, h.dj, h.ne⟩
  · rcases h.ap.2.1 with e | e
    · exact .inl e
    · rcases h.gl with ⟨e1, _⟩ | ⟨c, f, e1, _, _, r, _⟩
      · exact .inl e1
      · exact .inr (no _ e r.lt)
  · rcases h.ap.2.2 with e | e
    · exact .inl e
    · rcases h.hl with ⟨e1, _⟩ | ⟨c, f, e1, _, _, r, _⟩
      · exact .inl e1
      · exact .inr (no _ e r.lt)
/-- What turns is Quiet's own, or new: the answers are as they were. -/
theorem Qk.els {T : Nat → Prop} (h : Qk w S qb n vg vh mu gg gh a b) (hu : BP T w w1) (hT : ∀ x, x < w.heap.size → T x → Q0 qb gg gh vg vh x) {i : Nat} (hi : i < n) :
    (Own w1 35 (a i).ao (a i).t.m (a i).c (wf (a i).t.N) ∧ Own w1 24 (a i).so (a i).t.l (a i).sc (fun k => .int .i8 ((a i).t.f k))) ∧ (Ro w1 (a i).ao (a i).t.m (a i).t.N ∧ Rs w1 (a i).so (a i).t.l (fun k => .int .i8 ((a i).t.f k))) ∧ (Ro w1 (b i).ao (a i).t.m (a i).t.N ∧ Rs w1 (b i).so (a i).t.l (fun k => .int .i8 ((a i).t.f k))) := by
  have oa : ∀ x, Ab (a i).ao (a i).so x → ¬ T x := fun x hx k => (h.aa i hi x hx).2.2 (hT x (h.aa i hi x hx).2.1 k)
  have ob : ∀ x, Am (b i).ao (b i).so (a i).t.m (a i).t.l x → ¬ T x := fun x hx k => (h.ab i hi x hx).2.2 (hT x (h.ab i hi x hx).2.1 k)
  exact ⟨⟨(h.ow i hi).1.bp hu fun p hp => oa _ (.inl ⟨p, hp, rfl⟩), (h.ow i hi).2.bp hu fun p hp => oa _ (.inr ⟨p, hp, rfl⟩)⟩, ⟨(h.ra i hi).1.bp hu fun p hp _ => oa _ (.inl ⟨p, hp, rfl⟩), (h.ra i hi).2.bp hu fun p hp => oa _ (.inr ⟨p, hp, rfl⟩)⟩, (h.rb i hi).1.bp hu fun p hp h0 => ob _ (.inl ⟨p, hp, h0, rfl⟩), (h.rb i hi).2.bp0 hu fun p hp h0 => ob _ (.inr ⟨p, hp, h0, rfl⟩)⟩
/-- Quiet's own cells turn. -/
theorem Qk.onQ {mu' : Int} (h : Qk w S qb n vg vh mu gg gh a b) (hr : w1.rowIs qb 72 3 (bkf vg vh mu')) (hu : But qb w w1) : Qk w1 S qb n vg vh mu' gg gh a b := by
  have el := fun i (hi : i < n) => h.els (BP.but hu) (fun x _ e => .inl e) hi
  have wt : ∀ {v g c}, Wt w v g n c → Wt w1 v g n c := fun {v g c} k => by
    rcases k with k | ⟨c, f, e, k1, k2, k3, k4⟩
    · exact .inl k
    · exact .inr ⟨c, f, e, k1, k2, hu.row (row_ne k3 h.row (by decide)) k3, k4⟩
  exact ⟨hr, wt h.gl, wt h.hl, h.tt, fun i hi => (el i hi).1, fun i hi => (el i hi).2.1, fun i hi => (el i hi).2.2, h.bd, h.nb, h.ap, fun i hi x hx => ⟨(h.aa i hi x hx).1, Nat.lt_of_lt_of_le (h.aa i hi x hx).2.1 hu.size, (h.aa i hi x hx).2.2⟩, fun i hi x hx => ⟨(h.ab i hi x hx).1, Nat.lt_of_lt_of_le (h.ab i hi x hx).2.1 hu.size, (h.ab i hi x hx).2.2⟩, h.dj, h.ne⟩
/-- One answer more is kept. -/
theorem Qk.more {V F : World} {e1 e2 : Te} {gg' gh' cg ch : Nat} {T : Nat → Prop} (h : Qk V S qb n vg vh mu gg gh a b) (hS : ∀ x, S x → x < V.heap.size) (hn : n < 4194304) (hu : BP T V F) (hT : ∀ x, x < V.heap.size → T x → Q0 qb gg gh vg vh x)
    (rF : F.rowIs qb 72 3 (bkf (.slice (some ⟨gg', 0, none⟩) (n + 1) cg) (.slice (some ⟨gh', 0, none⟩) (n + 1) ch) mu)) (gl : Wt F (.slice (some ⟨gg', 0, none⟩) (n + 1) cg) gg' (n + 1) (upd a n e1)) (hl : Wt F (.slice (some ⟨gh', 0, none⟩) (n + 1) ch) gh' (n + 1) (upd b n e2))
    (ht : e2.t = e1.t) (ow : Own V 35 e1.ao e1.t.m e1.c (wf e1.t.N) ∧ Own V 24 e1.so e1.t.l e1.sc (fun k => .int .i8 (e1.t.f k))) (ra : Ro V e1.ao e1.t.m e1.t.N ∧ Rs V e1.so e1.t.l (fun k => .int .i8 (e1.t.f k))) (rb : Ro V e2.ao e1.t.m e1.t.N ∧ Rs V e2.so e1.t.l (fun k => .int .i8 (e1.t.f k))) (bd : e1.t.m ≤ 262144 ∧ e1.t.l ≤ 16777216)
    (n1 : ∀ x, Ab e1.ao e1.so x → ¬ S x ∧ x < V.heap.size ∧ ¬ Q0 qb gg gh vg vh x) (n2 : ∀ x, Am e2.ao e2.so e1.t.m e1.t.l x → ¬ S x ∧ x < V.heap.size ∧ ¬ Q0 qb gg gh vg vh x) (nd : ∀ i, i < n → ∀ x, Ab e1.ao e1.so x → ¬ Ab (a i).ao (a i).so x)
    (hg : (gg' = gg ∧ vg ≠ .slice none 0 0) ∨ V.heap.size ≤ gg') (hh : (gh' = gh ∧ vh ≠ .slice none 0 0) ∨ V.heap.size ≤ gh') (hne : gg' ≠ gh') :
    Qk F S qb (n + 1) (.slice (some ⟨gg', 0, none⟩) (n + 1) cg) (.slice (some ⟨gh', 0, none⟩) (n + 1) ch) mu gg' gh' (upd a n e1) (upd b n e2) := by
  have q : ∀ x, x < V.heap.size → ¬ Q0 qb gg gh vg vh x → ¬ Q0 qb gg' gh' (.slice (some ⟨gg', 0, none⟩) (n + 1) cg) (.slice (some ⟨gh', 0, none⟩) (n + 1) ch) x := by
    rintro x hx hn (e | ⟨e, _⟩ | ⟨e, _⟩)
    · exact hn (.inl e)
    · rcases hg with ⟨e1, e2⟩ | k
      · exact hn (.inr (.inl ⟨e.trans e1, e2⟩))
      · omega
    · rcases hh with ⟨e1, e2⟩ | k
      · exact hn (.inr (.inr ⟨e.trans e1, e2⟩))
      · omega
  have n1T : ∀ x, Ab e1.ao e1.so x → ¬ T x := fun x hx k => (n1 x hx).2.2 (hT x (n1 x hx).2.1 k)
  have n2T : ∀ x, Am e2.ao e2.so e1.t.m e1.t.l x → ¬ T x := fun x hx k => (n2 x hx).2.2 (hT x (n2 x hx).2.1 k)
  have at_ : ∀ {P : Te → Te → Prop}, (∀ i, i < n → P (a i) (b i)) → P e1 e2 → ∀ i, i < n + 1 → P (upd a n e1 i) (upd b n e2 i) := fun {P} h1 h2 i hi => by
    by_cases e : i = n
    · subst e; rw [upd_same, upd_same]; exact h2
    · rw [upd_other _ _ _ e, upd_other _ _ _ e]; exact h1 i (by omega)
  refine ⟨rF, gl, hl, at_ (P := fun a b => b.t = a.t) h.tt ht, at_ (P := fun a _ => Own F 35 a.ao a.t.m a.c (wf a.t.N) ∧ Own F 24 a.so a.t.l a.sc (fun k => .int .i8 (a.t.f k))) (fun i hi => (h.els hu hT hi).1) ⟨ow.1.bp hu fun p hp => n1T _ (.inl ⟨p, hp, rfl⟩), ow.2.bp hu fun p hp => n1T _ (.inr ⟨p, hp, rfl⟩)⟩,
    at_ (P := fun a _ => Ro F a.ao a.t.m a.t.N ∧ Rs F a.so a.t.l (fun k => .int .i8 (a.t.f k))) (fun i hi => (h.els hu hT hi).2.1) ⟨ra.1.bp hu fun p hp _ => n1T _ (.inl ⟨p, hp, rfl⟩), ra.2.bp hu fun p hp => n1T _ (.inr ⟨p, hp, rfl⟩)⟩,
    at_ (P := fun a b => Ro F b.ao a.t.m a.t.N ∧ Rs F b.so a.t.l (fun k => .int .i8 (a.t.f k))) (fun i hi => (h.els hu hT hi).2.2) ⟨rb.1.bp hu fun p hp h0 => n2T _ (.inl ⟨p, hp, h0, rfl⟩), rb.2.bp0 hu fun p hp h0 => n2T _ (.inr ⟨p, hp, h0, rfl⟩)⟩,
    at_ (P := fun a _ => a.t.m ≤ 262144 ∧ a.t.l ≤ 16777216) h.bd bd, by omega, ⟨h.ap.1, .inr ?_, .inr ?_⟩,
    at_ (P := fun a _ => ∀ x, Ab a.ao a.so x → ¬ S x ∧ x < F.heap.size ∧ ¬ Q0 qb gg' gh' (.slice (some ⟨gg', 0, none⟩) (n + 1) cg) (.slice (some ⟨gh', 0, none⟩) (n + 1) ch) x) (fun i hi x hx => ⟨(h.aa i hi x hx).1, Nat.lt_of_lt_of_le (h.aa i hi x hx).2.1 hu.size, q x (h.aa i hi x hx).2.1 (h.aa i hi x hx).2.2⟩) (fun x hx => ⟨(n1 x hx).1, Nat.lt_of_lt_of_le (n1 x hx).2.1 hu.size, q x (n1 x hx).2.1 (n1 x hx).2.2⟩),
    at_ (P := fun a b => ∀ x, Am b.ao b.so a.t.m a.t.l x → ¬ S x ∧ x < F.heap.size ∧ ¬ Q0 qb gg' gh' (.slice (some ⟨gg', 0, none⟩) (n + 1) cg) (.slice (some ⟨gh', 0, none⟩) (n + 1) ch) x) (fun i hi x hx => ⟨(h.ab i hi x hx).1, Nat.lt_of_lt_of_le (h.ab i hi x hx).2.1 hu.size, q x (h.ab i hi x hx).2.1 (h.ab i hi x hx).2.2⟩) (fun x hx => ⟨(n2 x hx).1, Nat.lt_of_lt_of_le (n2 x hx).2.1 hu.size, q x (n2 x hx).2.1 (n2 x hx).2.2⟩),
    fun i j hi hj hij x hx hy => ?_, .inr (.inr hne)⟩
  · rcases hg with ⟨e1, e2⟩ | k
    · rw [e1]; exact h.ap.2.1.resolve_left e2
    · exact fun k2 => by have := hS _ k2; omega
  · rcases hh with ⟨e1, e2⟩ | k
    · rw [e1]; exact h.ap.2.2.resolve_left e2
    · exact fun k2 => by have := hS _ k2; omega
  · by_cases e : i = n
    · subst e
      rw [upd_same] at hx
      rw [upd_other _ _ _ (by omega)] at hy
      exact nd j (by omega) x hx hy
    · rw [upd_other _ _ _ e] at hx
      by_cases e' : j = n
      · subst e'
        rw [upd_same] at hy
        exact nd i (by omega) x hy hx
      · rw [upd_other _ _ _ e'] at hy
        exact h.dj i j (by omega) (by omega) hij x hx hy
end
end Go.Proofs.Yteghelmbibpohaa
/- Quiet.asked, walked. -/
namespace Go.Proofs.Yteghelmbibpohaa
open Go.RowKit

theorem tdf_new (w : World) (n : Int) (ao : Option Addr) (m c : Nat) (so : Option Addr) (sl sc : Nat) (k mask e : Int) (t : TypeId) :
    (w.alloc (.cells #[.int .i64 n, .slice ao m c, .slice so sl sc, .int .i64 k, .int .u64 mask, .int .i64 e] t)).rowIs w.heap.size t 6 (tdf n ao m c so sl sc k mask e) :=
  World.rowIs_alloc w _ t _ (fun i hi => by
    rcases i with _ | _ | _ | _ | _ | _ | i
    all_goals first
      | rfl
      | (simp at hi; omega))
theorem Hi.below {w w1 : World} {S : Nat → Prop} {hb : Nat} (h : Hi w S hb) (hu : Below w.heap.size w w1) : Hi w1 S hb := h.bp (BP.bel (S := fun _ => False) hu) fun _ _ k => k
theorem BP.narrow {S T : Nat → Prop} {w w1 : World} (h : BP S w w1) (hs : ∀ x, x < w.heap.size → S x → T x) : BP T w w1 := ⟨h.os, h.tape, h.output, h.size, fun k hk hn => h.block k hk fun k2 => hn (hs k hk k2)⟩
theorem cell_six_new (w : World) (n : Int) (ao : Option Addr) (m c : Nat) (so : Option Addr) (sl sc : Nat) (k mask e : Int) (t : TypeId) (f : Nat → Value) (hf : f = tdf n ao m c so sl sc k mask e) : ∀ j u, (rowL f 6)[j]? = some u → (w.alloc (.cells #[.int .i64 n, .slice ao m c, .slice so sl sc, .int .i64 k, .int .u64 mask, .int .i64 e] t)).cell? ((⟨w.heap.size, 0, none⟩ : Addr).add j) = some u := by
  intro j u hu
  obtain ⟨hj, rfl⟩ := rowL_get hu
  have h := (tdf_new w n ao m c so sl sc k mask e t).cell hj
  rw [hf]
  by_cases h0 : j = 0
  · subst h0; exact h
  · simp only [Addr.add, h0, if_false, Nat.zero_add]; exact h
theorem one_six (e : Te) : ∀ u ∈ rowL (tef e) 6, u.oneCell' = true := by
  intro u hu
  obtain ⟨j, hj, e1⟩ := List.getElem_of_mem hu
  obtain ⟨h1, rfl⟩ := rowL_get (List.getElem?_eq_some_iff.2 ⟨hj, e1⟩)
  rcases (show j = 0 ∨ j = 1 ∨ j = 2 ∨ j = 3 ∨ j = 4 ∨ j = 5 by omega) with rfl | rfl | rfl | rfl | rfl | rfl <;> rfl
theorem Hk.butQ {w w1 : World} {S : Nat → Prop} {hb ga ca gb cb gs cs gr cr gw lw : Nat} {vw : Value} {gi ci : Nat → Nat} {fa fb fs fr : Nat → Value} {ff : Nat → Nat → Value} {b k : Nat} {F : Nat → Value} (h : Hk w S hb ga ca gb cb gs cs gr cr vw gw lw gi ci fa fb fs fr ff) (hr : w.rowIs b 72 k F) (hu : But b w w1) : Hk w1 S hb ga ca gb cb gs cs gr cr vw gw lw gi ci fa fb fs fr ff := by
  have no : ∀ {c T' n G}, w.rowIs c T' n G → T' ≠ 72 → w1.rowIs c T' n G := fun hc t1 => hu.row (row_ne hc hr t1) hc
  exact ⟨no h.h (by decide), no h.a (by decide), no h.b (by decide), no h.s (by decide), no h.r (by decide), ⟨by
    rcases h.d.val with k | ⟨cw, f, e, k1, k2, k3, k4⟩
    · exact .inl k
    · exact .inr ⟨cw, f, e, k1, k2, no k3 (by decide), k4⟩, fun j hj => no (h.d.row j hj) (by decide), h.d.max, h.d.inj⟩, h.mx, h.ap, h.lo⟩
theorem Hi.butQ {w w1 : World} {S : Nat → Prop} {hb b k : Nat} {F : Nat → Value} (h : Hi w S hb) (hr : w.rowIs b 72 k F) (hu : But b w w1) : Hi w1 S hb := by
  rcases h with ⟨h, h1⟩ | ⟨ga, ca, gb, cb, gs, cs, gr, cr, vw, gw, lw, gi, ci, fa, fb, fs, fr, ff, h⟩
  · exact .inl ⟨hu.row (row_ne h hr (by decide)) h, h1⟩
  · exact .inr ⟨_, _, _, _, _, _, _, _, _, _, _, _, _, _, _, _, _, _, h.butQ hr hu⟩
set_option maxHeartbeats 6400000 in
set_option maxRecDepth 100000 in
theorem asked_any (S : Nat → Prop) (qb nq : Nat) (vg vh : Value) (mu : Int) (gg gh : Nat) (qa qc : Nat → Te) (hb : Nat) (kd n1 : Int) (m1 A : Nat) (n2 : Int) (m2 B : Nat) (l : List Int) (J : Nat) (n : Nat → Int) (m N : Nat → Nat) (fr to_ : Int) (aa : Option Addr) (ka : Nat) (ba : Option Addr) (kb : Nat) (la : Option Addr) (kl : Nat) (ra : Option Addr) (kr : Nat) (ad : Nat → Option Addr) (cp : Nat → Nat) (w : World)
    (hh : Hi w S hb) (hSz : ∀ x, S x → x < w.heap.size) (hq : Qk w S qb nq vg vh mu gg gh qa qc) (hm0 : 0 ≤ mu) (hm1 : mu ≤ 576460752303423488) (hn : nq < 4194304)
    (ho : Ow w ⟨kd, n1, m1, A, n2, m2, B, l, J, n, m, N, fr, to_⟩ aa ka ba kb la ra ad cp) (hob : Ob (fun x => S x ∨ w.heap.size ≤ x) ⟨kd, n1, m1, A, n2, m2, B, l, J, n, m, N, fr, to_⟩ aa ba la ra ad) (hla : la = none → l.length = 0 ∧ kl = 0) (hra : ra = none → J = 0 ∧ kr = 0) :
    Calls Try.prog 31 #[.pointer (some ⟨qb, 0, none⟩), .pointer (some ⟨hb, 0, none⟩), ov kd n1 aa m1 ka n2 ba m2 kb la l.length kl ra J kr fr to_] w fun e w' => e = .returned (.bool true) ∧ ∃ S' nq' vg' vh' mu' gg' gh' qa' qc', Hi w' S' hb ∧ (∀ x, S' x → S x ∨ w.heap.size ≤ x) ∧ (∀ x, S' x → x < w'.heap.size) ∧ Qk w' S' qb nq' vg' vh' mu' gg' gh' qa' qc' ∧ nq' ≤ nq + 1 ∧ 0 ≤ mu' ∧ mu' ≤ mu + 50000000 ∧ BP (fun x => S x ∨ Q0 qb gg gh vg vh x) w w' ∧ (∀ i, i < nq' → ∀ x, Ab (qa' i).ao (qa' i).so x → (∃ j, j < nq ∧ Ab (qa j).ao (qa j).so x) ∨ w.heap.size ≤ x) ∧ ∀ x, Q0 qb gg' gh' vg' vh' x → Q0 qb gg gh vg vh x ∨ w.heap.size ≤ x := by
  obtain ⟨r, hr⟩ := JS.ex J n m N
  have HGW : Hid ((vg ≠ .slice none 0 0 → gg < w.heap.size) ∧ (vh ≠ .slice none 0 0 → gh < w.heap.size)) := hid1 ⟨fun hn => by
    rcases hq.gl with ⟨e, _⟩ | ⟨_, _, _, _, _, r, _⟩
    · exact absurd e hn
    · exact r.lt, fun hn => by
    rcases hq.hl with ⟨e, _⟩ | ⟨_, _, _, _, _, r, _⟩
    · exact absurd e hn
    · exact r.lt⟩
  have HNE := hid1 hq.ne
  have HAW := hid1 (fun i (hi : i < nq) x hx => (hq.aa i hi x hx).2.1)
  have HH := hid1 hh
  have HSz := hid1 hSz
  have HQ := hid1 hq
  have HO := hid1 ho
  have HB := hid1 hob
  have HLA := hid1 hla
  have HRA := hid1 hra
  have HR := hid1 hr
  clear hh hSz hq ho hob hla hra hr
  go_enter Try.func31, Try.ntmps31
  go_upto_region 1 with fail
  refine gen_world (fun X => Below w.heap.size w X ∧ X.rowIs w.heap.size 55 9 (opf kd n1 aa m1 ka n2 ba m2 kb la l.length kl ra J kr fr to_)) ⟨bl_alloc (Below.refl _ _) _, op_new _ _ _ _ _ _ _ _ _ _ _ _ _ _ _ _ _ _ _⟩ ?_
  rintro X ⟨hX, rX⟩
  obtain ⟨o0, o1, o2, o3, o4, o5, o6, o7, o8⟩ := op_cells rX
  have hpX : BP (fun x => S x ∨ w.heap.size ≤ x) w X := BP.bel hX
  have HX := hid1 hX
  have HRX := hid1 rX
  have HPX := hid1 hpX
  clear hX rX hpX
  go_upto_region 2 with (go_at_call 24; refine (told_any kd n1 m1 A n2 m2 B l l.length rfl J n m N fr to_ r (fun x => S x ∨ w.heap.size ≤ x) hb aa ka ba kb la kl ra kr ad cp X HR.out (fun b k => .inr (Nat.le_trans HX.out.size k)) ((HH.out.below HX.out).mono fun _ k => .inl k) (HO.out.below HX.out) HB.out HLA.out HRA.out).mono ?_; rintro e x1 ⟨v, S', z, rfl, hto, hi1, hS1, hS2, hzz, hzx, hp1, hop⟩; obtain ⟨xo, xc, so, sc, rfl, t1, t2, t3, t4, t5, t6, t7, t8⟩ := hto)
  generalize ht : WS ⟨kd, n1, m1, A, n2, m2, B, l, J, n, m, N, fr, to_⟩ r = t at t1 t2 t3 t4 t7 t8
  have ro1 := hop _ _ _ HRX.out
  have hp2 : BP (fun x => S x ∨ w.heap.size ≤ x) w x1 := HPX.out.trans hp1 fun _ _ k => k
  have hq1 := ((HQ.out.re (S' := fun x => S x ∨ w.heap.size ≤ x) fun _ k => k).bp hp2).re (S' := S') fun x k => .inl (hS1 x k)
  have HT := hid1 ht
  have hqb : qb < w.heap.size := HQ.out.row.lt
  have HI1 := hid1 hi1
  have HS1 := hid1 hS1
  have HS2 := hid1 hS2
  have HP2 := hid1 hp2
  have HQ1 := hid1 hq1
  have hszw := HX.out.size
  have hx1w : w.heap.size ≤ x1.heap.size := HP2.out.size
  clear HH HQ HX HRX HPX hi1 hS1 hS2 hp1 hop hp2 hq1 ht o0 o1 o2 o3 o4 o5 o6 o7 o8
  refine gen_world (fun Y => Below x1.heap.size x1 Y ∧ Y.rowIs x1.heap.size 57 6 (tdf t.n xo t.m xc so t.l sc t.k t.mask t.e)) ⟨bl_alloc (Below.refl _ _) _, by rw [← HT.out]; exact tdf_new _ _ _ _ _ _ _ _ _ _ _ _⟩ ?_
  rintro Y ⟨hY, rY⟩
  have roY := keepr hY ro1
  obtain ⟨o0, o1, o2, o3, o4, o5, o6, o7, o8⟩ := op_cells roY
  have HY := hid1 hY
  have HRY := hid1 rY
  have T1 := hid1 (t1.below hY)
  have T3 := hid1 (t3.below hY)
  have T7 := hid1 (t7.below hY)
  have T8 := hid1 (t8.below hY)
  have HOY := hid1 ((HO.out.bp HP2.out HB.out).below hY)
  clear hY rY ro1 roY t1 t3 t7 t8
  go_upto_region 3 with (go_at_call 26; have hw := wanted_any ⟨kd, n1, m1, A, n2, m2, B, l, J, n, m, N, fr, to_⟩ r aa ka ba kb la kl ra kr ad cp Y HR.out HOY.out; rw [HT.out] at hw; refine hw.mono ?_; rintro e y1 ⟨v, rfl, hta, hb1⟩; obtain ⟨zo, zc, zs, zsc, rfl, u1, u2, u3, u4, u5, u6⟩ := hta)
  refine gen_world (fun Z => Below Y.heap.size Y Z ∧ y1.heap.size < Z.heap.size ∧ Z.rowIs y1.heap.size 57 6 (tdf t.n zo t.m zc zs t.l zsc t.k t.mask t.e) ∧ Ro Z zo t.m t.N ∧ Rs Z zs t.l (fun k => .int .i8 (t.f k))) ⟨bl_alloc hb1 _, by simp, tdf_new _ _ _ _ _ _ _ _ _ _ _ _, u1.below (bl_alloc (Below.refl _ _) _), u3.below (bl_alloc (Below.refl _ _) _)⟩ ?_
  rintro Z ⟨hZ, hzz2, rZ, v1, v3⟩
  have hxZ := bl_step HY.out hZ
  have hy1 := hb1.size
  have hYx : x1.heap.size < Y.heap.size := HRY.out.lt
  have HQZ := hid1 (HQ1.out.below hxZ)
  have HIZ := hid1 (HI1.out.below hxZ)
  have HPZ := hid1 ((HP2.out.step hxZ).narrow (T := fun x => S x ∨ Q0 qb gg gh vg vh x) fun x hx k => by
    rcases k with k | k
    · exact .inl k
    · omega)
  have R7 := hid1 (keepr hZ HRY.out)
  have R9 := hid1 rZ
  have A1 := hid1 (T1.out.below hZ)
  have A3 := hid1 (T3.out.below hZ)
  have A7 := hid1 (T7.out.below hZ)
  have A8 := hid1 (T8.out.below hZ)
  have V1 := hid1 v1
  have V3 := hid1 v3
  obtain ⟨b0, b1, b2, b3, b4, b5⟩ := tdf_cells rZ
  clear HQ1 HI1 HP2 HY HRY T1 T3 T7 T8 HOY hZ rZ v1 v3 u1 u3 hb1 hxZ o0 o1 o2 o3 o4 o5 o6 o7 o8
  have im0 : (0 : Int) ≤ (t.m : Int) := by omega
  have im1 : (t.m : Int) ≤ 262144 := by omega
  have il0 : (0 : Int) ≤ (t.l : Int) := by omega
  have il1 : (t.l : Int) ≤ 16777216 := by omega
  have NX : Hid (∀ p, xo = some p ∨ so = some p → ¬ p.block ≤ w.heap.size) := hid1 fun p hp => by
    rcases hp with hp | hp
    · have := t5 p hp; omega
    · have := t6 p hp; omega
  have NZ : Hid (∀ p, zo = some p ∨ zs = some p → ¬ p.block ≤ w.heap.size) := hid1 fun p hp => by
    rcases hp with hp | hp
    · have := u5 p hp; omega
    · have := u6 p hp; omega
  by_cases hov : 33554432 < mu + 400 + (1200 + 16 * (t.m : Int) + 2 * (t.l : Int))
  · go_wp2_with (first
      | (go_at_call 57; refine (qover_any qb vg vh mu (1200 + 16 * (t.m : Int) + 2 * (t.l : Int)) Z hm0 (by omega) (by omega) (by omega) HQZ.out.row).mono ?_; rintro e w4 ⟨rfl, hr4, hu4⟩; rw [decide_eq_true hov]; have s7 := hu4.row (row_ne R7.out HQZ.out.row (by decide)) R7.out; have s9 := hu4.row (row_ne R9.out HQZ.out.row (by decide)) R9.out; obtain ⟨d0, d1, d2, d3, d4, d5⟩ := tdf_cells s7; obtain ⟨e0, e1, e2, e3, e4, e5⟩ := tdf_cells s9; clear s7 s9)
      | (go_at_call 25; refine (eqTold_same t.n t.m t.N t.l t.f xo zo so zs xc zc sc zsc t.k t.mask t.e w4 (by omega) (by omega) (A1.out.bp (BP.but hu4) fun p hp _ e => NX.out p (.inl hp) (by omega)) (V1.out.bp (BP.but hu4) fun p hp _ e => NZ.out p (.inl hp) (by omega)) (A3.out.bp0 (BP.but hu4) fun p hp _ e => NX.out p (.inr hp) (by omega)) (V3.out.bp0 (BP.but hu4) fun p hp _ e => NZ.out p (.inr hp) (by omega))).mono ?_; rintro e w5 ⟨rfl, hb5⟩))
    go_ret
    refine ⟨rfl, S', nq, vg, vh, _, gg, gh, qa, qc, ((HIZ.out.butQ HQZ.out.row hu4).below hb5), HS1.out, fun x hx => ?_, (HQZ.out.onQ hr4 hu4).below hb5, by omega, by omega, by omega, ?_, fun i hi x hx => .inl ⟨i, hi, hx⟩, fun x hx => .inl hx⟩
    · have h1 := HS2.out x hx
      have h2 := hu4.size
      have h3 := hb5.size
      omega
    · exact (HPZ.out.trans (BP.but hu4) fun x _ e => .inr (.inl e)).step hb5
  · have hov' : ¬ 33554432 < mu + 400 + (1200 + 16 * (t.m : Int) + 2 * (t.l : Int)) := hov
    go_upto_region 4 with (go_at_call 57; refine (qover_any qb vg vh mu (1200 + 16 * (t.m : Int) + 2 * (t.l : Int)) Z hm0 (by omega) (by omega) (by omega) HQZ.out.row).mono ?_; rintro e V ⟨rfl, hr4, hu4⟩; rw [decide_eq_false hov])
    obtain ⟨muN, hmu⟩ : ∃ q, q = mu + 400 + (1200 + 16 * (t.m : Int) + 2 * (t.l : Int)) := ⟨_, rfl⟩
    rw [← hmu] at hr4
    have hqV := HQZ.out.onQ hr4 hu4
    have hiV := HIZ.out.butQ HQZ.out.row hu4
    have hpV := HPZ.out.trans (BP.but hu4) fun x _ e => .inr (.inl e)
    have s7 := hu4.row (row_ne R7.out HQZ.out.row (by decide)) R7.out
    have s9 := hu4.row (row_ne R9.out HQZ.out.row (by decide)) R9.out
    have a1 := A1.out.bp (BP.but hu4) fun p hp _ e => NX.out p (.inl hp) (by omega)
    have a3 := A3.out.bp0 (BP.but hu4) fun p hp _ e => NX.out p (.inr hp) (by omega)
    have a7 := A7.out.bp (BP.but hu4) fun p hp e => NX.out p (.inl hp) (by omega)
    have a8 := A8.out.bp (BP.but hu4) fun p hp e => NX.out p (.inr hp) (by omega)
    have v1 := V1.out.bp (BP.but hu4) fun p hp _ e => NZ.out p (.inl hp) (by omega)
    have v3 := V3.out.bp0 (BP.but hu4) fun p hp _ e => NZ.out p (.inr hp) (by omega)
    have hVZ := hu4.size
    clear HQZ HIZ HPZ R7 R9 A1 A3 A7 A8 V1 V3 hr4 hu4 b0 b1 b2 b3 b4 b5 hov hov'
    obtain ⟨wo, wcp, rfl⟩ : ∃ wo wcp, vg = .slice wo nq wcp := by
      rcases hqV.gl with ⟨e, e0⟩ | ⟨_, _, e, _⟩
      · rw [e0]; exact ⟨_, _, e⟩
      · exact ⟨_, _, e⟩
    obtain ⟨uo, ucp, rfl⟩ : ∃ wo wcp, vh = .slice wo nq wcp := by
      rcases hqV.hl with ⟨e, e0⟩ | ⟨_, _, e, _⟩
      · rw [e0]; exact ⟨_, _, e⟩
      · exact ⟨_, _, e⟩
    obtain ⟨i0, hi, hz0, hz1, hz2⟩ := info_parts info_told
    obtain ⟨gX, hmv, hgX⟩ := hqV.gl.mv
    have x0 : V.cell? ⟨qb, 0, none⟩ = some (.slice wo nq wcp) := hqV.row.cell (by omega)
    have f0 := hqV.row.frozen 0
    have hqbV := hqV.row.lt
    have hqbn : qb ≠ V.heap.size := by omega
    obtain ⟨d0, d1, d2, d3, d4, d5⟩ := tdf_cells s7
    have h7V := s7.lt
    have h7n : x1.heap.size ≠ V.heap.size := by omega
    have hqX : qb ≠ gX := by
      rcases hgX with h | ⟨h, _, c, f, r⟩
      · omega
      · rw [h]; exact row_ne hqV.row r (by decide)
    have OW := hid1 (fun (X : World) (hX : Below V.heap.size V X) => (hqV.gl.bp (BP.bel (S := fun _ => False) hX) (.inr fun k => k)).own)
    have MV := hid1 hmv
    have HGX := hid1 hgX
    have HQV := hid1 hqV
    have HIV := hid1 hiV
    have HPV := hid1 hpV
    have R7 := hid1 s7
    have R9 := hid1 s9
    have A1 := hid1 a1
    have A3 := hid1 a3
    have A7 := hid1 a7
    have A8 := hid1 a8
    have V1 := hid1 v1
    have V3 := hid1 v3
    clear hmv hgX hqV hiV hpV s7 s9 a1 a3 a7 a8 v1 v3
    go_cut [] (fun wx => ∃ gg' cg, wx.rowIs qb 72 3 (bkf (.slice (some ⟨gg', 0, none⟩) (nq + 1) cg) (.slice uo nq ucp) muN) ∧ Wt wx (.slice (some ⟨gg', 0, none⟩) (nq + 1) cg) gg' (nq + 1) (upd qa nq ⟨t, xo, xc, so, sc⟩) ∧ (gg' = gX ∨ V.heap.size ≤ gg') ∧ BP (fun b => b = qb ∨ b = gX) V wx)
    case first =>
      go_region_law (first
        | (refine step_append_own rfl (.tmp 36) (.tmp 38) 70 rfl 0 57 i0 (.agg #[.int .i64 0, .slice none 0 0, .slice none 0 0, .int .i64 0, .int .u64 0, .int .i64 0]) 6 80 und_tolds hi hz0 hz1 hz2 rfl (by decide) (.slice wo nq wcp) nq (rowL (fun p => tef (qa (p / 6)) (p % 6)) (nq * 6)) (by go_simp) (OW.out _ (by repeat (first | (with_reducible exact Below.refl _ _) | (with_reducible assumption) | (with_reducible refine Below.drew ?_) | (with_reducible refine bl_alloc ?_ _) | (with_reducible refine bl_drewN ?_ _)))) ⟨V.heap.size, 0, none⟩ 1 1 (rowL (tef ⟨t, xo, xc, so, sc⟩) 6) (by go_simp) rfl (cell_six_new V _ _ _ _ _ _ _ _ _ _ _ _ rfl) (one_six _) (by unfold maxLen; omega) (by omega) (Nat.zero_le _) ?_; intro v3 y3 hown3 hgrow3 hat3; have hmv3 : Mv V gX y3 v3 := ((MV.out V).bel (by repeat (first | (with_reducible exact Below.refl _ _) | (with_reducible assumption) | (with_reducible refine Below.drew ?_) | (with_reducible refine bl_alloc ?_ _) | (with_reducible refine bl_drewN ?_ _)))).app hgrow3 hat3; obtain ⟨g3, c3, f3, rfl, _, hle3, hmax3, hrow3, hf3⟩ := own6_row hown3 (by omega); have q3 := hmv3.but.row hqX HQV.out.row; have q30 : y3.cell? ⟨qb, 0, none⟩ = some (.slice wo nq wcp) := q3.cell (by omega); have q3f := q3.frozen 0; have Q3 := hid1 q3; have HM3 := hid1 hmv3; have HR3 := hid1 hrow3; have HF3 := hid1 hf3; clear hown3 hgrow3 hat3 hmv3 hrow3 hf3 q3))
      all_goals (refine meet_of (by assumption) ?_; go_meet; refine ⟨g3, c3, (Q3.out.set 0 _).congr fun q hq => ?_, Wt.grow (HR3.out.setOther (a := ⟨qb, 0, none⟩) (row_ne HR3.out Q3.out (by decide)) _) hle3 hmax3 HF3.out, mv_at HM3.out, ((BP.refl (fun b => b = qb ∨ b = gX) V).trans (BP.but HM3.out.but) fun _ _ e => .inr e).set (.inl (.inl rfl)) _⟩)
      all_goals (rcases (show q = 0 ∨ q = 1 ∨ q = 2 by omega) with rfl | rfl | rfl <;> rfl)
    case rest =>
      obtain ⟨gg', cg, rq1, gl1, hgg, hp1⟩ := hcut
      obtain ⟨U, rfl⟩ : ∃ U, U = wc := ⟨_, rfl⟩
      have hgXw : gX = V.heap.size ∨ (gX = gg ∧ gg < w.heap.size ∧ (.slice wo nq wcp : Value) ≠ .slice none 0 0) := by
        rcases HGX.out with h | ⟨h, h2, _⟩
        · exact .inl h
        · exact .inr ⟨h, HGW.out.1 h2, h2⟩
      have hVU := hp1.size
      have hlU : Wt U (.slice uo nq ucp) gh nq qc := by
        rcases HQV.out.hl with k | ⟨c, f, e, k1, k2, k3, k4⟩
        · exact .inl k
        · refine .inr ⟨c, f, e, k1, k2, hp1.row ?_ k3, k4⟩
          rintro (e1 | e1)
          · exact row_ne k3 HQV.out.row (by decide) e1
          · rcases hgXw with h | ⟨h, h2, h3⟩
            · have := k3.lt; omega
            · rcases HNE.out with h4 | h4 | h4
              · exact h3 h4
              · rw [e] at h4; injection h4 with h4; cases h4
              · exact h4 (h.symm.trans e1.symm)
      have far : ∀ b, w.heap.size ≤ b → b < V.heap.size → ¬ (b = qb ∨ b = gX) := fun b h1 h2 k => by
        rcases k with k | k
        · omega
        · rcases hgXw with h | ⟨h, h3, _⟩ <;> omega
      have s7 := hp1.row (far _ hx1w (R7.out.lt)) R7.out
      have s9 := hp1.row (far _ (by omega) (R9.out.lt)) R9.out
      have x5 : U.cell? ⟨qb, 1, none⟩ = some (.slice uo nq ucp) := rq1.cell (by omega)
      have f5 := rq1.frozen 1
      have hqbU := rq1.lt
      have hqbUn : qb ≠ U.heap.size := by omega
      obtain ⟨e0, e1, e2, e3, e4, e5⟩ := tdf_cells s9
      have h9U := s9.lt
      have h9n : y1.heap.size ≠ U.heap.size := by omega
      obtain ⟨gZ, hmv2, hgZ⟩ := hlU.mv
      have hqZ : qb ≠ gZ := by
        rcases hgZ with h | ⟨h, _, c, f, r⟩
        · omega
        · rw [h]; exact row_ne rq1 r (by decide)
      have hgZw : gZ = U.heap.size ∨ (gZ = gh ∧ gh < w.heap.size ∧ (.slice uo nq ucp : Value) ≠ .slice none 0 0) := by
        rcases hgZ with h | ⟨h, h2, _⟩
        · exact .inl h
        · exact .inr ⟨h, HGW.out.2 h2, h2⟩
      have OW2 := hid1 (fun (X : World) (hX : Below U.heap.size U X) => (hlU.bp (BP.bel (S := fun _ => False) hX) (.inr fun k => k)).own)
      have MV2 := hid1 hmv2
      have RQ1 := hid1 rq1
      have GL1 := hid1 gl1
      have HP1 := hid1 hp1
      have FAR := hid1 far
      have S7 := hid1 s7
      have S9 := hid1 s9
      have HGXW := hid1 hgXw
      have HGZW := hid1 hgZw
      have HGG := hid1 hgg
      clear hmv2 hgZ rq1 gl1 hp1 far s7 s9 hlU OW MV HGX R7 R9 hgXw hgZw hgg x0 f0 d0 d1 d2 d3 d4 d5
      go_upto_region 5 with fail
      go_cut [] (fun wx => ∃ gh' ch, wx.rowIs qb 72 3 (bkf (.slice (some ⟨gg', 0, none⟩) (nq + 1) cg) (.slice (some ⟨gh', 0, none⟩) (nq + 1) ch) muN) ∧ Wt wx (.slice (some ⟨gh', 0, none⟩) (nq + 1) ch) gh' (nq + 1) (upd qc nq ⟨t, zo, zc, zs, zsc⟩) ∧ (gh' = gZ ∨ U.heap.size ≤ gh') ∧ BP (fun b => b = qb ∨ b = gZ) U wx)
      case first =>
        go_region_law (first
          | (refine step_append_own rfl (.tmp 46) (.tmp 48) 70 rfl 0 57 i0 (.agg #[.int .i64 0, .slice none 0 0, .slice none 0 0, .int .i64 0, .int .u64 0, .int .i64 0]) 6 80 und_tolds hi hz0 hz1 hz2 rfl (by decide) (.slice uo nq ucp) nq (rowL (fun p => tef (qc (p / 6)) (p % 6)) (nq * 6)) (by go_simp) (OW2.out _ (by repeat (first | (with_reducible exact Below.refl _ _) | (with_reducible assumption) | (with_reducible refine Below.drew ?_) | (with_reducible refine bl_alloc ?_ _) | (with_reducible refine bl_drewN ?_ _)))) ⟨U.heap.size, 0, none⟩ 1 1 (rowL (tef ⟨t, zo, zc, zs, zsc⟩) 6) (by go_simp) rfl (cell_six_new U _ _ _ _ _ _ _ _ _ _ _ _ rfl) (one_six _) (by unfold maxLen; omega) (by omega) (Nat.zero_le _) ?_; intro v3 y3 hown3 hgrow3 hat3; have hmv3 : Mv U gZ y3 v3 := ((MV2.out U).bel (by repeat (first | (with_reducible exact Below.refl _ _) | (with_reducible assumption) | (with_reducible refine Below.drew ?_) | (with_reducible refine bl_alloc ?_ _) | (with_reducible refine bl_drewN ?_ _)))).app hgrow3 hat3; obtain ⟨g3, c3, f3, rfl, _, hle3, hmax3, hrow3, hf3⟩ := own6_row hown3 (by omega); have q3 := hmv3.but.row hqZ RQ1.out; have q30 : y3.cell? ⟨qb, 1, none⟩ = some (.slice uo nq ucp) := q3.cell (by omega); have q3f := q3.frozen 1; have Q3 := hid1 q3; have HM3 := hid1 hmv3; have HR3 := hid1 hrow3; have HF3 := hid1 hf3; clear hown3 hgrow3 hat3 hmv3 hrow3 hf3 q3))
        all_goals (refine meet_of (by assumption) ?_; go_meet; refine ⟨g3, c3, (Q3.out.set 1 _).congr fun q hq => ?_, Wt.grow (HR3.out.setOther (a := ⟨qb, 1, none⟩) (row_ne HR3.out Q3.out (by decide)) _) hle3 hmax3 HF3.out, mv_at HM3.out, ((BP.refl (fun b => b = qb ∨ b = gZ) U).trans (BP.but HM3.out.but) fun _ _ e => .inr e).set (.inl (.inl rfl)) _⟩)
        all_goals (rcases (show q = 0 ∨ q = 1 ∨ q = 2 by omega) with rfl | rfl | rfl <;> rfl)
      case rest =>
        obtain ⟨gh', ch, rq2, hl2, hghz, hp2⟩ := hcut
        obtain ⟨F, rfl⟩ : ∃ F, F = wc := ⟨_, rfl⟩
        have hUF := hp2.size
        have hzV : z < V.heap.size := by omega
        have Q0w : ∀ x, w.heap.size ≤ x → ¬ Q0 qb gg gh (.slice wo nq wcp) (.slice uo nq ucp) x := by
          rintro x hx (k | ⟨k, k2⟩ | ⟨k, k2⟩)
          · omega
          · have := HGW.out.1 k2; omega
          · have := HGW.out.2 k2; omega
        have hu : BP (fun x => x = qb ∨ x = gX ∨ x = gZ) V F := ((BP.refl (fun x => x = qb ∨ x = gX ∨ x = gZ) V).trans HP1.out fun x _ k => k.imp id .inl).trans hp2 fun x _ k => k.imp id .inr
        have hT : ∀ x, x < V.heap.size → (x = qb ∨ x = gX ∨ x = gZ) → Q0 qb gg gh (.slice wo nq wcp) (.slice uo nq ucp) x := by
          rintro x hx (k | k | k)
          · exact .inl k
          · rcases HGXW.out with h | ⟨h, _, h2⟩
            · omega
            · exact .inr (.inl ⟨k.trans h, h2⟩)
          · rcases HGZW.out with h | ⟨h, _, h2⟩
            · omega
            · exact .inr (.inr ⟨k.trans h, h2⟩)
        have nT : ∀ x, w.heap.size ≤ x → x < V.heap.size → ¬ (x = qb ∨ x = gX ∨ x = gZ) := fun x h1 h2 k => Q0w x h1 (hT x h2 k)
        have aX : ∀ x, Ab xo so x → x < V.heap.size := by
          rintro x (⟨p, e, rfl⟩ | ⟨p, e, rfl⟩)
          · rcases A7.out with ⟨e1, _⟩ | ⟨g, e1, _, r⟩
            · rw [e1] at e; cases e
            · rw [e1] at e; injection e with e; subst e; exact r.lt
          · rcases A8.out with ⟨e1, _⟩ | ⟨g, e1, _, r⟩
            · rw [e1] at e; cases e
            · rw [e1] at e; injection e with e; subst e; exact r.lt
        have aX2 : ∀ x, Ab xo so x → z < x ∧ w.heap.size < x := by
          rintro x (⟨p, e, rfl⟩ | ⟨p, e, rfl⟩)
          · have h1 := t5 p e; have h2 := NX.out p (.inl e); omega
          · have h1 := t6 p e; have h2 := NX.out p (.inr e); omega
        have aZ : ∀ x, Am zo zs t.m t.l x → x < V.heap.size := am_lt V1.out V3.out
        have aZ2 : ∀ x, Am zo zs t.m t.l x → z < x ∧ w.heap.size < x := by
          rintro x (⟨p, e, _, rfl⟩ | ⟨p, e, _, rfl⟩)
          · have h1 := u5 p e; have h2 := NZ.out p (.inl e); omega
          · have h1 := u6 p e; have h2 := NZ.out p (.inr e); omega
        have nS : ∀ x, z < x → ¬ S' x := fun x h k => by have := HS2.out x k; omega
        have ggU : gg' < U.heap.size := by
          rcases GL1.out with ⟨e, _⟩ | ⟨_, _, _, _, _, r, _⟩
          · injection e with e; cases e
          · exact r.lt
        have ggz : gg' ≠ gZ := by
          rcases HGZW.out with h | ⟨h, h2, h3⟩
          · omega
          · rcases HGG.out with k | k
            · rcases HGXW.out with k1 | ⟨k1, k2, k3⟩
              · omega
              · rcases HNE.out with k4 | k4 | k4
                · exact absurd k4 k3
                · exact absurd k4 h3
                · rw [k, k1, h]; exact k4
            · omega
        have glF : Wt F (.slice (some ⟨gg', 0, none⟩) (nq + 1) cg) gg' (nq + 1) (upd qa nq ⟨t, xo, xc, so, sc⟩) := by
          rcases GL1.out with k | ⟨c, f, e, k1, k2, k3, k4⟩
          · exact .inl k
          · refine .inr ⟨c, f, e, k1, k2, hp2.row ?_ k3, k4⟩
            rintro (e1 | e1)
            · exact row_ne k3 RQ1.out (by decide) e1
            · exact ggz e1
        have hgF : (gg' = gg ∧ (.slice wo nq wcp : Value) ≠ .slice none 0 0) ∨ V.heap.size ≤ gg' := by
          rcases HGG.out with k | k
          · rcases HGXW.out with k1 | ⟨k1, _, k3⟩
            · exact .inr (by omega)
            · exact .inl ⟨k.trans k1, k3⟩
          · exact .inr k
        have hhF : (gh' = gh ∧ (.slice uo nq ucp : Value) ≠ .slice none 0 0) ∨ V.heap.size ≤ gh' := by
          rcases hghz with k | k
          · rcases HGZW.out with k1 | ⟨k1, _, k3⟩
            · exact .inr (by omega)
            · exact .inl ⟨k.trans k1, k3⟩
          · exact .inr (by omega)
        have hneF : gg' ≠ gh' := by
          rcases hghz with k | k
          · rw [k]; exact ggz
          · omega
        have hqF := HQV.out.more (e1 := ⟨t, xo, xc, so, sc⟩) (e2 := ⟨t, zo, zc, zs, zsc⟩) (fun x k => by have := HS2.out x k; omega) hn hu hT rq2 glF hl2 rfl ⟨A7.out, A8.out⟩ ⟨A1.out, A3.out⟩ ⟨V1.out, V3.out⟩ ⟨t2, t4⟩ (fun x hx => ⟨nS x (aX2 x hx).1, aX x hx, Q0w x (Nat.le_of_lt (aX2 x hx).2)⟩) (fun x hx => ⟨nS x (aZ2 x hx).1, aZ x hx, Q0w x (Nat.le_of_lt (aZ2 x hx).2)⟩) (fun i hi x hx hy => by have h1 := (aX2 x hx).2; have h2 := HAW.out i hi x hy; omega) hgF hhF hneF
        have hiF : Hi F S' hb := HIV.out.bp hu fun x k1 k2 => by
          rcases hT x (by have := HS2.out x k1; omega) k2 with k | ⟨k, k3⟩ | ⟨k, k3⟩
          · exact HQV.out.ap.1 (by rw [← k]; exact k1)
          · rcases HQV.out.ap.2.1 with k4 | k4
            · exact k3 k4
            · exact k4 (by rw [← k]; exact k1)
          · rcases HQV.out.ap.2.2 with k4 | k4
            · exact k3 k4
            · exact k4 (by rw [← k]; exact k1)
        have hpF := HPV.out.trans hu fun x hx k => .inr (hT x (by omega) k)
        have s7F := hp2.row (fun k => k.elim (fun k => by omega) (fun k => by rcases HGZW.out with h | ⟨h, h2, _⟩ <;> omega)) S7.out
        have s9F := hp2.row (fun k => k.elim (fun k => by omega) (fun k => by rcases HGZW.out with h | ⟨h, h2, _⟩ <;> omega)) S9.out
        have a1F := A1.out.bp hu fun p hp h0 => nT _ (by have := aX2 _ (.inl ⟨p, hp, rfl⟩); omega) (aX _ (.inl ⟨p, hp, rfl⟩))
        have a3F := A3.out.bp0 hu fun p hp h0 => nT _ (by have := aX2 _ (.inr ⟨p, hp, rfl⟩); omega) (aX _ (.inr ⟨p, hp, rfl⟩))
        have v1F := V1.out.bp hu fun p hp h0 => nT _ (by have := aZ2 _ (.inl ⟨p, hp, h0, rfl⟩); omega) (aZ _ (.inl ⟨p, hp, h0, rfl⟩))
        have v3F := V3.out.bp0 hu fun p hp h0 => nT _ (by have := aZ2 _ (.inr ⟨p, hp, h0, rfl⟩); omega) (aZ _ (.inr ⟨p, hp, h0, rfl⟩))
        obtain ⟨d0, d1, d2, d3, d4, d5⟩ := tdf_cells s7F
        obtain ⟨c0, c1, c2, c3, c4, c5⟩ := tdf_cells s9F
        have QF := hid1 hqF
        have IF := hid1 hiF
        have PF := hid1 hpF
        have E1 := hid1 a1F
        have E3 := hid1 a3F
        have W1 := hid1 v1F
        have W3 := hid1 v3F
        have QN : Hid (∀ x, Q0 qb gg' gh' (.slice (some ⟨gg', 0, none⟩) (nq + 1) cg) (.slice (some ⟨gh', 0, none⟩) (nq + 1) ch) x → Q0 qb gg gh (.slice wo nq wcp) (.slice uo nq ucp) x ∨ w.heap.size ≤ x) := hid1 (by
          rintro x (k | ⟨k, _⟩ | ⟨k, _⟩)
          · exact .inl (.inl k)
          · rcases hgF with ⟨k1, k2⟩ | k1
            · exact .inl (.inr (.inl ⟨k.trans k1, k2⟩))
            · exact .inr (by omega)
          · rcases hhF with ⟨k1, k2⟩ | k1
            · exact .inl (.inr (.inr ⟨k.trans k1, k2⟩))
            · exact .inr (by omega))
        have AN : Hid (∀ i, i < nq + 1 → ∀ x, Ab (upd qa nq ⟨t, xo, xc, so, sc⟩ i).ao (upd qa nq ⟨t, xo, xc, so, sc⟩ i).so x → (∃ j, j < nq ∧ Ab (qa j).ao (qa j).so x) ∨ w.heap.size ≤ x) := hid1 fun i hi x hx => by
          by_cases e : i = nq
          · subst e; rw [upd_same] at hx; exact .inr (Nat.le_of_lt (aX2 x hx).2)
          · rw [upd_other _ _ _ e] at hx; exact .inl ⟨i, by omega, hx⟩
        clear hqF hiF hpF a1F a3F v1F v3F s7F s9F x5 f5 e0 e1 e2 e3 e4 e5 hu hT nT aX aX2 aZ aZ2 nS Q0w glF hgF hhF
        go_wp2_with (go_at_call 25; refine (eqTold_same t.n t.m t.N t.l t.f xo zo so zs xc zc sc zsc t.k t.mask t.e F (by omega) (by omega) E1.out W1.out E3.out W3.out).mono ?_; rintro e w5 ⟨rfl, hb5⟩)
        go_ret
        refine ⟨rfl, S', nq + 1, _, _, muN, gg', gh', _, _, IF.out.below hb5, HS1.out, fun x hx => ?_, QF.out.below hb5, by omega, by omega, by omega, PF.out.step hb5, AN.out, QN.out⟩
        have h1 := HS2.out x hx
        have h3 := hb5.size
        omega
end Go.Proofs.Yteghelmbibpohaa
/- Quiet.untouched. -/
namespace Go.Proofs.Yteghelmbibpohaa
open Go.RowKit

theorem tef_cells {w : World} {g n c : Nat} {f : Nat → Value} {a : Nat → Te} {i : Nat} (hr : w.rowIs g 57 (c * 6) f) (hf : ∀ p, p < n * 6 → f p = tef (a (p / 6)) (p % 6)) (hi : i < n) (hn : n ≤ c) :
    w.cell? ⟨g, i * 6, none⟩ = some (.int .i64 (a i).t.n) ∧ w.cell? ⟨g, i * 6 + 1, none⟩ = some (.slice (a i).ao (a i).t.m (a i).c) ∧ w.cell? ⟨g, i * 6 + 2, none⟩ = some (.slice (a i).so (a i).t.l (a i).sc) ∧ w.cell? ⟨g, i * 6 + 3, none⟩ = some (.int .i64 (a i).t.k) ∧ w.cell? ⟨g, i * 6 + 4, none⟩ = some (.int .u64 (a i).t.mask) ∧ w.cell? ⟨g, i * 6 + 5, none⟩ = some (.int .i64 (a i).t.e) := by
  have h : ∀ q, q < 6 → w.cell? ⟨g, i * 6 + q, none⟩ = some (tef (a i) q) := fun q hq => by
    have h1 := hr.cell (i := i * 6 + q) (by omega)
    rw [hf _ (by omega), show (i * 6 + q) / 6 = i by omega, show (i * 6 + q) % 6 = q by omega] at h1
    exact h1
  exact ⟨h 0 (by omega), h 1 (by omega), h 2 (by omega), h 3 (by omega), h 4 (by omega), h 5 (by omega)⟩
theorem Bk.less {w : World} {S S' : Nat → Prop} {bb n : Nat} {vw vs : Value} {mu : Int} {gw gs : Nat} {aw av : Nat → Option Addr} {lw ls cw cs : Nat → Nat} (h : Bk w S bb n vw vs mu gw gs aw av lw ls cw cs) (hS : ∀ x, S' x → S x) : Bk w S' bb n vw vs mu gw gs aw av lw ls cw cs :=
  ⟨h.row, h.wl, h.sl, h.ew, h.es, h.bw, h.bs, h.nb, fun k => h.ap.1 (hS _ k), h.ap.2.1.imp id fun k k2 => k (hS _ k2), h.ap.2.2.1.imp id fun k k2 => k (hS _ k2), fun j hj h0 p hp k => h.ap.2.2.2.1 j hj h0 p hp (hS _ k), fun j hj h0 p hp k => h.ap.2.2.2.2 j hj h0 p hp (hS _ k)⟩
/-- The old blocks that are none of the first k answers'. -/
def Sk (a : Nat → Te) (z k : Nat) : Nat → Prop := fun x => x < z ∧ ∀ i, i < k → ¬ Ab (a i).ao (a i).so x
theorem bk_new (w : World) (S : Nat → Prop) (hS : ¬ S w.heap.size) : Bk (w.alloc (.cells #[.slice none 0 0, .slice none 0 0, .int .i64 0] 67)) S w.heap.size 0 (.slice none 0 0) (.slice none 0 0) 0 0 0 (fun _ => none) (fun _ => none) (fun _ => 0) (fun _ => 0) (fun _ => 0) (fun _ => 0) :=
  ⟨World.rowIs_alloc w _ _ _ (fun i hi => by
    rcases i with _ | _ | _ | i
    all_goals first
      | rfl
      | (simp at hi; omega)), .inl ⟨rfl, rfl⟩, .inl ⟨rfl, rfl⟩, fun j hj => absurd hj (by omega), fun j hj => absurd hj (by omega), fun j hj => absurd hj (by omega), fun j hj => absurd hj (by omega), by omega, hS, .inl rfl, .inl rfl, fun j hj => absurd hj (by omega), fun j hj => absurd hj (by omega)⟩
set_option maxHeartbeats 6400000 in
set_option maxRecDepth 100000 in
theorem untouched_any (S : Nat → Prop) (qb n : Nat) (vg vh : Value) (mu : Int) (gg gh : Nat) (a b : Nat → Te) (w : World) (hn : n ≤ 2097152) (hq : Qk w S qb n vg vh mu gg gh a b) :
    Calls Try.prog 32 #[.pointer (some ⟨qb, 0, none⟩)] w fun e w' => e = .returned (.bool true) ∧ BP (fun x => ∃ i, i < n ∧ Ab (a i).ao (a i).so x) w w' := by
  obtain ⟨wo, wcp, rfl⟩ : ∃ wo wcp, vg = .slice wo n wcp := by
    rcases hq.gl with ⟨e, e0⟩ | ⟨_, _, e, _⟩
    · rw [e0]; exact ⟨_, _, e⟩
    · exact ⟨_, _, e⟩
  obtain ⟨uo, ucp, rfl⟩ : ∃ wo wcp, vh = .slice wo n wcp := by
    rcases hq.hl with ⟨e, e0⟩ | ⟨_, _, e, _⟩
    · rw [e0]; exact ⟨_, _, e⟩
    · exact ⟨_, _, e⟩
  have HQ := hid1 hq
  have in0 : (0 : Int) ≤ (n : Int) := by omega
  have in1 : (n : Int) ≤ 2097152 := by omega
  clear hq
  go_enter Try.func32, Try.ntmps32
  go_wp2_with fail
  go_loopw [3] (fun i wr => ∃ k : Nat, k ≤ n ∧ i = .int .i64 k ∧ Below w.heap.size w wr) (fun i _ => n - (intOf i).toNat)
  case atStart => exact ⟨0, Nat.zero_le _, rfl, Below.refl _ _⟩
  case round =>
    obtain ⟨k, hk, rfl, hB⟩ := hrel
    have ik0 : (0 : Int) ≤ (k : Int) := by omega
    have hb := HQ.out.below hB
    have x0 : wr.cell? ⟨qb, 0, none⟩ = some (.slice wo n wcp) := hb.row.cell (by omega)
    have x1 : wr.cell? ⟨qb, 1, none⟩ = some (.slice uo n ucp) := hb.row.cell (by omega)
    by_cases hlt : k < n
    · have ik : (k : Int) < (n : Int) := by omega
      obtain ⟨f, rfl, hle, r1, hf⟩ : ∃ f, wo = some ⟨gg, 0, none⟩ ∧ n ≤ wcp ∧ wr.rowIs gg 57 (wcp * 6) f ∧ ∀ p, p < n * 6 → f p = tef (a (p / 6)) (p % 6) := by
        rcases hb.gl with ⟨_, e⟩ | ⟨c', f, e, k1, k2, k3, k4⟩
        · omega
        · injection e with e1 e2 e3
          subst e3
          exact ⟨f, e1, k1, k3, k4⟩
      obtain ⟨f', rfl, hle', r1', hf'⟩ : ∃ f, uo = some ⟨gh, 0, none⟩ ∧ n ≤ ucp ∧ wr.rowIs gh 57 (ucp * 6) f ∧ ∀ p, p < n * 6 → f p = tef (b (p / 6)) (p % 6) := by
        rcases hb.hl with ⟨_, e⟩ | ⟨c', f, e, k1, k2, k3, k4⟩
        · omega
        · injection e with e1 e2 e3
          subst e3
          exact ⟨f, e1, k1, k3, k4⟩
      have ra := hb.ra k hlt
      have rb := hb.rb k hlt
      have tt := hb.tt k hlt
      have bd := hb.bd k hlt
      have ca := tef_cells r1 hf hlt hle
      have cb := tef_cells r1' hf' hlt hle'
      rw [tt] at cb
      generalize a k = e1 at *
      generalize b k = e2 at *
      obtain ⟨t, xo, xc, so, sc⟩ := e1
      obtain ⟨t', zo, zc, zs, zsc⟩ := e2
      simp only at ra rb bd ca cb
      obtain ⟨c0, c1, c2, c3, c4, c5⟩ := ca
      obtain ⟨d0, d1, d2, d3, d4, d5⟩ := cb
      have RA := hid1 ra
      have RB := hid1 rb
      have HBw := hid1 hB
      clear hb ra rb r1 r1' hf hf' hB tt
      go_upto_region 4 with fail
      refine still_tail 14 (by kernel_rfl) ?_
      simp only [List.take_succ_cons, List.take_zero, List.drop_succ_cons, List.drop_zero]
      repeat still_step
      refine wpStill_nil ?_
      go_wp2_with (go_at_call 25; refine gen_calls (fun X => Below wr.heap.size wr X) (Below.drew (Below.refl _ _)) ?_; intro X hX; refine (eqTold_same t.n t.m t.N t.l t.f xo zo so zs xc zc sc zsc t.k t.mask t.e X (by omega) (by omega) (RA.out.1.below hX) (RB.out.1.below hX) (RA.out.2.below hX) (RB.out.2.below hX)).mono ?_; rintro e w5 ⟨rfl, hb5⟩)
      exact ⟨⟨k + 1, by omega, by go_num, bl_step (bl_step HBw.out hX) hb5⟩, by simp [intOf]; omega⟩
    · have hkc : k = n := by omega
      subst hkc
      have HB := hid1 hB
      have HAx : Hid (∀ i, i < k → ∀ x, Ab (a i).ao (a i).so x → x < w.heap.size) := hid1 fun i hi x hx => (HQ.out.aa i hi x hx).2.1
      clear hb
      go_upto_region 7 with fail
      refine gen_world (fun Y => Below w.heap.size w Y ∧ Bk Y (Sk a w.heap.size 0) wr.heap.size 0 (.slice none 0 0) (.slice none 0 0) 0 0 0 (fun _ => none) (fun _ => none) (fun _ => 0) (fun _ => 0) (fun _ => 0) (fun _ => 0)) ⟨bl_alloc HB.out _, bk_new _ _ fun k => by have := k.1; have := HB.out.size; omega⟩ ?_
      rintro Y ⟨hY, hbk⟩
      have hbbw : w.heap.size ≤ wr.heap.size := HB.out.size
      have HY := hid1 (HQ.out.below hY)
      have HPY := hid1 (BP.bel hY : BP (fun x => ∃ i, i < k ∧ Ab (a i).ao (a i).so x) w Y)
      have HBK := hid1 hbk
      clear hY hbk HB hB x0 x1
      generalize wr.heap.size = bb at *
      go_wp2_with fail
      go_loopw [5] (fun i wy => ∃ q : Nat, q ≤ k ∧ i = .int .i64 q ∧ (∃ nb vw vs mu2 gw gs aw av lw ls cw cs, Bk wy (Sk a w.heap.size q) bb nb vw vs mu2 gw gs aw av lw ls cw cs ∧ nb ≤ q ∧ 0 ≤ mu2 ∧ mu2 ≤ (q : Int) * 50000000) ∧ wy.rowIs qb 72 3 (bkf (.slice wo k wcp) (.slice uo k ucp) mu) ∧ Wt wy (.slice wo k wcp) gg k a ∧ (∀ j, q ≤ j → j < k → Own wy 35 (a j).ao (a j).t.m (a j).c (wf (a j).t.N) ∧ Own wy 24 (a j).so (a j).t.l (a j).sc (fun k => .int .i8 ((a j).t.f k))) ∧ BP (fun x => ∃ i, i < k ∧ Ab (a i).ao (a i).so x) w wy) (fun i _ => k - (intOf i).toNat)
      case atStart => exact ⟨0, Nat.zero_le _, rfl, ⟨_, _, _, _, _, _, _, _, _, _, _, _, HBK.out, by omega, by omega, by omega⟩, HY.out.row, HY.out.gl, fun j _ hj => HY.out.ow j hj, HPY.out⟩
      case round =>
        clear HBK HY HPY
        obtain ⟨q, hqk, rfl, ⟨nb, vw, vs, mu2, gw, gs, aw, av, lw, ls, cw, cs, hbk, hnb, hmu0, hmu1⟩, hrow, hgl, how, hp⟩ := hrel
        have iq0 : (0 : Int) ≤ (q : Int) := by omega
        have x0 : wr.cell? ⟨qb, 0, none⟩ = some (.slice wo k wcp) := hrow.cell (by omega)
        by_cases hlt : q < k
        · have iq : (q : Int) < (k : Int) := by omega
          obtain ⟨f, rfl, hle, r1, hf⟩ : ∃ f, wo = some ⟨gg, 0, none⟩ ∧ k ≤ wcp ∧ wr.rowIs gg 57 (wcp * 6) f ∧ ∀ p, p < k * 6 → f p = tef (a (p / 6)) (p % 6) := by
            rcases hgl with ⟨_, e⟩ | ⟨c', f, e, k1, k2, k3, k4⟩
            · omega
            · injection e with e1 e2 e3
              subst e3
              exact ⟨f, e1, k1, k3, k4⟩
          obtain ⟨c0, c1, c2, c3, c4, c5⟩ := tef_cells r1 hf hlt hle
          have bd := HQ.out.bd q hlt
          have hbk1 := hbk.less (S' := Sk a w.heap.size (q + 1)) fun x h => ⟨h.1, fun i hi => h.2 i (by omega)⟩
          have inS : ∀ j, q < j → j < k → ∀ x, Ab (a j).ao (a j).so x → Sk a w.heap.size (q + 1) x := fun j h1 h2 x hx => ⟨HAx.out j h2 x hx, fun i hi k2 => HQ.out.dj j i h2 (by omega) (by omega) x hx k2⟩
          have inQ : ∀ x, Ab (a q).ao (a q).so x → Sk a w.heap.size q x := fun x hx => ⟨HAx.out q hlt x hx, fun i hi k2 => HQ.out.dj q i hlt (by omega) (by omega) x hx k2⟩
          have outS : ∀ x, Ab (a q).ao (a q).so x → ¬ Sk a w.heap.size (q + 1) x := fun x hx h => h.2 q (by omega) hx
          have tk := hid1 (take_any (Sk a w.heap.size (q + 1)) bb nb vw vs mu2 gw gs aw av lw ls cw cs (a q).t.n (a q).ao (a q).t.m (a q).c (a q).so (a q).t.l (a q).sc (a q).t.k (a q).t.mask (a q).t.e _ _ wr hbk1 hmu0 (by omega) (by omega) bd.1 bd.2 (how q (Nat.le_refl _) hlt).1 (how q (Nat.le_refl _) hlt).2 (fun x h => Nat.lt_of_lt_of_le h.1 hp.size) outS (fun j hj h0 p hp' h => hbk.ap.2.2.2.1 j hj h0 p hp' (inQ _ h)) (fun j hj h0 p hp' h => hbk.ap.2.2.2.2 j hj h0 p hp' (inQ _ h)))
          have HBK1 := hid1 hbk1
          have HOW := hid1 how
          have HROW := hid1 hrow
          have HGL := hid1 hgl
          have HP := hid1 hp
          have INS := hid1 inS
          have OUT := hid1 outS
          clear hbk hbk1 how hrow hgl hp inS inQ outS r1 hf
          go_wp2_with (go_at_call 29; refine tk.out.mono ?_; rintro e w5 ⟨rfl, nb', vw', vs', mu', gw', gs', aw', av', lw', ls', cw', cs', hbk', hn', hm', hm0', hp5⟩)
          have nT : ∀ x, (x = bb ∨ (x = gw ∧ vw ≠ .slice none 0 0) ∨ (x = gs ∧ vs ≠ .slice none 0 0) ∨ Ab (a q).ao (a q).so x) → ¬ Sk a w.heap.size (q + 1) x := by
            rintro x (e | ⟨e, e2⟩ | ⟨e, e2⟩ | e)
            · rw [e]; exact HBK1.out.ap.1
            · rw [e]; exact HBK1.out.ap.2.1.resolve_left e2
            · rw [e]; exact HBK1.out.ap.2.2.1.resolve_left e2
            · exact OUT.out x e
          have sq : Sk a w.heap.size (q + 1) qb := ⟨HQ.out.row.lt, fun i hi k2 => (HQ.out.aa i (by omega) _ k2).2.2 (.inl rfl)⟩
          have sg : Sk a w.heap.size (q + 1) gg := by
            rcases HQ.out.gl with ⟨e, _⟩ | ⟨_, _, _, _, _, r, _⟩
            · injection e with e; cases e
            · exact ⟨r.lt, fun i hi k2 => (HQ.out.aa i (by omega) _ k2).2.2 (.inr (.inl ⟨rfl, fun e => by injection e with e; cases e⟩))⟩
          refine ⟨⟨q + 1, by omega, by go_num, ⟨nb', vw', vs', mu', gw', gs', aw', av', lw', ls', cw', cs', hbk', by omega, hm0', by omega⟩, hp5.row (fun k2 => nT _ k2 sq) HROW.out, HGL.out.bp hp5 (.inr fun k2 => nT _ k2 sg), fun j h1 h2 => ⟨(HOW.out j (by omega) h2).1.bp hp5 fun p hp' k2 => nT _ k2 (INS.out j (by omega) h2 _ (.inl ⟨p, hp', rfl⟩)), (HOW.out j (by omega) h2).2.bp hp5 fun p hp' k2 => nT _ k2 (INS.out j (by omega) h2 _ (.inr ⟨p, hp', rfl⟩))⟩, HP.out.trans hp5 fun x hx k2 => ?_⟩, by simp [intOf]; omega⟩
          refine Classical.byContradiction fun hno => nT x k2 ⟨hx, fun i hi k3 => hno ⟨i, by omega, k3⟩⟩
        · have hqc : q = k := by omega
          subst hqc
          have HBKq := hid1 hbk
          have HP := hid1 hp
          clear hbk how hgl hp
          go_wp2_with (go_at_call 30; refine (whole_any _ bb nb vw vs mu2 gw gs aw av lw ls cw cs wr HBKq.out).mono ?_; rintro e w5 ⟨rfl, hb5⟩)
          go_ret
          exact ⟨rfl, HP.out.step hb5⟩
end Go.Proofs.Yteghelmbibpohaa
/- BitsFresh: what its loops stand on. -/
namespace Go.Proofs.Yteghelmbibpohaa
open Go.RowKit

section
variable {w w1 : World} {S S' : Nat → Prop} {bb n : Nat} {vw vs : Value} {mu : Int} {gw gs : Nat} {aw av : Nat → Option Addr} {lw ls cw cs : Nat → Nat}
theorem Bk.re (h : Bk w S bb n vw vs mu gw gs aw av lw ls cw cs) (hS : ∀ x, S' x → S x ∨ w.heap.size ≤ x) : Bk w S' bb n vw vs mu gw gs aw av lw ls cw cs := by
  have no : ∀ x, ¬ S x → x < w.heap.size → ¬ S' x := fun x h1 h2 h3 => by
    rcases hS x h3 with k | k
    · exact h1 k
    · omega
  refine ⟨h.row, h.wl, h.sl, h.ew, h.es, h.bw, h.bs, h.nb, no _ h.ap.1 h.row.lt, ?_, ?_, fun j hj h0 p hp => ?_, fun j hj h0 p hp => ?_⟩
  · rcases h.wl with ⟨e, _⟩ | ⟨_, _, e, _, _, r, _⟩
    · exact .inl e
    · exact h.ap.2.1.imp id fun k => no _ k r.lt
  · rcases h.sl with ⟨e, _⟩ | ⟨_, _, e, _, _, r, _⟩
    · exact .inl e
    · exact h.ap.2.2.1.imp id fun k => no _ k r.lt
  · obtain ⟨g, c, f, e, r, _⟩ := h.ew j hj h0
    rw [e] at hp; injection hp with hp; subst hp
    exact no _ (h.ap.2.2.2.1 j hj h0 _ e) r.lt
  · obtain ⟨g, c, f, e, r, _⟩ := h.es j hj h0
    rw [e] at hp; injection hp with hp; subst hp
    exact no _ (h.ap.2.2.2.2 j hj h0 _ e) r.lt
/-- The Book while Quiet's own blocks turn. -/
theorem Bk.quiet {qb nq : Nat} {vg vh : Value} {mq : Int} {gg gh : Nat} {a b : Nat → Te} {S2 : Nat → Prop} (h : Bk w S bb n vw vs mu gw gs aw av lw ls cw cs) (hq : Qk w S2 qb nq vg vh mq gg gh a b) (hs : ∀ x, S2 x → S x) (hu : BP (fun x => S2 x ∨ Q0 qb gg gh vg vh x) w w1) : Bk w1 S bb n vw vs mu gw gs aw av lw ls cw cs := by
  have nQ : ∀ {x T k F}, w.rowIs x T k F → T ≠ 72 → T ≠ 57 → ¬ Q0 qb gg gh vg vh x := by
    rintro x T k F r t1 t2 (e | ⟨e, e2⟩ | ⟨e, e2⟩)
    · subst e; exact row_ne r hq.row t1 rfl
    · rcases hq.gl with ⟨e3, _⟩ | ⟨_, _, _, _, _, r2, _⟩
      · exact e2 e3
      · subst e; exact row_ne r r2 t2 rfl
    · rcases hq.hl with ⟨e3, _⟩ | ⟨_, _, _, _, _, r2, _⟩
      · exact e2 e3
      · subst e; exact row_ne r r2 t2 rfl
  have up : ∀ {x T k F}, w.rowIs x T k F → T ≠ 72 → T ≠ 57 → ¬ S x → w1.rowIs x T k F := fun r t1 t2 ns => hu.row (fun k => k.elim (fun k => ns (hs _ k)) (nQ r t1 t2)) r
  refine ⟨up h.row (by decide) (by decide) h.ap.1, ?_, ?_, fun j hj h0 => ?_, fun j hj h0 => ?_, h.bw, h.bs, h.nb, h.ap⟩
  · rcases h.wl with k | ⟨c, f, e, k1, k2, k3, k4⟩
    · exact .inl k
    · exact .inr ⟨c, f, e, k1, k2, up k3 (by decide) (by decide) (h.ap.2.1.resolve_left (by rw [e]; intro e; injection e with e; cases e)), k4⟩
  · rcases h.sl with k | ⟨c, f, e, k1, k2, k3, k4⟩
    · exact .inl k
    · exact .inr ⟨c, f, e, k1, k2, up k3 (by decide) (by decide) (h.ap.2.2.1.resolve_left (by rw [e]; intro e; injection e with e; cases e)), k4⟩
  · obtain ⟨g, c, f, e, r, k1, k2⟩ := h.ew j hj h0
    exact ⟨g, c, f, e, up r (by decide) (by decide) (h.ap.2.2.2.1 j hj h0 _ e), k1, k2⟩
  · obtain ⟨g, c, f, e, r, k1, k2⟩ := h.es j hj h0
    exact ⟨g, c, f, e, up r (by decide) (by decide) (h.ap.2.2.2.2 j hj h0 _ e), k1, k2⟩
end
theorem kp15' {Y X : World} {T0 g o : Nat} {n : Int} {ao : Option Addr} {m c : Nat} {so : Option Addr} {sl sc : Nat} {k mask e : Int} {kd n1 : Int} {aa : Option Addr} {m1 ka : Nat} {n2 : Int} {bo : Option Addr} {m2 kb : Nat} {lo : Option Addr} {ll lc : Nat} {ro : Option Addr} {J rc : Nat} {fr to_ : Int}
    (h1 : Y.rowIs T0 57 6 (tdf n ao m c so sl sc k mask e)) (h2 : ∀ j, j < 9 → Y.cell? ⟨g, o + j, none⟩ = some (opf kd n1 aa m1 ka n2 bo m2 kb lo ll lc ro J rc fr to_ j)) (hb : Below Y.heap.size Y X) :
    (X.cell? ⟨T0, 0, none⟩ = some (.int .i64 n) ∧ X.cell? ⟨T0, 1, none⟩ = some (.slice ao m c) ∧ X.cell? ⟨T0, 2, none⟩ = some (.slice so sl sc) ∧ X.cell? ⟨T0, 3, none⟩ = some (.int .i64 k) ∧ X.cell? ⟨T0, 4, none⟩ = some (.int .u64 mask) ∧ X.cell? ⟨T0, 5, none⟩ = some (.int .i64 e)) ∧
    X.cell? ⟨g, o, none⟩ = some (.int .i64 kd) ∧ X.cell? ⟨g, o + 1, none⟩ = some (.int .i64 n1) ∧ X.cell? ⟨g, o + 2, none⟩ = some (.slice aa m1 ka) ∧ X.cell? ⟨g, o + 3, none⟩ = some (.int .i64 n2) ∧ X.cell? ⟨g, o + 4, none⟩ = some (.slice bo m2 kb) ∧ X.cell? ⟨g, o + 5, none⟩ = some (.slice lo ll lc) ∧ X.cell? ⟨g, o + 6, none⟩ = some (.slice ro J rc) ∧ X.cell? ⟨g, o + 7, none⟩ = some (.int .i64 fr) ∧ X.cell? ⟨g, o + 8, none⟩ = some (.int .i64 to_) :=
  ⟨tdf_cells (keepr hb h1), keepc hb (h2 0 (by omega)), keepc hb (h2 1 (by omega)), keepc hb (h2 2 (by omega)), keepc hb (h2 3 (by omega)), keepc hb (h2 4 (by omega)), keepc hb (h2 5 (by omega)), keepc hb (h2 6 (by omega)), keepc hb (h2 7 (by omega)), keepc hb (h2 8 (by omega))⟩
/-- The operations, in the memory that comes in. -/
def Lop (w : World) (ao : Option Addr) (K : Nat) : Prop := ∀ i, i < K → ∃ g off, ao = some ⟨g, off, none⟩ ∧ g < w.heap.size ∧ ∃ (kd n1 : Int) (m1 A : Nat) (n2 : Int) (m2 B : Nat) (l : List Int) (J : Nat) (n : Nat → Int) (m N : Nat → Nat) (fr to_ : Int) (aa : Option Addr) (ka : Nat) (ba : Option Addr) (kb : Nat) (la : Option Addr) (kl : Nat) (ra : Option Addr) (kr : Nat) (ad : Nat → Option Addr) (cp : Nat → Nat),
  (∀ j, j < 9 → w.cell? ⟨g, off + i * 9 + j, none⟩ = some (opf kd n1 aa m1 ka n2 ba m2 kb la l.length kl ra J kr fr to_ j)) ∧ Ow w ⟨kd, n1, m1, A, n2, m2, B, l, J, n, m, N, fr, to_⟩ aa ka ba kb la ra ad cp ∧ Ob (w.heap.size ≤ ·) ⟨kd, n1, m1, A, n2, m2, B, l, J, n, m, N, fr, to_⟩ aa ba la ra ad ∧ (la = none → l.length = 0 ∧ kl = 0) ∧ (ra = none → J = 0 ∧ kr = 0)
end Go.Proofs.Yteghelmbibpohaa
/- PARAMETERS THAT ARE OPERATIONS ON ROWS, of a bulk that is bounded. -/
namespace Go.Proofs.Yteghelmbibpohaa
open Go.ChangeShapes Go.WideShapes Go.ChangeAt Go.RowKit
set_option maxRecDepth 100000

theorem bk_pos {H : Type} (d : DataW H) : 0 < Rows.uptoBulk d := by
  rcases d with l | _ | _ | _ | _ | _ | _ | _
  · rcases l <;> simp [Rows.uptoBulk]
  all_goals simp [Rows.uptoBulk]
theorem bk_len {H : Type} : ∀ l : List (DataW H), l.length ≤ Rows.uptoBulkAll l
  | [] => by simp [Rows.uptoBulkAll]
  | d :: l => by
    have h1 := bk_pos d
    have h2 := bk_len l
    simp only [Rows.uptoBulkAll, List.length_cons]
    omega
theorem bk_mem {H : Type} {d : DataW H} : ∀ {l : List (DataW H)}, d ∈ l → Rows.uptoBulk d ≤ Rows.uptoBulkAll l
  | x :: l, h => by
    simp only [Rows.uptoBulkAll]
    rcases List.mem_cons.mp h with rfl | h
    · omega
    · have := bk_mem h; omega
theorem cells_u64 : Try.prog.cellsOf 35 = 1 := by kernel_rfl
theorem cells_bits : Try.prog.cellsOf 27 = 2 := by kernel_rfl
theorem cells_op : Try.prog.cellsOf 55 = 9 := by kernel_rfl
theorem cells_int : Try.prog.cellsOf 3 = 1 := by kernel_rfl
theorem cells_us : Try.prog.cellsOf 25 = 1 := by kernel_rfl
theorem cells_is : Try.prog.cellsOf 23 = 1 := by kernel_rfl
theorem cells_bs : Try.prog.cellsOf 51 = 1 := by kernel_rfl
theorem und_ops : Try.prog.underlying 48 = some (.slice 55) := by kernel_rfl
theorem add_at (b o n : Nat) : Addr.add ⟨b, o, none⟩ n = ⟨b, o + n, none⟩ := by
  unfold Addr.add
  by_cases h : n = 0
  · subst h; rfl
  · rw [if_neg h]
theorem u64_of_wf {x : Int} (h : (Lit.int .u64 x).wf = true) : 0 ≤ x ∧ x < 18446744073709551616 := by
  simp [Lit.wf, IntKind.min, IntKind.max, IntKind.signed, IntKind.bits] at h
  exact ⟨by omega, by omega⟩
/-- Words make a number. -/
theorem num_gen (B : Nat) (hB : 0 < B) (f : Nat → Nat) : ∀ m, (∀ k, k < m → f k < B) → ∃ N, N < B ^ m ∧ ∀ k, k < m → N / B ^ k % B = f k
  | 0, _ => ⟨0, by simp, fun k hk => absurd hk (by omega)⟩
  | m + 1, h => by
    obtain ⟨N, h1, h2⟩ := num_gen B hB f m fun k hk => h k (by omega)
    have hm := h m (by omega)
    have hp : 0 < B ^ m := Nat.pow_pos hB
    refine ⟨N + B ^ m * f m, ?_, fun k hk => ?_⟩
    · have h3 : B ^ m * (f m + 1) ≤ B ^ m * B := Nat.mul_le_mul_left _ (by omega)
      rw [Nat.mul_add, Nat.mul_one] at h3
      rw [Nat.pow_succ]
      omega
    · by_cases hkm : k = m
      · subst hkm
        rw [Nat.add_mul_div_left _ _ hp, Nat.div_eq_of_lt h1, Nat.zero_add, Nat.mod_eq_of_lt hm]
      · have hlt : k < m := by omega
        obtain ⟨q, rfl⟩ : ∃ q, m = k + (q + 1) := ⟨m - k - 1, by omega⟩
        have e : B ^ (k + (q + 1)) * f (k + (q + 1)) = B ^ k * (B * (B ^ q * f (k + (q + 1)))) := by
          rw [Nat.pow_add, Nat.pow_succ, Nat.mul_comm (B ^ q) B]
          simp only [Nat.mul_assoc]
        rw [e, Nat.add_mul_div_left _ _ (Nat.pow_pos hB), Nat.add_mul_mod_self_left]
        exact h2 k hlt
theorem num_of (f : Nat → Nat) (m : Nat) (h : ∀ k, k < m → f k < 18446744073709551616) : ∃ N, N < 2 ^ (64 * m) ∧ ∀ k, k < m → wd N k = f k := by
  obtain ⟨N, h1, h2⟩ := num_gen (2 ^ 64) (Nat.pow_pos (by decide)) f m (by rw [← two64]; exact h)
  refine ⟨N, by rw [Nat.pow_mul]; exact h1, fun k hk => ?_⟩
  have h3 := h2 k hk
  rw [← Nat.pow_mul, ← two64] at h3
  exact h3
section
variable {H : Type} {enc : TypeId × Value → H} {W : World} {fuel : Nat} {cs : List Value} {x : DataW H × List MemPlace}
theorem fldB {t : TypeId} {fs : Array Field} (ht : Try.prog.underlying t = some (.struct fs)) (h : DataW.trod enc Try.prog W 0 (fun _ => true) true fuel t cs = some x) (hz : Rows.uptoBulk x.1 ≤ 1048576) (i : Nat) (f : Field) (hi : fs[i]? = some f) :
    ∃ n y, DataW.trod enc Try.prog W 0 (fun _ => true) true n f.type ((cs.drop f.offset).take (Try.prog.cellsOf f.type)) = some y ∧ Rows.uptoBulk y.1 ≤ 1048576 := by
  obtain ⟨xs, n, _, ex, _, hxl, hf⟩ := DataW.trod_struct ht h
  have g := hf i f hi
  have hlt : i < xs.length := by
    rw [hxl]
    exact (Array.getElem?_eq_some_iff.1 hi).1
  rw [List.getElem?_eq_getElem hlt] at g
  refine ⟨n, _, g, ?_⟩
  have hm : xs[i].1 ∈ xs.map (·.1) := List.mem_map.mpr ⟨xs[i], List.getElem_mem hlt, rfl⟩
  have h1 := bk_mem hm
  rw [ex] at hz
  simp only [Rows.uptoBulk] at hz
  omega
theorem open_words (h : DataW.trod enc Try.prog W 0 (fun _ => true) true fuel 25 cs = some x) (hz : Rows.uptoBulk x.1 ≤ 1048576) :
    ∃ (ao : Option Addr) (m cap N : Nat), cs = [.slice ao m cap] ∧ m ≤ 1048576 ∧ Ro W ao m N ∧ (ao = none → m = 0 ∧ cap = 0) ∧ ∀ p, ao = some p → 0 < m → p.block < W.heap.size := by
  rcases open_ints und_u64s Try.underlying35 cells_u64 h with ⟨hc, hx⟩ | ⟨a, len, cap, zs, hc, _, hl, _, hzl, hx, hcell, hwf⟩
  · exact ⟨none, 0, 0, 0, hc, by omega, ⟨by simp, fun k hk => absurd hk (by omega)⟩, fun _ => ⟨rfl, rfl⟩, fun p hp => nomatch hp⟩
  · simp only [if_true] at hzl
    have hb : len ≤ 1048576 := by
      rw [hx] at hz
      simp only [Rows.uptoBulk] at hz
      have h1 := bk_len (lits (H := H) .u64 (zs.take len))
      have e : (lits (H := H) .u64 (zs.take len)).length = len := by simp [lits]; omega
      rw [e] at h1
      omega
    have hr : ∀ k, k < len → 0 ≤ zs.getD k 0 ∧ zs.getD k 0 < 18446744073709551616 := fun k hk => by
      have hk2 : k < zs.length := by omega
      have e : zs.getD k 0 = zs[k] := by simp [List.getD, hk2]
      rw [e]
      exact u64_of_wf (hwf _ (List.getElem_mem hk2))
    obtain ⟨N, hN, hNk⟩ := num_of (fun k => (zs.getD k 0).toNat) len fun k hk => by have := hr k hk; omega
    obtain ⟨b, o, s⟩ := a
    have at_ : ∀ k, k < len → s = none ∧ W.cell? ⟨b, o + k, none⟩ = some (wf N k) := fun k hk => by
      have c := hcell k (by omega)
      have c0 := hcell 0 (by omega)
      have hs := World.cell?_spot c0
      simp [Addr.add] at hs
      subst hs
      rw [add_at] at c
      refine ⟨rfl, ?_⟩
      rw [c]
      unfold wf
      rw [hNk k hk]
      have := hr k hk
      congr 2
      omega
    refine ⟨some ⟨b, o, s⟩, len, cap, N, hc, hb, ⟨hN, fun k hk => ?_⟩, fun e => (by cases e), fun p hp h0 => ?_⟩
    · obtain ⟨rfl, c⟩ := at_ k hk
      exact ⟨b, o, rfl, c⟩
    · obtain ⟨_, c⟩ := at_ 0 h0
      injection hp with hp
      subst hp
      exact lt_of_cell c
theorem open_signs (h : DataW.trod enc Try.prog W 0 (fun _ => true) true fuel 23 cs = some x) (hz : Rows.uptoBulk x.1 ≤ 1048576) :
    ∃ (ao : Option Addr) (l : List Int) (cap : Nat), cs = [.slice ao l.length cap] ∧ l.length ≤ 1048576 ∧ R8 W ao l ∧ (ao = none → l.length = 0 ∧ cap = 0) ∧ ∀ p, ao = some p → 0 < l.length → p.block < W.heap.size := by
  rcases open_ints und_i8s Try.underlying24 cells_i8 h with ⟨hc, hx⟩ | ⟨a, len, cap, zs, hc, _, hl, _, hzl, hx, hcell, hwf⟩
  · exact ⟨none, [], 0, hc, by simp, fun k hk => absurd hk (by simp), fun _ => ⟨rfl, rfl⟩, fun p hp => nomatch hp⟩
  · simp only [if_true] at hzl
    have hlen : (zs.take len).length = len := by simp; omega
    have hb : len ≤ 1048576 := by
      rw [hx] at hz
      simp only [Rows.uptoBulk] at hz
      have h1 := bk_len (lits (H := H) .i8 (zs.take len))
      have e : (lits (H := H) .i8 (zs.take len)).length = len := by simp [lits]; omega
      rw [e] at h1
      omega
    obtain ⟨b, o, s⟩ := a
    have at_ : ∀ k, k < len → s = none ∧ W.cell? ⟨b, o + k, none⟩ = some (.int .i8 (ia (zs.take len) k)) := fun k hk => by
      have c := hcell k (by omega)
      have c0 := hcell 0 (by omega)
      have hs := World.cell?_spot c0
      simp [Addr.add] at hs
      subst hs
      rw [add_at] at c
      have e1 : ia (zs.take len) k = zs.getD k 0 := ia_take hk
      exact ⟨rfl, by rw [c, e1]⟩
    refine ⟨some ⟨b, o, s⟩, zs.take len, cap, by rw [hlen]; exact hc, by rw [hlen]; exact hb, fun k hk => ?_, fun e => (by cases e), fun p hp h0 => ?_⟩
    · obtain ⟨rfl, c⟩ := at_ k (by omega)
      exact ⟨b, o, rfl, c⟩
    · obtain ⟨_, c⟩ := at_ 0 (by omega)
      injection hp with hp
      subst hp
      exact lt_of_cell c
theorem open_bits (h : DataW.trod enc Try.prog W 0 (fun _ => true) true fuel 27 cs = some x) (hz : Rows.uptoBulk x.1 ≤ 1048576) :
    ∃ (n : Int) (ao : Option Addr) (m cap N : Nat), cs = [.int .i64 n, .slice ao m cap] ∧ m ≤ 1048576 ∧ Ro W ao m N ∧ (ao = none → m = 0 ∧ cap = 0) ∧ ∀ p, ao = some p → 0 < m → p.block < W.heap.size := by
  have hl : cs.length = 2 := by
    obtain ⟨_, _, _, _, hlen, _, _⟩ := DataW.trod_struct Try.underlying27 h
    exact hlen.trans cells_bits
  obtain ⟨_, y0, t0, _⟩ := fldB Try.underlying27 h hz 0 _ rfl
  obtain ⟨_, y1, t1, b1⟩ := fldB Try.underlying27 h hz 1 _ rfl
  replace t0 : DataW.trod enc Try.prog W 0 (fun _ => true) true _ 3 ((cs.drop 0).take (Try.prog.cellsOf 3)) = some y0 := t0
  replace t1 : DataW.trod enc Try.prog W 0 (fun _ => true) true _ 25 ((cs.drop 1).take (Try.prog.cellsOf 25)) = some y1 := t1
  rw [cells_int] at t0
  rw [cells_us] at t1
  obtain ⟨z, e0, _, _⟩ := DataW.trod_int Try.underlying3 t0
  obtain ⟨ao, m, cap, N, e1, h1, h2, h3, h4⟩ := open_words t1 b1
  match cs, hl with
  | [a, b], _ =>
    simp at e0 e1
    subst e0 e1
    exact ⟨z, ao, m, cap, N, rfl, h1, h2, h3, h4⟩
theorem open_rows (h : DataW.trod enc Try.prog W 0 (fun _ => true) true fuel 51 cs = some x) (hz : Rows.uptoBulk x.1 ≤ 1048576) :
    ∃ (ro : Option Addr) (J cap : Nat) (n : Nat → Int) (m N : Nat → Nat) (ad : Nat → Option Addr) (cp : Nat → Nat), cs = [.slice ro J cap] ∧ J ≤ 1048576 ∧ Jo Ro W ro J n m N ad cp ∧ (∀ j, j < J → m j ≤ 1048576) ∧ (∀ j, j < J → ad j = none → m j = 0 ∧ cp j = 0) ∧ (ro = none → J = 0 ∧ cap = 0) ∧ (∀ p, ro = some p → 0 < J → p.block < W.heap.size) ∧ ∀ j, j < J → ∀ p, ad j = some p → 0 < m j → p.block < W.heap.size := by
  rcases Deep.open_slice und_bits h with ⟨hc, hx⟩ | ⟨a, len, cap, mm, nn, D, Pl, hc, _, hl, hm, hmm, hx, hcell⟩
  · exact ⟨none, 0, 0, fun _ => 0, fun _ => 0, fun _ => 0, fun _ => none, fun _ => 0, hc, by omega, ⟨fun j hj => absurd hj (by omega), fun j hj => absurd hj (by omega)⟩, fun j hj => absurd hj (by omega), fun j hj => absurd hj (by omega), fun _ => ⟨rfl, rfl⟩, fun p hp => (nomatch hp), fun j hj => absurd hj (by omega)⟩
  · simp only [if_true] at hmm
    obtain ⟨b, o, s⟩ := a
    have hd : x.1 = .slice ((List.range len).map D) ((List.range (mm - len)).map fun j => D (len + j)) := congrArg Prod.fst hx
    rw [hd] at hz
    simp only [Rows.uptoBulk] at hz
    have hb : len ≤ 1048576 := by
      have h1 := bk_len ((List.range len).map D)
      rw [List.length_map, List.length_range] at h1
      omega
    have each : ∀ j, j < len → ∃ q : Int × Option Addr × Nat × Nat × Nat, s = none ∧ W.cell? ⟨b, o + j * 2, none⟩ = some (.int .i64 q.1) ∧ W.cell? ⟨b, o + j * 2 + 1, none⟩ = some (.slice q.2.1 q.2.2.1 q.2.2.2.1) ∧ q.2.2.1 ≤ 1048576 ∧ Ro W q.2.1 q.2.2.1 q.2.2.2.2 ∧ (q.2.1 = none → q.2.2.1 = 0 ∧ q.2.2.2.1 = 0) ∧ ∀ p, q.2.1 = some p → 0 < q.2.2.1 → p.block < W.heap.size := fun j hj => by
      obtain ⟨cs1, h1, h2⟩ := hcell j (by omega)
      rw [cells_bits] at h1
      obtain ⟨_, hlen, hc1⟩ := World.cells?_some h1
      have hbj : Rows.uptoBulk (D j) ≤ 1048576 := by
        have h3 := bk_mem (List.mem_map.mpr ⟨j, List.mem_range.mpr hj, rfl⟩ : D j ∈ (List.range len).map D)
        omega
      obtain ⟨n, ao, m, cp, N, rfl, k1, k2, k3, k4⟩ := open_bits h2 hbj
      have e0 := hc1 0 (by decide)
      have e1 := hc1 1 (by decide)
      rw [Deep.add_add] at e0 e1
      have hs : s = none := by
        obtain ⟨cs0, h0, _⟩ := hcell 0 (by omega)
        rw [cells_bits] at h0
        obtain ⟨_, hlen0, hc0⟩ := World.cells?_some h0
        have e2 := hc0 0 (by decide)
        rw [Deep.add_add, List.getElem?_eq_getElem (by omega)] at e2
        have := World.cell?_spot e2
        simpa [Addr.add] using this
      subst hs
      rw [add_at] at e0 e1
      exact ⟨(n, ao, m, cp, N), rfl, e0, e1, k1, k2, k3, k4⟩
    obtain ⟨q, hq⟩ := Deep.choose_lt each
    refine ⟨some ⟨b, o, s⟩, len, cap, fun j => (q j).1, fun j => (q j).2.2.1, fun j => (q j).2.2.2.2, fun j => (q j).2.1, fun j => (q j).2.2.2.1, hc, hb, ⟨fun j hj => ?_, fun j hj => (hq j hj).2.2.2.2.1⟩, fun j hj => (hq j hj).2.2.2.1, fun j hj => (hq j hj).2.2.2.2.2.1, fun e => (by cases e), fun p hp h0 => ?_, fun j hj => (hq j hj).2.2.2.2.2.2⟩
    · obtain ⟨rfl, c, d, _⟩ := hq j hj
      exact ⟨b, o, rfl, c, d⟩
    · obtain ⟨_, c, _⟩ := hq 0 h0
      injection hp with hp
      subst hp
      exact lt_of_cell c
theorem len9 {l : List Value} (h : l.length = 9) : ∃ c0 c1 c2 c3 c4 c5 c6 c7 c8, l = [c0, c1, c2, c3, c4, c5, c6, c7, c8] := by
  match l, h with
  | [c0, c1, c2, c3, c4, c5, c6, c7, c8], _ => exact ⟨c0, c1, c2, c3, c4, c5, c6, c7, c8, rfl⟩
theorem open_op (h : DataW.trod enc Try.prog W 0 (fun _ => true) true fuel 55 cs = some x) (hz : Rows.uptoBulk x.1 ≤ 1048576) :
    ∃ (kd n1 : Int) (m1 A : Nat) (n2 : Int) (m2 B : Nat) (l : List Int) (J : Nat) (n : Nat → Int) (m N : Nat → Nat) (fr to_ : Int) (aa : Option Addr) (ka : Nat) (ba : Option Addr) (kb : Nat) (la : Option Addr) (kl : Nat) (ra : Option Addr) (kr : Nat) (ad : Nat → Option Addr) (cp : Nat → Nat),
      cs = [.int .i64 kd, .int .i64 n1, .slice aa m1 ka, .int .i64 n2, .slice ba m2 kb, .slice la l.length kl, .slice ra J kr, .int .i64 fr, .int .i64 to_] ∧ Ow W ⟨kd, n1, m1, A, n2, m2, B, l, J, n, m, N, fr, to_⟩ aa ka ba kb la ra ad cp ∧ Ob (W.heap.size ≤ ·) ⟨kd, n1, m1, A, n2, m2, B, l, J, n, m, N, fr, to_⟩ aa ba la ra ad ∧ (la = none → l.length = 0 ∧ kl = 0) ∧ (ra = none → J = 0 ∧ kr = 0) := by
  have hl : cs.length = 9 := by
    obtain ⟨_, _, _, _, hlen, _, _⟩ := DataW.trod_struct Try.underlying55 h
    exact hlen.trans cells_op
  obtain ⟨f0, y0, t0, _⟩ := fldB Try.underlying55 h hz 0 _ rfl
  obtain ⟨f1, y1, t1, b1⟩ := fldB Try.underlying55 h hz 1 _ rfl
  obtain ⟨f2, y2, t2, b2⟩ := fldB Try.underlying55 h hz 2 _ rfl
  obtain ⟨f3, y3, t3, b3⟩ := fldB Try.underlying55 h hz 3 _ rfl
  obtain ⟨f4, y4, t4, b4⟩ := fldB Try.underlying55 h hz 4 _ rfl
  obtain ⟨f5, y5, t5, _⟩ := fldB Try.underlying55 h hz 5 _ rfl
  obtain ⟨f6, y6, t6, _⟩ := fldB Try.underlying55 h hz 6 _ rfl
  replace t0 : DataW.trod enc Try.prog W 0 (fun _ => true) true f0 3 ((cs.drop 0).take (Try.prog.cellsOf 3)) = some y0 := t0
  replace t1 : DataW.trod enc Try.prog W 0 (fun _ => true) true f1 27 ((cs.drop 1).take (Try.prog.cellsOf 27)) = some y1 := t1
  replace t2 : DataW.trod enc Try.prog W 0 (fun _ => true) true f2 27 ((cs.drop 3).take (Try.prog.cellsOf 27)) = some y2 := t2
  replace t3 : DataW.trod enc Try.prog W 0 (fun _ => true) true f3 23 ((cs.drop 5).take (Try.prog.cellsOf 23)) = some y3 := t3
  replace t4 : DataW.trod enc Try.prog W 0 (fun _ => true) true f4 51 ((cs.drop 6).take (Try.prog.cellsOf 51)) = some y4 := t4
  replace t5 : DataW.trod enc Try.prog W 0 (fun _ => true) true f5 3 ((cs.drop 7).take (Try.prog.cellsOf 3)) = some y5 := t5
  replace t6 : DataW.trod enc Try.prog W 0 (fun _ => true) true f6 3 ((cs.drop 8).take (Try.prog.cellsOf 3)) = some y6 := t6
  rw [cells_int] at t0 t5 t6
  rw [cells_bits] at t1 t2
  rw [cells_is] at t3
  rw [cells_bs] at t4
  obtain ⟨kd, e0, _, _⟩ := DataW.trod_int Try.underlying3 t0
  obtain ⟨n1, aa, m1, ka, A, e1, p1, p2, p3, p4⟩ := open_bits t1 b1
  obtain ⟨n2, ba, m2, kb, B, e2, q1, q2, q3, q4⟩ := open_bits t2 b2
  obtain ⟨la, l, kl, e3, s1, s2, s3, s4⟩ := open_signs t3 b3
  obtain ⟨ra, J, kr, n, m, N, ad, cp, e4, r1, r2, r3, r4, r5, r6, r7⟩ := open_rows t4 b4
  obtain ⟨fr, e5, _, w5⟩ := DataW.trod_int Try.underlying3 t5
  obtain ⟨to_, e6, _, _⟩ := DataW.trod_int Try.underlying3 t6
  obtain ⟨c0, c1, c2, c3, c4, c5, c6, c7, c8, rfl⟩ := len9 hl
  simp at e0 e1 e2 e3 e4 e5 e6
  obtain ⟨rfl, rfl⟩ := e1
  obtain ⟨rfl, rfl⟩ := e2
  subst e0 e3 e4 e5 e6
  exact ⟨kd, n1, m1, A, n2, m2, B, l, J, n, m, N, fr, to_, aa, ka, ba, kb, la, kl, ra, kr, ad, cp, rfl, ⟨p2, p1, p3, q2, q1, q3, s2, s1, r2, r3, r4, r1, (i64_of_wf w5).2⟩, ⟨fun p hp h0 k => by have := p4 p hp h0; omega, fun p hp h0 k => by have := q4 p hp h0; omega, fun p hp h0 k => by have := s4 p hp h0; omega, fun p hp h0 k => by have := r6 p hp h0; omega, fun j hj p hp h0 k => by have := r7 j hj p hp h0; omega⟩, s3, r5⟩
end
end Go.Proofs.Yteghelmbibpohaa
/- A LIST OF OPERATIONS ON ROWS, opened. -/
namespace Go.Proofs.Yteghelmbibpohaa
open Go.ChangeShapes Go.WideShapes Go.ChangeAt Go.RowKit
set_option maxRecDepth 100000

theorem open_ops {H : Type} {enc : TypeId × Value → H} {W : World} {base : Nat} {v : Value} {d : DataW H} {p : List MemPlace}
    (hv : Value.okWide Try.prog W .any base 48 v) (h : DataW.Trod enc Try.prog W 0 (fun _ => true) true 48 v d p) (hz : Rows.uptoBulk d ≤ 1048576) :
    ∃ (ao : Option Addr) (K cap : Nat), v = .slice ao K cap ∧ K ≤ 1048576 ∧ Lop W ao K := by
  obtain ⟨a0, len, cap, rfl⟩ := okWide_slice und_ops hv
  obtain ⟨fuel, hf⟩ := h
  rcases Deep.open_slice und_ops hf with ⟨hc, hx⟩ | ⟨a, len', cap', mm, nn, D, Pl, hc, _, hl, hm, hmm, hx, hcell⟩
  · simp [Value.cells] at hc
    obtain ⟨rfl, rfl, rfl⟩ := hc
    exact ⟨none, 0, 0, rfl, by omega, fun i hi => absurd hi (by omega)⟩
  · simp [Value.cells] at hc
    obtain ⟨rfl, rfl, rfl⟩ := hc
    simp only [if_true] at hmm
    have hd : d = .slice ((List.range len).map D) ((List.range (mm - len)).map fun j => D (len + j)) := congrArg Prod.fst hx
    rw [hd] at hz
    simp only [Rows.uptoBulk] at hz
    have hb : len ≤ 1048576 := by
      have h1 := bk_len ((List.range len).map D)
      rw [List.length_map, List.length_range] at h1
      omega
    refine ⟨some a, len, cap, rfl, hb, fun k hk => ?_⟩
    obtain ⟨b, o, s⟩ := a
    obtain rfl : s = none := by
      obtain ⟨cs0, h0, _⟩ := hcell 0 (by omega)
      rw [cells_op] at h0
      obtain ⟨_, hlen0, hc0⟩ := World.cells?_some h0
      have e2 := hc0 0 (by decide)
      rw [Deep.add_add, List.getElem?_eq_getElem (by omega)] at e2
      have := World.cell?_spot e2
      simpa [Addr.add] using this
    obtain ⟨cs, h1, h2⟩ := hcell k (by omega)
    rw [cells_op] at h1
    obtain ⟨_, hlen, hc1⟩ := World.cells?_some h1
    have hbk : Rows.uptoBulk (D k) ≤ 1048576 := by
      have h3 := bk_mem (List.mem_map.mpr ⟨k, List.mem_range.mpr hk, rfl⟩ : D k ∈ (List.range len).map D)
      omega
    obtain ⟨kd, n1, m1, A, n2, m2, B, l, J, n, m, N, fr, to_, aa, ka, ba, kb, la, kl, ra, kr, ad, cp, rfl, k1, k2, k3, k4⟩ := open_op h2 hbk
    have cc : ∀ j, j < 9 → W.cell? ⟨b, o + k * 9 + j, none⟩ = some (opf kd n1 aa m1 ka n2 ba m2 kb la l.length kl ra J kr fr to_ j) := fun j hj => by
      have := hc1 j hj
      rw [Deep.add_add, add_at, ← Nat.add_assoc] at this
      rw [this]
      rcases (show j = 0 ∨ j = 1 ∨ j = 2 ∨ j = 3 ∨ j = 4 ∨ j = 5 ∨ j = 6 ∨ j = 7 ∨ j = 8 by omega) with rfl | rfl | rfl | rfl | rfl | rfl | rfl | rfl | rfl <;> rfl
    exact ⟨b, o, rfl, lt_of_cell (cc 0 (by omega)), kd, n1, m1, A, n2, m2, B, l, J, n, m, N, fr, to_, aa, ka, ba, kb, la, kl, ra, kr, ad, cp, cc, k1, k2, k3, k4⟩
end Go.Proofs.Yteghelmbibpohaa
/- BitsFresh, walked. -/
namespace Go.Proofs.Yteghelmbibpohaa
open Go.RowKit

theorem qk_new (w : World) (S : Nat → Prop) (hS : ¬ S w.heap.size) : Qk (w.alloc (.cells #[.slice none 0 0, .slice none 0 0, .int .i64 0] 72)) S w.heap.size 0 (.slice none 0 0) (.slice none 0 0) 0 0 0 (fun _ => ⟨tE 0, none, 0, none, 0⟩) (fun _ => ⟨tE 0, none, 0, none, 0⟩) :=
  ⟨World.rowIs_alloc w _ _ _ (fun i hi => by
    rcases i with _ | _ | _ | i
    all_goals first
      | rfl
      | (simp at hi; omega)), .inl ⟨rfl, rfl⟩, .inl ⟨rfl, rfl⟩, fun j hj => absurd hj (by omega), fun j hj => absurd hj (by omega), fun j hj => absurd hj (by omega), fun j hj => absurd hj (by omega), fun j hj => absurd hj (by omega), by omega, ⟨hS, .inl rfl, .inl rfl⟩, fun j hj => absurd hj (by omega), fun j hj => absurd hj (by omega), fun i j hi => absurd hi (by omega), .inl rfl⟩
/-- What one 'asked' leaves to the next. -/
theorem fresh_step {w wr w5 : World} {S S1 : Nat → Prop} {bb n : Nat} {vw vs : Value} {mu : Int} {gw gs : Nat} {aw av : Nat → Option Addr} {lw ls cw cs : Nat → Nat} {hb qb nq nq1 : Nat} {vg vh vg1 vh1 : Value} {mq mq1 : Int} {gg gh gg1 gh1 : Nat} {qa qc qa1 qc1 : Nat → Te}
    (hbk : Bk wr (fun x => S x ∨ x < w.heap.size) bb n vw vs mu gw gs aw av lw ls cw cs) (hq : Qk wr S qb nq vg vh mq gg gh qa qc) (hS : ∀ x, S x → w.heap.size ≤ x) (hab : ∀ i, i < nq → ∀ x, Ab (qa i).ao (qa i).so x → w.heap.size ≤ x) (hq0 : ∀ x, Q0 qb gg gh vg vh x → w.heap.size ≤ x) (hp : BP (w.heap.size ≤ ·) w wr)
    (_ji : Hi w5 S1 hb) (jS1 : ∀ x, S1 x → S x ∨ wr.heap.size ≤ x) (_jS2 : ∀ x, S1 x → x < w5.heap.size) (_jq : Qk w5 S1 qb nq1 vg1 vh1 mq1 gg1 gh1 qa1 qc1) (jp : BP (fun x => S x ∨ Q0 qb gg gh vg vh x) wr w5) (ja : ∀ i, i < nq1 → ∀ x, Ab (qa1 i).ao (qa1 i).so x → (∃ j, j < nq ∧ Ab (qa j).ao (qa j).so x) ∨ wr.heap.size ≤ x) (jq0 : ∀ x, Q0 qb gg1 gh1 vg1 vh1 x → Q0 qb gg gh vg vh x ∨ wr.heap.size ≤ x) :
    Bk w5 (fun x => S1 x ∨ x < w.heap.size) bb n vw vs mu gw gs aw av lw ls cw cs ∧ (∀ x, S1 x → w.heap.size ≤ x) ∧ (∀ i, i < nq1 → ∀ x, Ab (qa1 i).ao (qa1 i).so x → w.heap.size ≤ x) ∧ (∀ x, Q0 qb gg1 gh1 vg1 vh1 x → w.heap.size ≤ x) ∧ BP (w.heap.size ≤ ·) w w5 := by
  have hz := hp.size
  refine ⟨(Bk.quiet (S := fun x => (S x ∨ S1 x) ∨ x < w.heap.size) (hbk.re fun x k => ?_) hq (fun x k => .inl (.inl k)) jp).less fun x k => ?_, fun x k => ?_, fun i hi x hx => ?_, fun x hx => ?_, hp.trans jp fun x _ k => ?_⟩
  · rcases k with (k | k) | k
    · exact .inl (.inl k)
    · rcases jS1 x k with k | k
      · exact .inl (.inl k)
      · exact .inr k
    · exact .inl (.inr k)
  · rcases k with k | k
    · exact .inl (.inr k)
    · exact .inr k
  · rcases jS1 x k with k | k
    · exact hS x k
    · omega
  · rcases ja i hi x hx with ⟨j, hj, k⟩ | k
    · exact hab j hj x k
    · omega
  · rcases jq0 x hx with k | k
    · exact hq0 x k
    · omega
  · rcases k with k | k
    · exact hS x k
    · exact hq0 x k
set_option maxHeartbeats 6400000 in
set_option maxRecDepth 100000 in
theorem bitsFresh_any (ao : Option Addr) (K cap : Nat) (w : World) (hK : K ≤ 1048576) (h : Lop w ao K) :
    Calls Try.prog 8 #[.slice ao K cap] w fun e w' => e = .returned (.bool true) ∧ Below w.heap.size w w' := by
  have HL := hid1 h
  clear h
  have iK0 : (0 : Int) ≤ (K : Int) := by omega
  have iK1 : (K : Int) ≤ 1048576 := by omega
  go_enter Try.func8, Try.ntmps8
  go_upto_region 5 with (go_at_call 9; refine (begun_any _).mono ?_; rintro e w1 ⟨rfl, hb1⟩)
  refine gen_world (fun X => Hi X (fun x => x = w1.heap.size) w1.heap.size ∧ Bk X (fun x => x = w1.heap.size ∨ x < w.heap.size) (w1.heap.size + 1) 0 (.slice none 0 0) (.slice none 0 0) 0 0 0 (fun _ => none) (fun _ => none) (fun _ => 0) (fun _ => 0) (fun _ => 0) (fun _ => 0) ∧ BP (w.heap.size ≤ ·) w X ∧ w1.heap.size + 2 ≤ X.heap.size) ?_ ?_
  · have hsz := hb1.size
    refine ⟨.inl ⟨World.rowIs.alloc (World.rowIs_alloc w1 _ _ _ (fun i hi => ?_)) _, rfl⟩, ?_, ((BP.bel hb1).alloc _).alloc _, by simp⟩
    · rcases i with _ | _ | _ | _ | _ | i
      all_goals first
        | rfl
        | (simp at hi; omega)
    · have := bk_new (w1.alloc (.cells #[.slice none 0 0, .slice none 0 0, .slice none 0 0, .slice none 0 0, .slice none 0 0] 53)) (fun x => x = w1.heap.size ∨ x < w.heap.size) (by simp; omega)
      simpa using this
  rintro X ⟨hi0, hbk0, hp0, hz0⟩
  have HI := hid1 hi0
  have HBK := hid1 hbk0
  have HP := hid1 hp0
  have hw1 := hb1.size
  clear hi0 hp0 hbk0 hb1
  go_wp2_with fail
  go_loopw [5] (fun i wr => ∃ k : Nat, k ≤ K ∧ i = .int .i64 k ∧ (∃ S, Hi wr S w1.heap.size ∧ (∀ x, S x → w.heap.size ≤ x ∧ x < wr.heap.size) ∧ ∃ nb vw vs mu gw gs aw av lw ls cw cs, Bk wr (fun x => S x ∨ x < w.heap.size) (w1.heap.size + 1) nb vw vs mu gw gs aw av lw ls cw cs ∧ nb ≤ k ∧ 0 ≤ mu ∧ mu ≤ (k : Int) * 50000000) ∧ BP (w.heap.size ≤ ·) w wr) (fun i _ => K - (intOf i).toNat)
  case atStart => exact ⟨0, Nat.zero_le _, rfl, ⟨_, HI.out, fun x hx => ⟨by omega, by omega⟩, _, _, _, _, _, _, _, _, _, _, _, _, HBK.out, by omega, by omega, by omega⟩, HP.out⟩
  case round =>
    clear HI HBK HP
    obtain ⟨k, hk, rfl, ⟨S, hi0, hS, nb, vw, vs, mu, gw, gs, aw, av, lw, ls, cw, cs, hbk, hnb, hmu0, hmu1⟩, hp0⟩ := hrel
    have HI := hid1 hi0
    have HS := hid1 hS
    have HBK := hid1 hbk
    have HP := hid1 hp0
    clear hi0 hp0 hS hbk
    have ik0 : (0 : Int) ≤ (k : Int) := by omega
    by_cases hlt : k < K
    · have ik : (k : Int) < (K : Int) := by omega
      obtain ⟨g, off, rfl, hgw, kd, n1, m1, A, n2, m2, B, l, J, n, m, N, fr, to_, aa, ka, ba, kb, la, kl, ra, kr, ad, cp, hcs, how, hob, hla, hra⟩ := HL.out k hlt
      have hcs' : ∀ j, j < 9 → wr.cell? ⟨g, off + k * 9 + j, none⟩ = some (opf kd n1 aa m1 ka n2 ba m2 kb la l.length kl ra J kr fr to_ j) := fun j hj => HP.out.cell (by omega) (hcs j hj)
      have c0 : wr.cell? ⟨g, off + k * 9, none⟩ = some (.int .i64 kd) := hcs' 0 (by omega)
      have c1 : wr.cell? ⟨g, off + k * 9 + 1, none⟩ = some (.int .i64 n1) := hcs' 1 (by omega)
      have c2 : wr.cell? ⟨g, off + k * 9 + 2, none⟩ = some (.slice aa m1 ka) := hcs' 2 (by omega)
      have c3 : wr.cell? ⟨g, off + k * 9 + 3, none⟩ = some (.int .i64 n2) := hcs' 3 (by omega)
      have c4 : wr.cell? ⟨g, off + k * 9 + 4, none⟩ = some (.slice ba m2 kb) := hcs' 4 (by omega)
      have c5 : wr.cell? ⟨g, off + k * 9 + 5, none⟩ = some (.slice la l.length kl) := hcs' 5 (by omega)
      have c6 : wr.cell? ⟨g, off + k * 9 + 6, none⟩ = some (.slice ra J kr) := hcs' 6 (by omega)
      have c7 : wr.cell? ⟨g, off + k * 9 + 7, none⟩ = some (.int .i64 fr) := hcs' 7 (by omega)
      have c8 : wr.cell? ⟨g, off + k * 9 + 8, none⟩ = some (.int .i64 to_) := hcs' 8 (by omega)
      have HCS := hid1 hcs'
      have HO := hid1 how
      have HB := hid1 hob
      have HLA := hid1 hla
      have HRA := hid1 hra
      have HC0 := hid1 hcs
      clear how hob hla hra hcs hcs'
      obtain ⟨r, hr⟩ := JS.ex J n m N
      have HR := hid1 hr
      have HBm := hid1 (HB.out.mono (T := fun x => S x ∨ wr.heap.size ≤ x) fun x k2 => by
        rcases k2 with k2 | k2
        · exact (HS.out x k2).1
        · exact Nat.le_trans HP.out.size k2)
      clear hr
      go_upto_region 9 with (go_at_call 24; refine (told_any kd n1 m1 A n2 m2 B l l.length rfl J n m N fr to_ r (fun x => S x ∨ wr.heap.size ≤ x) w1.heap.size aa ka ba kb la kl ra kr ad cp wr HR.out (fun b k2 => .inr k2) (HI.out.mono fun _ k2 => .inl k2) (HO.out.bp HP.out HB.out) HBm.out HLA.out HRA.out).mono ?_; rintro e x1 ⟨v, S', z, rfl, hto, hi1, hS1, hS2, hzz, hzx, hp1, hop⟩; obtain ⟨xo, xc, so, sc, rfl, t1, t2, t3, t4, t5, t6, t7, t8⟩ := hto)
      generalize ht : WS ⟨kd, n1, m1, A, n2, m2, B, l, J, n, m, N, fr, to_⟩ r = t at t1 t2 t3 t4 t7 t8
      have hbx : Bk x1 (fun x => S' x ∨ x < w.heap.size) (w1.heap.size + 1) nb vw vs mu gw gs aw av lw ls cw cs := ((HBK.out.re (S' := fun x => (S x ∨ wr.heap.size ≤ x) ∨ x < w.heap.size) fun x k2 => by
        rcases k2 with (k2 | k2) | k2
        · exact .inl (.inl k2)
        · exact .inr k2
        · exact .inl (.inr k2)).bp (hp1.narrow fun _ _ k2 => .inl k2)).less fun x k2 => k2.imp (hS1 x) id
      have eb1 := hid1 (fun j (hj : j < 2 * nb) (h0 : 0 < lw j) p (hp : aw j = some p) (hx : Ab xo so p.block) => show False by
        obtain ⟨g, c, f, e, r, _⟩ := HBK.out.ew j hj h0
        rw [e] at hp; injection hp with hp; subst hp
        have h1 := r.lt
        rcases hx with ⟨p, e2, e3⟩ | ⟨p, e2, e3⟩
        · have := t5 p e2; simp only at e3; omega
        · have := t6 p e2; simp only at e3; omega)
      have eb2 := hid1 (fun j (hj : j < 2 * nb) (h0 : 0 < ls j) p (hp : av j = some p) (hx : Ab xo so p.block) => show False by
        obtain ⟨g, c, f, e, r, _⟩ := HBK.out.es j hj h0
        rw [e] at hp; injection hp with hp; subst hp
        have h1 := r.lt
        rcases hx with ⟨p, e2, e3⟩ | ⟨p, e2, e3⟩
        · have := t5 p e2; simp only at e3; omega
        · have := t6 p e2; simp only at e3; omega)
      have HT := hid1 ht
      have HI1 := hid1 hi1
      have HS1 := hid1 (fun x (hx : S' x) => show w.heap.size ≤ x ∧ x < z from ⟨by
        rcases hS1 x hx with k2 | k2
        · exact (HS.out x k2).1
        · exact Nat.le_trans HP.out.size k2, hS2 x hx⟩)
      have hwz : w.heap.size ≤ z := Nat.le_trans HP.out.size hzz
      have HP1 := hid1 (HP.out.trans hp1 fun x hx k2 => by
        rcases k2 with k2 | k2
        · exact (HS.out x k2).1
        · exact Nat.le_trans HP.out.size k2)
      have HBX := hid1 hbx
      clear HI HS HBK HP HBm hi1 hS1 hS2 hp1 hop ht hbx c0 c1 c2 c3 c4 c5 c6 c7 c8
      refine gen_world (fun Y => Below x1.heap.size x1 Y ∧ Y.rowIs x1.heap.size 57 6 (tdf t.n xo t.m xc so t.l sc t.k t.mask t.e)) ⟨bl_alloc (Below.refl _ _) _, by rw [← HT.out]; exact tdf_new _ _ _ _ _ _ _ _ _ _ _ _⟩ ?_
      rintro Y ⟨hY, rY⟩
      have hpY := HP1.out.step hY
      have HOY := hid1 (HO.out.bp hpY HB.out)
      have HCY := hid1 (fun j (hj : j < 9) => hpY.cell (by omega) (HC0.out j hj))
      have HTR := hid1 (t1.below hY)
      have HTS := hid1 (t3.below hY)
      have A7 := hid1 (t7.below hY)
      have A8 := hid1 (t8.below hY)
      have HRY := hid1 rY
      have HBY := hid1 (HBX.out.below hY)
      have HIY := hid1 (HI1.out.below hY)
      have HPY := hid1 hpY
      have hxY := hY.size
      clear HI1 HP1 HBX hpY rY t1 t3 t7 t8 hY
      go_cut [42] (fun s wx => s = .bool false ∧ Below Y.heap.size Y wx)
      case first =>
        go_region_held3 (fun X => (X.cell? ⟨x1.heap.size, 0, none⟩ = some (.int .i64 t.n) ∧ X.cell? ⟨x1.heap.size, 1, none⟩ = some (.slice xo t.m xc) ∧ X.cell? ⟨x1.heap.size, 2, none⟩ = some (.slice so t.l sc) ∧ X.cell? ⟨x1.heap.size, 3, none⟩ = some (.int .i64 t.k) ∧ X.cell? ⟨x1.heap.size, 4, none⟩ = some (.int .u64 t.mask) ∧ X.cell? ⟨x1.heap.size, 5, none⟩ = some (.int .i64 t.e)) ∧
          X.cell? ⟨g, off + k * 9, none⟩ = some (.int .i64 kd) ∧ X.cell? ⟨g, off + k * 9 + 1, none⟩ = some (.int .i64 n1) ∧ X.cell? ⟨g, off + k * 9 + 2, none⟩ = some (.slice aa m1 ka) ∧ X.cell? ⟨g, off + k * 9 + 3, none⟩ = some (.int .i64 n2) ∧ X.cell? ⟨g, off + k * 9 + 4, none⟩ = some (.slice ba m2 kb) ∧ X.cell? ⟨g, off + k * 9 + 5, none⟩ = some (.slice la l.length kl) ∧ X.cell? ⟨g, off + k * 9 + 6, none⟩ = some (.slice ra J kr) ∧ X.cell? ⟨g, off + k * 9 + 7, none⟩ = some (.int .i64 fr) ∧ X.cell? ⟨g, off + k * 9 + 8, none⟩ = some (.int .i64 to_)) (((try dsimp only); (with_reducible refine kp15' HRY.out HCY.out ?_); repeat (first | (with_reducible exact Below.refl _ _) | (with_reducible refine Below.drew ?_) | (with_reducible refine bl_drewN ?_ _) | (with_reducible refine bl_step ?_ (by assumption)))))
          (first
          | (go_at_call 25; refine (eqTold_same t.n t.m t.N t.l t.f xo zo so zs xc zc sc zsc t.k t.mask t.e y1 (by omega) (by omega) (HTR.out.below by1) u1 (HTS.out.below by1) u3).mono ?_; rintro e y2 ⟨rfl, hb2⟩)
          | (go_at_call 26; refine gen_calls (fun X => Below Y.heap.size Y X) (by repeat (first | (with_reducible exact Below.refl _ _) | (with_reducible refine Below.drew ?_) | (with_reducible refine bl_drewN ?_ _) | (with_reducible refine bl_step ?_ (by assumption)))) ?_; intro X hX; have hw := wanted_any ⟨kd, n1, m1, A, n2, m2, B, l, J, n, m, N, fr, to_⟩ r aa ka ba kb la kl ra kr ad cp X HR.out (HOY.out.below hX); rw [HT.out] at hw; refine hw.mono ?_; rintro e y1 ⟨v, rfl, hta, hb1⟩; obtain ⟨zo, zc, zs, zsc, rfl, u1, u2, u3, u4, u5, u6⟩ := hta; have by1 := bl_step hX hb1))
        all_goals (refine meet_of (by assumption) ?_; go_meet; exact ⟨rfl, bl_step by1 hb2⟩)
      case rest =>
        obtain ⟨rfl, hbV⟩ := hcut
        obtain ⟨V, rfl⟩ : ∃ V, V = wc := ⟨_, rfl⟩
        have rV := keepr hbV HRY.out
        obtain ⟨d0, d1, d2, d3, d4, d5⟩ := tdf_cells rV
        have hszV := hbV.size
        have aZ : ∀ x, Ab xo so x → z < x := by
          rintro x (⟨p, e, rfl⟩ | ⟨p, e, rfl⟩)
          · exact t5 p e
          · exact t6 p e
        have hA : ∀ x, Ab xo so x → ¬ (S' x ∨ x < w.heap.size) := fun x hx k2 => by
          have h1 := aZ x hx
          rcases k2 with k2 | k2
          · have := (HS1.out x k2).2; omega
          · omega
        have HBV := hid1 (HBY.out.below hbV)
        have HIV := hid1 (HIY.out.below hbV)
        have HPV := hid1 (HPY.out.step hbV)
        have HA := hid1 hA
        have AZ := hid1 aZ
        have tk := hid1 (take_any (fun x => S' x ∨ x < w.heap.size) (w1.heap.size + 1) nb vw vs mu gw gs aw av lw ls cw cs t.n xo t.m xc so t.l sc t.k t.mask t.e _ _ V HBV.out hmu0 (by omega) (by omega) t2 t4 (A7.out.below hbV) (A8.out.below hbV) (fun x k2 => by
          rcases k2 with k2 | k2
          · have := (HS1.out x k2).2; omega
          · omega) hA (fun j hj h0 p hp hx => eb1.out j hj h0 p hp hx) (fun j hj h0 p hp hx => eb2.out j hj h0 p hp hx))
        clear HBY HIY HPY HRY HCY HTR HTS A7 A8 HOY hA aZ rV hbV
        go_upto_region 12 with (go_at_call 29; refine tk.out.mono ?_; rintro e w5 ⟨rfl, nb', vw', vs', mu', gw', gs', aw', av', lw', ls', cw', cs', hbk', hn', hm', hm0', hp5⟩)
        have hT : ∀ x, (x = w1.heap.size + 1 ∨ (x = gw ∧ vw ≠ .slice none 0 0) ∨ (x = gs ∧ vs ≠ .slice none 0 0) ∨ Ab xo so x) → ¬ (S' x ∨ x < w.heap.size) := by
          rintro x (e | ⟨e, e2⟩ | ⟨e, e2⟩ | e)
          · rw [e]; exact HBV.out.ap.1
          · rw [e]; exact HBV.out.ap.2.1.resolve_left e2
          · rw [e]; exact HBV.out.ap.2.2.1.resolve_left e2
          · exact HA.out x e
        have hi5 := HIV.out.bp hp5 fun x k1 k2 => hT x k2 (.inl k1)
        have hpw := HPV.out.trans hp5 fun x hx k2 => absurd (.inr hx) (hT x k2)
        have hsz5 := hp5.size
        have HI5 := hid1 hi5
        have HP5 := hid1 hpw
        have HB5 := hid1 hbk'
        clear HIV HPV HBV tk hbk' hp5 hi5 hpw hT d0 d1 d2 d3 d4 d5
        have fin : ∀ w6 : World, Below w5.heap.size w5 w6 → (∃ S, Hi w6 S w1.heap.size ∧ (∀ x, S x → w.heap.size ≤ x ∧ x < w6.heap.size) ∧ ∃ nb vw vs mu gw gs aw av lw ls cw cs, Bk w6 (fun x => S x ∨ x < w.heap.size) (w1.heap.size + 1) nb vw vs mu gw gs aw av lw ls cw cs ∧ nb ≤ k + 1 ∧ 0 ≤ mu ∧ mu ≤ ((k + 1 : Nat) : Int) * 50000000) ∧ BP (w.heap.size ≤ ·) w w6 := fun w6 hb6 => ⟨⟨S', HI5.out.below hb6, fun x hx => ⟨(HS1.out x hx).1, by have := (HS1.out x hx).2; have := hb6.size; omega⟩, nb', vw', vs', mu', gw', gs', aw', av', lw', ls', cw', cs', HB5.out.below hb6, by omega, by omega, by omega⟩, HP5.out.step hb6⟩
        have FIN := hid1 fin
        clear fin
        by_cases h64 : (k : Int) % 64 = 0
        · go_wp2_with (go_at_call 30; refine (whole_any _ _ nb' vw' vs' mu' gw' gs' aw' av' lw' ls' cw' cs' w5 HB5.out).mono ?_; rintro e w6 ⟨rfl, hb6⟩)
          obtain ⟨f1, f2⟩ := FIN.out w6 hb6
          exact ⟨⟨k + 1, by omega, by go_num, f1, f2⟩, by simp [intOf]; omega⟩
        · have h64' : ¬ (k : Int) % 64 = 0 := h64
          go_wp2_with fail
          obtain ⟨f1, f2⟩ := FIN.out w5 (Below.refl _ _)
          exact ⟨⟨k + 1, by omega, by go_num, f1, f2⟩, by simp [intOf]; omega⟩
    · have hkc : k = K := by omega
      subst hkc
      go_upto_region 15 with fail
      obtain ⟨Wq, hWq⟩ : ∃ W, W = wr := ⟨_, rfl⟩
      subst hWq
      have hszQ := HP.out.size
      refine gen_world (fun Y => Below Wq.heap.size Wq Y ∧ Y.heap.size = Wq.heap.size + 1 ∧ Qk Y S Wq.heap.size 0 (.slice none 0 0) (.slice none 0 0) 0 0 0 (fun _ => ⟨tE 0, none, 0, none, 0⟩) (fun _ => ⟨tE 0, none, 0, none, 0⟩)) ⟨bl_alloc (Below.refl _ _) _, by simp, qk_new _ _ fun k2 => by have := (HS.out _ k2).2; omega⟩ ?_
      rintro Y ⟨hY, hzY, hqk⟩
      have HIY := hid1 (HI.out.below hY)
      have HBY := hid1 (HBK.out.below hY)
      have HPY := hid1 (HP.out.step hY)
      have HQY := hid1 hqk
      have HSY := hid1 (fun x (hx : S x) => show w.heap.size ≤ x ∧ x < Y.heap.size from ⟨(HS.out x hx).1, by have := (HS.out x hx).2; omega⟩)
      clear HI HBK HP HS hY hzY hqk
      generalize Wq.heap.size = qb at *
      go_wp2_with fail
      go_loopw [9] (fun i wr => ∃ q : Nat, q ≤ k ∧ i = .int .i64 q ∧ (∃ S, Hi wr S w1.heap.size ∧ (∀ x, S x → w.heap.size ≤ x ∧ x < wr.heap.size) ∧ Bk wr (fun x => S x ∨ x < w.heap.size) (w1.heap.size + 1) nb vw vs mu gw gs aw av lw ls cw cs ∧ ∃ nq vg vh mq gg gh qa qc, Qk wr S qb nq vg vh mq gg gh qa qc ∧ nq ≤ 2 * q ∧ 0 ≤ mq ∧ mq ≤ (q : Int) * 100000000 ∧ (∀ i, i < nq → ∀ x, Ab (qa i).ao (qa i).so x → w.heap.size ≤ x) ∧ ∀ x, Q0 qb gg gh vg vh x → w.heap.size ≤ x) ∧ BP (w.heap.size ≤ ·) w wr) (fun i _ => k - (intOf i).toNat)
      case atStart => exact ⟨0, Nat.zero_le _, rfl, ⟨S, HIY.out, HSY.out, HBY.out, 0, _, _, _, _, _, _, _, HQY.out, by omega, by omega, by omega, fun i hi => absurd hi (by omega), fun x hx => by
        rcases hx with e | ⟨_, e⟩ | ⟨_, e⟩
        · omega
        · exact absurd rfl e
        · exact absurd rfl e⟩, HPY.out⟩
      case round =>
        clear HIY HBY HPY HQY HSY
        obtain ⟨q, hqk, rfl, ⟨S, hi0, hS, hbk, nq, vg, vh, mq, gg, gh, qa, qc, hq, hnq, hm0, hm1, hab, hq0⟩, hp0⟩ := hrel
        have HI := hid1 hi0
        have HS := hid1 hS
        have HBK := hid1 hbk
        have HQ := hid1 hq
        have HAB := hid1 hab
        have HQ0 := hid1 hq0
        have HP := hid1 hp0
        clear hi0 hS hbk hq hab hq0 hp0
        have iq0 : (0 : Int) ≤ (q : Int) := by omega
        by_cases hqlt : q < k
        · have iq : (q : Int) < (k : Int) := by omega
          obtain ⟨g, off, rfl, hgw, kd, n1, m1, A, n2, m2, B, l, J, n, m, N, fr, to_, aa, ka, ba, kb, la, kl, ra, kr, ad, cp, hcs, how, hob, hla, hra⟩ := HL.out q hqlt
          have hcs' : ∀ j, j < 9 → wr.cell? ⟨g, off + q * 9 + j, none⟩ = some (opf kd n1 aa m1 ka n2 ba m2 kb la l.length kl ra J kr fr to_ j) := fun j hj => HP.out.cell (by omega) (hcs j hj)
          have c0 : wr.cell? ⟨g, off + q * 9, none⟩ = some (.int .i64 kd) := hcs' 0 (by omega)
          have c1 : wr.cell? ⟨g, off + q * 9 + 1, none⟩ = some (.int .i64 n1) := hcs' 1 (by omega)
          have c2 : wr.cell? ⟨g, off + q * 9 + 2, none⟩ = some (.slice aa m1 ka) := hcs' 2 (by omega)
          have c3 : wr.cell? ⟨g, off + q * 9 + 3, none⟩ = some (.int .i64 n2) := hcs' 3 (by omega)
          have c4 : wr.cell? ⟨g, off + q * 9 + 4, none⟩ = some (.slice ba m2 kb) := hcs' 4 (by omega)
          have c5 : wr.cell? ⟨g, off + q * 9 + 5, none⟩ = some (.slice la l.length kl) := hcs' 5 (by omega)
          have c6 : wr.cell? ⟨g, off + q * 9 + 6, none⟩ = some (.slice ra J kr) := hcs' 6 (by omega)
          have c7 : wr.cell? ⟨g, off + q * 9 + 7, none⟩ = some (.int .i64 fr) := hcs' 7 (by omega)
          have c8 : wr.cell? ⟨g, off + q * 9 + 8, none⟩ = some (.int .i64 to_) := hcs' 8 (by omega)
          have HCS := hid1 hcs'
          have HO := hid1 how
          have HB := hid1 hob
          have HLA := hid1 hla
          have HRA := hid1 hra
          have HC0 := hid1 hcs
          clear how hob hla hra hcs hcs'
          have obm : ∀ (wz : World) (S2 : Nat → Prop), w.heap.size ≤ wz.heap.size → (∀ x, S2 x → w.heap.size ≤ x) → Ob (fun x => S2 x ∨ wz.heap.size ≤ x) ⟨kd, n1, m1, A, n2, m2, B, l, J, n, m, N, fr, to_⟩ aa ba la ra ad := fun wz S2 h1 h2 => HB.out.mono fun x k2 => by
            rcases k2 with k2 | k2
            · exact h2 x k2
            · exact Nat.le_trans h1 k2
          have OBM := hid1 obm
          clear obm
          have AK1 := hid1 (asked_any S qb nq vg vh mq gg gh qa qc w1.heap.size kd n1 m1 A n2 m2 B l J n m N fr to_ aa ka ba kb la kl ra kr ad cp wr HI.out (fun x hx => (HS.out x hx).2) HQ.out hm0 (by omega) (by omega) (HO.out.bp HP.out HB.out) (OBM.out wr S HP.out.size fun x hx => (HS.out x hx).1) HLA.out HRA.out)
          go_wp2_with (first
            | (go_at_call 31; refine AK2.out.mono ?_; rintro e w6 ⟨rfl, S2, nq2, vg2, vh2, mq2, gg2, gh2, qa2, qc2, ji2, jS12, jS22, jq2, jn2, jm02, jm12, jp2, ja2, jq02⟩)
            | (go_at_call 31; refine AK1.out.mono ?_; rintro e w5 ⟨rfl, S1, nq1, vg1, vh1, mq1, gg1, gh1, qa1, qc1, ji, jS1, jS2, jq, jn, jm0, jm1, jp, ja, jq0⟩; have st := hid1 (fresh_step HBK.out HQ.out (fun x hx => (HS.out x hx).1) HAB.out HQ0.out HP.out ji jS1 jS2 jq jp ja jq0); have hp5 := hid1 st.out.2.2.2.2; have cc5 := hid1 (fun j (hj : j < 9) => hp5.out.cell (by omega) (HC0.out j hj)); have e0 : w5.cell? ⟨g, off + q * 9, none⟩ = some (.int .i64 kd) := cc5.out 0 (by omega); have e1 : w5.cell? ⟨g, off + q * 9 + 1, none⟩ = some (.int .i64 n1) := cc5.out 1 (by omega); have e2 : w5.cell? ⟨g, off + q * 9 + 2, none⟩ = some (.slice aa m1 ka) := cc5.out 2 (by omega); have e3 : w5.cell? ⟨g, off + q * 9 + 3, none⟩ = some (.int .i64 n2) := cc5.out 3 (by omega); have e4 : w5.cell? ⟨g, off + q * 9 + 4, none⟩ = some (.slice ba m2 kb) := cc5.out 4 (by omega); have e5 : w5.cell? ⟨g, off + q * 9 + 5, none⟩ = some (.slice la l.length kl) := cc5.out 5 (by omega); have e6 : w5.cell? ⟨g, off + q * 9 + 6, none⟩ = some (.slice ra J kr) := cc5.out 6 (by omega); have e7 : w5.cell? ⟨g, off + q * 9 + 7, none⟩ = some (.int .i64 fr) := cc5.out 7 (by omega); have e8 : w5.cell? ⟨g, off + q * 9 + 8, none⟩ = some (.int .i64 to_) := cc5.out 8 (by omega); have AK2 := hid1 (asked_any S1 qb nq1 vg1 vh1 mq1 gg1 gh1 qa1 qc1 w1.heap.size kd n1 m1 A n2 m2 B l J n m N fr to_ aa ka ba kb la kl ra kr ad cp w5 ji jS2 jq jm0 (by omega) (by omega) (HO.out.bp hp5.out HB.out) (OBM.out w5 S1 hp5.out.size fun x hx => st.out.2.1 x hx) HLA.out HRA.out); have JQ := hid1 jq; clear ji jS1 jS2 jq jp ja jq0))
          have st2 := fresh_step st.out.1 JQ.out st.out.2.1 st.out.2.2.1 st.out.2.2.2.1 hp5.out ji2 jS12 jS22 jq2 jp2 ja2 jq02
          exact ⟨⟨q + 1, by omega, by go_num, ⟨S2, ji2, fun x hx => ⟨st2.2.1 x hx, jS22 x hx⟩, st2.1, nq2, vg2, vh2, mq2, gg2, gh2, qa2, qc2, jq2, by omega, by omega, by omega, st2.2.2.1, st2.2.2.2.1⟩, st2.2.2.2.2⟩, by simp [intOf]; omega⟩
        · have hqc : q = k := by omega
          subst hqc
          go_wp2_with (first
            | (go_at_call 32; refine (untouched_any S qb nq vg vh mq gg gh qa qc w6 (by omega) (HQ.out.below hb6)).mono ?_; rintro e w7 ⟨rfl, hp7⟩)
            | (go_at_call 30; refine (whole_any _ _ nb vw vs mu gw gs aw av lw ls cw cs wr HBK.out).mono ?_; rintro e w6 ⟨rfl, hb6⟩))
          go_ret
          have hp := (HP.out.step hb6).trans hp7 fun x _ k2 => by
            obtain ⟨i, hi, k3⟩ := k2
            exact HAB.out i hi x k3
          exact ⟨rfl, hp.os, hp.tape, hp.output, hp.size, fun b hb => hp.block b hb (by omega)⟩
end Go.Proofs.Yteghelmbibpohaa
namespace Go.Proofs.Yteghelmbibpohaa
open Go.ChangeShapes Go.WideShapes Go.ChangeAt Go.RowKit

set_option maxRecDepth 100000 in
theorem bitsFreshUpto_lifted (os : Os) (started : os.Started) (H : Type) (enc : TypeId × Value → H) (F : Stop.Interp) :
    ReturnsInHanded {} Try.checked os 8 .any ((Rows.OpenSpec.upto Rows.bitsFreshSpec).pre6 enc Try.prog Try.f8 Rows.bitsFreshUptoRow.domain false) (((Rows.OpenSpec.upto Rows.bitsFreshSpec).at F).post enc Try.prog Try.f8 false true false false) := by
  refine returnsInHanded_of_cond (C := Try.checked) (s := Rows.OpenSpec.upto Rows.bitsFreshSpec) (k := Rows.uptoSmall) rfl own started (by kernel_rfl) Try.func8
    (OpenSpec.witness (enc := enc) (C := Try.checked) (s := Rows.OpenSpec.upto Rows.bitsFreshSpec) (k := Rows.uptoSmall) rfl false ⟨#[], #[.slice none 0 0], []⟩ 8 (by kernel_rfl) (by kernel_rfl) (by kernel_rfl)
      (x := ([.nil], [], [])) (by kernel_rfl) rfl (by kernel_rfl)) ?_
  intro W base args ds gs before hval0 hW _ hk _
  have hval : ∀ (j : Nat) t v, Try.f8.params[j]? = some t → args[j]? = some v → Value.okWide Try.prog W .any base t v := hval0
  have hW' := hW
  obtain ⟨p, q, hA0, hV, rfl, hfz, hnd⟩ := hW
  have hA : DataW.TrodAll enc Try.prog W 0 (fun _ => true) true Try.f8.params.toList args.toList ds p := hA0
  rw [Try.params8] at hA hval
  obtain ⟨v0, vs0, d0, ds0, p0, q0, hargs, rfl, rfl, h0, r0⟩ := trodAll_cons hA
  obtain ⟨rfl, rfl, rfl⟩ := trodAll_nil r0
  obtain rfl : args = #[v0] := by cases args; simp_all
  obtain ⟨rfl, rfl⟩ := trodVars_none hV
  have lt0 : ∀ x ∈ p0, x.block < W.heap.size := by obtain ⟨m, hm⟩ := h0; exact DataW.trod_lt m _ _ _ hm
  have k0 := h0
  have hz : Rows.uptoBulk d0 ≤ 1048576 := by
    have h : Rows.uptoBulkAll ([d0] ++ []) ≤ 1048576 := of_decide_eq_true hk
    simp only [List.append_nil, Rows.uptoBulkAll] at h
    omega
  obtain ⟨ao, K, cap, rfl, hK, hL⟩ := open_ops (hval 0 48 v0 rfl rfl) h0 hz
  clear hA0 hval0
  refine (bitsFresh_any ao K cap W hK hL).mono fun e W' ⟨he, bel⟩ => ?_
  subst he
  exact ⟨_, rfl, _, _, _, [], _, [], hW', trodAll_mk1 (shut_bool Try.underlying4 _), (trodAll_cons_mk (Below.trod laidOut (by kernel_rfl) (of_decide_eq_true (by kernel_rfl)) k0 bel lt0) trodAll_mk0), rfl, bel.frame _, fun h => by cases h⟩

theorem bitsFreshUpto_holds : Rows.BitsFreshUptoSaid :=
  OpenClaim.holds_of_cond 8 Try.f8 rfl rfl rfl rfl rfl rfl rfl ⟨rfl, rfl, rfl, rfl, rfl⟩ rfl rfl rfl rfl rfl (by kernel_rfl) Try.func8 (by kernel_rfl)
    (of_decide_eq_true (by kernel_rfl)) (by unfold Func.isWrapper; first | (rw [if_pos (by decide +kernel)]; kernel_rfl) | (rw [if_neg (by decide +kernel)]; exact ⟨rfl, rfl⟩))
    (fun os started H enc _ F => bitsFreshUpto_lifted os started H enc F)
#print axioms bitsFreshUpto_holds
end Go.Proofs.Yteghelmbibpohaa
