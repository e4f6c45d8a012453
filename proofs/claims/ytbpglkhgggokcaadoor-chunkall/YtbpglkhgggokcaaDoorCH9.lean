/- CHUNKALL: wanted of Kind 3; all of wanted. -/
import Derived.Test.YtbpglkhgggokcaaDoorCH3
import Derived.Test.YtbpglkhgggokcaaDoorCH8
namespace Go.Proofs.YtbpglkhgggokcaaDoor
open Go.RowKit

/-- The chunks that are answered. -/
def rdL (m : Nat) (l : List Nat) : List Ck := if readE m l = 0 then readV l else []
theorem rread_u (m : Nat) (ao : Option Addr) (cap : Nat) (l : List Nat) (w : World) (hb : By w ao l) (hc : l.length ≤ cap) (hc2 : cap ≤ 9223372036854775807) :
    Calls Tryd.prog 21 #[.int .u32 m, .slice ao l.length cap] w fun x w' => ∃ co n cp xs, x = .returned (.tuple #[.slice co n cp, .int .i64 (readE m l : Nat)]) ∧ n = (rdL m l).length ∧ Fw w' w.heap.size (.slice co n cp) xs (rdL m l) ∧ Below w.heap.size w w' := by
  refine (rread_any m ao cap l w hb hc hc2).mono ?_
  rintro x w' ⟨h1, h2, h3⟩
  unfold rdL
  by_cases e : readE m l = 0
  · obtain ⟨v, xs, rfl, hf⟩ := h1 e
    obtain ⟨lo, cp, rfl, _⟩ := hf.cs
    rw [if_pos e]
    exact ⟨lo, _, cp, xs, by rw [e]; rfl, rfl, hf, h3⟩
  · rw [if_neg e, h2 e]
    exact ⟨none, 0, 0, [], rfl, rfl, Fw.nil _ _, h3⟩
theorem CsO.sub0 {w : World} {S T : Nat → Prop} {lo : Option Addr} {cs : List Ck} (h : CsO w S lo cs) (hT : ∀ b, T b → S b) : CsO w T lo cs := fun j l hj => by
  obtain ⟨gl, ol, ao, c, e, k0, k, y, ht, s1, s2⟩ := h j l hj
  exact ⟨gl, ol, ao, c, e, k0, k, y, ht, fun h => s1 (hT _ h), fun p hp hl h => s2 p hp hl (hT _ h)⟩
theorem fw_cso {W : World} {z : Nat} {v : Value} {xs : List Value} {pre : List Ck} (h : Fw W z v xs pre) : ∃ lo cap, v = .slice lo pre.length cap ∧ CsO W (· < z) lo pre := by
  obtain ⟨lo, cap, ev, hcs⟩ := h.cs
  refine ⟨lo, cap, ev, fun j c hj => ?_⟩
  obtain ⟨gl, ol, ao, cp, e, k0, k1, y, ht, _⟩ := hcs j c hj
  obtain ⟨bv, x0, x1, ho, _, _⟩ := h.body j c hj
  have hlo := (h.own.lt gl (by rw [ev, e]; rfl)).1
  have hjl : j < pre.length := by
    refine Classical.byContradiction fun hn => ?_
    rw [List.getElem?_eq_none (by omega)] at hj
    exact absurd hj (by simp)
  have ebv : bv = .slice ao c.2.length cp := by
    subst ev
    subst e
    rcases h.own.2 with ⟨e1, _⟩ | ⟨g, cc, cur, e1, _⟩
    · injection e1 with e1; cases e1
    · injection e1 with e1 _ _
      injection e1 with e1
      injection e1 with e1 e2
      subst e1 e2
      have h9 := h.own.cellAt (j * 2 + 1) (by omega)
      rw [Nat.zero_add] at k1
      rw [k1, x1] at h9
      injection h9 with h9
      exact h9.symm
  refine ⟨gl, ol, ao, cp, e, k0, k1, y, ht, by omega, fun p hp hl => ?_⟩
  have := (ho.lt p.block (by rw [ebv, hp]; rfl)).1
  omega
set_option maxHeartbeats 1600000 in
set_option maxRecDepth 100000 in
theorem wanted_read (lo : Option Addr) (ln lc m : Nat) (co : Option Addr) (cn cc : Nat) (bo : Option Addr) (bc : Nat) (l : List Nat) (w : World) (h : By w bo l) (hc : l.length ≤ bc) (hc2 : bc ≤ 9223372036854775807) :
    Calls Tryd.prog 7 #[ov 3 lo ln lc m co cn cc bo l.length bc] w fun e w' => ∃ a c, e = .returned (tld none 0 0 a (rdL m l).length c 0 (readE m l : Nat)) ∧ Cs w' a (rdL m l) ∧ CsO w' (· < w.heap.size) a (rdL m l) ∧ Below w.heap.size w w' := by
  have RR := hid1 (fun W (hW : Below w.heap.size w W) => rread_u m bo bc l W (h.keep hW) hc hc2)
  obtain ⟨bn, ebn⟩ : ∃ n, l.length = n := ⟨_, rfl⟩
  obtain ⟨E, eE⟩ : ∃ n, readE m l = n := ⟨_, rfl⟩
  obtain ⟨R, eR⟩ : ∃ n, rdL m l = n := ⟨_, rfl⟩
  rw [ebn, eE, eR] at RR
  rw [ebn, eE, eR]
  clear h hc hc2 ebn eE eR
  go_enter Tryd.func7, Tryd.ntmps7
  go_wp2_with fail
  refine gen_calls (fun W => Below w.heap.size w W ∧ W.rowIs (w.heap.size + 1) 33 4 tzf ∧ W.rowIs (w.heap.size + 1 + 1) 33 4 tzf) ⟨bl_alloc (bl_alloc (bl_alloc (Below.refl _ _) _) _) _, ?_, ?_⟩ ?_
  · have h := (tz_new (w.alloc (.cells #[.int .i64 3, .slice lo ln lc, .int .u32 m, .slice co cn cc, .slice bo bn bc] 37)) 33).alloc (.cells #[.slice none 0 0, .slice none 0 0, .int .u32 0, .int .i64 0] 33)
    simpa using h
  · have h := tz_new ((w.alloc (.cells #[.int .i64 3, .slice lo ln lc, .int .u32 m, .slice co cn cc, .slice bo bn bc] 37)).alloc (.cells #[.slice none 0 0, .slice none 0 0, .int .u32 0, .int .i64 0] 33)) 33
    simpa using h
  · rintro W ⟨B0, r2, r3⟩
    refine (RR.out W B0).mono ?_
    rintro e w1 ⟨a, n, c, xs, rfl, en, o1, bl1⟩
    have Y1 := hid1 o1
    have ZW := hid1 B0.size
    have EN := hid1 en
    have zr := r3.lt
    have B1 := bl_step B0 bl1
    replace r2 := keepr bl1 r2
    replace r3 := keepr bl1 r3
    clear o1 bl1 B0 en
    obtain ⟨b1, eb1⟩ : ∃ x, w.heap.size + 1 = x := ⟨_, rfl⟩
    obtain ⟨b2, eb2⟩ : ∃ x, b1 + 1 = x := ⟨_, rfl⟩
    rw [eb1] at r2 r3 ⊢
    rw [eb2] at r3 ⊢
    have k0 := r3.cell (i := 0) (by omega)
    have k1 := r3.cell (i := 1) (by omega)
    have k2 := r3.cell (i := 2) (by omega)
    have k3 := r3.cell (i := 3) (by omega)
    have f0 := r3.frozen 0
    have f1 := r3.frozen 1
    have f2 := r3.frozen 2
    have f3 := r3.frozen 3
    have j0 := r2.cell (i := 0) (by omega)
    have j1 := r2.cell (i := 1) (by omega)
    have j2 := r2.cell (i := 2) (by omega)
    have j3 := r2.cell (i := 3) (by omega)
    have g0 := r2.frozen 0
    have g1 := r2.frozen 1
    have g2 := r2.frozen 2
    have g3 := r2.frozen 3
    have hne : ¬ b2 = b1 := by omega
    have hne2 : ¬ b1 = b2 := by omega
    have z1 := r2.lt
    have z2 := r3.lt
    have w1b : w.heap.size ≤ b1 := by omega
    have w2b : w.heap.size ≤ b2 := by omega
    simp [tf] at k0 k1 k2 k3 j0 j1 j2 j3
    have E12 : Hid (b1 ≤ b2 ∧ b2 < W.heap.size) := hid1 (by omega)
    clear r2 r3 eb1 eb2
    go_wp2_with fail
    refine bodyPost_ret (v := tld none 0 0 a n c 0 E) ?_ rfl ?_
    · clear k0 k1 k2 k3 f0 f1 f2 f3 g0 g1 g2 g3 Y1 E12 RR
      simp [results, Tryd.results7, go_sem, j0, j1, j2, j3]
    · have key : ∀ X, BP (fun x => x = b1 ∨ x = b2) w1 X → Below w.heap.size w X → ∃ a' c', Ending.returned (tld none 0 0 a n c 0 E) = .returned (tld none 0 0 a' R.length c' 0 E) ∧ Cs X a' R ∧ CsO X (· < w.heap.size) a' R ∧ Below w.heap.size w X := fun X hX hB => by
        have hF := Y1.out.bp hX (fun b h1 h2 he => by
          have := E12.out
          rcases he with he | he <;> omega)
        obtain ⟨lo', cp', ev, hcs⟩ := hF.cs
        obtain ⟨lo2, cp2, ev2, hco⟩ := fw_cso hF
        injection ev with e1 e2 e3
        injection ev2 with e4 e5 e6
        subst e1 e2 e3
        subst e4
        exact ⟨a, c, rfl, hcs, hco.sub0 (fun b hb => by have := ZW.out; omega), hB⟩
      refine key _ ?_ ?_
      · iterate 6 (first | (with_reducible exact BP.refl _ _) | (with_reducible refine BP.set ?_ (.inl (.inl rfl)) _) | (with_reducible refine BP.set ?_ (.inl (.inr rfl)) _))
        exact BP.refl _ _
      · iterate 6 (first | (with_reducible refine bl_set ?_ w1b _) | (with_reducible refine bl_set ?_ w2b _))
        exact B1
end Go.Proofs.YtbpglkhgggokcaaDoor
