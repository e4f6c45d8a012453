/- CHUNKALL: wanted. -/
import Derived.Test.YtbpglkhgggokcaaDoorCH2
import Derived.Test.YtbpglkhgggokcaaDoorCR5
namespace Go.Proofs.YtbpglkhgggokcaaDoor
open Go.RowKit

abbrev ov (k : Int) (lo : Option Addr) (ln lc : Nat) (mg : Int) (co : Option Addr) (cn cc : Nat) (bo : Option Addr) (bn bc : Nat) : Value := .agg #[.int .i64 k, .slice lo ln lc, .int .u32 mg, .slice co cn cc, .slice bo bn bc]
set_option maxHeartbeats 1600000 in
set_option maxRecDepth 100000 in
theorem wanted_none (k : Int) (lo : Option Addr) (ln lc : Nat) (mg : Int) (co : Option Addr) (cn cc : Nat) (bo : Option Addr) (bn bc : Nat) (w : World) (h1 : k ≠ 1) (h2 : k ≠ 2) (h3 : k ≠ 3) :
    Calls Tryd.prog 7 #[ov k lo ln lc mg co cn cc bo bn bc] w fun e w' => e = .returned (tld none 0 0 none 0 0 0 0) ∧ Below w.heap.size w w' := by
  have k1 : ¬ k = 1 := h1
  have k2 : ¬ k = 2 := h2
  have k3 : ¬ k = 3 := h3
  go_enter Tryd.func7, Tryd.ntmps7
  go_wp2_with fail
  exact bodyPost_ret (v := tld none 0 0 none 0 0 0 0) (by simp [results, Tryd.results7, go_sem]) rfl ⟨rfl, bl_alloc (bl_alloc (bl_alloc (Below.refl _ _) _) _) _⟩
set_option maxHeartbeats 1600000 in
set_option maxRecDepth 100000 in
theorem wanted_sum (lo : Option Addr) (lc : Nat) (L : List (List Nat)) (mg : Int) (co : Option Addr) (cn cc : Nat) (bo : Option Addr) (bn bc : Nat) (w : World) (hJ : L.length ≤ 9223372036854775807) (hj : ∀ l ∈ L, l.length ≤ 9223372036854775807) (h : Bys w lo L) :
    Calls Tryd.prog 7 #[ov 1 lo L.length lc mg co cn cc bo bn bc] w fun e w' => e = .returned (tld none 0 0 none 0 0 (crc (cat L) : Nat) 0) ∧ Below w.heap.size w w' := by
  have RS := hid1 (fun W (hW : Below w.heap.size w W) => rsum_any lo lc L W hJ hj (h.keep hW))
  obtain ⟨s, es⟩ : ∃ s, crc (cat L) = s := ⟨_, rfl⟩
  rw [es] at RS ⊢
  clear h hj hJ es
  go_enter Tryd.func7, Tryd.ntmps7
  go_wp2_with fail
  refine (RS.out _ (bl_alloc (bl_alloc (bl_alloc (Below.refl _ _) _) _) _)).mono ?_
  rintro e w1 ⟨rfl, rfl⟩
  go_wp2_with fail
  exact bodyPost_ret (v := tld none 0 0 none 0 0 s 0) (by simp [results, Tryd.results7, go_sem]) rfl ⟨rfl, bl_alloc (bl_alloc (bl_alloc (Below.refl _ _) _) _) _⟩
/-- The four cells of an answer. -/
def tf (bv cv : Value) (s e : Int) : Nat → Value := fun k => if k = 0 then bv else if k = 1 then cv else if k = 2 then .int .u32 s else .int .i64 e
abbrev tzf : Nat → Value := tf (.slice none 0 0) (.slice none 0 0) 0 0
theorem tz_new (w : World) (t : TypeId) : (w.alloc (.cells #[.slice none 0 0, .slice none 0 0, .int .u32 0, .int .i64 0] t)).rowIs w.heap.size t 4 tzf :=
  World.rowIs_alloc w _ t _ (fun i hi => by
    rcases i with _ | _ | _ | _ | i
    · rfl
    · rfl
    · rfl
    · rfl
    · simp at hi; omega)
set_option maxHeartbeats 1600000 in
set_option maxRecDepth 100000 in
theorem wanted_write_good (lo : Option Addr) (ln lc m : Nat) (co : Option Addr) (cc : Nat) (cs : List Ck) (bo : Option Addr) (bn bc : Nat) (w : World) (h : Cs w co cs) (hn : cs.length ≤ 1024) (hs : szC cs ≤ 16777216) :
    Calls Tryd.prog 7 #[ov 2 lo ln lc m co cs.length cc bo bn bc] w fun e w' => ∃ a c, e = .returned (tld a (szC cs) c none 0 0 0 0) ∧ By w' a (cont m cs) ∧ (∀ p, a = some p → w.heap.size ≤ p.block) ∧ Below w.heap.size w w' := by
  have H := hid1 h
  clear h
  go_enter Tryd.func7, Tryd.ntmps7
  go_wp2_with fail
  refine gen_calls (fun W => Below w.heap.size w W ∧ W.rowIs (w.heap.size + 1) 33 4 tzf ∧ W.rowIs (w.heap.size + 1 + 1) 33 4 tzf) ⟨bl_alloc (bl_alloc (bl_alloc (Below.refl _ _) _) _) _, ?_, ?_⟩ ?_
  · have h := (tz_new (w.alloc (.cells #[.int .i64 2, .slice lo ln lc, .int .u32 m, .slice co cs.length cc, .slice bo bn bc] 37)) 33).alloc (.cells #[.slice none 0 0, .slice none 0 0, .int .u32 0, .int .i64 0] 33)
    simpa using h
  · have h := tz_new ((w.alloc (.cells #[.int .i64 2, .slice lo ln lc, .int .u32 m, .slice co cs.length cc, .slice bo bn bc] 37)).alloc (.cells #[.slice none 0 0, .slice none 0 0, .int .u32 0, .int .i64 0] 33)) 33
    simpa using h
  · rintro W ⟨B0, r2, r3⟩
    refine (rwrite_good m co cc cs W (H.out.keep B0) hn hs).mono ?_
    rintro e w1 ⟨a, c, rfl, o1, bl1⟩
    have Y1 := hid1 (own_slice8 o1 (cont_lt m H.out.ok)).2.2
    have zr := r3.lt
    have NA : Hid (∀ p, a = some p → w.heap.size + 1 + 1 < p.block) := hid1 fun p hp => by
      have := (o1.lt p.block (by rw [hp]; rfl)).1
      omega
    have B1 := bl_step B0 bl1
    replace r2 := keepr bl1 r2
    replace r3 := keepr bl1 r3
    clear o1 bl1 B0
    obtain ⟨b1, eb1⟩ : ∃ x, w.heap.size + 1 = x := ⟨_, rfl⟩
    obtain ⟨b2, eb2⟩ : ∃ x, b1 + 1 = x := ⟨_, rfl⟩
    rw [eb1] at r2 r3 ⊢
    rw [eb2] at r3 ⊢
    have k0 := r3.cell (i := 0) (by omega)
    have k1 := r3.cell (i := 1) (by omega)
    have k2 := r3.cell (i := 2) (by omega)
    have k3 := r3.cell (i := 3) (by omega)
    have f0 := r3.frozen 0
    have f1 := r3.frozen 1
    have f2 := r3.frozen 2
    have f3 := r3.frozen 3
    have j0 := r2.cell (i := 0) (by omega)
    have j1 := r2.cell (i := 1) (by omega)
    have j2 := r2.cell (i := 2) (by omega)
    have j3 := r2.cell (i := 3) (by omega)
    have g0 := r2.frozen 0
    have g1 := r2.frozen 1
    have g2 := r2.frozen 2
    have g3 := r2.frozen 3
    have hne : ¬ b2 = b1 := by omega
    have hne2 : ¬ b1 = b2 := by omega
    have z1 := r2.lt
    have z2 := r3.lt
    have w1b : w.heap.size ≤ b1 := by omega
    have w2b : w.heap.size ≤ b2 := by omega
    simp [tf] at k0 k1 k2 k3 j0 j1 j2 j3
    have E12 : Hid (b1 ≤ b2 ∧ b2 = w.heap.size + 1 + 1) := hid1 (by omega)
    clear r2 r3 eb1 eb2
    go_wp2_with fail
    refine bodyPost_ret (v := tld a (szC cs) c none 0 0 0 0) ?_ rfl ?_
    · clear k0 k1 k2 k3 f0 f1 f2 f3 g0 g1 g2 g3 Y1 NA E12 H
      simp [results, Tryd.results7, go_sem, j0, j1, j2, j3]
    · refine ⟨a, c, rfl, Y1.out.bp (S := fun x => x = b1 ∨ x = b2) ?_ (fun p hp _ he => ?_), fun p hp => (by have := NA.out p hp; omega), ?_⟩
      · iterate 6 (first | (with_reducible exact BP.refl _ _) | (with_reducible refine BP.set ?_ (.inl (.inl rfl)) _) | (with_reducible refine BP.set ?_ (.inl (.inr rfl)) _))
        exact BP.refl _ _
      · have := NA.out p hp
        have := E12.out
        rcases he with he | he <;> omega
      · iterate 6 (first | (with_reducible refine bl_set ?_ w1b _) | (with_reducible refine bl_set ?_ w2b _))
        exact B1
set_option maxHeartbeats 1600000 in
set_option maxRecDepth 100000 in
theorem wanted_write_long (lo : Option Addr) (ln lc m : Nat) (co : Option Addr) (cc : Nat) (cs : List Ck) (bo : Option Addr) (bn bc : Nat) (w : World) (h : Cs w co cs) (hn : cs.length ≤ 9223372036854775807) (hs : 1024 < cs.length ∨ 16777216 < szC cs) :
    Calls Tryd.prog 7 #[ov 2 lo ln lc m co cs.length cc bo bn bc] w fun e w' => e = .returned (tld none 0 0 none 0 0 0 2) ∧ Below w.heap.size w w' := by
  have H := hid1 h
  clear h
  go_enter Tryd.func7, Tryd.ntmps7
  go_wp2_with fail
  refine gen_calls (fun W => Below w.heap.size w W ∧ W.rowIs (w.heap.size + 1) 33 4 tzf ∧ W.rowIs (w.heap.size + 1 + 1) 33 4 tzf) ⟨bl_alloc (bl_alloc (bl_alloc (Below.refl _ _) _) _) _, ?_, ?_⟩ ?_
  · have h := (tz_new (w.alloc (.cells #[.int .i64 2, .slice lo ln lc, .int .u32 m, .slice co cs.length cc, .slice bo bn bc] 37)) 33).alloc (.cells #[.slice none 0 0, .slice none 0 0, .int .u32 0, .int .i64 0] 33)
    simpa using h
  · have h := tz_new ((w.alloc (.cells #[.int .i64 2, .slice lo ln lc, .int .u32 m, .slice co cs.length cc, .slice bo bn bc] 37)).alloc (.cells #[.slice none 0 0, .slice none 0 0, .int .u32 0, .int .i64 0] 33)) 33
    simpa using h
  · rintro W ⟨B0, r2, r3⟩
    refine (rwrite_long m co cc cs W hn (H.out.keep B0) hs).mono ?_
    rintro e w1 ⟨rfl, rfl⟩
    have B1 := B0
    clear B0
    obtain ⟨b1, eb1⟩ : ∃ x, w.heap.size + 1 = x := ⟨_, rfl⟩
    obtain ⟨b2, eb2⟩ : ∃ x, b1 + 1 = x := ⟨_, rfl⟩
    rw [eb1] at r2 r3 ⊢
    rw [eb2] at r3 ⊢
    have k0 := r3.cell (i := 0) (by omega)
    have k1 := r3.cell (i := 1) (by omega)
    have k2 := r3.cell (i := 2) (by omega)
    have k3 := r3.cell (i := 3) (by omega)
    have f0 := r3.frozen 0
    have f1 := r3.frozen 1
    have f2 := r3.frozen 2
    have f3 := r3.frozen 3
    have j0 := r2.cell (i := 0) (by omega)
    have j1 := r2.cell (i := 1) (by omega)
    have j2 := r2.cell (i := 2) (by omega)
    have j3 := r2.cell (i := 3) (by omega)
    have g0 := r2.frozen 0
    have g1 := r2.frozen 1
    have g2 := r2.frozen 2
    have g3 := r2.frozen 3
    have hne : ¬ b2 = b1 := by omega
    have hne2 : ¬ b1 = b2 := by omega
    have z1 := r2.lt
    have z2 := r3.lt
    have w1b : w.heap.size ≤ b1 := by omega
    have w2b : w.heap.size ≤ b2 := by omega
    simp [tf] at k0 k1 k2 k3 j0 j1 j2 j3
    have E12 : Hid (b1 ≤ b2 ∧ b2 = w.heap.size + 1 + 1) := hid1 (by omega)
    clear r2 r3 eb1 eb2
    go_wp2_with fail
    refine bodyPost_ret (v := tld none 0 0 none 0 0 0 2) ?_ rfl ?_
    · clear k0 k1 k2 k3 f0 f1 f2 f3 g0 g1 g2 g3 E12 H
      simp [results, Tryd.results7, go_sem, j0, j1, j2, j3]
    · refine ⟨rfl, ?_⟩
      iterate 6 (first | (with_reducible refine bl_set ?_ w1b _) | (with_reducible refine bl_set ?_ w2b _))
      exact B1
end Go.Proofs.YtbpglkhgggokcaaDoor
