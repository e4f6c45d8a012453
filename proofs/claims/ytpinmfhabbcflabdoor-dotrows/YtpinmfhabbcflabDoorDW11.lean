/- begun. -/
import Derived.Test.YtpinmfhabbcflabDoorDW10
namespace Go.Proofs.YtpinmfhabbcflabDoor
open Go.RowKit

/-- Rows of four bits. -/
abbrev o4 (g N : Nat) : Bt := ⟨4, some ⟨g, 0, none⟩, 1, 1, N⟩
theorem ob4 (g N : Nat) : ob 4 g N = o4 g N := rfl
theorem four_in {l : List Int} {p : Int → Prop} (h0 : p (ia l 0)) (h1 : p (ia l 1)) (h2 : p (ia l 2)) (h3 : p (ia l 3)) : ∀ i, i < 4 → p (ia l i) := by
  intro i hi
  match i, hi with
  | 0, _ => exact h0
  | 1, _ => exact h1
  | 2, _ => exact h2
  | 3, _ => exact h3
theorem r8_four {w : World} {t : TypeId} (a b c d : Int) : R8 (w.alloc (.cells #[.int .i8 a, .int .i8 b, .int .i8 c, .int .i8 d] t)) (some ⟨w.heap.size, 0, none⟩) [a, b, c, d] := by
  intro k hk
  refine ⟨w.heap.size, 0, rfl, ?_⟩
  rcases k with _ | _ | _ | _ | k
  · simp [go_sem, ia]
  · simp [go_sem, ia]
  · simp [go_sem, ia]
  · simp [go_sem, ia]
  · simp at hk; omega
theorem pack4 (l : List Int) (S M : Nat) (hl : l.length = 4) (hw : Wok l 4) (hS : pk l 4 = S) (hM : bn (nz l) 4 = M) (ao : Option Addr) (cap : Nat) (w : World) (h : R8 w ao l) :
    Calls Tryd.prog 14 #[.slice ao 4 cap] w fun e w' => ∃ g1 g2, e = .returned (.tuple #[rwv (o4 g1 S) (o4 g2 M), .int .i64 0]) ∧ w.heap.size ≤ g1 ∧ g1 < g2 ∧ w'.rowIs g1 55 1 (wf S) ∧ w'.rowIs g2 55 1 (wf M) ∧ Below w.heap.size w w' := by
  refine (dpack_any l 4 hl ao cap w (by decide) h).mono ?_
  rintro e w' (⟨_, g1, g2, rfl, h1, h2, h3, h4, h5⟩ | ⟨hno, _⟩)
  · rw [hS] at h3 ⊢
    rw [hM] at h4 ⊢
    exact ⟨g1, g2, rfl, h1, h2, h3, h4, h5⟩
  · exact absurd hw hno
theorem rw4 {w : World} {g N : Nat} (h : w.rowIs g 55 1 (wf N)) (hN : N < 16) : Rw w (o4 g N) :=
  ⟨by show N < 2 ^ (64 * 1); omega, by show 1 ≤ _; decide, fun k hk => ⟨g, 0, rfl, by rw [Nat.zero_add]; exact h.cell hk⟩⟩
theorem wok1 : Wok [1, 0, -1, 1] 4 := four_in (p := fun x => -1 ≤ x ∧ x ≤ 1) (by decide) (by decide) (by decide) (by decide)
theorem wok2 : Wok [0, 1, 1, -1] 4 := four_in (p := fun x => -1 ≤ x ∧ x ≤ 1) (by decide) (by decide) (by decide) (by decide)
theorem planes4 (l : List Int) (hl : l.length = 4) (ao : Option Addr) (cap : Nat) (w : World) (h : R8 w ao l) :
    Calls Tryd.prog 21 #[.slice ao 4 cap] w fun e w' => ∃ G : Nat → Nat, e = .returned (.tuple #[pv (fun p => o4 (G p) (bn (plb l p) 4)), .int .i64 0]) ∧ (∀ p, p < 8 → w'.rowIs (G p) 55 1 (wf (bn (plb l p) 4))) ∧ Below w.heap.size w w' := by
  refine (planes_any l 4 hl ao cap w (by decide) h).mono ?_
  rintro e w' ⟨G, rfl, h1, _, h3⟩
  exact ⟨G, rfl, fun p hp => (h1 p hp).2, h3⟩
theorem bn4_lt (f : Nat → Bool) : bn f 4 < 16 := bn_lt f 4
theorem w_one (w : World) (o : Obj) (t : TypeId) : ((w.alloc o).alloc (.cells #[.int .u64 1] t)).rowIs (w.heap.size + 1) t 1 (wf 1) := by
  have h : ((w.alloc o).alloc (.cells #[.int .u64 1] t)).rowIs (w.alloc o).heap.size t 1 (wf 1) := World.rowIs_alloc (w.alloc o) _ t _ (fun i hi => by
    rcases i with _ | i
    · rfl
    · simp at hi)
  rw [World.size_alloc] at h
  exact h
theorem sg4 {g1 g2 g : Nat} : sgV (o4 g1 9) (o4 g2 13) (o4 g 1) = 1 := by kernel_rfl
theorem sg4e {g1 g2 g : Nat} : sgE (o4 g1 9) (o4 g2 13) (o4 g 1) = 0 := by kernel_rfl
theorem so4 {g1 g2 g3 g4 : Nat} : soV (o4 g1 9) (o4 g2 13) (o4 g3 6) (o4 g4 14) = -2 := by kernel_rfl
theorem so4e {g1 g2 g3 g4 : Nat} : soE (o4 g1 9) (o4 g2 13) (o4 g3 6) (o4 g4 14) = 0 := by kernel_rfl
theorem nm4 {g1 g2 : Nat} {G : Nat → Nat} : nmV (o4 g1 9) (o4 g2 13) (fun p => o4 (G p) (bn (plb [5, 9, -7, -128] p) 4)) = -116 := by kernel_rfl
theorem nm4e {g1 g2 : Nat} {G : Nat → Nat} : nmE (o4 g1 9) (o4 g2 13) (fun p => o4 (G p) (bn (plb [5, 9, -7, -128] p) 4)) = 0 := by kernel_rfl
set_option maxHeartbeats 3200000 in
set_option maxRecDepth 100000 in
theorem dbegun_any (w : World) (LD : LaidP w) :
    Calls Tryd.prog 5 #[] w fun e w' => e = .returned (.bool true) ∧ Below w.heap.size w w' := by
  have HLD := hid1 LD
  clear LD
  go_enter Tryd.func5, Tryd.ntmps5
  go_wp2_with fail
  refine gen_calls (fun W => Below w.heap.size w W ∧ R8 W (some ⟨w.heap.size, 0, none⟩) [1, 0, -1, 1]) ⟨bl_alloc (Below.refl _ _) _, r8_four _ _ _ _⟩ ?_
  rintro W ⟨B0, hr⟩
  refine (pack4 [1, 0, -1, 1] 9 13 rfl wok1 rfl rfl _ _ W hr).mono ?_
  rintro e w1 ⟨g1, g2, rfl, _, _, ha, hb, hbl⟩
  replace B0 := bl_step B0 hbl
  clear hr hbl
  have ca : w1.cell? ⟨g1, 0, none⟩ = some (.int .u64 9) := ha.cell (by omega)
  have cb : w1.cell? ⟨g2, 0, none⟩ = some (.int .u64 13) := hb.cell (by omega)
  have la := ha.lt
  have lb := hb.lt
  have HA := hid1 ha
  have HB := hid1 hb
  clear ha hb
  go_wp2_with fail
  refine gen_calls (fun W => Below w1.heap.size w1 W ∧ W.rowIs w1.heap.size 33 4 (qf (o4 g1 9) (o4 g2 13)) ∧ Rw W (o4 (w1.heap.size + 1) 1)) ⟨bl_alloc (bl_alloc (Below.refl _ _) _) _, (q_new w1 (o4 g1 9) (o4 g2 13) _).alloc _, rw4 (w_one w1 _ _) (by decide)⟩ ?_
  rintro W1 ⟨B1, r1, hx⟩
  have ha := keepr B1 HA.out
  have hb := keepr B1 HB.out
  refine (signs_any (o4 g1 9) (o4 g2 13) (o4 (w1.heap.size + 1) 1) W1 (rw4 ha (by decide)) (rw4 hb (by decide)) hx).mono ?_
  rintro e w2 ⟨rfl, hb2⟩
  rw [sg4, sg4e]
  have B2 := bl_step (bl_step B0 B1) hb2
  replace HA := hid1 (keepr hb2 ha)
  replace HB := hid1 (keepr hb2 hb)
  have R1 := hid1 (keepr hb2 r1)
  clear ca cb la lb B0 B1 r1 hx ha hb hb2
  go_wp2_with fail
  refine gen_calls (fun W => Below w2.heap.size w2 W ∧ R8 W (some ⟨w2.heap.size, 0, none⟩) [0, 1, 1, -1]) ⟨bl_alloc (Below.refl _ _) _, r8_four _ _ _ _⟩ ?_
  rintro W2 ⟨B3, hr⟩
  refine (pack4 [0, 1, 1, -1] 6 14 rfl wok2 rfl rfl _ _ W2 hr).mono ?_
  rintro e w3 ⟨g3, g4, rfl, _, _, hc, hd, hbl⟩
  replace B3 := bl_step B3 hbl
  replace HA := hid1 (keepr B3 HA.out)
  replace HB := hid1 (keepr B3 HB.out)
  replace R1 := hid1 (keepr B3 R1.out)
  replace B2 := bl_step B2 B3
  have HC := hid1 hc
  have HD := hid1 hd
  clear hr hbl hc hd B3
  have l1 := R1.out.lt
  have c0 : w3.cell? ⟨w1.heap.size, 0, none⟩ = some (.int .i64 4) := q0 R1.out
  have c1 : w3.cell? ⟨w1.heap.size, 1, none⟩ = some (.slice (some ⟨g1, 0, none⟩) 1 1) := q1 R1.out
  have c2 : w3.cell? ⟨w1.heap.size, 2, none⟩ = some (.int .i64 4) := q2 R1.out
  have c3 : w3.cell? ⟨w1.heap.size, 3, none⟩ = some (.slice (some ⟨g2, 0, none⟩) 1 1) := q3 R1.out
  go_wp2_with fail
  refine gen_calls (fun W => Below w3.heap.size w3 W ∧ W.rowIs w3.heap.size 33 4 (qf (o4 g3 6) (o4 g4 14))) ⟨bl_alloc (Below.refl _ _) _, q_new w3 (o4 g3 6) (o4 g4 14) _⟩ ?_
  rintro W3 ⟨B4, r2⟩
  have ha := keepr B4 HA.out
  have hb := keepr B4 HB.out
  have hc := keepr B4 HC.out
  have hd := keepr B4 HD.out
  refine (some_any (o4 g1 9) (o4 g2 13) (o4 g3 6) (o4 g4 14) W3 (rw4 ha (by decide)) (rw4 hb (by decide)) (rw4 hc (by decide)) (rw4 hd (by decide))).mono ?_
  rintro e w4 ⟨rfl, hb4⟩
  rw [so4, so4e]
  replace B4 := bl_step B4 hb4
  replace HA := hid1 (keepr B4 HA.out)
  replace HB := hid1 (keepr B4 HB.out)
  replace R1 := hid1 (keepr B4 R1.out)
  replace B2 := bl_step B2 B4
  clear c0 c1 c2 c3 r2 ha hb hc hd hb4 HC HD B4 l1
  go_wp2_with fail
  refine gen_calls (fun W => Below w4.heap.size w4 W ∧ R8 W (some ⟨w4.heap.size, 0, none⟩) [5, 9, -7, -128]) ⟨bl_alloc (Below.refl _ _) _, r8_four _ _ _ _⟩ ?_
  rintro W4 ⟨B5, hr⟩
  refine (planes4 [5, 9, -7, -128] rfl _ _ W4 hr).mono ?_
  rintro e w5 ⟨G, rfl, hG, hbl⟩
  replace B5 := bl_step B5 hbl
  replace HA := hid1 (keepr B5 HA.out)
  replace HB := hid1 (keepr B5 HB.out)
  replace R1 := hid1 (keepr B5 R1.out)
  replace B2 := bl_step B2 B5
  have HG := hid1 hG
  clear hr hbl hG B5
  have l1 := R1.out.lt
  have c0 : w5.cell? ⟨w1.heap.size, 0, none⟩ = some (.int .i64 4) := q0 R1.out
  have c1 : w5.cell? ⟨w1.heap.size, 1, none⟩ = some (.slice (some ⟨g1, 0, none⟩) 1 1) := q1 R1.out
  have c2 : w5.cell? ⟨w1.heap.size, 2, none⟩ = some (.int .i64 4) := q2 R1.out
  have c3 : w5.cell? ⟨w1.heap.size, 3, none⟩ = some (.slice (some ⟨g2, 0, none⟩) 1 1) := q3 R1.out
  go_wp2_with fail
  refine gen_calls (fun W => Below w5.heap.size w5 W) (bl_alloc (Below.refl _ _) _) ?_
  intro W5 B6
  refine (numbers_any (o4 g1 9) (o4 g2 13) (fun p => o4 (G p) (bn (plb [5, 9, -7, -128] p) 4)) W5 (HLD.out.on (bl_step B2 B6)) (rw4 (keepr B6 HA.out) (by decide)) (rw4 (keepr B6 HB.out) (by decide)) (fun p hp => rw4 (keepr B6 (HG.out p hp)) (bn4_lt _))).mono ?_
  rintro e w6 ⟨rfl, hb6⟩
  rw [nm4, nm4e]
  clear c0 c1 c2 c3
  go_wp2_with fail
  go_ret
  exact ⟨rfl, bl_step (bl_step B2 B6) hb6⟩
end Go.Proofs.YtpinmfhabbcflabDoor
