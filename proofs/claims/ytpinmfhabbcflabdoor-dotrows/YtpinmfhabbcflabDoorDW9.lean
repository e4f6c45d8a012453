/- Planes. -/
import Derived.Test.YtpinmfhabbcflabDoorDW8
namespace Go.Proofs.YtpinmfhabbcflabDoor
open Go.RowKit

/-- Eight rows of bits as a value, and as cells. -/
abbrev pv (P : Nat → Bt) : Value := .agg #[.int .i64 (P 0).n, .slice (P 0).ao (P 0).m (P 0).cap, .int .i64 (P 1).n, .slice (P 1).ao (P 1).m (P 1).cap, .int .i64 (P 2).n, .slice (P 2).ao (P 2).m (P 2).cap, .int .i64 (P 3).n, .slice (P 3).ao (P 3).m (P 3).cap, .int .i64 (P 4).n, .slice (P 4).ao (P 4).m (P 4).cap, .int .i64 (P 5).n, .slice (P 5).ao (P 5).m (P 5).cap, .int .i64 (P 6).n, .slice (P 6).ao (P 6).m (P 6).cap, .int .i64 (P 7).n, .slice (P 7).ao (P 7).m (P 7).cap]
def pfc (P : Nat → Bt) : Nat → Value := fun j => if j % 2 = 0 then .int .i64 (P (j / 2)).n else .slice (P (j / 2)).ao (P (j / 2)).m (P (j / 2)).cap
theorem pfc_even (P : Nat → Bt) (p : Nat) : pfc P (p * 2) = .int .i64 (P p).n := by
  unfold pfc; rw [if_pos (by omega), show p * 2 / 2 = p by omega]
theorem pfc_odd (P : Nat → Bt) (p : Nat) : pfc P (p * 2 + 1) = .slice (P p).ao (P p).m (P p).cap := by
  unfold pfc; rw [if_neg (by omega), show (p * 2 + 1) / 2 = p by omega]
theorem p_new (w : World) (P : Nat → Bt) (t : TypeId) : (w.alloc (.cells #[.int .i64 (P 0).n, .slice (P 0).ao (P 0).m (P 0).cap, .int .i64 (P 1).n, .slice (P 1).ao (P 1).m (P 1).cap, .int .i64 (P 2).n, .slice (P 2).ao (P 2).m (P 2).cap, .int .i64 (P 3).n, .slice (P 3).ao (P 3).m (P 3).cap, .int .i64 (P 4).n, .slice (P 4).ao (P 4).m (P 4).cap, .int .i64 (P 5).n, .slice (P 5).ao (P 5).m (P 5).cap, .int .i64 (P 6).n, .slice (P 6).ao (P 6).m (P 6).cap, .int .i64 (P 7).n, .slice (P 7).ao (P 7).m (P 7).cap] t)).rowIs w.heap.size t 16 (pfc P) :=
  World.rowIs_alloc w _ t _ (fun i hi => by
    rcases i with _ | _ | _ | _ | _ | _ | _ | _ | _ | _ | _ | _ | _ | _ | _ | _ | i
    · rfl
    · rfl
    · rfl
    · rfl
    · rfl
    · rfl
    · rfl
    · rfl
    · rfl
    · rfl
    · rfl
    · rfl
    · rfl
    · rfl
    · rfl
    · rfl
    · simp at hi; omega)
/-- All sixteen cells. -/
def C16 (w : World) (b : Nat) (P : Nat → Bt) : Prop := w.cell? ⟨b, 0, none⟩ = some (.int .i64 (P 0).n) ∧ w.cell? ⟨b, 1, none⟩ = some (.slice (P 0).ao (P 0).m (P 0).cap) ∧ w.cell? ⟨b, 2, none⟩ = some (.int .i64 (P 1).n) ∧ w.cell? ⟨b, 3, none⟩ = some (.slice (P 1).ao (P 1).m (P 1).cap) ∧ w.cell? ⟨b, 4, none⟩ = some (.int .i64 (P 2).n) ∧ w.cell? ⟨b, 5, none⟩ = some (.slice (P 2).ao (P 2).m (P 2).cap) ∧ w.cell? ⟨b, 6, none⟩ = some (.int .i64 (P 3).n) ∧ w.cell? ⟨b, 7, none⟩ = some (.slice (P 3).ao (P 3).m (P 3).cap) ∧ w.cell? ⟨b, 8, none⟩ = some (.int .i64 (P 4).n) ∧ w.cell? ⟨b, 9, none⟩ = some (.slice (P 4).ao (P 4).m (P 4).cap) ∧ w.cell? ⟨b, 10, none⟩ = some (.int .i64 (P 5).n) ∧ w.cell? ⟨b, 11, none⟩ = some (.slice (P 5).ao (P 5).m (P 5).cap) ∧ w.cell? ⟨b, 12, none⟩ = some (.int .i64 (P 6).n) ∧ w.cell? ⟨b, 13, none⟩ = some (.slice (P 6).ao (P 6).m (P 6).cap) ∧ w.cell? ⟨b, 14, none⟩ = some (.int .i64 (P 7).n) ∧ w.cell? ⟨b, 15, none⟩ = some (.slice (P 7).ao (P 7).m (P 7).cap)
theorem c16 {w : World} {b t : Nat} {P : Nat → Bt} (h : w.rowIs b t 16 (pfc P)) : C16 w b P :=
  ⟨h.cell (by omega), h.cell (by omega), h.cell (by omega), h.cell (by omega), h.cell (by omega), h.cell (by omega), h.cell (by omega), h.cell (by omega), h.cell (by omega), h.cell (by omega), h.cell (by omega), h.cell (by omega), h.cell (by omega), h.cell (by omega), h.cell (by omega), h.cell (by omega)⟩
/-- The first k of the planes. -/
def frt (N : Nat) (G : Nat → Nat) (k : Nat) : Nat → Bt := fun p => if p < k then ob N (G p) 0 else zb
def upd (G : Nat → Nat) (k g : Nat) : Nat → Nat := fun p => if p = k then g else G p
theorem upd_same (G : Nat → Nat) (k g : Nat) : upd G k g k = g := by unfold upd; rw [if_pos rfl]
theorem upd_ne {G : Nat → Nat} {k g p : Nat} (h : p ≠ k) : upd G k g p = G p := by unfold upd; rw [if_neg h]
theorem frt_step {N k g : Nat} {G : Nat → Nat} (j : Nat) : (if j = k * 2 + 1 then Value.slice (some ⟨g, 0, none⟩) (nw N) (nw N) else if j = k * 2 then Value.int .i64 N else pfc (frt N G k) j) = pfc (frt N (upd G k g) (k + 1)) j := by
  unfold pfc frt
  by_cases e1 : j = k * 2 + 1
  · rw [if_pos e1, if_neg (by omega), show j / 2 = k by omega, if_pos (by omega), upd_same]
  · rw [if_neg e1]
    by_cases e2 : j = k * 2
    · rw [if_pos e2, if_pos (by omega), show j / 2 = k by omega, if_pos (by omega)]
    · have e3 : ¬ j / 2 = k := by omega
      have e4 : (j / 2 < k + 1) ↔ (j / 2 < k) := by omega
      rw [if_neg e2, upd_ne e3]
      simp only [e4]
set_option maxHeartbeats 1600000 in
set_option maxRecDepth 100000 in
theorem planes_long (N : Nat) (ao : Option Addr) (cap : Nat) (w : World) (h1 : 16777216 < N) (h2 : N ≤ 9223372036854775807) :
    Calls Tryd.prog 21 #[.slice ao N cap] w fun e w' => e = .returned (.tuple #[pv (fun _ => zb), .int .i64 2]) ∧ Below w.heap.size w w' := by
  go_enter Tryd.func21, Tryd.ntmps21
  go_wp2
  refine bodyPost_ret (v := .tuple #[pv (fun _ => zb), .int .i64 2]) (by simp [results, Tryd.results21, go_sem, zb]) rfl ⟨rfl, ?_⟩
  repeat (first | exact Below.refl _ _ | refine bl_alloc ?_ _ | refine bl_set ?_ (by omega) _)

set_option maxHeartbeats 3200000 in
set_option maxRecDepth 100000 in
theorem planes_any (l : List Int) (N : Nat) (hN : l.length = N) (ao : Option Addr) (cap : Nat) (w : World) (h1 : N ≤ 16777216) (h : R8 w ao l) :
    Calls Tryd.prog 21 #[.slice ao N cap] w fun e w' => ∃ G : Nat → Nat, e = .returned (.tuple #[pv (fun p => ob N (G p) (bn (plb l p) N)), .int .i64 0]) ∧ (∀ p, p < 8 → w.heap.size ≤ G p ∧ w'.rowIs (G p) 55 (nw N) (wf (bn (plb l p) N))) ∧ (∀ p q, p < q → q < 8 → G p < G q) ∧ Below w.heap.size w w' := by
  have HR := hid1 h
  clear h
  have hb := nw_bd h1
  go_enter Tryd.func21, Tryd.ntmps21
  go_wp2_with fail
  go_loopw [10] (fun i wr => ∃ (k : Nat) (G : Nat → Nat), k ≤ 8 ∧ i = .int .i64 k ∧ wr.rowIs w.heap.size 48 16 (pfc (fun _ => zb)) ∧ wr.rowIs (w.heap.size + 1) 48 16 (pfc (frt N G k)) ∧ (∀ p, p < k → w.heap.size + 1 < G p ∧ wr.rowIs (G p) 55 (nw N) (wf (bn (plb l p) N))) ∧ (∀ p q, p < q → q < k → G p < G q) ∧ Below w.heap.size w wr)
    (fun i _ => 8 - (intOf i).toNat)
  case atStart => exact ⟨0, fun _ => 0, Nat.zero_le _, rfl, (p_new w (fun _ => zb) _).alloc _, by have := p_new (w.alloc (.cells #[.int .i64 0, .slice none 0 0, .int .i64 0, .slice none 0 0, .int .i64 0, .slice none 0 0, .int .i64 0, .slice none 0 0, .int .i64 0, .slice none 0 0, .int .i64 0, .slice none 0 0, .int .i64 0, .slice none 0 0, .int .i64 0, .slice none 0 0] 48)) (fun _ => zb) 48; rw [World.size_alloc] at this; exact this, fun p hp => by omega, fun p q _ hq => by omega, bl_alloc (bl_alloc (Below.refl _ _) _) _⟩
  case round =>
    obtain ⟨k, G, hk, rfl, r2, r4, hG, hS, hnx⟩ := hrel
    have HG := hid1 hG
    have HS := hid1 hS
    clear hG hS
    by_cases hlt : k < 8
    · have ik : (k : Int) < 8 := by omega
      have ik0 : (0 : Int) ≤ (k : Int) := by omega
      go_wp2_with fail
      refine (planeOf_any k hlt l N hN ao cap wr h1 (HR.out.below hnx)).mono ?_
      rintro e w1 ⟨g, rfl, hg, hrow, hb1⟩
      have l4 := r4.lt
      replace r2 := keepr hb1 r2
      replace r4 := keepr hb1 r4
      have d0 := r4.cell (i := k * 2) (by omega)
      have d1 := r4.cell (i := k * 2 + 1) (by omega)
      have f0 := r4.frozen (k * 2)
      have f1 := r4.frozen (k * 2 + 1)
      have n2 : w.heap.size ≠ w.heap.size + 1 := by omega
      have ng := row_ne hrow r4 (by decide)
      have B1 := bl_step hnx hb1
      have R2 := hid1 r2
      have R4 := hid1 r4
      have RG := hid1 hrow
      have HB := hid1 hb1
      clear r2 r4 hrow hb1
      go_wp2_with fail
      refine ⟨⟨k + 1, upd G k g, by omega, by go_num, (R2.out.setOther (a := ⟨w.heap.size + 1, k * 2, none⟩) n2 _).setOther (a := ⟨w.heap.size + 1, k * 2 + 1, none⟩) n2 _, ((R4.out.set (k * 2) _).set (k * 2 + 1) _).congr fun j _ => frt_step j, fun p hp => ?_, fun p q hpq hq => ?_, bl_set (bl_set B1 (by omega) _) (by omega) _⟩, by simp [intOf]; omega⟩
      · by_cases e : p = k
        · subst e
          rw [upd_same]
          exact ⟨by omega, (RG.out.setOther (a := ⟨w.heap.size + 1, p * 2, none⟩) ng _).setOther (a := ⟨w.heap.size + 1, p * 2 + 1, none⟩) ng _⟩
        · rw [upd_ne e]
          obtain ⟨h2, h3⟩ := HG.out p (by omega)
          replace h3 := keepr HB.out h3
          have hne := row_ne h3 R4.out (by decide)
          exact ⟨h2, (h3.setOther (a := ⟨w.heap.size + 1, k * 2, none⟩) hne _).setOther (a := ⟨w.heap.size + 1, k * 2 + 1, none⟩) hne _⟩
      · by_cases e : q = k
        · subst e
          rw [upd_same, upd_ne (by omega)]
          have := (HG.out p hpq).2.lt
          omega
        · rw [upd_ne e, upd_ne (by omega)]
          exact HS.out p q hpq (by omega)
    · have hk8 : k = 8 := by omega
      subst hk8
      obtain ⟨a0, a1, a2, a3, a4, a5, a6, a7, a8, a9, a10, a11, a12, a13, a14, a15⟩ := c16 r4
      obtain ⟨d0, d1, d2, d3, d4, d5, d6, d7, d8, d9, d10, d11, d12, d13, d14, d15⟩ := c16 r2
      have f0 := r2.frozen 0
      have f1 := r2.frozen 1
      have f2 := r2.frozen 2
      have f3 := r2.frozen 3
      have f4 := r2.frozen 4
      have f5 := r2.frozen 5
      have f6 := r2.frozen 6
      have f7 := r2.frozen 7
      have f8 := r2.frozen 8
      have f9 := r2.frozen 9
      have f10 := r2.frozen 10
      have f11 := r2.frozen 11
      have f12 := r2.frozen 12
      have f13 := r2.frozen 13
      have f14 := r2.frozen 14
      have f15 := r2.frozen 15
      have R2 := hid1 r2
      simp only [frt, zb] at a0 d0 a1 d1 a2 d2 a3 d3 a4 d4 a5 d5 a6 d6 a7 d7 a8 d8 a9 d9 a10 d10 a11 d11 a12 d12 a13 d13 a14 d14 a15 d15
      clear r2 r4
      go_wp2_with fail
      refine bodyPost_ret (v := .tuple #[pv (fun p => ob N (G p) (bn (plb l p) N)), .int .i64 0]) (by simp [results, Tryd.results21, go_sem, d0, d1, d2, d3, d4, d5, d6, d7, d8, d9, d10, d11, d12, d13, d14, d15]) rfl ⟨G, rfl, fun p hp => ?_, HS.out, ?_⟩
      · obtain ⟨h2, h3⟩ := HG.out p hp
        have hne := row_ne h3 R2.out (by decide)
        refine ⟨by omega, ?_⟩
        iterate 16 (with_reducible refine World.rowIs.setOther ?_ hne _)
        exact h3
      · iterate 16 (with_reducible refine bl_set ?_ (Nat.le_refl _) _)
        exact hnx
end Go.Proofs.YtpinmfhabbcflabDoor
