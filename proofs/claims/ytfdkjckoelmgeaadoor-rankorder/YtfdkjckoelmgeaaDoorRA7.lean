/- PACKAGE rank: Add of a score that may be; Right. -/
import Derived.Test.YtfdkjckoelmgeaaDoorRA6
import Derived.Test.YtfdkjckoelmgeaaDoorRM3
namespace Go.Proofs.YtfdkjckoelmgeaaDoor
open Go.RowKit

theorem aE_zero {T : List (List Int)} {r t : Int} (h : aE T r t = 0) : (cnt T).isSome = true ∧ (0 ≤ r ∧ r < (T.length : Int)) ∧ (0 ≤ t ∧ t < (T.length : Int)) ∧ cV T < 4611686018427387904 := by
  unfold aE at h
  split at h
  · rename_i h1
    split at h
    · cases h
    · have := cV_bd T
      exact ⟨h1.1, h1.2.1, h1.2.2, by omega⟩
  · cases h
/-- The score with one more. -/
def ad (T : List (List Int)) (r t : Nat) : List (List Int) := st2 T r t ((T.getD r []).getD t 0 + 1)
set_option maxHeartbeats 1600000 in
set_option maxRecDepth 100000 in
theorem add_ok (ao : Option Addr) (T : List (List Int)) (cap : Nat) (r t : Nat) (w : World) (h : Tn w ao T) (hr : ∀ r ∈ T, r.length ≤ 9223372036854775807) (hb : aE T r t = 0) :
    Calls Tryd.prog 13 #[tbv ao T.length cap, .int .i64 r, .int .i64 t] w fun e w' => ∃ G b K, e = .returned (.tuple #[tbv (some ⟨G, 0, none⟩) T.length T.length, .int .i64 0]) ∧ Tb w' w.heap.size G b K (ad T r t) ∧ Below w.heap.size w w' := by
  obtain ⟨h1, h3, h4, h5⟩ := aE_zero hb
  obtain ⟨B, hB⟩ := Option.isSome_iff_exists.1 h1
  obtain ⟨q1, q2, q3, q4, q5, q6⟩ := cnt_some hB
  have CC : Hid (∀ X, Below w.heap.size w X → Calls Tryd.prog 27 #[tbv ao T.length cap] X fun e w' => e = .returned (.tuple #[.int .i64 (cV T), .int .i64 (cE T)]) ∧ Below X.heap.size X w') := fun X hX => count_any ao T cap X (by omega) hr (h.below hX)
  rw [cE_zero h1] at CC
  have CL : Hid (∀ X, Below w.heap.size w X → Calls Tryd.prog 29 #[tbv ao T.length cap] X fun e w' => ∃ G b K, e = .returned (tbv (some ⟨G, 0, none⟩) T.length T.length) ∧ Tb w' X.heap.size G b K T ∧ Below X.heap.size X w') := fun X hX => clone_any ao T cap X q1 q2 (fun r hr => by have := (q3 r hr).1; omega) (h.below hX)
  have IO := fun x X => isOut_any ao T.length cap x X
  have e3 := decide_eq_true h3
  have e4 := decide_eq_true h4
  have hv : ¬ cV T = 4611686018427387904 := by omega
  have hrT : r < T.length := by omega
  have htT : t < T.length := by omega
  have hlen : (T.getD r []).length = T.length := by
    rw [List.getD_eq_getElem?_getD, List.getElem?_eq_getElem hrT]
    exact (q3 _ (List.getElem_mem hrT)).1
  have hin : ∀ x, (T.getD r []).getD t 0 = x → IntKind.i64.wrap (x + 1) = x + 1 := by
    rintro x rfl
    have hT := q3 _ (List.getElem_mem hrT)
    have h6 := sR_each (fun y hy => (q3 y hy).2) (List.getElem_mem hrT)
    have h7 := sm_ge hT.2 t
    have e : T.getD r [] = T[r] := by rw [List.getD_eq_getElem?_getD, List.getElem?_eq_getElem hrT]; rfl
    rw [e, IntKind.wrap_i64]
    have h8 : sR T = cV T := by unfold cV; rw [hB, q4]; rfl
    omega
  have HIN := hid1 hin
  have HL := hid1 hlen
  have HR := hid1 hrT
  have HT := hid1 htT
  clear h hr hb h1 hB q3 q4 q5 q6 hin hlen hrT htT
  generalize cV T = V at *
  obtain ⟨n, hn⟩ : ∃ n, T.length = n := ⟨_, rfl⟩
  rw [hn] at CC CL IO e3 e4 q1 q2 ⊢
  have HN := hid1 hn
  clear hn h3 h4 h5
  obtain ⟨R, hR⟩ : ∃ R : Int, (r : Int) = R := ⟨_, rfl⟩
  obtain ⟨S, hS⟩ : ∃ S : Int, (t : Int) = S := ⟨_, rfl⟩
  rw [hR] at e3 ⊢
  rw [hS] at e4 ⊢
  have HE := hid1 (And.intro hR hS)
  clear hR hS
  go_enter Tryd.func13, Tryd.ntmps13
  go_upto_region 4 with (first
    | (go_at_call 27; refine (CC.out _ (bl_alloc (bl_alloc (Below.refl _ _) _) _)).mono ?_; rintro e w1 ⟨rfl, hb1⟩; have b0 := keepc hb1 (b := w.heap.size) (o := 0) (v := .slice ao n cap) (by simp [go_sem]); have f1 : w1.frozen? ⟨w.heap.size + 1, 0, none⟩ = false := (hb1.frozen (p := ⟨w.heap.size + 1, 0, none⟩) (by simp)).trans (by simp [go_sem]); have z1 : w.heap.size + 1 < w1.heap.size := (by have := hb1.size; simp at this; omega); have z0 : w.heap.size < w1.heap.size := (by omega); have z2 : w.heap.size + 1 < w1.heap.size + 1 := (by omega); have B1 : Below w.heap.size w w1 := bl_step (bl_alloc (bl_alloc (Below.refl _ _) _) _) hb1; have b1 := keepc hb1 (b := w.heap.size + 1) (o := 0) (v := .slice none 0 0) (by simp [go_sem]); clear hb1)
    | (go_at_call 28; refine (IO _ _).mono ?_; rintro e w' ⟨rfl, rfl⟩))
  obtain ⟨rfl, rfl⟩ := HE.out
  have ir : (r : Int) < (n : Int) := by have := HR.out; rw [HN.out] at this; omega
  have it : (t : Int) < (n : Int) := by have := HT.out; rw [HN.out] at this; omega
  have ir0 : (0 : Int) ≤ (r : Int) := by omega
  have it0 : (0 : Int) ≤ (t : Int) := by omega
  clear e3 e4
  obtain ⟨x, hx⟩ : ∃ x, (T.getD r []).getD t 0 = x := ⟨_, rfl⟩
  have hw := HIN.out x hx
  have HX := hid1 hx
  clear hx
  go_upto_region 7 with (go_at_call 29; refine (CL.out _ (by repeat (first | exact B1 | (with_reducible refine bl_alloc ?_ _)))).mono ?_; rintro e w2 ⟨G, b, K, rfl, tb, hb2⟩)
  have B12 : Below w1.heap.size w1 w2 := bl_step (bl_alloc (bl_alloc (Below.refl _ _) _) _) hb2
  have b1' := keepc B12 b1
  have f1' : w2.frozen? ⟨w.heap.size + 1, 0, none⟩ = false := (B12.frozen (p := ⟨w.heap.size + 1, 0, none⟩) z1).trans f1
  have z3 : w1.heap.size ≤ w2.heap.size := B12.size
  have B2 : Below w.heap.size w w2 := bl_step B1 B12
  have TB : Hid (Tb w2 w1.heap.size G b K T) := Tz.mono tb (by simp; omega)
  clear tb hb2 B12 b0 b1 f1
  have hb := bl_alloc B2 (.cells #[.slice (some ⟨G, 0, none⟩) n n] 36)
  have T1 : Hid (Tb (w2.alloc (.cells #[.slice (some ⟨G, 0, none⟩) n n] 36)) w1.heap.size G b K T) := TB.out.below (bl_alloc (Below.refl _ _) _)
  have hrl : r < T.length := HR.out
  have co := T1.out.out.cell hrl
  rw [if_pos hrl, HL.out] at co
  have hro := T1.out.row r hrl
  obtain ⟨f, rw0, q7, q8, q9⟩ := hro
  rw [HL.out] at q7
  have cx := rw0.cell (i := t) (by have := HT.out; omega)
  rw [q9 t x (by have := HX.out; rw [List.getD_eq_getElem?_getD] at this; rw [List.getElem?_eq_getElem (show t < (T.getD r []).length by rw [HL.out]; exact HT.out)] at this ⊢; exact congrArg some this)] at cx
  have fx := rw0.frozen t
  have zb := rw0.lt
  have zG := T1.out.out.lt
  have lG := T1.out.low.1
  have lb := T1.out.low.2 r hrl
  rw [HN.out] at co
  have T2 : Hid (Tb ((w2.alloc (.cells #[.slice (some ⟨G, 0, none⟩) n n] 36)).setCell ⟨b r, t, none⟩ (.int .i64 (x + 1))) w1.heap.size G b K (ad T r t)) := by
    have := T1.out.set hrl t (x + 1)
    unfold ad
    rw [HX.out]
    exact this
  have zb2 := (TB.out.row r hrl).lt
  clear rw0 q7 q8 q9 hrl zb
  generalize hbr : b r = br at *
  generalize K r = kr at *
  clear hbr TB T1 CC CL IO
  have nb : br ≠ w2.heap.size := by omega
  have nb' : w2.heap.size ≠ br := by omega
  have nr : br ≠ w.heap.size + 1 := by omega
  have nr' : w.heap.size + 1 ≠ br := by omega
  have n2 : w.heap.size + 1 ≠ w2.heap.size := by omega
  have zr : w.heap.size + 1 < w2.heap.size := by omega
  go_wp2_with fail
  refine bodyPost_ret (v := .tuple #[tbv (some ⟨G, 0, none⟩) n n, .int .i64 0]) (by simp [results, Tryd.results13, go_sem, b1', zr]) rfl ⟨G, b, K, rfl, ?_, ?_⟩
  · have T3 := T2.out.other (a := ⟨w.heap.size + 1, 0, none⟩) z1 (.slice (some ⟨G, 0, none⟩) n n)
    rw [World.setCell_alloc_past _ _ _ _ (show br < w2.heap.size from zb2), World.setCell_alloc_past _ _ _ _ (by simpa using zr)] at T3
    exact Tz.mono T3 (show w.heap.size ≤ w1.heap.size by omega)
  · exact bl_alloc (bl_set (bl_set B2 (show w.heap.size ≤ br by omega) _) (show w.heap.size ≤ w.heap.size + 1 by omega) _) _
end Go.Proofs.YtfdkjckoelmgeaaDoor
