/- NETBIG: THE LOOP OVER NORMS. -/
import Derived.Test.YtfljnpeidadpjaaNG1
import Derived.Deep.AppendLies
import Derived.OwnWalk
namespace Go.Proofs.Ytfljnpeidadpjaa
open Go.RowKit

theorem und_i8s : Try.prog.underlying 25 = some (.slice 54) := by kernel_rfl
theorem und_norms : Try.prog.underlying 28 = some (.slice 33) := by kernel_rfl
theorem info_i8 : (Try.prog.info? 54).map (fun i => (i.zero, i.size, i.bytes)) = some (some (.int .i8 0), 1, 1) := by kernel_rfl
abbrev zNo : Value := .agg #[.int .i64 0, .int .i64 0, .int .i64 0, .int .i64 0, .int .i64 0, .int .i64 0, .int .i64 0, .int .i64 0]
theorem info_norm : (Try.prog.info? 33).map (fun i => (i.zero, i.size, i.bytes)) = some (some zNo, 8, 64) := by kernel_rfl
/-- Weights that are made lie in memory of their own, all 0. -/
theorem make_i8 (n : Nat) (hn : n ≤ 281474976710656) (w : World) (g : Nat) (hg : w.heap.size = g) : ∃ w', (Instr.makeSlice 25 (.int .i64 (n : Int)) (.int .i64 (n : Int))).run Try.prog w = .ok (.slice (some ⟨g, 0, none⟩) n n) w' ∧ Below w.heap.size w w' ∧ w'.rowIs g 54 n (fun _ => .int .i8 0) ∧ w'.heap.size = g + 1 := by
  obtain ⟨i, hi, hz0, hz1, hz2⟩ := info_parts info_i8
  have h := run_make w 25 54 i _ und_i8s hi hz0 .i64 .i64 (n : Int) (n : Int) (by omega) (by omega) (by rw [hz2]; omega) (by omega)
  rw [Int.toNat_natCast, hz1, Nat.mul_one, hg] at h
  refine ⟨_, h, bl_alloc (Below.refl _ _) _, ?_, by simp [hg]⟩
  rw [← hg]
  exact World.rowIs_made w (.int .i8 0) n 54
def laf (L : Ly) : Nat → Value
  | 0 => .int .i64 L.kd | 1 => .int .i64 L.wt | 2 => .int .i64 L.k | 3 => .int .i64 L.r | 4 => .int .i64 L.s | 5 => .int .i64 L.sy | 6 => .int .i64 L.sx | 7 => .int .i64 L.t | 8 => .int .i64 L.l | 9 => .int .i64 L.b | 10 => .int .i64 L.q | 11 => .int .i64 L.bd
  | 12 => .slice L.aw L.mw L.cw | 13 => .slice L.an L.mn L.cn | _ => .slice L.ab L.mb L.cb
theorem laf_new {W : World} {g : Nat} (hg : W.heap.size = g) (L : Ly) (t : TypeId) : (W.alloc (.cells #[.int .i64 L.kd, .int .i64 L.wt, .int .i64 L.k, .int .i64 L.r, .int .i64 L.s, .int .i64 L.sy, .int .i64 L.sx, .int .i64 L.t, .int .i64 L.l, .int .i64 L.b, .int .i64 L.q, .int .i64 L.bd, .slice L.aw L.mw L.cw, .slice L.an L.mn L.cn, .slice L.ab L.mb L.cb] t)).rowIs g t 15 (laf L) := by
  subst hg
  refine World.rowIs_alloc W _ t (laf L) fun i hi => ?_
  have h15 : i < 15 := hi
  rcases (show i = 0 ∨ i = 1 ∨ i = 2 ∨ i = 3 ∨ i = 4 ∨ i = 5 ∨ i = 6 ∨ i = 7 ∨ i = 8 ∨ i = 9 ∨ i = 10 ∨ i = 11 ∨ i = 12 ∨ i = 13 ∨ i = 14 by omega) with rfl | rfl | rfl | rfl | rfl | rfl | rfl | rfl | rfl | rfl | rfl | rfl | rfl | rfl | rfl <;> rfl
theorem laf_lp {W : World} {g : Nat} {t : TypeId} {L : Ly} (h : W.rowIs g t 15 (laf L)) : Lp W g L := ⟨h.cell (i := 0) (by decide), h.cell (i := 1) (by decide), h.cell (i := 2) (by decide), h.cell (i := 3) (by decide), h.cell (i := 4) (by decide), h.cell (i := 5) (by decide), h.cell (i := 6) (by decide), h.cell (i := 7) (by decide), h.cell (i := 8) (by decide), h.cell (i := 9) (by decide), h.cell (i := 10) (by decide), h.cell (i := 11) (by decide), h.cell (i := 12) (by decide), h.cell (i := 13) (by decide), h.cell (i := 14) (by decide)⟩
/-- The first layer with k norms so far. -/
def bgK (ga : Nat) (ao : Option Addr) (k cap : Nat) : Ly := ⟨2, 2, 4095, 0, 0, 0, 0, 0, 0, 0, 0, 0, some ⟨ga, 0, none⟩, 16773120, 16773120, ao, k, cap, none, 0, 0, fun _ => 0, fun _ _ => 1, fun _ => 0⟩
theorem laf_norms {W : World} {g ga : Nat} {t : TypeId} {ao ao' : Option Addr} {k k' cap cap' : Nat} (h : W.rowIs g t 15 (laf (bgK ga ao k cap))) : (W.setCell ⟨g, 13, none⟩ (.slice ao' k' cap')).rowIs g t 15 (laf (bgK ga ao' k' cap')) := by
  refine (h.set 13 _).congr fun i hi => ?_
  rcases (show i = 0 ∨ i = 1 ∨ i = 2 ∨ i = 3 ∨ i = 4 ∨ i = 5 ∨ i = 6 ∨ i = 7 ∨ i = 8 ∨ i = 9 ∨ i = 10 ∨ i = 11 ∨ i = 12 ∨ i = 13 ∨ i = 14 by omega) with rfl | rfl | rfl | rfl | rfl | rfl | rfl | rfl | rfl | rfl | rfl | rfl | rfl | rfl | rfl <;> rfl
def oneL (k : Nat) : List Value := List.replicate (k * 8) (.int .i64 1)
abbrev ones8 : List Value := [.int .i64 1, .int .i64 1, .int .i64 1, .int .i64 1, .int .i64 1, .int .i64 1, .int .i64 1, .int .i64 1]
theorem oneL_succ (k : Nat) : oneL k ++ ones8 = oneL (k + 1) := by
  unfold oneL
  rw [show (k + 1) * 8 = k * 8 + 8 by omega]
  exact List.replicate_append_replicate (n := k * 8) (m := 8)
theorem own_form {w : World} {base n size : Nat} {e : TypeId} {v : Value} {xs : List Value} (h : w.ownsRow base e size v n xs) : ∃ ao cap, v = .slice ao n cap := by
  rcases h.2 with ⟨rfl, rfl⟩ | ⟨g, cap, _, rfl, _⟩
  · exact ⟨none, 0, rfl⟩
  · exact ⟨_, _, rfl⟩
theorem news8 {W : World} {g : Nat} (hg : W.heap.size = g) (t : TypeId) : ∀ j u, ones8[j]? = some u → (W.alloc (.cells #[.int .i64 1, .int .i64 1, .int .i64 1, .int .i64 1, .int .i64 1, .int .i64 1, .int .i64 1, .int .i64 1] t)).cell? ((⟨g, 0, none⟩ : Addr).add j) = some u := by
  intro j u hu
  have hw := new_at hg (.cells #[.int .i64 1, .int .i64 1, .int .i64 1, .int .i64 1, .int .i64 1, .int .i64 1, .int .i64 1, .int .i64 1] t)
  have hj : j < 8 := by
    by_cases h : j < 8
    · exact h
    · rw [List.getElem?_eq_none (by simp; omega)] at hu; cases hu
  rcases (show j = 0 ∨ j = 1 ∨ j = 2 ∨ j = 3 ∨ j = 4 ∨ j = 5 ∨ j = 6 ∨ j = 7 by omega) with rfl | rfl | rfl | rfl | rfl | rfl | rfl | rfl <;> cases hu <;> exact bcl hw rfl
theorem ones_one : ∀ u ∈ ones8, u.oneCell' = true := by intro u hu; simp [ones8] at hu; subst hu; rfl
/-- Nothing below B has turned. -/
theorem bel_grown {B : Nat} {Z W w' : World} {row : Option Nat} (h : Below B Z W) (hg : W.grownBy w' row) (hB : B ≤ W.heap.size) (hr : ∀ k, row = some k → B ≤ k) : Below B Z w' := h.grown hg hB hr
end Go.Proofs.Ytfljnpeidadpjaa
