/- bound: a layer's reaches. -/
import Derived.Test.YtkodihmjjiadnaaNO1
namespace Go.Proofs.Ytkodihmjjiadnaa.Nn
open Go.RowKit

theorem und_rchs : Try.prog.underlying 59 = some (.slice 61) := by kernel_rfl
theorem info_rch : (Try.prog.info? 61).map (fun i => (i.zero, i.size, i.bytes)) = some (some (.agg #[.int .i64 0, .int .i64 0]), 2, 16) := by kernel_rfl
abbrev zrc : Array Value := #[.int .i64 0, .int .i64 0]
theorem make_rchs (n : Nat) (hn : n ≤ 1000000) (w : World) : (Instr.makeSlice 59 (.int .i64 (n : Int)) (.int .i64 (n : Int))).run Try.prog w = .ok (.slice (some ⟨w.heap.size, 0, none⟩) n n) (w.alloc (.cells (madeCells zrc (n * 2)) 61)) := by
  obtain ⟨i, hi, hz0, hz1, hz2⟩ := info_parts info_rch
  have := run_make w 59 61 i _ und_rchs hi hz0 .i64 .i64 (n : Int) (n : Int) (by omega) (by omega) (by rw [hz2]; omega) (by omega)
  rw [Int.toNat_natCast, hz1] at this
  exact this
theorem made_zrc (n j : Nat) (hj : j < n) : (madeCells zrc n)[j]? = some (.int .i64 0) := by
  unfold madeCells
  have h3 : j % 2 = 0 ∨ j % 2 = 1 := by omega
  rcases h3 with h | h <;> simp [hj, h]
/-- A list of reaches, k of them written. -/
def rcf (f h : Nat → Int) (k i : Nat) : Value := .int .i64 (if i < k * 2 then (if i % 2 = 0 then f (i / 2) else h (i / 2)) else 0)
theorem rcf_zero (f h : Nat → Int) (i : Nat) : Value.int .i64 0 = rcf f h 0 i := by unfold rcf; rw [if_neg (by omega)]
theorem rcf_at {f h : Nat → Int} {m k : Nat} (hk : k < m) : rcf f h m (k * 2) = .int .i64 (f k) ∧ rcf f h m (k * 2 + 1) = .int .i64 (h k) := by
  unfold rcf
  rw [if_pos (by omega), if_pos (by omega), if_pos (by omega), if_neg (by omega), show k * 2 / 2 = k by omega, show (k * 2 + 1) / 2 = k by omega]
  exact ⟨rfl, rfl⟩
def Rc (W : World) (g m : Nat) (f h : Nat → Int) (k : Nat) : Prop := W.rowIs g 61 (m * 2) (rcf f h k)
theorem Rc.new {w : World} (m : Nat) (f h : Nat → Int) : Rc (w.alloc (.cells (madeCells zrc (m * 2)) 61)) w.heap.size m f h 0 := by
  have := World.rowIs_alloc w (madeCells zrc (m * 2)) 61 (fun _ => .int .i64 0) (fun i hi => made_zrc _ _ (by rwa [size_madeCells] at hi))
  rw [size_madeCells] at this
  exact this.congr fun i _ => rcf_zero f h i
theorem Rc.put {W : World} {g m k : Nat} {f h : Nat → Int} (r : Rc W g m f h k) {x y : Int} (hx : x = f k) (hy : y = h k) : Rc ((W.setCell ⟨g, k * 2, none⟩ (.int .i64 x)).setCell ⟨g, k * 2 + 1, none⟩ (.int .i64 y)) g m f h (k + 1) := by
  have h1 : World.rowIs _ g _ (m * 2) _ := World.rowIs.set (World.rowIs.set r (k * 2) (.int .i64 x)) (k * 2 + 1) (.int .i64 y)
  refine h1.congr fun i hi => ?_
  by_cases e1 : i = k * 2 + 1
  · rw [if_pos e1, e1, (rcf_at (Nat.lt_succ_self k)).2, hy]
  · rw [if_neg e1]
    by_cases e2 : i = k * 2
    · rw [if_pos e2, e2, (rcf_at (Nat.lt_succ_self k)).1, hx]
    · rw [if_neg e2]
      unfold rcf
      by_cases e3 : i < k * 2
      · have e4 : i < (k + 1) * 2 := by omega
        simp only [if_pos e3, if_pos e4]
      · have e4 : ¬ i < (k + 1) * 2 := by omega
        simp only [if_neg e3, if_neg e4]
theorem Rc.at {W : World} {g m k j : Nat} {f h : Nat → Int} (r : Rc W g m f h k) (hj : j < k) (hm : j < m) : W.cell? ⟨g, j * 2, none⟩ = some (.int .i64 (f j)) ∧ W.cell? ⟨g, j * 2 + 1, none⟩ = some (.int .i64 (h j)) :=
  ⟨by rw [World.rowIs.cell r (by omega), (rcf_at hj).1], by rw [World.rowIs.cell r (by omega), (rcf_at hj).2]⟩
theorem Rc.keep {W w' : World} {g m k : Nat} {f h : Nat → Int} (r : Rc W g m f h k) (hb : Below W.heap.size W w') : Rc w' g m f h k := World.rowIs.of_block r (hb.block _ (World.rowIs.lt r))
abbrev trio (a b c : Int) : Value := .agg #[.int .i64 a, .int .i64 b, .int .i64 c]
theorem trf (W : World) (x y z : Int) (t : TypeId) : (W.alloc (.cells #[.int .i64 x, .int .i64 y, .int .i64 z] t)).rowIs W.heap.size t 3 (fun i => .int .i64 (if i = 0 then x else if i = 1 then y else z)) :=
  World.rowIs_alloc W _ t _ fun i hi => by
    rcases i with _ | _ | _ | i
    · rfl
    · rfl
    · rfl
    · simp at hi; omega
theorem tr2 (W : World) (x y z : Int) (t : TypeId) : (W.alloc (.cells #[.int .i64 x, .int .i64 y, .int .i64 z] t)).cell? ⟨W.heap.size, 2, none⟩ = some (.int .i64 z) := (trf W x y z t).cell (i := 2) (by decide)
set_option maxHeartbeats 1600000 in
set_option maxRecDepth 100000 in
theorem bpool_any (L : Ly) (lo hi : Int) (c : Nat) (hc : c ≤ 4096) (w : World) :
    Calls Try.prog 53 #[lyv L, trio lo hi c] w fun e w' => ∃ g, e = .returned (.slice (some ⟨g, 0, none⟩) c c) ∧ w.heap.size ≤ g ∧ Rc w' g c (fun _ => -1) (fun _ => 1) c ∧ Below w.heap.size w w' := by
  go_enter Try.func53, Try.ntmps53
  go_upto_region 1 with fail
  obtain ⟨b, hb0⟩ : ∃ b, w.heap.size = b := ⟨_, rfl⟩
  refine gen_world (fun X => Below w.heap.size w X ∧ X.cell? ⟨b + 1, 2, none⟩ = some (.int .i64 (c : Int)) ∧ X.heap.size = b + 2) ⟨by repeat (first | (with_reducible exact Below.refl _ _) | (with_reducible refine bl_alloc ?_ _) | (with_reducible refine Below.drew ?_) | (with_reducible refine bl_drewN ?_ _) | (with_reducible refine bl_set ?_ (by omega) _) | (with_reducible refine bl_step ?_ (by assumption))), by have := tr2 (w.alloc (lyo L)) lo hi c 92; simpa [hb0] using this, by simp [hb0]⟩ ?_
  rintro X ⟨BX, c2, zX⟩
  rw [hb0]
  obtain ⟨Y, mk, BY, RY, zY⟩ : ∃ Y, (Instr.makeSlice 59 (.int .i64 (c : Int)) (.int .i64 (c : Int))).run Try.prog X = .ok (.slice (some ⟨b + 2, 0, none⟩) c c) Y ∧ Below X.heap.size X Y ∧ Rc Y (b + 2) c (fun _ => -1) (fun _ => 1) 0 ∧ Y.heap.size = b + 3 :=
    ⟨_, by rw [← zX]; exact make_rchs c (by omega) X, bl_alloc (Below.refl _ _) _, by rw [← zX]; exact Rc.new c _ _, by simp [zX]⟩
  replace BX := bl_step BX BY
  have HRY := hid1 RY
  clear BY RY
  go_wp2_with fail
  clear mk
  go_loopw [12] (fun i wr => ∃ k : Nat, k ≤ c ∧ i = .int .i64 k ∧ Below w.heap.size w wr ∧ Hid (Rc wr (b + 2) c (fun _ => -1) (fun _ => 1) k)) (fun i _ => c - (intOf i).toNat)
  case atStart => exact ⟨0, Nat.zero_le _, rfl, BX, HRY⟩
  case round =>
    clear BX HRY c2 zX zY X Y
    obtain ⟨k, hk, rfl, BX, HR⟩ := hrel
    by_cases hlt : k < c
    · have ik : (k : Int) < (c : Nat) := by omega
      have ik0 : (0 : Int) ≤ (k : Int) := by omega
      go_wp2_with fail
      refine (signsO_any _).mono ?_
      rintro e w1 ⟨rfl, hb⟩
      replace BX := bl_step BX hb
      replace HR := hid1 (World.rowIs.of_block HR.out (hb.block _ HR.out.lt))
      clear hb
      have r0 := World.rowIs.cell HR.out (i := k * 2) (by omega)
      have r1 := World.rowIs.cell HR.out (i := k * 2 + 1) (by omega)
      have f0 := World.rowIs.frozen HR.out (k * 2)
      have f1 := World.rowIs.frozen HR.out (k * 2 + 1)
      unfold rcf at r0 r1
      go_wp2_with fail
      exact ⟨⟨k + 1, by omega, by go_num, bl_set (bl_set BX (by omega) _) (by omega) _, hid1 (Rc.put HR.out rfl rfl)⟩, by simp [intOf]; omega⟩
    · have hkN : k = c := by omega
      subst hkN
      go_wp2_with fail
      go_ret
      exact ⟨_, rfl, by omega, HR.out, BX⟩
end Go.Proofs.Ytkodihmjjiadnaa.Nn
