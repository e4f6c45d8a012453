/- PACKAGE gemm: zeros; the lists of sums. -/
import Derived.Test.YtakoicolffkbmaaGW2
namespace Go.Proofs.Ytakoicolffkbmaa
open Go.RowKit

theorem gen_listg {P : Program} {ops : Array Oper} {Q : Exit → Act → World → Prop} {rest : List Oper} {a : Act} {W : World} (p : World → Prop) (hp : p W) (h : ∀ W', p W' → wpList P ops Q rest a W') : wpList P ops Q rest a W := h W hp
theorem gen_theng {K : Act → World → Prop} {Q : Exit → Act → World → Prop} {a : Act} {W : World} (p : World → Prop) (hp : p W) (h : ∀ W', p W' → Exit.then K Q .normal a W') : Exit.then K Q .normal a W := h W hp
theorem gen_anyg {F : Act → World → Prop} {a : Act} {W : World} (p : World → Prop) (hp : p W) (h : ∀ W', p W' → F a W') : F a W := h W hp
/-- Lists of sums: the outer block G, the list of row i in block b i; all of them at M or above. -/
structure Gr (w : World) (M G : Nat) (b : Nat → Nat) (H W : Nat) (F : Nat → Nat → Int) : Prop where
  out : w.rowIs G 41 H (fun i => .slice (some ⟨b i, 0, none⟩) W W)
  row : ∀ i, i < H → w.rowIs (b i) 2 W (fun j => .int .i64 (F i j))
  low : M ≤ G ∧ ∀ i, i < H → M ≤ b i
  apart : ∀ i, i < H → b i ≠ G ∧ ∀ k, k < H → k ≠ i → b k ≠ b i
theorem Gr.below {w w' : World} {M G : Nat} {b : Nat → Nat} {H W : Nat} {F : Nat → Nat → Int} (h : Gr w M G b H W F) (hb : Below w.heap.size w w') : Gr w' M G b H W F :=
  ⟨keepr hb h.out, fun i hi => keepr hb (h.row i hi), h.low, h.apart⟩
theorem Gr.congr {w : World} {M G : Nat} {b : Nat → Nat} {H W : Nat} {F F' : Nat → Nat → Int} (h : Gr w M G b H W F) (hF : ∀ i j, i < H → j < W → F i j = F' i j) : Gr w M G b H W F' :=
  ⟨h.out, fun i hi => (h.row i hi).congr fun j hj => by rw [hF i j hi hj], h.low, h.apart⟩
theorem Gr.drewN {w : World} {M G : Nat} {b : Nat → Nat} {H W : Nat} {F : Nat → Nat → Int} (h : Gr w M G b H W F) (n : Nat) : Gr (w.drewN n) M G b H W F :=
  ⟨row_drewN h.out n, fun i hi => row_drewN (h.row i hi) n, h.low, h.apart⟩
theorem Gr.lt {w : World} {M G : Nat} {b : Nat → Nat} {H W : Nat} {F : Nat → Nat → Int} (h : Gr w M G b H W F) : M ≤ w.heap.size := Nat.le_trans h.low.1 (Nat.le_of_lt h.out.lt)
/-- A store into the lists. -/
theorem Gr.set {w : World} {M G : Nat} {b : Nat → Nat} {H W : Nat} {F : Nat → Nat → Int} (h : Gr w M G b H W F) {i : Nat} (hi : i < H) (j : Nat) (x : Int) :
    Gr (w.setCell ⟨b i, j, none⟩ (.int .i64 x)) M G b H W (fun i' j' => if i' = i ∧ j' = j then x else F i' j') := by
  refine ⟨h.out.setOther (fun e => (h.apart i hi).1 e.symm) _, fun i' hi' => ?_, h.low, h.apart⟩
  by_cases e : i' = i
  · subst e
    refine ((h.row i' hi).set j _).congr fun k _ => ?_
    by_cases ek : k = j
    · subst ek; simp
    · simp [ek]
  · exact ((h.row i' hi').setOther ((h.apart i hi).2 i' hi' e) _).congr fun k _ => by simp [e]
/-- The whole of row i is made anew. -/
theorem Gr.but {w w' : World} {M G : Nat} {b : Nat → Nat} {H W : Nat} {F : Nat → Nat → Int} (h : Gr w M G b H W F) {i : Nat} (hi : i < H) {f : Nat → Int} (hb : But (b i) w w') (hr : w'.rowIs (b i) 2 W (fun j => .int .i64 (f j))) :
    Gr w' M G b H W (fun i' j' => if i' = i then f j' else F i' j') := by
  refine ⟨hb.row (fun e => (h.apart i hi).1 e.symm) h.out, fun i' hi' => ?_, h.low, h.apart⟩
  by_cases e : i' = i
  · subst e; exact hr.congr fun k _ => by simp
  · exact (hb.row ((h.apart i hi).2 i' hi' e) (h.row i' hi')).congr fun k _ => by simp [e]

theorem info_i64 : (Try.prog.info? 2).map (fun i => (i.zero, i.size, i.bytes)) = some (some (.int .i64 0), 1, 8) := by kernel_rfl
theorem und_i64s : Try.prog.underlying 41 = some (.slice 2) := by kernel_rfl
theorem info_i64s : (Try.prog.info? 41).map (fun i => (i.zero, i.size, i.bytes)) = some (some (.slice none 0 0), 1, 24) := by kernel_rfl
theorem und_i64ss : Try.prog.underlying 29 = some (.slice 41) := by kernel_rfl
/-- Lists as far as they are made: the first k. -/
structure Gz (w : World) (M G : Nat) (b : Nat → Nat) (H W k : Nat) : Prop where
  out : w.rowIs G 41 H (fun i => if i < k then .slice (some ⟨b i, 0, none⟩) W W else .slice none 0 0)
  row : ∀ i, i < k → w.rowIs (b i) 2 W (fun _ => .int .i64 0)
  low : M ≤ G ∧ ∀ i, i < k → G < b i
  up : ∀ i, i < k → ∀ j, j < i → b j < b i
theorem Gz.step {w : World} {M G : Nat} {b : Nat → Nat} {H W k : Nat} (h : Gz w M G b H W k) (hk : k < H) :
    Gz ((w.setCell ⟨G, k, none⟩ (.slice (some ⟨w.heap.size, 0, none⟩) W W)).alloc (.cells (madeCells #[.int .i64 0] W) 2)) M G (fun i => if i = k then w.heap.size else b i) H W (k + 1) := by
  have hG := h.out.lt
  refine ⟨?_, fun i hi => ?_, ⟨h.low.1, fun i hi => ?_⟩, fun i hi j hj => ?_⟩
  · refine ((h.out.set k _).alloc _).congr fun i _ => ?_
    by_cases e : i = k
    · subst e; simp
    · by_cases e2 : i < k
      · rw [if_neg e, if_pos e2, if_pos (by omega), if_neg e]
      · rw [if_neg e, if_neg e2, if_neg (by omega)]
  · by_cases e : i = k
    · subst e
      simp only [if_true]
      have h2 := World.rowIs_made (w.setCell ⟨G, i, none⟩ (.slice (some ⟨w.heap.size, 0, none⟩) W W)) (.int .i64 0) W 2
      simpa using h2
    · have := h.low.2 i (by omega)
      simp only [if_neg e]
      exact ((h.row i (by omega)).setOther (show b i ≠ G by omega) _).alloc _
  · by_cases e : i = k
    · subst e; simp only [if_true]; exact hG
    · simp only [if_neg e]; exact h.low.2 i (by omega)
  · by_cases e : i = k
    · subst e
      simp only [if_true, if_neg (show ¬ j = i by omega)]
      exact (h.row j hj).lt
    · simp only [if_neg e, if_neg (show ¬ j = k by omega)]
      exact h.up i (by omega) j hj
theorem Gz.done {w : World} {M G : Nat} {b : Nat → Nat} {H W : Nat} (h : Gz w M G b H W H) : Gr w M G b H W (fun _ _ => 0) := by
  refine ⟨h.out.congr fun i hi => by rw [if_pos hi], h.row, ⟨h.low.1, fun i hi => ?_⟩, fun i hi => ⟨?_, fun k hk hne => ?_⟩⟩
  · have := h.low.1; have := h.low.2 i hi; omega
  · have := h.low.2 i hi; omega
  · rcases Nat.lt_trichotomy k i with h1 | h1 | h1
    · have := h.up i hi k h1; omega
    · omega
    · have := h.up k hk i h1; omega
set_option maxHeartbeats 800000 in
set_option maxRecDepth 100000 in
theorem zeros_any (H W : Nat) (hH : H ≤ 1099511627776) (hW : H = 0 ∨ W ≤ 1099511627776) (w : World) :
    Calls Try.prog 29 #[.int .i64 H, .int .i64 W] w fun e w' => ∃ G b, e = .returned (.slice (some ⟨G, 0, none⟩) H H) ∧ Gr w' w.heap.size G b H W (fun _ _ => 0) ∧ Below w.heap.size w w' := by
  obtain ⟨i0, hi, hz0, hz1, hz2⟩ := info_parts info_i64
  obtain ⟨j0, hj, hy0, hy1, hy2⟩ := info_parts info_i64s
  go_enter Try.func29, Try.ntmps29
  go_wp2_with ((refine wpList_make_row _ rfl _ _ 29 rfl 41 j0 (.slice none 0 0) und_i64ss hj hy0 hy1 rfl .i64 .i64 H (by go_simp) (by go_simp) (by rw [hy2]; omega) (by omega) ?_; refine gen_listg (fun X => Below w.heap.size w X ∧ Gz X w.heap.size w.heap.size (fun _ => 0) H W 0) ⟨bl_alloc (Below.refl _ _) _, ⟨(World.rowIs_made w (.slice none 0 0) H 41).congr (fun _ _ => by simp), fun i hi => absurd hi (by omega), ⟨Nat.le_refl _, fun i hi => absurd hi (by omega)⟩, fun i hi => absurd hi (by omega)⟩⟩ ?_; rintro W1 ⟨B1, hz⟩))
  go_loopw [6, 11] (fun _ i wr => ∃ k b, k ≤ H ∧ i = .int .i64 (k : Nat) ∧ Gz wr w.heap.size w.heap.size b H W k ∧ Below w.heap.size w wr) (fun _ i _ => H - (intOf i).toNat)
  case atStart => exact ⟨0, _, Nat.zero_le _, rfl, hz, B1⟩
  case round =>
    clear hz B1
    obtain ⟨k, b, hk, rfl, hz, B1⟩ := hrel
    by_cases hlt : k < H
    · have ik : (k : Int) < (H : Int) := by omega
      have ik0 : (0 : Int) ≤ (k : Int) := by omega
      have HZ := hid1 hz
      have c0 := hz.out.cell hlt
      have f0 := hz.out.frozen k
      have g0 := hz.out.lt
      have hw : W ≤ 1099511627776 := by omega
      clear hz
      go_wp2_with ((refine wpList_make_row _ rfl _ _ 41 rfl 2 i0 (.int .i64 0) und_i64s hi hz0 hz1 rfl .i64 .i64 W (by go_simp) (by go_simp) (by rw [hz2]; omega) (by omega) ?_))
      exact ⟨⟨k + 1, _, by omega, by go_num, HZ.out.step hlt, bl_alloc (bl_set B1 (by omega) _) _⟩, by simp [intOf]; omega⟩
    · have hkN : k = H := by omega
      subst hkN
      have HR := hid1 hz.done
      clear hz
      go_wp2_with fail
      go_ret
      exact ⟨_, b, rfl, HR.out, B1⟩
end Go.Proofs.Ytakoicolffkbmaa
