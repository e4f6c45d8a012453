/- PACKAGE patch: wordsFor, blank, within, copy. -/
import Derived.Test.YtohkiknhjcibgaaKW6
import Derived.Test.YtohkiknhjcibgaaDW2
import Derived.Deep.RegionHeld3
import Derived.Deep.DeepCutAuto
namespace Go.Proofs.Ytohkiknhjcibgaa
open Go.RowKit Go.Shelf

/-- copy into a row of words, from p on, out of any cells. -/
theorem copy_gen {w : World} {G T p L n s c d : Nat} {a : Addr} {f h : Nat → Value} (hp : p + d ≤ T) (hL : d = Nat.min s L) (r : w.rowIs G 41 T f) (hs : ∀ j, j < d → w.cell? (a.add j) = some (h j)) (h1 : ∀ k, (h k).oneCell' = true) :
    ∃ w', (∀ ty, (Builtin.copy_ #[26, 26] ty #[.slice (some ⟨G, p, none⟩) L n, .slice (some a) s c]).run Try.prog w = .ok (.int .i64 d) w') ∧ w'.rowIs G 41 T (fun j => if p ≤ j ∧ j < p + d then h (j - p) else f j) ∧ But G w w' := by
  obtain ⟨cur, hb, hsz, hc⟩ := r
  have hlen : ((List.range d).map h).length = d := by simp
  refine ⟨w.setRow G (cur.toList.take p ++ (List.range d).map h ++ cur.toList.drop (p + d)).toArray, fun ty => ?_, ⟨(cur.toList.take p ++ (List.range d).map h ++ cur.toList.drop (p + d)).toArray, ?_, ?_, ?_⟩, ?_⟩
  · have := run_copy_row (P := Try.prog) w 26 26 ty 41 G p L n a s c cur 41 ((List.range d).map h) und_u64s (by
      obtain ⟨i, hi, _, hz, _⟩ := info_parts info_u64
      rw [hi]; simp [hz]) hb (by rw [hlen]; exact hL) (fun j v hv => by
        rw [List.getElem?_map] at hv
        by_cases hj : j < d
        · rw [List.getElem?_range hj] at hv
          cases hv
          exact hs j hj
        · rw [List.getElem?_eq_none (by simpa using hj)] at hv
          cases hv) (by rw [hlen]; omega) (fun v hv => by
        obtain ⟨k, _, rfl⟩ := List.mem_map.1 hv
        exact h1 k)
    rw [hlen] at this
    exact this
  · exact setRow_heap w G _ _ _ _ hb
  · simp; omega
  · intro i hi
    rw [List.getElem?_toArray]
    show _ = some (if p ≤ i ∧ i < p + d then h (i - p) else f i)
    have hcl : cur.toList.length = T := by simpa using hsz
    by_cases e1 : i < p
    · rw [if_neg (by omega), List.getElem?_append_left (by simp; omega), List.getElem?_append_left (by simp; omega), List.getElem?_take_of_lt e1]
      simpa using hc i hi
    · by_cases e2 : i < p + d
      · rw [if_pos (by omega), List.getElem?_append_left (by simp; omega), List.getElem?_append_right (by simp; omega)]
        simp only [List.length_take, hcl]
        rw [show min p T = p by omega, List.getElem?_map, List.getElem?_range (by omega)]
        rfl
      · rw [if_neg (by omega), List.getElem?_append_right (by simp; omega)]
        simp only [List.length_append, List.length_take, hcl, hlen]
        rw [show min p T = p by omega, List.getElem?_drop, show p + d + (i - (p + d)) = i by omega]
        simpa using hc i hi
  · exact ⟨rfl, rfl, rfl, by simp [World.setRow], fun k hk hne => setRow_other w G k _ hne⟩
theorem wf_one (N k : Nat) : (wf N k).oneCell' = true := rfl
set_option maxRecDepth 100000 in
theorem pwordsFor_any (n : Nat) (h1 : n ≤ 16777216) (w : World) :
    Calls Try.prog 25 #[.int .i64 n] w fun e w' => e = .returned (.int .i64 (nw n)) ∧ w' = w := by
  have e1 : ((n : Int) + 63) / 64 = (nw n : Nat) := by unfold nw; omega
  have hb := nw_bd h1
  go_enter Try.func25, Try.ntmps25
  go_wp2
  go_ret
  refine ⟨ret_int ?_, rfl⟩
  rw [e1]
set_option maxRecDepth 100000 in
theorem within_any (s n l : Int) (hs : -1073741824 ≤ s ∧ s ≤ 1073741824) (hl : 0 ≤ l ∧ l ≤ 1073741824) (w : World) :
    Calls Try.prog 37 #[.int .i64 s, .int .i64 n, .int .i64 l] w fun e w' => e = .returned (.tuple #[.int .i64 (max 0 (-s)), .int .i64 (min n (l - s))]) ∧ w' = w := by
  obtain ⟨s1, s2⟩ := hs
  obtain ⟨l1, l2⟩ := hl
  go_enter Try.func37, Try.ntmps37
  go_wp2
  all_goals (refine bodyPost_ret (v := .tuple #[.int .i64 (max 0 (-s)), .int .i64 (min n (l - s))]) ?_ rfl ⟨rfl, rfl⟩; simp [results, Try.results37, go_sem]; omega)
/-- A list of m words, all of whose bits count, in a block of its own. -/
abbrev bt (m G N : Nat) : Bt := ⟨(64 * m : Nat), some ⟨G, 0, none⟩, m, m, N⟩
theorem blank_two (W : World) (m b : Nat) (hb : W.heap.size + 1 = b) : ((W.alloc (.cells (madeCells #[.int .u64 0] m) 41)).alloc (.cells (madeCells #[.int .u64 0] m) 41)).drew.rowIs b 41 m (wf 0) := by
  have h := World.rowIs_made (W.alloc (.cells (madeCells #[.int .u64 0] m) 41)) (.int .u64 0) m 41
  rw [World.size_alloc, hb] at h
  exact (h.congr fun k _ => by simp [wf, wd_zero]).drew
theorem blank_one (W : World) (m b : Nat) (hb : W.heap.size = b) : ((W.alloc (.cells (madeCells #[.int .u64 0] m) 41)).alloc (.cells (madeCells #[.int .u64 0] m) 41)).drew.rowIs b 41 m (wf 0) := by
  have h := World.rowIs_made W (.int .u64 0) m 41
  rw [hb] at h
  exact ((h.congr fun k _ => by simp [wf, wd_zero]).alloc _).drew
set_option maxHeartbeats 1600000 in
set_option maxRecDepth 100000 in
theorem pblank_any (m : Nat) (hm : m ≤ 16777216) (w : World) :
    Calls Try.prog 26 #[.int .i64 m] w fun e w' => ∃ G1 G2, e = .returned (rwv (bt m G1 0) (bt m G2 0)) ∧ w.heap.size ≤ G1 ∧ w.heap.size ≤ G2 ∧ G1 ≠ G2 ∧ w'.rowIs G1 41 m (wf 0) ∧ w'.rowIs G2 41 m (wf 0) ∧ Below w.heap.size w w' := by
  obtain ⟨i0, hi, hz0, hz1, hz2⟩ := info_parts info_u64
  have hmk : ∀ w, (Instr.makeSlice 26 (.int .i64 (m : Int)) (.int .i64 (m : Int))).run Try.prog w = .ok (.slice (some ⟨w.heap.size, 0, none⟩) m m) (w.alloc (.cells (madeCells #[.int .u64 0] m) 41)) := fun w => run_make_row 26 41 i0 (.int .u64 0) und_u64s hi hz0 hz1 rfl .i64 .i64 m (by rw [hz2]; omega) (by omega) w
  have hfo := follows
  have e64 : IntKind.i64.wrap (64 * (m : Int)) = ((64 * m : Nat) : Int) := by rw [IntKind.wrap_i64]; omega
  go_enter Try.func26, Try.ntmps26
  go_upto_region 1 with fail
  go_region_held3 (fun X => True) (trivial) (fail)
  all_goals
    rename_i Q1 K1 hk hh
    refine hk _ _ ?_
    go_wp2
    clear hk hh hmk
  · refine bodyPost_ret (v := rwv (bt m (w.heap.size + 1) 0) (bt m (w.heap.size + 1 + 1) 0)) (by simp [results, Try.results26, go_sem]) rfl ⟨_, _, rfl, by omega, by omega, by omega, blank_one _ _ _ (by simp), blank_two _ _ _ (by simp), (bl_alloc (bl_alloc (bl_alloc (Below.refl _ _) _) _) _).drew⟩
  · refine bodyPost_ret (v := rwv (bt m (w.heap.size + 1 + 1) 0) (bt m (w.heap.size + 1) 0)) (by simp [results, Try.results26, go_sem]) rfl ⟨_, _, rfl, by omega, by omega, by omega, blank_two _ _ _ (by simp), blank_one _ _ _ (by simp), (bl_alloc (bl_alloc (bl_alloc (Below.refl _ _) _) _) _).drew⟩
end Go.Proofs.Ytohkiknhjcibgaa
