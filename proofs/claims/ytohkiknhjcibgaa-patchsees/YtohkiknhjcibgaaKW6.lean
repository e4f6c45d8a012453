/- PACKAGE cube: Pack. -/
import Derived.Test.YtohkiknhjcibgaaKW5
import Derived.Lib.SliceRun
import Derived.Laws.CopyOwn
namespace Go.Proofs.Ytohkiknhjcibgaa
open Go.RowKit Go.Shelf
attribute [local go_sem] Oper.semAt_some

theorem set_list {g t n : Nat} (z : Value) : ∀ (k o : Nat) (w : World) (f : Nat → Value), w.rowIs g t n f → (w.setCells g o (List.replicate k z)).rowIs g t n (fun j => if o ≤ j ∧ j < o + k then z else f j) ∧ But g w (w.setCells g o (List.replicate k z))
  | 0, o, w, f, h => ⟨h.congr fun j _ => by rw [if_neg (by omega)], But.refl _ _⟩
  | k + 1, o, w, f, h => by
    rw [List.replicate_succ]
    obtain ⟨r, b⟩ := set_list z k (o + 1) (w.setCell ⟨g, o, none⟩ z) _ (h.set o z)
    refine ⟨r.congr fun j _ => ?_, ((But.refl g w).set z).trans b⟩
    by_cases e : j = o
    · subst e; rw [if_neg (by omega), if_pos rfl, if_pos (by omega)]
    · by_cases e2 : o + 1 ≤ j ∧ j < o + 1 + k
      · rw [if_pos e2, if_pos (by omega)]
      · rw [if_neg e2, if_neg e, if_neg (by omega)]
theorem zero_u64 (w : World) : (zeroValue 41).run Try.prog w = .ok (.int .u64 0) w := by
  simp [zeroValue, go_sem, Try.t41]
/-- clear, of a row of words. -/
theorem clear_row {w : World} {g n c : Nat} {f : Nat → Value} (hn : 0 < n) (h : w.rowIs g 41 n f) :
    ∃ w', (∀ ty, (Builtin.clear_ #[26] ty #[.slice (some ⟨g, 0, none⟩) n c]).run Try.prog w = .ok (.tuple #[]) w') ∧ w'.rowIs g 41 n (wf 0) ∧ But g w w' := by
  obtain ⟨r, b⟩ := set_list (.int .u64 0) n 0 w f h
  refine ⟨_, fun ty => Go.Lib.run_clear_slice w 26 41 ty (.int .u64 0) und_u64s zero_u64 rfl rfl g 0 n c hn (fun j hj => by rw [Nat.zero_add, h.cell hj]; rfl) (fun j _ => by rw [Nat.zero_add]; exact h.frozen j), r.congr fun j hj => ?_, b⟩
  rw [if_pos (by omega)]
  simp [wf, wd_zero]
/-- copy, of d words into a row, from p on. -/
theorem copy_row {w : World} {G T p d g n c : Nat} {f h : Nat → Value} (hd : 0 < d) (hp : p + d ≤ T) (r : w.rowIs G 41 T f) (s : w.rowIs g 41 d h) (h1 : ∀ k, (h k).oneCell' = true) :
    ∃ w', (∀ ty, (Builtin.copy_ #[26, 26] ty #[.slice (some ⟨G, p, none⟩) d n, .slice (some ⟨g, 0, none⟩) d c]).run Try.prog w = .ok (.int .i64 d) w') ∧ w'.rowIs G 41 T (fun j => if p ≤ j ∧ j < p + d then h (j - p) else f j) ∧ But G w w' := by
  obtain ⟨cur, hb, hs, hc⟩ := r
  have hlen : ((List.range d).map h).length = d := by simp
  refine ⟨w.setRow G (cur.toList.take p ++ (List.range d).map h ++ cur.toList.drop (p + d)).toArray, fun ty => ?_, ⟨(cur.toList.take p ++ (List.range d).map h ++ cur.toList.drop (p + d)).toArray, ?_, ?_, ?_⟩, ?_⟩
  · have := run_copy_row (P := Try.prog) w 26 26 ty 41 G p d n ⟨g, 0, none⟩ d c cur 41 ((List.range d).map h) und_u64s (by
      obtain ⟨i, hi, _, hz, _⟩ := info_parts info_u64
      rw [hi]; simp [hz]) hb (by rw [hlen]; simp) (fun j v hv => by
        rw [List.getElem?_map] at hv
        by_cases hj : j < d
        · rw [List.getElem?_range hj] at hv
          cases hv
          have := s.cell hj
          by_cases e : j = 0
          · subst e; simpa [Addr.add] using this
          · simpa [Addr.add, e] using this
        · rw [List.getElem?_eq_none (by simpa using hj)] at hv
          cases hv) (by rw [hlen]; omega) (fun v hv => by
        obtain ⟨k, _, rfl⟩ := List.mem_map.1 hv
        exact h1 k)
    rw [hlen] at this
    exact this
  · exact setRow_heap w G _ _ _ _ hb
  · simp; omega
  · intro i hi
    rw [List.getElem?_toArray]
    show _ = some (if p ≤ i ∧ i < p + d then h (i - p) else f i)
    have hcl : cur.toList.length = T := by simpa using hs
    by_cases e1 : i < p
    · rw [if_neg (by omega), List.getElem?_append_left (by simp; omega), List.getElem?_append_left (by simp; omega), List.getElem?_take_of_lt e1]
      simpa using hc i hi
    · by_cases e2 : i < p + d
      · rw [if_pos (by omega), List.getElem?_append_left (by simp; omega), List.getElem?_append_right (by simp; omega)]
        simp only [List.length_take, hcl]
        rw [show min p T = p by omega, List.getElem?_map, List.getElem?_range (by omega)]
        rfl
      · rw [if_neg (by omega), List.getElem?_append_right (by simp; omega)]
        simp only [List.length_append, List.length_take, hcl, hlen]
        rw [show min p T = p by omega, List.getElem?_drop, show p + d + (i - (p + d)) = i by omega]
        simpa using hc i hi
  · exact ⟨rfl, rfl, rfl, by simp [World.setRow], fun k hk hne => setRow_other w G k _ hne⟩
/-- A shape's three cells as a row; a result's four. -/
def hf (h v c : Int) : Nat → Value := fun k => if k = 0 then .int .i64 h else if k = 1 then .int .i64 v else .int .i64 c
theorem hf_new (w : World) (h v c : Int) (t : TypeId) : (w.alloc (.cells #[.int .i64 h, .int .i64 v, .int .i64 c] t)).rowIs w.heap.size t 3 (hf h v c) := by
  refine ⟨_, World.alloc_heap_new _ _, rfl, fun k hk => ?_⟩
  rcases k with _ | _ | _ | k
  · rfl
  · rfl
  · rfl
  · omega
section
variable {w : World} {b t : Nat} {h v c : Int}
theorem hf0 (r : w.rowIs b t 3 (hf h v c)) : w.cell? ⟨b, 0, none⟩ = some (.int .i64 h) := r.cell (i := 0) (by omega)
theorem hf1 (r : w.rowIs b t 3 (hf h v c)) : w.cell? ⟨b, 1, none⟩ = some (.int .i64 v) := r.cell (i := 1) (by omega)
theorem hf2 (r : w.rowIs b t 3 (hf h v c)) : w.cell? ⟨b, 2, none⟩ = some (.int .i64 c) := r.cell (i := 2) (by omega)
end
theorem cf_set {w : World} {b t : Nat} {h0 v0 c0 : Int} {a0 : Option Addr} {m0 k0 : Nat} (r : w.rowIs b t 4 (cf h0 v0 c0 a0 m0 k0)) (h v c : Int) (ao : Option Addr) (m cap : Nat) :
    ((((w.setCell ⟨b, 0, none⟩ (.int .i64 h)).setCell ⟨b, 1, none⟩ (.int .i64 v)).setCell ⟨b, 2, none⟩ (.int .i64 c)).setCell ⟨b, 3, none⟩ (.slice ao m cap)).rowIs b t 4 (cf h v c ao m cap) := ((((r.set 0 _).set 1 _).set 2 _).set 3 _).congr fun k hk => by
  have : k = 0 ∨ k = 1 ∨ k = 2 ∨ k = 3 := by omega
  rcases this with rfl | rfl | rfl | rfl <;> simp [cf]
/-- The three blocks that Pack lays first. -/
theorem pack_start (w : World) (h v c : Int) (ao : Option Addr) (n cap : Nat) : ∃ W, ((w.alloc (.cells #[.int .i64 h, .int .i64 v, .int .i64 c] 29)).alloc (.cells #[.slice ao n cap] 69)).alloc (.cells #[.int .i64 0, .int .i64 0, .int .i64 0, .slice none 0 0] 31) = W ∧
    W.heap.size = w.heap.size + 3 ∧ Below w.heap.size w W ∧ W.rowIs w.heap.size 29 3 (hf h v c) ∧ W.rowIs (w.heap.size + 1) 69 1 (fun _ => .slice ao n cap) ∧ W.rowIs (w.heap.size + 2) 31 4 (cf 0 0 0 none 0 0) := by
  refine ⟨_, rfl, by simp, bl_alloc (bl_alloc (bl_alloc (Below.refl _ _) _) _) _, ((hf_new w _ _ _ _).alloc _).alloc _, ?_, ?_⟩
  · have := (one_new (w.alloc (.cells #[.int .i64 h, .int .i64 v, .int .i64 c] 29)) (.slice ao n cap) 69).alloc (.cells #[.int .i64 0, .int .i64 0, .int .i64 0, .slice none 0 0] 31)
    rwa [World.size_alloc] at this
  · have := cu_new ((w.alloc (.cells #[.int .i64 h, .int .i64 v, .int .i64 c] 29)).alloc (.cells #[.slice ao n cap] 69)) 0 0 0 none 0 0 31
    rwa [World.size_alloc, World.size_alloc] at this
end Go.Proofs.Ytohkiknhjcibgaa
