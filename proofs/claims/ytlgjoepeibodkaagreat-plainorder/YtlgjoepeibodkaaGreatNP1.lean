/- NETWORKS: WHAT IS ASKED OF WHICH KIND: THE MAP. -/
import Derived.Test.YtlgjoepeibodkaaGreatSW1
import Derived.Maps.Own
namespace Go.Proofs.YtlgjoepeibodkaaGreat.Nn
open Go.RowKit Go.ChangeMaps

abbrev fv (f : Nat) : Value := .func (.func f) #[] #[]
def rowC : Obj := .cells #[fv 60, fv 61, fv 62, fv 63, fv 64, fv 65, fv 66, fv 67, fv 68, fv 69] 112
def rowD : Obj := .cells #[fv 61, fv 70, fv 65, fv 66, fv 67, fv 71, fv 69] 112
def rowP : Obj := .cells #[fv 72, fv 60, fv 73, fv 62, fv 74, fv 64] 112
abbrev ent (b i n : Nat) : MapEntry := ⟨.int .i64 i, .slice (some ⟨b + i, 0, none⟩) n n, i - 1⟩
/-- The map that points makes: its block, and its three rows behind it. -/
def Pts (W : World) (b : Nat) : Prop := W.heap[b]? = some (.map #[ent b 1 10, ent b 2 7, ent b 3 6] 3) ∧ W.heap[b + 1]? = some rowC ∧ W.heap[b + 2]? = some rowD ∧ W.heap[b + 3]? = some rowP
theorem Pts.lt {W : World} {b : Nat} (h : Pts W b) : b + 3 < W.heap.size := (Array.getElem?_eq_some_iff.1 h.2.2.2).1
theorem Pts.keep {W w' : World} {b : Nat} (h : Pts W b) (hb : Below W.heap.size W w') : Pts w' b := by
  have hl := h.lt
  exact ⟨(hb.block _ (by omega)).trans h.1, (hb.block _ (by omega)).trans h.2.1, (hb.block _ (by omega)).trans h.2.2.1, (hb.block _ (by omega)).trans h.2.2.2⟩
theorem und_map : Tryz.prog.underlying 94 = some (.map 3 110) := by kernel_rfl
theorem ins_run {w : World} {b : Nat} {es : Array MapEntry} {c : Nat} (hb : w.heap[b]? = some (.map es c)) (k : Int) (v : Value) (hn : Instr.findNow (.int .i64) (.int .i64 k) es.toList 0 = some none) :
    Sem.run Tryz.prog (Instr.mapUpdate 94 (.map (some b)) (.int .i64 k) v) w = .ok () (setBlock w b (.map (es.push ⟨.int .i64 k, v, c⟩) (c + 1))) := by
  simp [Instr.mapUpdate, run_underlying und_map, MapKept.run_getObj_map hb, MapKept.run_checkKey Tryz.underlying3 (show MapKept.IsKey (.int .i64) (.int .i64 k) from rfl) false 9999, MapKept.run_findKey Tryz.underlying3 hn, MapKept.run_setObj_map _ hb, Result.andThen, setBlock]
/-- A block of a world laid anew. -/
theorem ins_ex {w : World} {b : Nat} {es : Array MapEntry} {c : Nat} (hb : w.heap[b]? = some (.map es c)) (k : Int) (v : Value) (hn : Instr.findNow (.int .i64) (.int .i64 k) es.toList 0 = some none) :
    ∃ W, Sem.run Tryz.prog (Instr.mapUpdate 94 (.map (some b)) (.int .i64 k) v) w = .ok () W ∧ W.heap.size = w.heap.size ∧ W.heap[b]? = some (.map (es.push ⟨.int .i64 k, v, c⟩) (c + 1)) ∧ (∀ i, i ≠ b → W.heap[i]? = w.heap[i]?) ∧ W.os = w.os ∧ W.tape = w.tape ∧ W.output = w.output :=
  ⟨_, ins_run hb k v hn, by simp [setBlock], heap_setBlock_same hb _, fun i hi => heap_setBlock_other hb _ hi, rfl, rfl, rfl⟩
theorem new_block (w : World) (o : Obj) : (w.alloc o).heap[w.heap.size]? = some o := (MapKept.heap_alloc w o).1
theorem old_block (w : World) (o : Obj) {k : Nat} (h : k < w.heap.size) : (w.alloc o).heap[k]? = w.heap[k]? := Below.heap_alloc w o k h
set_option maxRecDepth 100000 in
theorem points_any (w : World) : Calls Tryz.prog 44 #[] w fun e w' => e = .returned (.map (some w.heap.size)) ∧ Pts w' w.heap.size ∧ Below w.heap.size w w' := by
  have hmm := @run_makeMap Tryz.prog
  have hs0 : ((w.alloc (.map #[] 0)).alloc rowC).heap.size = w.heap.size + 2 := by simp
  have hc1 : ((w.alloc (.map #[] 0)).alloc rowC).heap[w.heap.size + 1]? = some rowC := by have := new_block (w.alloc (.map #[] 0)) rowC; simpa using this
  obtain ⟨W1, r1, z1, b1, o1, t1⟩ := ins_ex (w := (w.alloc (.map #[] 0)).alloc rowC) (b := w.heap.size) (es := #[]) (c := 0) (by rw [old_block _ _ (by simp)]; exact new_block w _) 1 (.slice (some ⟨w.heap.size + 1, 0, none⟩) 10 10) rfl
  rw [hs0] at z1
  rw [← o1 (w.heap.size + 1) (by omega)] at hc1
  have q1 : ∀ i, i < w.heap.size → W1.heap[i]? = w.heap[i]? := fun i hi => by rw [o1 i (by omega), old_block _ _ (by simp; omega), old_block _ _ hi]
  have hs1 : (W1.alloc rowD).heap.size = w.heap.size + 3 := by simp [z1]
  have hd1 : (W1.alloc rowD).heap[w.heap.size + 2]? = some rowD := by have := new_block W1 rowD; rwa [z1] at this
  obtain ⟨W2, r2, z2, b2, o2, t2⟩ := ins_ex (w := W1.alloc rowD) (b := w.heap.size) (by rw [old_block _ _ (by omega)]; exact b1) 2 (.slice (some ⟨w.heap.size + 2, 0, none⟩) 7 7) (by first | rfl | kernel_rfl)
  rw [hs1] at z2
  rw [← o2 (w.heap.size + 2) (by omega)] at hd1
  rw [← old_block W1 rowD (k := w.heap.size + 1) (by omega), ← o2 _ (by omega)] at hc1
  have q2 : ∀ i, i < w.heap.size → W2.heap[i]? = w.heap[i]? := fun i hi => by rw [o2 i (by omega), old_block _ _ (by omega), q1 i hi]
  have hs2 : (W2.alloc rowP).heap.size = w.heap.size + 4 := by simp [z2]
  have hp1 : (W2.alloc rowP).heap[w.heap.size + 3]? = some rowP := by have := new_block W2 rowP; rwa [z2] at this
  obtain ⟨W3, r3, z3, b3, o3, t3⟩ := ins_ex (w := W2.alloc rowP) (b := w.heap.size) (by rw [old_block _ _ (by omega)]; exact b2) 3 (.slice (some ⟨w.heap.size + 3, 0, none⟩) 6 6) (by first | rfl | kernel_rfl)
  rw [hs2] at z3
  rw [← o3 (w.heap.size + 3) (by omega)] at hp1
  rw [← old_block W2 rowP (k := w.heap.size + 1) (by omega), ← o3 _ (by omega)] at hc1
  rw [← old_block W2 rowP (k := w.heap.size + 2) (by omega), ← o3 _ (by omega)] at hd1
  have q3 : ∀ i, i < w.heap.size → W3.heap[i]? = w.heap[i]? := fun i hi => by rw [o3 i (by omega), old_block _ _ (by omega), q2 i hi]
  have fin : Hid (Pts W3 w.heap.size ∧ Below w.heap.size w W3) := ⟨⟨b3, hc1, hd1, hp1⟩, ⟨t3.1.trans (t2.1.trans t1.1), t3.2.1.trans (t2.2.1.trans t1.2.1), t3.2.2.trans (t2.2.2.trans t1.2.2), by omega, q3⟩⟩
  clear b1 b2 b3 o1 o2 o3 hc1 hd1 hp1 q1 q2 q3 hs0 hs1 hs2 t1 t2 t3
  unfold rowC at r1
  unfold rowD at r2
  unfold rowP at r3
  go_enter Tryz.func44, Tryz.ntmps44
  go_wp2_with fail
  go_ret
  exact ⟨rfl, fin.out⟩
def lkV (b : Nat) (kd : Int) : Value := if kd = 1 then .slice (some ⟨b + 1, 0, none⟩) 10 10 else if kd = 2 then .slice (some ⟨b + 2, 0, none⟩) 7 7 else if kd = 3 then .slice (some ⟨b + 3, 0, none⟩) 6 6 else .slice none 0 0
theorem look_run {w : World} {b : Nat} (h : Pts w b) (kd : Int) : Sem.run Tryz.prog (Instr.lookup 94 (.map (some b)) (.int .i64 kd) true) w = .ok (.tuple #[lkV b kd, .bool (decide (kd = 1 ∨ kd = 2 ∨ kd = 3))]) w := by
  unfold lkV
  have hc : kd = 1 ∨ kd = 2 ∨ kd = 3 ∨ (kd ≠ 1 ∧ kd ≠ 2 ∧ kd ≠ 3) := by omega
  rcases hc with rfl | rfl | rfl | ⟨n1, n2, n3⟩
  · simp [Instr.lookup, run_underlying und_map, MapKept.run_getObj_map h.1, MapKept.run_checkKey Tryz.underlying3 (show MapKept.IsKey (.int .i64) (.int .i64 1) from rfl) _ 9999, Instr.findKey, Instr.findNow, Instr.sameNow, run_underlying Tryz.underlying3, Result.andThen]
  · simp [Instr.lookup, run_underlying und_map, MapKept.run_getObj_map h.1, MapKept.run_checkKey Tryz.underlying3 (show MapKept.IsKey (.int .i64) (.int .i64 2) from rfl) _ 9999, Instr.findKey, Instr.findNow, Instr.sameNow, run_underlying Tryz.underlying3, Result.andThen]
  · simp [Instr.lookup, run_underlying und_map, MapKept.run_getObj_map h.1, MapKept.run_checkKey Tryz.underlying3 (show MapKept.IsKey (.int .i64) (.int .i64 3) from rfl) _ 9999, Instr.findKey, Instr.findNow, Instr.sameNow, run_underlying Tryz.underlying3, Result.andThen]
  · have e1 : (kd == 1) = false := by simpa using n1
    have e2 : (kd == 2) = false := by simpa using n2
    have e3 : (kd == 3) = false := by simpa using n3
    have hf : Instr.findNow (.int .i64) (.int .i64 kd) [ent b 1 10, ent b 2 7, ent b 3 6] 0 = some none := by simp [Instr.findNow, Instr.sameNow, e1, e2, e3]
    simp [Instr.lookup, run_underlying und_map, MapKept.run_getObj_map h.1, MapKept.run_checkKey Tryz.underlying3 (show MapKept.IsKey (.int .i64) (.int .i64 kd) from rfl) _ 9999, MapKept.run_findKey Tryz.underlying3 hf, Result.andThen, n1, n2, n3]
end Go.Proofs.YtlgjoepeibodkaaGreat.Nn
