/- NETWORKS: THE CHAPTER'S EXAMPLE, MADE. -/
import Derived.Test.YtfljnpeidadpjaaNE3
import Derived.Test.YtfljnpeidadpjaaNP6
namespace Go.Proofs.Ytfljnpeidadpjaa
open Go.RowKit

set_option maxHeartbeats 1600000 in
set_option maxRecDepth 100000 in
theorem example_any (w : World) : Calls Try.prog 29 #[] w fun e w' => e = .returned (ntv (exN w.heap.size 3)) ∧ ExB w' w.heap.size 3 ∧ Below w.heap.size w w' := by
  obtain ⟨B, hB⟩ : ∃ B, w.heap.size = B := ⟨_, rfl⟩
  rw [hB]
  go_enter Try.func29, Try.ntmps29
  go_upto_region 4 with fail
  refine gen_world (fun X => Below w.heap.size w X ∧ X.heap.size = B + 4 ∧ X.heap[B]? = some netZ ∧ X.heap[B + 1]? = some (.cells #[.int .i64 1, .int .i64 1] 24) ∧ X.heap[B + 2]? = some (.cells #[.int .i64 0, .int .i64 1] 24) ∧ X.heap[B + 3]? = some (.cells #[.int .i64 2, .int .i64 2, .int .i64 1, .int .i64 1, .int .i64 1, .int .i64 1, .int .i64 1, .int .i64 1] 27)) ⟨by repeat (first | (with_reducible exact Below.refl _ _) | (with_reducible refine bl_alloc ?_ _) | (with_reducible refine Below.drew ?_) | (with_reducible refine bl_drewN ?_ _) | (with_reducible refine bl_set ?_ (by omega) _) | (with_reducible refine bl_step ?_ (by assumption))), by simp [hB], by repeat (first | exact new_at (by simp [*]) _ | refine old_at ?_ _), by repeat (first | exact new_at (by simp [*]) _ | refine old_at ?_ _), by repeat (first | exact new_at (by simp [*]) _ | refine old_at ?_ _), by repeat (first | exact new_at (by simp [*]) _ | refine old_at ?_ _)⟩ ?_
  rintro X ⟨BX, zX, r0, r1, r2, r3⟩
  have p0 := bcl r1 (j := 0) rfl; have p1 := bcl r1 (j := 1) rfl
  have q0 := bcl r2 (j := 0) rfl; have q1 := bcl r2 (j := 1) rfl
  have w0 := bcl r3 (j := 0) rfl; have w1 := bcl r3 (j := 1) rfl; have w2 := bcl r3 (j := 2) rfl; have w3 := bcl r3 (j := 3) rfl; have w4 := bcl r3 (j := 4) rfl; have w5 := bcl r3 (j := 5) rfl; have w6 := bcl r3 (j := 6) rfl; have w7 := bcl r3 (j := 7) rfl
  have l1 : B + 1 < X.heap.size := by omega
  have l2 : B + 2 < X.heap.size := by omega
  go_upto_region 5 with fail
  clear p0 p1 q0 q1 w0 w1 w2 w3 w4 w5 w6 w7 l1 l2
  refine gen_world (fun Y => Below w.heap.size w Y ∧ Y.heap.size = B + 7 ∧ Y.heap[B]? = some netZ ∧ Y.heap[B + 4]? = some (.cells (i8c [1, -1, -1, 1]) 54) ∧ Y.heap[B + 5]? = some (.cells (i64c [1, 1, 0, 1, 0, 1, 1, 1]) 33) ∧ Y.heap[B + 6]? = some (layO (exA B))) ⟨by repeat (first | (with_reducible exact Below.refl _ _) | (with_reducible refine bl_alloc ?_ _) | (with_reducible refine Below.drew ?_) | (with_reducible refine bl_drewN ?_ _) | (with_reducible refine bl_set ?_ (by omega) _) | (with_reducible refine bl_step ?_ (by assumption))), by simp [zX], old_at (old_at (old_at r0 _) _) _, old_at (old_at (new_at zX _) _) _, old_at (new_at (by simp [zX]) _) _, new_at (by simp [zX]) _⟩ ?_
  clear r0 r1 r2 r3 zX BX X
  rintro Y ⟨BY, zY, r0, r4, r5, r6⟩
  go_upto_region 7 with fail
  refine gen_world (fun Z => Below w.heap.size w Z ∧ Z.heap.size = B + 11 ∧ Z.heap[B]? = some netZ ∧ Z.heap[B + 4]? = some (.cells (i8c [1, -1, -1, 1]) 54) ∧ Z.heap[B + 5]? = some (.cells (i64c [1, 1, 0, 1, 0, 1, 1, 1]) 33) ∧ Z.heap[B + 6]? = some (layO (exA B)) ∧ Z.heap[B + 7]? = some (layO exP) ∧ Z.heap[B + 8]? = some (.cells (i8c [1, 0, -1, 1, 0, 0, 0, 1]) 54) ∧ Z.heap[B + 9]? = some (.cells (i64c [3, -4]) 2) ∧ Z.heap[B + 10]? = some (layO (exD B 3))) ⟨by repeat (first | (with_reducible exact Below.refl _ _) | (with_reducible refine bl_alloc ?_ _) | (with_reducible refine Below.drew ?_) | (with_reducible refine bl_drewN ?_ _) | (with_reducible refine bl_set ?_ (by omega) _) | (with_reducible refine bl_step ?_ (by assumption))), by simp [zY], old_at (old_at (old_at (old_at r0 _) _) _) _, old_at (old_at (old_at (old_at r4 _) _) _) _, old_at (old_at (old_at (old_at r5 _) _) _) _, old_at (old_at (old_at (old_at r6 _) _) _) _, old_at (old_at (old_at (new_at zY _) _) _) _, old_at (old_at (new_at (by simp [zY]) _) _) _, old_at (new_at (by simp [zY]) _) _, new_at (by simp [zY]) _⟩ ?_
  clear r0 r4 r5 r6 zY BY Y
  rintro Z ⟨BZ, zZ, r0, r4, r5, r6, r7, r8, r9, r10⟩
  have lpA : Lp Z (B + 6) (exA B) := ⟨bcl r6 rfl, bcl r6 rfl, bcl r6 rfl, bcl r6 rfl, bcl r6 rfl, bcl r6 rfl, bcl r6 rfl, bcl r6 rfl, bcl r6 rfl, bcl r6 rfl, bcl r6 rfl, bcl r6 rfl, bcl r6 rfl, bcl r6 rfl, bcl r6 rfl⟩
  have lpB : Lp Z (B + 7) exP := ⟨bcl r7 rfl, bcl r7 rfl, bcl r7 rfl, bcl r7 rfl, bcl r7 rfl, bcl r7 rfl, bcl r7 rfl, bcl r7 rfl, bcl r7 rfl, bcl r7 rfl, bcl r7 rfl, bcl r7 rfl, bcl r7 rfl, bcl r7 rfl, bcl r7 rfl⟩
  have lpC : Lp Z (B + 10) (exD B 3) := ⟨bcl r10 rfl, bcl r10 rfl, bcl r10 rfl, bcl r10 rfl, bcl r10 rfl, bcl r10 rfl, bcl r10 rfl, bcl r10 rfl, bcl r10 rfl, bcl r10 rfl, bcl r10 rfl, bcl r10 rfl, bcl r10 rfl, bcl r10 rfl, bcl r10 rfl⟩
  refine ex_seven _ _ _ _ _ _ _ _ _ _ _ _ _ _ _ _ _ _ _ _ _ _ _ _ _ _ B (B + 6) (B + 7) (B + 10) (exA B) exP (exD B 3) Z _ lpA lpB lpC r0 (hid1 ?_)
  intro X EX RX ht
  have zX : X.heap.size = B + 11 := EX.1.trans zZ
  have BX := EX.below BZ (by omega) ht
  have HE := hid1 (show ExB (X.alloc (.cells (row3 (exA B) exP (exD B 3)) 31)) B 3 from ⟨old_at ((EX.2 _ (by omega)).trans r4) _, old_at ((EX.2 _ (by omega)).trans r5) _, old_at ((EX.2 _ (by omega)).trans r8) _, old_at ((EX.2 _ (by omega)).trans r9) _, new_at zX _⟩)
  have HX := hid1 (bl_alloc BX (.cells (row3 (exA B) exP (exD B 3)) 31))
  have HR := hid1 (RX.alloc (.cells (row3 (exA B) exP (exD B 3)) 31))
  rw [zZ]
  rw [zZ] at HR
  clear r0 r4 r5 r6 r7 r8 r9 r10 lpA lpB lpC EX RX ht BX BZ zX zZ Z
  refine gen_then (fun Y => Y = X.alloc (.cells (row3 (exA B) exP (exD B 3)) 31)) rfl ?_
  rintro Y hY
  rw [← hY] at HE HX HR
  clear hY
  have n0 := HR.out.cell (i := 0) (by decide)
  have n1 := HR.out.cell (i := 1) (by decide)
  have n2 := HR.out.cell (i := 2) (by decide)
  have n3 := HR.out.cell (i := 3) (by decide)
  have n4 := HR.out.cell (i := 4) (by decide)
  go_wp2_with fail
  simp [bodyPost, results, Try.results29, go_sem, n0, n1, n2, n3, n4]
  exact ⟨⟨rfl, rfl, rfl, rfl, rfl, rfl, rfl⟩, HE.out, hB ▸ HX.out⟩
end Go.Proofs.Ytfljnpeidadpjaa
