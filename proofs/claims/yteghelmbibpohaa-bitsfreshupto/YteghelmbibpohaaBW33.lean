/- Twin, Kept. -/
import Derived.Test.YteghelmbibpohaaBW32
namespace Go.Proofs.Yteghelmbibpohaa
open Go.RowKit

theorem cell_three_new (w : World) (x y z : Value) (t : TypeId) : ∀ j u, [x, y, z][j]? = some u → (w.alloc (.cells #[x, y, z] t)).cell? ((⟨w.heap.size, 0, none⟩ : Addr).add j) = some u := by
  intro j u hu
  rcases j with _ | _ | _ | j
  · simp at hu; subst hu; simp [Addr.add, go_sem]
  · simp at hu; subst hu; simp [Addr.add, go_sem]
  · simp at hu; subst hu; simp [Addr.add, go_sem]
  · simp at hu
/-- A twin: words, and three marks behind them. -/
structure Tw (w : World) (g c m N : Nat) : Prop where
  room : m + 3 ≤ c
  max : c ≤ maxLen
  lt : N < 2 ^ (64 * m)
  row : ∃ f, w.rowIs g 35 c f ∧ (∀ k, k < m → f k = wf N k) ∧ f m = .int .u64 71 ∧ f (m + 1) = .int .u64 72 ∧ f (m + 2) = .int .u64 73
theorem Tw.below {w w' : World} {g c m N : Nat} (h : Tw w g c m N) (hb : Below w.heap.size w w') : Tw w' g c m N := by
  obtain ⟨h1, h2, h3, f, h4, h5⟩ := h
  exact ⟨h1, h2, h3, f, keepr hb h4, h5⟩
theorem Tw.setOther {w : World} {g c m N b o : Nat} (h : Tw w g c m N) (hne : g ≠ b) (v : Value) : Tw (w.setCell ⟨b, o, none⟩ v) g c m N := by
  obtain ⟨h1, h2, h3, f, h4, h5⟩ := h
  exact ⟨h1, h2, h3, f, h4.setOther (a := ⟨b, o, none⟩) hne v, h5⟩
theorem Tw.drew {w : World} {g c m N : Nat} (h : Tw w g c m N) : Tw w.drew g c m N := by
  obtain ⟨h1, h2, h3, f, h4, h5⟩ := h
  exact ⟨h1, h2, h3, f, h4.drew, h5⟩
theorem Tw.rd {w : World} {g c m N : Nat} (h : Tw w g c m N) : Rd w (some ⟨g, 0, none⟩) m N := by
  obtain ⟨h1, _, h3, f, h4, h5, _⟩ := h
  exact ⟨h3, fun _ => ⟨g, rfl, fun k hk => by rw [← h5 k hk]; exact h4.cell (by omega)⟩⟩
set_option maxHeartbeats 3200000 in
set_option maxRecDepth 100000 in
theorem twin_any (n : Int) (la : Option Addr) (m N cl : Nat) (w : World) (hm : m ≤ 1048576) (hl : Ro w la m N) (hn : la = none → m = 0 ∧ cl = 0) :
    Calls Try.prog 27 #[rv n la m cl] w fun e w' => ∃ g c, e = .returned (rv n (some ⟨g, 0, none⟩) m c) ∧ w.heap.size ≤ g ∧ Tw w' g c m N ∧ Below w.heap.size w w' := by
  obtain ⟨i0, hi, hz0, hz1, hz2⟩ := info_parts info_u64
  have HR := hid1 hl
  have HN := hid1 hn
  have HLT := hid1 hl.1
  have im0 : (0 : Int) ≤ (m : Int) := by omega
  have im1 : (m : Int) ≤ 1048576 := by omega
  clear hl hn
  go_enter Try.func27, Try.ntmps27
  go_upto_region 1 with fail
  refine gen_world (fun W => W.heap.size = w.heap.size + 2 ∧ Below w.heap.size w W ∧ W.rowIs w.heap.size 27 2 (sf n la m cl) ∧ W.rowIs (w.heap.size + 1) 27 2 (sf 0 none 0 0))
    ⟨by simp, bl_alloc (bl_alloc (Below.refl _ _) _) _, (row_new _ _ _ _ _ _).alloc _, by have := row_new (w.alloc (.cells #[.int .i64 n, .slice la m cl] 27)) 0 none 0 0 27; simpa using this⟩ ?_
  rintro W ⟨z0, B0, r1, r2⟩
  have c11 := sf_ws r1
  go_upto_region 3 with (first
    | (at_builtin; refine app_ro rfl _ _ rfl W W.heap.size (.slice none 0 0) 0 [] (by go_simp) (World.ownsRow_nil _ _ _ _) ⟨But.refl _ _, .inl rfl⟩ la m N cl (by go_simp) (HR.out.below B0) HN.out (by omega) ?_; intro v1 w1 hown1 hmv1; rw [Nat.zero_add, List.nil_append] at hown1; obtain ⟨ao1, c1, rfl⟩ := own_slice hown1)
    | (at_builtin; refine wpList_append_own_at _ rfl _ _ 25 rfl 0 35 i0 (.int .u64 0) 1 8 und_u64s hi hz0 hz1 hz2 rfl (by decide) (.slice ao1 m c1) m (rowL (wf N) m) (by go_simp) (hown1.alloc _) ⟨_, 0, none⟩ 3 3 [.int .u64 71, .int .u64 72, .int .u64 73] (by go_simp) rfl (cell_three_new _ _ _ _ _) (fun x hx => by simp at hx; rcases hx with rfl | rfl | rfl <;> rfl) (by unfold maxLen; omega) (by omega) (Nat.zero_le _) ?_; intro v2 w2 hown2 hgrow2 hnil2 hat2; have hmv2 := (hmv1.alloc _).app hgrow2 hat2; obtain ⟨g, c2, f2, rfl, _, hle, hmax, hrow2, hf2⟩ := own_row hown2 (by omega)))
  have hg : W.heap.size ≤ g := by
    rcases hmv2.at_ with h | h | ⟨b, h, hb⟩
    · simp [Value.ownBlock] at h
    · simp [Value.ownBlock] at h; omega
    · simp [Value.ownBlock] at h; subst h; exact hb
  have hbel : Below W.heap.size W w2 := ⟨hmv2.but.os, hmv2.but.tape, hmv2.but.output, hmv2.but.size, fun k hk => hmv2.but.block k hk (by omega)⟩
  replace r1 := keepr hbel r1
  replace r2 := keepr hbel r2
  have B2 := bl_step B0 hbel
  have c10 := sf_len r1
  have c11' := sf_ws r1
  have c20 := sf_len r2
  have c21 := sf_ws r2
  have f0 := r2.frozen 0
  have f1 := r2.frozen 1
  have hne := row_ne hrow2 r2 (by decide)
  have HT : Hid (Tw w2 g c2 m N) := ⟨hle, hmax, HLT.out, f2, hrow2, fun k hk => by
      have h2 := hf2 k (by omega)
      rw [List.getElem?_append_left (by simpa [rowL] using hk)] at h2
      obtain ⟨_, h3⟩ := rowL_get h2
      exact h3, by
      have h2 := hf2 m (by omega)
      rw [List.getElem?_append_right (by simp [rowL])] at h2
      simpa [rowL] using h2.symm, by
      have h2 := hf2 (m + 1) (by omega)
      rw [List.getElem?_append_right (by simp [rowL])] at h2
      simpa [rowL] using h2.symm, by
      have h2 := hf2 (m + 2) (by omega)
      rw [List.getElem?_append_right (by simp [rowL])] at h2
      simpa [rowL] using h2.symm⟩
  have ic : (m : Int) ≤ (c2 : Int) := by omega
  have ic' : m ≤ c2 := by omega
  clear hown1 hmv1 hown2 hgrow2 hnil2 hat2 hmv2 hrow2 hf2 r1 r2 c11 hbel B0
  refine still_tail 8 (by kernel_rfl) ?_
  simp only [List.take_succ_cons, List.take_zero, List.drop_succ_cons, List.drop_zero]
  repeat still_step
  refine wpStill_nil ?_
  go_wp2
  exact bodyPost_ret (v := rv n (some ⟨g, 0, none⟩) m c2) (by simp [results, Try.results27, go_sem, c20, c21]) rfl ⟨g, c2, rfl, by omega, ((HT.out.setOther hne _).setOther hne _).drew, (bl_set (bl_set B2 (by omega) _) (by omega) _).drew⟩
set_option maxHeartbeats 1600000 in
set_option maxRecDepth 100000 in
theorem kept_any (n : Int) (g c : Nat) (la : Option Addr) (m N cl : Nat) (w : World) (hm : m ≤ 1048576) (ht : Tw w g c m N) (hl : Ro w la m N) :
    Calls Try.prog 28 #[rv n (some ⟨g, 0, none⟩) m c, rv n la m cl] w fun e w' => e = .returned (.bool true) ∧ Below w.heap.size w w' := by
  have HT := hid1 ht
  have HR := hid1 hl
  have im0 : (0 : Int) ≤ (m : Int) := by omega
  have im1 : (m : Int) ≤ 1048576 := by omega
  have hroom := ht.room
  clear ht hl
  go_enter Try.func28, Try.ntmps28
  go_wp2_with fail
  refine gen_calls (fun W => Below w.heap.size w W ∧ W.rowIs w.heap.size 27 2 (sf n (some ⟨g, 0, none⟩) m c)) ⟨bl_alloc (bl_alloc (Below.refl _ _) _) _, (row_new _ _ _ _ _ _).alloc _⟩ ?_
  rintro W ⟨B0, r1⟩
  refine (eq_ro n m N _ la c cl W hm (Ro.of (HT.out.below B0).rd) (HR.out.below B0)).mono ?_
  rintro e w1 ⟨rfl, hb1⟩
  replace r1 := keepr hb1 r1
  have B1 := bl_step B0 hb1
  have c11 := sf_ws r1
  obtain ⟨f, hrow, _, h71, h72, h73⟩ := (HT.out.below B1).row
  have k0 := hrow.cell (show m < c by omega)
  have k1 := hrow.cell (show m + 1 < c by omega)
  have k2 := hrow.cell (show m + 2 < c by omega)
  rw [h71] at k0
  rw [h72] at k1
  rw [h73] at k2
  have ic : (m : Int) + 3 ≤ (c : Int) := by omega
  have ic' : m + 3 ≤ c := by omega
  have i1 : (m : Int) < (m : Int) + 3 := by omega
  have i2 : (m : Int) + 1 < (m : Int) + 3 := by omega
  have i3 : (m : Int) + 2 < (m : Int) + 3 := by omega
  clear hb1 B0 hrow h71 h72 h73 r1
  go_wp2_with fail
  go_ret
  exact ⟨rfl, B1⟩
end Go.Proofs.Yteghelmbibpohaa
