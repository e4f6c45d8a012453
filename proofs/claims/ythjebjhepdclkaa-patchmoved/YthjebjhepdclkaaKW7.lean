/- PACKAGE cube: Pack of values that fit. -/
import Derived.Test.YthjebjhepdclkaaKW6
namespace Go.Proofs.Ythjebjhepdclkaa
open Go.RowKit Go.Shelf
attribute [local go_sem] Oper.semAt_some

/-- The words of those places that have come. -/
def pf2 (l : List Int) (C : Nat) (s : List Nat) : Nat → Value := fun k => if k / nw C ∈ s then wf (sp l C (k / nw C)) (k % nw C) else wf 0 0
theorem pf2_step {l : List Int} {C x : Nat} (hC : 0 < C) (s : List Nat) (j : Nat) : (if x * nw C ≤ j ∧ j < x * nw C + nw C then wf (sp l C x) (j - x * nw C) else pf2 l C s j) = pf2 l C (s ++ [x]) j := by
  have hd : 0 < nw C := by unfold nw; omega
  have e : (x * nw C ≤ j ∧ j < x * nw C + nw C) ↔ j / nw C = x := by
    constructor
    · rintro ⟨a, b⟩
      exact Nat.div_eq_of_lt_le a (by rw [Nat.succ_mul]; exact b)
    · rintro rfl
      have := Nat.div_add_mod j (nw C)
      have l := Nat.mod_lt j hd
      rw [Nat.mul_comm] at this
      omega
  unfold pf2
  by_cases h : x * nw C ≤ j ∧ j < x * nw C + nw C
  · rw [if_pos h]
    have hx := e.1 h
    rw [if_pos (by rw [hx]; simp), hx]
    have : j - x * nw C = j % nw C := by
      have := Nat.div_add_mod j (nw C)
      rw [hx, Nat.mul_comm] at this
      omega
    rw [this]
  · rw [if_neg h]
    have hx : ¬ j / nw C = x := fun k => h (e.2 k)
    by_cases h2 : j / nw C ∈ s
    · rw [if_pos h2, if_pos (by simp [h2])]
    · rw [if_neg h2, if_neg (by simp [h2, hx])]
theorem pf2_all {l : List Int} {C P : Nat} (j : Nat) (hj : j < P * nw C) : pf2 l C (List.range P) j = wf (js (64 * nw C) (sp l C) P) j := by
  have hi : j / nw C < P := Nat.div_lt_of_lt_mul (by rwa [Nat.mul_comm])
  unfold pf2
  rw [if_pos (List.mem_range.2 hi)]
  unfold wf
  rw [js_wd (fun i _ => Nat.lt_of_lt_of_le (sp_lt l C i) (pow_mono (nw_le C))) hj]
theorem own_ex {β γ : Type} {I : γ → β → World → Prop} (h : ∀ c, Own (I c)) : Own (fun s W => ∃ c, I c s W) := fun s W W' row ⟨c, k⟩ hg hr => ⟨c, h c s W W' row k hg hr⟩
theorem R8.part {w : World} {ao : Option Addr} {l : List Int} (h : R8 w ao l) {g o a c : Nat} (e : ao = some ⟨g, o, none⟩) (hle : a + c ≤ l.length) : R8 w (some ⟨g, o + a, none⟩) ((l.drop a).take c) := by
  intro k hk
  have hk' : k < c := by simp at hk; omega
  obtain ⟨g', o', e', cc⟩ := h (a + k) (by omega)
  rw [e] at e'
  cases e'
  refine ⟨g, o + a, rfl, ?_⟩
  rw [ia_take hk', ia_drop, Nat.add_assoc]
  exact cc
theorem kmeet_of {J K : Act → World → Prop} {Q : Exit → Act → World → Prop} {a : Act} {w : World} (hK : ∀ a' w', Met J a' w' → K a' w') (h : Met J a w) : Exit.then K Q Exit.normal a w := hK _ _ h
theorem pf2_nil (l : List Int) (C j : Nat) : pf2 l C [] j = .int .u64 0 := by simp [pf2, wf, wd_zero]
theorem made_a (w1 : World) (h v c : Int) (M : Nat) (l : List Int) (C : Nat) : ((w1.alloc (.cells (madeCells #[.int .u64 0] M) 48)).alloc (.cells #[.int .i64 h, .int .i64 v, .int .i64 c, .slice (some ⟨w1.heap.size, 0, none⟩) M M] 33)).drew.rowIs w1.heap.size 48 M (pf2 l C []) ∧
    ((w1.alloc (.cells (madeCells #[.int .u64 0] M) 48)).alloc (.cells #[.int .i64 h, .int .i64 v, .int .i64 c, .slice (some ⟨w1.heap.size, 0, none⟩) M M] 33)).drew.rowIs (w1.heap.size + 1) 33 4 (cf h v c (some ⟨w1.heap.size, 0, none⟩) M M) ∧
    Below w1.heap.size w1 ((w1.alloc (.cells (madeCells #[.int .u64 0] M) 48)).alloc (.cells #[.int .i64 h, .int .i64 v, .int .i64 c, .slice (some ⟨w1.heap.size, 0, none⟩) M M] 33)).drew := by
  refine ⟨(((World.rowIs_made w1 (.int .u64 0) M 48).alloc _).drew).congr fun j _ => (pf2_nil l C j).symm, ?_, (bl_alloc (bl_alloc (Below.refl _ _) _) _).drew⟩
  have := cu_new (w1.alloc (.cells (madeCells #[.int .u64 0] M) 48)) h v c (some ⟨w1.heap.size, 0, none⟩) M M 33
  rw [World.size_alloc] at this
  exact this.drew
theorem made_b (w1 : World) (h v c : Int) (M : Nat) (l : List Int) (C : Nat) : ((w1.alloc (.cells #[.int .i64 h, .int .i64 v, .int .i64 c, .slice (some ⟨w1.heap.size + 1, 0, none⟩) M M] 33)).alloc (.cells (madeCells #[.int .u64 0] M) 48)).drew.rowIs (w1.heap.size + 1) 48 M (pf2 l C []) ∧
    ((w1.alloc (.cells #[.int .i64 h, .int .i64 v, .int .i64 c, .slice (some ⟨w1.heap.size + 1, 0, none⟩) M M] 33)).alloc (.cells (madeCells #[.int .u64 0] M) 48)).drew.rowIs w1.heap.size 33 4 (cf h v c (some ⟨w1.heap.size + 1, 0, none⟩) M M) ∧
    Below w1.heap.size w1 ((w1.alloc (.cells #[.int .i64 h, .int .i64 v, .int .i64 c, .slice (some ⟨w1.heap.size + 1, 0, none⟩) M M] 33)).alloc (.cells (madeCells #[.int .u64 0] M) 48)).drew := by
  refine ⟨?_, ((cu_new w1 h v c (some ⟨w1.heap.size + 1, 0, none⟩) M M 33).alloc _).drew, (bl_alloc (bl_alloc (Below.refl _ _) _) _).drew⟩
  have := World.rowIs_made (w1.alloc (.cells #[.int .i64 h, .int .i64 v, .int .i64 c, .slice (some ⟨w1.heap.size + 1, 0, none⟩) M M] 33)) (.int .u64 0) M 48
  rw [World.size_alloc] at this
  exact this.drew.congr fun j _ => (pf2_nil l C j).symm
theorem R8.drewd {w : World} {ao : Option Addr} {l : List Int} (h : R8 w ao l) : R8 w.drew ao l := h
set_option maxHeartbeats 2000000 in
set_option maxRecDepth 100000 in
theorem cpack_ok (H V C : Nat) (l : List Int) (T : Nat) (hl : l.length = T) (g o cap : Nat) (w : World) (hH : 1 ≤ H ∧ H ≤ 4096) (hV : 1 ≤ V ∧ V ≤ 4096) (hC : 1 ≤ C ∧ C ≤ 4096) (hT : T = H * V * C) (hT2 : T ≤ 16777216) (hcap : T ≤ cap) (hcap2 : cap ≤ 9223372036854775807) (k : Sg.chk H V C = 0) (M : Nat) (hM : H * V * nw C = M)
    (rd : R8 w (some ⟨g, o, none⟩) l) :
    Calls Try.prog 6 #[Sg.shp H V C, .slice (some ⟨g, o, none⟩) T cap] w fun e w' => ∃ G, e = .returned (.tuple #[cuv H V C (some ⟨G, 0, none⟩) M M, .int .i64 0]) ∧ w.heap.size ≤ G ∧ w'.rowIs G 48 M (wf (js (64 * nw C) (sp l C) (H * V))) ∧ Below w.heap.size w w' := by
  obtain ⟨i0, hi, hz0, hz1, hz2⟩ := info_parts info_u64
  have HC := hid1 (Sg.elems_any H V C)
  rw [k, elN_nat k, ← hT] at HC
  have hbd := (wo_bd hH.2 hV.2 hC.2).2
  rw [hM] at hbd
  have HS := hid1 (fun n Bc G w hn r => places_stops n Bc H V C G 0 M M hn hH.2 hV.2 hC.1 hC.2 (by omega) (Nat.le_refl _) (by omega) w r)
  have hP : H * V ≤ 16777216 := (wo_bd hH.2 hV.2 hC.2).1
  have HI : ∀ i, i < H * V → i * nw C + nw C ≤ M := fun i hi => by rw [← hM, ← Nat.succ_mul]; exact Nat.mul_le_mul_right _ hi
  have HJ : ∀ i, i < H * V → i * C + C ≤ T := fun i hi => by rw [hT, ← Nat.succ_mul]; exact Nat.mul_le_mul_right _ hi
  have hd64 : nw C ≤ 64 := by unfold nw; omega
  have hd0 : 0 < nw C := by unfold nw; omega
  have HPS := hid1 (fun x s j => pf2_step (l := l) (x := x) hC.1 s j)
  have HPA := hid1 (fun P j hj => pf2_all (l := l) (C := C) (P := P) j hj)
  have HW := hid1 (kwordsFor_any C (by omega))
  have HKP := hid1 (fun (seg : List Int) (hs : seg.length = C) g cap ao ca w h h0 hne => kpack_any seg C hs g cap ao ca w (by omega) h h0 hne)
  have HSP : Hid (∀ i, pk ((l.drop (i * C)).take C) C = sp l C i) := hid1 (fun i => pk_same (fun j hj => ia_take hj))
  have p1 : (H : Int) * (V : Int) = ((H * V : Nat) : Int) := by push_cast; rfl
  have p2 : ((H * V : Nat) : Int) * ((nw C : Nat) : Int) = (M : Int) := by rw [← hM]; push_cast; rfl
  have HM := hid1 hM
  have RD := hid1 rd
  have HLL := hid1 hl
  clear hT k rd hM hl
  obtain ⟨P, hPP⟩ : ∃ P, H * V = P := ⟨_, rfl⟩
  have HPP := hid1 hPP
  rw [hPP] at hP HI HJ HS HM p1 p2 ⊢
  clear hPP
  obtain ⟨d, hd⟩ : ∃ d, nw C = d := ⟨_, rfl⟩
  have HD := hid1 hd
  rw [hd] at HI hd64 hd0 HPS HPA HW p2 HS HM HKP ⊢
  clear hd
  have r1 : IntKind.i64.wrap (P : Int) = (P : Int) := by rw [IntKind.wrap_i64]; omega
  have r2 : IntKind.i64.wrap (M : Int) = (M : Int) := by rw [IntKind.wrap_i64]; omega
  obtain ⟨W, eW, z0, B0, q0, q1, q2⟩ := pack_start w H V C (some ⟨g, o, none⟩) T cap
  have e0 := hf0 q0
  have e1 := hf1 q0
  have e2 := hf2 q0
  refine (callsIn_wide (n := 3)).1 (callsIn_of_wp_marks Try.func6 rfl trivial ?_ rfl)
  simp only [Try.ntmps6, List.size_toArray, List.length_cons, List.length_nil, Nat.reduceAdd, Nat.reduceSub, Array.replicate_succ, Array.replicate_zero, List.push_toArray, List.append_toArray, List.nil_append, List.cons_append]
  refine wpIn_wide.2 ?_
  go_wp2_with fail
  refine (HC.out W).mono ?_
  rintro e w1 ⟨rfl, hb⟩
  replace q0 := keepr hb q0
  replace q1 := keepr hb q1
  replace q2 := keepr hb q2
  have B1 := bl_step B0 hb
  have z1 := hb.size
  clear e0 e1 e2 eW hb B0
  have e0 := hf0 q0
  have e1 := hf1 q0
  have e2 := hf2 q0
  have c1 := one_cell q1
  have l0 : w.heap.size < w1.heap.size := by omega
  go_upto_region 6 with fail
  have hmk : ∀ w, (Instr.makeSlice 31 (.int .i64 (M : Int)) (.int .i64 (M : Int))).run Try.prog w = .ok (.slice (some ⟨w.heap.size, 0, none⟩) M M) (w.alloc (.cells (madeCells #[.int .u64 0] M) 48)) := fun w => run_make_row 31 48 i0 (.int .u64 0) und_u64s hi hz0 hz1 rfl .i64 .i64 M (by rw [hz2]; omega) (by omega) w
  have hfo := follows
  have ne0 : w.heap.size ≠ w1.heap.size := by omega
  have ne1 : w.heap.size ≠ w1.heap.size + 1 := by omega
  go_cut [8] from 26 to 37 (fun s8 wx => ∃ G bC, s8 = .pointer (some ⟨bC, 0, none⟩) ∧ G ≠ bC ∧ w1.heap.size ≤ G ∧ w1.heap.size ≤ bC ∧ wx.rowIs G 48 M (pf2 l C []) ∧ wx.rowIs bC 33 4 (cf H V C (some ⟨G, 0, none⟩) M M) ∧ Below w1.heap.size w1 wx)
  case first =>
    go_region_held3 (fun X => X.cell? ⟨w.heap.size, 0, none⟩ = some (.int .i64 H) ∧ X.cell? ⟨w.heap.size, 1, none⟩ = some (.int .i64 V) ∧ X.cell? ⟨w.heap.size, 2, none⟩ = some (.int .i64 C)) (((try dsimp only); simp [go_sem, *]; done)) ((go_at_call 16; refine (HW.out _).mono ?_; rintro e w2 ⟨rfl, rfl⟩))
    all_goals (refine kmeet_of (by assumption) ?_; go_meet; first | exact ⟨_, _, rfl, by omega, Nat.le_refl _, Nat.le_succ _, made_a w1 H V C M l C⟩ | exact ⟨_, _, rfl, by omega, Nat.le_succ _, Nat.le_refl _, made_b w1 H V C M l C⟩)
  case rest =>
    obtain ⟨G, bC, rfl, hGC, gG, gC, R2, R5, Bc⟩ := hcut
    replace q0 := keepr Bc q0
    replace q1 := keepr Bc q1
    replace q2 := keepr Bc q2
    have B2 := bl_step B1 Bc
    have z2 := Bc.size
    clear Bc e0 e1 e2 c1 B1 hmk
    have e2 := hf2 q0
    have d0 := cf0 R5
    have d1 := cf1 R5
    have d2 := cf2 R5
    have d3 := cf3 R5
    have l5 := R5.lt
    have l6 := q0.lt
    have l7 : bC < wc.heap.size + 1 := by omega
    have l8 : w.heap.size < wc.heap.size + 1 := by omega
    go_wp2_with (first | (go_at_call 16; refine (HW.out _).mono ?_; rintro e w2 ⟨rfl, rfl⟩) | (refine wpList_make_row _ rfl _ _ 31 rfl 48 i0 (.int .u64 0) und_u64s hi hz0 hz1 rfl .i64 .i64 d (by go_simp) (by go_simp) (by rw [hz2]; omega) (by omega) ?_))
    obtain ⟨W3, eW3⟩ : ∃ W3, (w2.alloc (.cells (madeCells #[.int .u64 0] d) 48)).alloc (.cells #[.slice (some ⟨w2.heap.size, 0, none⟩) d d] 31) = W3 := ⟨_, rfl⟩
    rw [eW3]
    have z3 : W3.heap.size = w2.heap.size + 2 := by rw [← eW3]; simp
    have R6 : W3.rowIs w2.heap.size 48 d (wf 0) := by
      rw [← eW3]
      exact ((World.rowIs_made w2 (.int .u64 0) d 48).alloc _).congr fun j _ => by simp [wf, wd_zero]
    have R7 : W3.rowIs (w2.heap.size + 1) 31 1 (fun _ => .slice (some ⟨w2.heap.size, 0, none⟩) d d) := by
      rw [← eW3]
      have := one_new (w2.alloc (.cells (madeCells #[.int .u64 0] d) 48)) (.slice (some ⟨w2.heap.size, 0, none⟩) d d) 31
      rwa [World.size_alloc] at this
    have B3 : Below w2.heap.size w2 W3 := by rw [← eW3]; exact bl_alloc (bl_alloc (Below.refl _ _) _) _
    clear eW3 e2 d0 d1 d2 d3
    refine (places_any _ _ _ _ _ _ _).mono ?_
    rintro e w4 ⟨rfl, rfl⟩
    go_wp2_with fail
    have R4 := cu_new W3 H V C (some ⟨G, 0, none⟩) M M 33
    obtain ⟨W4, eW4⟩ : ∃ W4, W3.alloc (.cells #[.int .i64 H, .int .i64 V, .int .i64 C, .slice (some ⟨G, 0, none⟩) M M] 33) = W4 := ⟨_, rfl⟩
    rw [eW4, z3] at R4
    rw [eW4]
    have z4 : W4.heap.size = w2.heap.size + 3 := by rw [← eW4]; simp; omega
    have B4 : Below w2.heap.size w2 W4 := by rw [← eW4]; exact bl_alloc B3 _
    replace R6 : W4.rowIs w2.heap.size 48 d (wf 0) := by rw [← eW4]; exact R6.alloc _
    replace R7 : W4.rowIs (w2.heap.size + 1) 31 1 (fun _ => .slice (some ⟨w2.heap.size, 0, none⟩) d d) := by rw [← eW4]; exact R7.alloc _
    have lG := R2.lt
    replace q0 := keepr B4 q0
    replace q1 := keepr B4 q1
    replace q2 := keepr B4 q2
    replace R2 := keepr B4 R2
    replace R5 := keepr B4 R5
    have BB := bl_step B2 B4
    clear eW4 B3 B4 B2 z3 W3
    obtain ⟨b1, eb1⟩ : ∃ b1, w2.heap.size = b1 := ⟨_, rfl⟩
    rw [eb1] at R4 R6 R7 z4 z2 l5 l6 l7 l8 lG ⊢
    clear eb1
    refine (wpIn_wide (n := 3)).1 ?_
    refine wpIn_rangeFunc_ownG rfl (by decide) (gf := 33) (lb := #[.pointer (some ⟨b1 + 2, 0, none⟩)]) rfl trivial (enters_of Try.func33 (by kernel_rfl) rfl)
      (HS.out 2 (b1 + 2) G W4 (by decide) R4) (fun h k => k.trans h) (fun W l o o' hl _ _ _ => World.putObj_heap_other (by omega)) (Below.refl _ _) (fun _ => rfl)
      (fun (pre : List (Fin P)) W => W.rowIs w.heap.size 23 3 (hf H V C) ∧ W.rowIs (w.heap.size + 1) 26 1 (fun _ => .slice (some ⟨g, o, none⟩) T cap) ∧ W.rowIs (w.heap.size + 2) 33 4 (cf 0 0 0 none 0 0) ∧ W.rowIs G 48 M (pf2 l C (pre.map (·.1))) ∧ W.rowIs bC 33 4 (cf H V C (some ⟨G, 0, none⟩) M M) ∧ (∃ F, W.rowIs b1 48 d (wf F)) ∧ W.rowIs (b1 + 1) 31 1 (fun _ => .slice (some ⟨b1, 0, none⟩) d d) ∧ W.rowIs (b1 + 2) 33 4 (cf H V C (some ⟨G, 0, none⟩) M M) ∧ Below w.heap.size w W)
      (fun (_ : Code) (_ : List (Fin P)) _ => False)
      (OwnFrom.and (Own.from (krow_own _ _ _ _) _) (OwnFrom.and (Own.from (krow_own _ _ _ _) _) (OwnFrom.and (Own.from (krow_own _ _ _ _) _) (OwnFrom.and (Own.from (krow_own _ _ _ (fun (pre : List (Fin P)) => pf2 l C (pre.map (·.1)))) _) (OwnFrom.and (Own.from (krow_own _ _ _ _) _) (OwnFrom.and (Own.from (own_ex fun F => krow_own _ _ _ _) _) (OwnFrom.and (Own.from (krow_own _ _ _ _) _) (OwnFrom.and (Own.from (krow_own _ _ _ _) _) (ownFrom_below (Nat.le_refl _) (by omega))))))))))
      (fun _ _ _ _ _ hs _ _ => hs)
      ⟨q0, q1, q2, R2, R5, ⟨0, R6⟩, R7, R4, BB⟩ ?a1 ?assign ?body ?done ?stop
    case assign =>
      intro l x W K hK
      gi_wp2
      exact hK
    case body =>
      clear q0 q1 q2 R2 R5 R6 R7 R4 BB
      rintro lr pre x W ⟨q0, q1, q2, R2, R5, ⟨F, R6⟩, R7, R4, BB⟩ _
      have hxi := HI x.1 x.2
      have hxj := HJ x.1 x.2
      have hxP := x.2
      have hfo := follows
      have HPX := hid1 (HPS.out x.1 (pre.map (·.1)))
      have HSX := hid1 (HSP.out x.1)
      have hpg : g < w.heap.size := by
        obtain ⟨g', o', e, c⟩ := RD.out (x.1 * C) (by rw [HLL.out]; omega)
        cases e
        exact lt_of_cell c
      obtain ⟨W1, hclr, S6, t6⟩ := clear_row (c := d) hd0 R6
      have nb0 : w.heap.size ≠ b1 := by omega
      have nb1 : w.heap.size + 1 ≠ b1 := by omega
      have c7 := one_cell R7
      have q0' := t6.row nb0 q0
      have q1' := t6.row nb1 q1
      have R7' := t6.row (by omega : b1 + 1 ≠ b1) R7
      have k2 := hf2 q0'
      have k3 := one_cell q1'
      have k9 := one_cell R7'
      have B6 := t6.below (by omega) BB.size BB
      obtain ⟨i, hxi'⟩ : ∃ i, x.1 = i := ⟨_, rfl⟩
      have HX := hid1 hxi'
      rw [hxi'] at hxi hxj hxP HPX HSX ⊢
      have rseg := ((RD.out.below B6).part (a := i * C) (c := C) rfl (by rw [HLL.out]; omega))
      obtain ⟨y, hy⟩ : ∃ y, i * C = y := ⟨_, rfl⟩
      have p3 : (i : Int) * (C : Int) = (y : Nat) := by rw [← hy]; push_cast; rfl
      have p4 : ((i : Int) + 1) * (C : Int) = (y + C : Nat) := by rw [← hy]; push_cast; rw [Int.add_mul, Int.one_mul]
      have r3 : IntKind.i64.wrap ((i : Int) + 1) = (i : Int) + 1 := by rw [IntKind.wrap_i64]; omega
      rw [hy] at hxj rseg HSX
      have r4 : IntKind.i64.wrap (y : Int) = (y : Int) := by rw [IntKind.wrap_i64]; omega
      have r5 : IntKind.i64.wrap ((y + C : Nat) : Int) = ((y + C : Nat) : Int) := by rw [IntKind.wrap_i64]; omega
      have i1 : (0 : Int) ≤ (y : Int) := by omega
      have i2 : (y : Int) ≤ ((y + C : Nat) : Int) := by omega
      have i3 : ((y + C : Nat) : Int) ≤ (cap : Int) := by omega
      have n1 : ¬ y + C = y := by omega
      have n2 : ¬ cap - y = 0 := by omega
      have n3 : ¬ C = 0 := by omega
      have r5' : IntKind.i64.wrap ((y : Int) + (C : Int)) = (y : Int) + (C : Int) := by rw [IntKind.wrap_i64]; omega
      have i3' : (y : Int) + (C : Int) ≤ (cap : Int) := by omega
      have i4 : (0 : Int) ≤ (y : Int) + (C : Int) := by omega
      have i5 : ((y : Int) + (C : Int)).toNat = y + C := by omega
      have n5 : ¬ cap = y := by omega
      have HSEG := hid1 rseg
      have HLS : ((l.drop y).take C).length = C := by rw [List.length_take, List.length_drop, HLL.out]; omega
      have HLS' := hid1 HLS
      clear hy hxi' rseg HLS HPS HSP HPA HC HS HM HPP HI HJ
      gi_wp2
      refine still_round 12 (by kernel_rfl) (by kernel_rfl) (noOut_then (noOut_block noOut)) ?_
      simp only [List.take_succ_cons, List.take_zero, List.drop_succ_cons, List.drop_zero]
      repeat still_step
      refine wpStill_nil ?_
      go_wp2_with fail
      refine (HKP.out ((l.drop y).take C) HLS'.out b1 d (some ⟨g, o + y, none⟩) (cap - y) W1.drew HSEG.out.drewd S6.drew (fun g' o' e _ => by cases e; omega)).mono ?_
      rintro e W2 ⟨rfl, S7, t7⟩
      have t7' : But b1 W1 W2 := ⟨t7.os, t7.tape, t7.output, t7.size, t7.block⟩
      rw [HSX.out] at S7
      have nG : G ≠ b1 := by omega
      have R2' := t7'.row nG (t6.row nG R2)
      obtain ⟨W5, hcp, S8, t8⟩ := copy_row (p := i * d) (n := d) (c := d) hd0 hxi R2' S7 (fun k => by unfold wf; rfl)
      have R7'' := t7'.row (by omega : b1 + 1 ≠ b1) R7'
      have k10 := one_cell R7''
      go_wp2_with fail
      gi_wp2
      have tt : ∀ {b t n : Nat} {f : Nat → Value}, b ≠ b1 → b ≠ G → W.rowIs b t n f → W5.rowIs b t n f := fun h1 h2 r => t8.row h2 (t7'.row h1 (t6.row h1 r))
      have hK1 := keepsFrom_but (B := W4.heap.size) t6 R6
      have hK2 := keepsFrom_but (B := W4.heap.size) t7' S6
      have hK3 := keepsFrom_but (B := W4.heap.size) t8 R2'
      have BB5 := t8.below (B := w.heap.size) (by omega) (Nat.le_trans B6.size t7'.size) (t7'.below (by omega) B6.size B6)
      have R4' := tt (by omega) (by omega) R4
      refine ⟨(hK1.trans hK2).trans hK3, ?_, tt (by omega) (by omega) q0, tt (by omega) (by omega) q1, tt (by omega) (by omega) q2, S8.congr fun j _ => ?_, tt (by omega) (by omega) R5, ⟨_, t8.row (by omega) S7⟩, tt (by omega) (by omega) R7, R4', BB5⟩
      · have lt := R4.lt
        exact (t8.block _ (Nat.lt_of_lt_of_le (Nat.lt_of_lt_of_le lt t6.size) t7'.size) (by omega)).trans ((t7'.block _ (Nat.lt_of_lt_of_le lt t6.size) (by omega)).trans (t6.block _ lt (by omega)))
      · rw [HPX.out, List.map_append]
        simp only [List.map_cons, List.map_nil, HX.out]
    case done =>
      clear q0 q1 q2 R2 R5 R6 R7 R4 BB
      rintro D ys W hD rfl ⟨q0, q1, q2, R2, R5, hF, R7, R4, BB⟩ hK
      clear hF
      have R2' : W.rowIs G 48 M (wf (js (64 * d) (sp l C) P)) := R2.congr fun j hj => by
        rw [upt_val]
        exact HPA.out P j (by rw [HM.out]; exact hj)
      have HR := hid1 R2'
      have d0 := cf0 R5
      have d1 := cf1 R5
      have d2 := cf2 R5
      have d3 := cf3 R5
      have q2' : W.rowIs (w.heap.size + 1 + 1) 33 4 (cf 0 0 0 none 0 0) := q2
      have s0 := cf0 q2'
      have s1 := cf1 q2'
      have s2 := cf2 q2'
      have s3 := cf3 q2'
      have f0 := q2'.frozen 0
      have f1 := q2'.frozen 1
      have f2 := q2'.frozen 2
      have f3 := q2'.frozen 3
      have HQ := hid1 q2'
      clear R2 R2' q0 q1 q2 q2' R5 R7 R4 HPS HSP HPA HC HS HM HPP HI HJ HKP
      go_wp2_with fail
      have hc := cf_set HQ.out H V C (some ⟨G, 0, none⟩) M M
      have lz : G < W.heap.size := HR.out.lt
      have HR2 := (((HR.out.setOther (a := ⟨w.heap.size + 1 + 1, 0, none⟩) (by show G ≠ w.heap.size + 1 + 1; omega) (.int .i64 H)).setOther (a := ⟨w.heap.size + 1 + 1, 1, none⟩) (by show G ≠ w.heap.size + 1 + 1; omega) (.int .i64 V)).setOther (a := ⟨w.heap.size + 1 + 1, 2, none⟩) (by show G ≠ w.heap.size + 1 + 1; omega) (.int .i64 C)).setOther (a := ⟨w.heap.size + 1 + 1, 3, none⟩) (by show G ≠ w.heap.size + 1 + 1; omega) (.slice (some ⟨G, 0, none⟩) M M)
      have B5 := bl_set (bl_set (bl_set (bl_set BB (by omega) (.int .i64 H) (b := w.heap.size + 1 + 1) (o := 0)) (by omega) (.int .i64 V) (b := w.heap.size + 1 + 1) (o := 1)) (by omega) (.int .i64 C) (b := w.heap.size + 1 + 1) (o := 2)) (by omega) (.slice (some ⟨G, 0, none⟩) M M) (b := w.heap.size + 1 + 1) (o := 3)
      have hK2 := ((((KeepsOthers.setCell W ⟨w.heap.size + 1 + 1, 0, none⟩ (.int .i64 H)).trans (KeepsOthers.setCell _ ⟨w.heap.size + 1 + 1, 1, none⟩ (.int .i64 V))).trans (KeepsOthers.setCell _ ⟨w.heap.size + 1 + 1, 2, none⟩ (.int .i64 C))).trans (KeepsOthers.setCell _ ⟨w.heap.size + 1 + 1, 3, none⟩ (.slice (some ⟨G, 0, none⟩) M M))).same D _ hK rfl
      clear d0 d1 d2 d3 s0 s1 s2 s3 f0 f1 f2 f3 HQ HR
      refine ⟨by simp, .inl ⟨_, _, rfl, run_takeDeferred hK2, ?_⟩⟩
      have m0 := cell_kept (cf0 hc) (grownBy_putObj' _ D (.deferred none)) (fun r e => by cases e; exact ⟨_, hK2, rfl⟩)
      have m1 := cell_kept (cf1 hc) (grownBy_putObj' _ D (.deferred none)) (fun r e => by cases e; exact ⟨_, hK2, rfl⟩)
      have m2 := cell_kept (cf2 hc) (grownBy_putObj' _ D (.deferred none)) (fun r e => by cases e; exact ⟨_, hK2, rfl⟩)
      have m3 := cell_kept (cf3 hc) (grownBy_putObj' _ D (.deferred none)) (fun r e => by cases e; exact ⟨_, hK2, rfl⟩)
      refine ⟨.tuple #[cuv H V C (some ⟨G, 0, none⟩) M M, .int .i64 0], ?_, G, rfl, by omega, HR2.of_block (World.putObj_heap_other (by omega)), B5.trans (belowK_b (w := w) (Nat.le_refl _) _ D _ _ (by omega) hK2 rfl rfl)⟩
      simp [results, Try.f6, go_sem, m0, m1, m2, m3]
    case stop =>
      rintro D c pre W hD _ h _
      exact h.elim
end Go.Proofs.Ythjebjhepdclkaa
