/- PACKAGE cube: Unpack. -/
import Derived.Test.YtfboegdibohciaaKW3
namespace Go.Proofs.Ytfboegdibohciaa
open Go.RowKit Go.Shelf
attribute [local go_sem] Oper.semAt_some

/-- An element's sign. -/
def uv (N C j : Nat) : Int := sg (pl N (nw C) (j / C)) (j % C)
theorem info_i8k : (Try.prog.info? 47).map (fun i => (i.zero, i.size, i.bytes)) = some (some (.int .i8 0), 1, 1) := by kernel_rfl
theorem und_i8sk : Try.prog.underlying 28 = some (.slice 47) := by kernel_rfl
theorem keepsFrom_but {B G t n : Nat} {f : Nat → Value} {W W' : World} (h : But G W W') (r : W.rowIs G t n f) : KeepsFrom B W W' :=
  ⟨h.size, fun k o _ hk ho => by
    have hlt : k < W.heap.size := (Array.getElem?_eq_some_iff.1 hk).1
    refine (h.block k hlt fun e => ?_).trans hk
    subst e
    obtain ⟨cs, hb, _⟩ := r
    rw [hb] at hk
    cases hk
    simp [Obj.isCells] at ho⟩
theorem Wr.place {w : World} {g o m N d i : Nat} (h : Wr w (some ⟨g, o, none⟩) m N) (hi : i * d + d ≤ m) : Wr w (some ⟨g, o + i * d, none⟩) d (pl N d i) :=
  ⟨pl_lt _ _ _, fun k hk => by
    obtain ⟨g', o', e, c⟩ := h.2 (i * d + k) (by omega)
    cases e
    refine ⟨g, o + i * d, rfl, ?_⟩
    rw [Nat.add_assoc, c]
    unfold wf
    rw [pl_wd hk]⟩
/-- The values of those places that have come. -/
def vf (N C : Nat) (s : List Nat) : Nat → Value := fun j => if j / C ∈ s then .int .i8 (uv N C j) else .int .i8 0
theorem vf_step {N C x : Nat} (hC : 0 < C) (s : List Nat) (j : Nat) : uf (vf N C s) (pl N (nw C) x) (x * C) C j = vf N C (s ++ [x]) j := by
  have e : (x * C ≤ j ∧ j < x * C + C) ↔ j / C = x := by
    constructor
    · rintro ⟨a, b⟩
      exact Nat.div_eq_of_lt_le a (by rw [Nat.succ_mul]; exact b)
    · rintro rfl
      have := Nat.div_add_mod j C
      have l := Nat.mod_lt j hC
      rw [Nat.mul_comm] at this
      omega
  unfold uf vf
  by_cases h : x * C ≤ j ∧ j < x * C + C
  · rw [if_pos h]
    have hx := e.1 h
    rw [if_pos (by rw [hx]; simp)]
    unfold gf uv
    rw [hx]
    have : j - x * C = j % C := by
      have := Nat.div_add_mod j C
      rw [hx, Nat.mul_comm] at this
      omega
    rw [this]
  · rw [if_neg h]
    have hx : ¬ j / C = x := fun k => h (e.2 k)
    by_cases h2 : j / C ∈ s
    · rw [if_pos h2, if_pos (by simp [h2])]
    · rw [if_neg h2, if_neg (by simp [h2, hx])]
set_option maxHeartbeats 800000 in
set_option maxRecDepth 100000 in
theorem cunpack_bad (h v c : Int) (ao : Option Addr) (m cap N : Nat) (w : World) (hmc : m ≤ cap) (hcap : cap ≤ 9223372036854775807) (rd : Wr w ao m N) (k : cuk h v c m N ≠ 0) :
    Calls Try.prog 13 #[cuv h v c ao m cap] w fun e w' => e = .returned (.tuple #[.slice none 0 0, .int .i64 (cuk h v c m N)]) ∧ Below w.heap.size w w' := by
  have HC := hid1 (fun W r => ccheck_any h v c ao m cap N W hmc hcap r)
  generalize cuk h v c m N = q at *
  go_enter Try.func13, Try.ntmps13
  go_wp2_with fail
  refine gen_calls (fun W => Below w.heap.size w W) (bl_alloc (Below.refl _ _) _) ?_
  rintro W B0
  refine (HC.out W (rd.below B0)).mono ?_
  rintro e w1 ⟨rfl, hb⟩
  go_wp2_with fail
  go_ret2
  exact ⟨rfl, bl_step B0 hb⟩
set_option maxHeartbeats 2000000 in
set_option maxRecDepth 100000 in
theorem cunpack_ok (H V C g o m cap N : Nat) (w : World) (hH : 1 ≤ H ∧ H ≤ 4096) (hV : 1 ≤ V ∧ V ≤ 4096) (hC : 1 ≤ C ∧ C ≤ 4096) (hT : H * V * C ≤ 16777216) (k : cuk H V C m N = 0) (hm : m = H * V * nw C) (hmc : m ≤ cap) (hcap : cap ≤ 9223372036854775807)
    (rd : Wr w (some ⟨g, o, none⟩) m N) :
    Calls Try.prog 13 #[cuv H V C (some ⟨g, o, none⟩) m cap] w fun e w' => ∃ G, e = .returned (.tuple #[.slice (some ⟨G, 0, none⟩) (H * V * C) (H * V * C), .int .i64 0]) ∧ w.heap.size ≤ G ∧ w'.rowIs G 47 (H * V * C) (fun j => .int .i8 (uv N C j)) ∧ Below w.heap.size w w' := by
  obtain ⟨i0, hi, hz0, hz1, hz2⟩ := info_parts info_i8k
  have HC := hid1 (fun W r => ccheck_any H V C (some ⟨g, o, none⟩) m cap N W hmc hcap r)
  rw [k] at HC
  have HS := hid1 (fun n Bc w hn r => places_stops n Bc H V C g o m cap hn hH.2 hV.2 hC.1 hC.2 (by omega) hmc hcap w r)
  have hP : H * V ≤ 16777216 := (wo_bd hH.2 hV.2 hC.2).1
  have HI : ∀ i, i < H * V → i * nw C + nw C ≤ m := fun i hi => by rw [hm, ← Nat.succ_mul]; exact Nat.mul_le_mul_right _ hi
  have HJ : ∀ i, i < H * V → i * C + C ≤ H * V * C := fun i hi => by rw [← Nat.succ_mul]; exact Nat.mul_le_mul_right _ hi
  have hd64 : nw C ≤ 64 := by unfold nw; omega
  have hdC : C ≤ 64 * nw C := nw_le C
  have HVS := hid1 (fun x s j => vf_step (N := N) (x := x) hC.1 s j)
  have HVL := hid1 (fun j (hj : j < H * V * C) => (Nat.div_lt_of_lt_mul (by rwa [Nat.mul_comm]) : j / C < H * V))
  have p1 : (H : Int) * (V : Int) = ((H * V : Nat) : Int) := by push_cast; rfl
  have p2 : ((H * V : Nat) : Int) * (C : Int) = ((H * V * C : Nat) : Int) := by push_cast; rfl
  obtain ⟨T, hTT⟩ : ∃ T, H * V * C = T := ⟨_, rfl⟩
  rw [hTT] at hT HJ HVL p2 ⊢
  clear hTT
  have HM := hid1 hm
  clear hm k
  have RD := hid1 rd
  clear rd
  have r1 : IntKind.i64.wrap ((H * V : Nat) : Int) = ((H * V : Nat) : Int) := by rw [IntKind.wrap_i64]; omega
  have r2 : IntKind.i64.wrap (T : Int) = (T : Int) := by rw [IntKind.wrap_i64]; omega
  obtain ⟨P, hPP⟩ : ∃ P, H * V = P := ⟨_, rfl⟩
  refine (callsIn_wide (n := 3)).1 (callsIn_of_wp_marks Try.func13 rfl trivial ?_ rfl)
  simp only [Try.ntmps13, List.size_toArray, List.length_cons, List.length_nil, Nat.reduceAdd, Nat.reduceSub, Array.replicate_succ, Array.replicate_zero, List.push_toArray, List.append_toArray, List.nil_append, List.cons_append]
  refine wpIn_wide.2 ?_
  rw [hPP] at hP HI HJ HVL p1 p2 r1
  go_wp2_with fail
  refine gen_calls (fun W => W.heap.size = w.heap.size + 1 ∧ Below w.heap.size w W ∧ W.rowIs w.heap.size 31 4 (cf H V C (some ⟨g, o, none⟩) m cap)) ⟨by simp, bl_alloc (Below.refl _ _) _, cu_new w _ _ _ _ _ _ _⟩ ?_
  rintro W ⟨z0, B0, r0⟩
  refine (HC.out W (RD.out.below B0)).mono ?_
  rintro e w1 ⟨rfl, hb⟩
  replace r0 := keepr hb r0
  have B1 := bl_step B0 hb
  have z1 := hb.size
  clear hb B0
  have d0 := cf0 r0
  have d1 := cf1 r0
  have d2 := cf2 r0
  have d3 := cf3 r0
  have l0 : w.heap.size < w1.heap.size := by omega
  have l1 : w.heap.size < w1.heap.size + 1 := by omega
  have l2 : w.heap.size < w1.heap.size + 1 + 1 := by omega
  go_wp2_with (refine wpList_make_row _ rfl _ _ 28 rfl 47 i0 (.int .i8 0) und_i8sk hi hz0 hz1 rfl .i64 .i64 T (by go_simp) (by go_simp) (by rw [hz2]; omega) (by omega) ?_)
  obtain ⟨W3, eW3⟩ : ∃ W3, ((w1.alloc (.cells #[.int .i64 C] 3)).alloc (.cells (madeCells #[.int .i8 0] T) 47)).alloc (.cells #[.slice (some ⟨w1.heap.size + 1, 0, none⟩) T T] 28) = W3 := ⟨_, rfl⟩
  rw [eW3]
  have z3 : W3.heap.size = w1.heap.size + 3 := by rw [← eW3]; simp
  have R1 : W3.rowIs w1.heap.size 3 1 (fun _ => .int .i64 C) := by rw [← eW3]; exact ((one_new _ _ _).alloc _).alloc _
  have R2 : W3.rowIs (w1.heap.size + 1) 47 T (vf N C []) := by
    rw [← eW3]
    have := World.rowIs_made (w1.alloc (.cells #[.int .i64 C] 3)) (.int .i8 0) T 47
    rw [World.size_alloc] at this
    exact (this.alloc _).congr fun j _ => by simp [vf]
  have R3 : W3.rowIs (w1.heap.size + 2) 28 1 (fun _ => .slice (some ⟨w1.heap.size + 1, 0, none⟩) T T) := by
    rw [← eW3]
    have := one_new ((w1.alloc (.cells #[.int .i64 C] 3)).alloc (.cells (madeCells #[.int .i8 0] T) 47)) (.slice (some ⟨w1.heap.size + 1, 0, none⟩) T T) 28
    rw [World.size_alloc, World.size_alloc] at this
    exact this
  have B3 : Below w.heap.size w W3 := by rw [← eW3]; exact bl_alloc (bl_alloc (bl_alloc B1 _) _) _
  clear eW3 B1 r0 d0 d1 d2 d3
  obtain ⟨b1, eb1⟩ : ∃ b1, w1.heap.size = b1 := ⟨_, rfl⟩
  rw [eb1] at R1 R2 R3 z3 z1 l0 l1 l2 ⊢
  clear eb1
  refine (places_any _ _ _ _ _ _ _).mono ?_
  rintro e w4 ⟨rfl, rfl⟩
  go_wp2_with fail
  have R4 := cu_new W3 H V C (some ⟨g, o, none⟩) m cap 31
  obtain ⟨W4, eW4⟩ : ∃ W4, W3.alloc (.cells #[.int .i64 H, .int .i64 V, .int .i64 C, .slice (some ⟨g, o, none⟩) m cap] 31) = W4 := ⟨_, rfl⟩
  rw [eW4, z3] at R4
  rw [eW4]
  have z4 : W4.heap.size = b1 + 4 := by rw [← eW4]; simp; omega
  replace R1 : W4.rowIs b1 3 1 (fun _ => .int .i64 C) := by rw [← eW4]; exact R1.alloc _
  replace R2 : W4.rowIs (b1 + 1) 47 T (vf N C []) := by rw [← eW4]; exact R2.alloc _
  replace R3 : W4.rowIs (b1 + 2) 28 1 (fun _ => .slice (some ⟨b1 + 1, 0, none⟩) T T) := by rw [← eW4]; exact R3.alloc _
  have B4 : Below w.heap.size w W4 := by rw [← eW4]; exact bl_alloc B3 _
  clear eW4 B3 z3 W3
  rw [hPP] at HS
  have HPP := hid1 hPP
  clear hPP
  refine (wpIn_wide (n := 3)).1 ?_
  refine wpIn_rangeFunc_ownG rfl (by decide) (gf := 50) (lb := #[.pointer (some ⟨b1 + 3, 0, none⟩)]) rfl trivial (enters_of Try.func50 (by kernel_rfl) rfl)
    (HS.out 2 (b1 + 3) W4 (by decide) R4) (fun h k => k.trans h) (fun W l o o' hl _ _ _ => World.putObj_heap_other (by omega)) (Below.refl _ _) (fun _ => rfl)
    (fun (pre : List (Fin P)) W => W.rowIs b1 3 1 (fun _ => .int .i64 C) ∧ W.rowIs (b1 + 1) 47 T (vf N C (pre.map (·.1))) ∧ W.rowIs (b1 + 2) 28 1 (fun _ => .slice (some ⟨b1 + 1, 0, none⟩) T T) ∧ W.rowIs (b1 + 3) 31 4 (cf H V C (some ⟨g, o, none⟩) m cap) ∧ Below w.heap.size w W)
    (fun (_ : Code) (_ : List (Fin P)) _ => False)
    (OwnFrom.and (Own.from (krow_own _ _ _ _) _) (OwnFrom.and (Own.from (krow_own _ _ _ (fun (pre : List (Fin P)) => vf N C (pre.map (·.1)))) _) (OwnFrom.and (Own.from (krow_own _ _ _ _) _) (OwnFrom.and (Own.from (krow_own _ _ _ _) _) (ownFrom_below (Nat.le_refl _) (by omega))))))
    (fun _ _ _ _ _ hs _ _ => hs)
    ⟨R1, R2, R3, R4, B4⟩ ?a1 ?assign ?body ?done ?stop
  case assign =>
    intro l x W K hK
    gi_wp2
    exact hK
  case body =>
    clear R1 R2 R3 R4 B4
    rintro l pre x W ⟨R1, R2, R3, R4, B4⟩ _
    have hxi := HI x.1 x.2
    have hxj := HJ x.1 x.2
    have hxP := x.2
    have hpl := (RD.out.below B4).place hxi
    have hpg : g < b1 := by
      obtain ⟨g', o', e, c⟩ := RD.out.2 (x.1 * nw C) (by have : 0 < nw C := (by unfold nw; omega); omega)
      cases e
      have := lt_of_cell c
      omega
    have c1 := one_cell R1
    have c3 : W.cell? ⟨b1 + 1 + 1, 0, none⟩ = _ := one_cell R3
    obtain ⟨i, hxi'⟩ : ∃ i, x.1 = i := ⟨_, rfl⟩
    rw [hxi'] at hxi hxj hpl hxP ⊢
    obtain ⟨y, hy⟩ : ∃ y, i * C = y := ⟨_, rfl⟩
    have p3 : (i : Int) * (C : Int) = (y : Nat) := by rw [← hy]; push_cast; rfl
    have p4 : ((i : Int) + 1) * (C : Int) = (y + C : Nat) := by rw [← hy]; push_cast; rw [Int.add_mul, Int.one_mul]
    have r3 : IntKind.i64.wrap ((i : Int) + 1) = (i : Int) + 1 := by rw [IntKind.wrap_i64]; omega
    rw [hy] at hxj
    have r4 : IntKind.i64.wrap (y : Int) = (y : Int) := by rw [IntKind.wrap_i64]; omega
    have r5 : IntKind.i64.wrap ((y + C : Nat) : Int) = ((y + C : Nat) : Int) := by rw [IntKind.wrap_i64]; omega
    have i1 : (0 : Int) ≤ (y : Int) := by omega
    have i2 : (y : Int) ≤ ((y + C : Nat) : Int) := by omega
    have i3 : ((y + C : Nat) : Int) ≤ (T : Int) := by omega
    have n1 : ¬ y + C = y := by omega
    have n2 : ¬ T - y = 0 := by omega
    have HY := hid1 hy
    have HX := hid1 hxi'
    have HP := hid1 hpl
    clear hy hxi' hpl HPP HM HVL HC
    gi_wp2
    refine ⟨trivial, CallsIn.inRound l (callsIn_wide.2 ((kunpack_any C (pl N (nw C) i) (nw C) (b1 + 1) y T (T - y) (nw C) (vf N C (pre.map (·.1))) (some ⟨g, o + i * nw C, none⟩) W hdC (by omega) (by omega) hT HP.out R2 (fun g' o' e => by cases e; omega)).mono ?_))⟩
    rintro e W2 ⟨rfl, hrow, hbut⟩
    gi_wp2
    refine ⟨keepsFrom_but hbut R2, hbut.block _ R4.lt (by omega), hbut.row (by omega) R1, hrow.congr fun j _ => ?_, hbut.row (by omega) R3, hbut.row (by omega) R4, hbut.below (by omega) B4.size B4⟩
    rw [← HY.out, HVS.out, List.map_append]
    simp only [List.map_cons, List.map_nil, HX.out]
  case done =>
    clear R1 R2 R3 R4 B4
    rintro D ys W hD rfl ⟨R1, R2, R3, R4, B4⟩ hK
    have c3 : W.cell? ⟨b1 + 1 + 1, 0, none⟩ = _ := one_cell R3
    have R2' : W.rowIs (b1 + 1) 47 T (fun j => .int .i8 (uv N C j)) := R2.congr fun j hj => by
      unfold vf
      rw [upt_val, if_pos (List.mem_range.2 (HVL.out j hj))]
    have HR := hid1 R2'
    clear R2 R2' HS HI HVS HVL HC HPP HM R1
    go_wp2_with fail
    refine ⟨by simp, .inl ⟨_, _, rfl, run_takeDeferred hK, ?_⟩⟩
    refine ⟨.tuple #[.slice (some ⟨b1 + 1, 0, none⟩) T T, .int .i64 0], ?_, b1 + 1, rfl, by omega, HR.out.of_block (World.putObj_heap_other (by omega)), B4.trans (belowK_b (w := w) (Nat.le_refl _) _ D _ _ (by omega) hK rfl rfl)⟩
    simp [results, Try.f13, go_sem]
  case stop =>
    rintro D c pre W hD _ h _
    exact h.elim
end Go.Proofs.Ytfboegdibohciaa
