/- PACKAGE cube: Flat. -/
import Derived.Test.YtfboegdibohciaaKW4
namespace Go.Proofs.Ytfboegdibohciaa
open Go.RowKit Go.Shelf
attribute [local go_sem] Oper.semAt_some

/-- All bits of those places that have come. -/
def fx (N C : Nat) {P : Nat} (s : List (Fin P)) : Nat := s.foldl (fun X x => X ||| pl N (nw C) x.1 * 2 ^ (x.1 * C)) 0
theorem fx_step (N C : Nat) {P : Nat} (s : List (Fin P)) (x : Fin P) : fx N C (s ++ [x]) = fx N C s ||| pl N (nw C) x.1 * 2 ^ (x.1 * C) := by
  unfold fx; rw [List.foldl_append]; rfl
theorem fx_upt (N C P : Nat) : ∀ (k : Nat) (hk : k ≤ P), fx N C (upt P k hk) = js C (pl N (nw C)) k
  | 0, _ => rfl
  | k + 1, hk => by
    rw [upt_succ P k hk, fx_step, fx_upt N C P k (by omega), js_succ]
/-- A result's two cells, filled. -/
theorem rs_set {w : World} {b t : Nat} {n0 : Int} {a0 : Option Addr} {m0 c0 : Nat} (h : w.rowIs b t 2 (sf n0 a0 m0 c0)) (n : Int) (ao : Option Addr) (m cap : Nat) :
    ((w.setCell ⟨b, 0, none⟩ (.int .i64 n)).setCell ⟨b, 1, none⟩ (.slice ao m cap)).rowIs b t 2 (sf n ao m cap) := ((h.set 0 _).set 1 _).congr fun k hk => by
  have : k = 0 ∨ k = 1 := by omega
  rcases this with rfl | rfl <;> simp [sf]
set_option maxHeartbeats 800000 in
set_option maxRecDepth 100000 in
theorem cflat_bad (h v c : Int) (ao : Option Addr) (m cap N : Nat) (w : World) (hmc : m ≤ cap) (hcap : cap ≤ 9223372036854775807) (rd : Wr w ao m N) (k : cuk h v c m N ≠ 0) :
    Calls Try.prog 12 #[cuv h v c ao m cap] w fun e w' => e = .returned (.tuple #[rv 0 none 0 0, .int .i64 (cuk h v c m N)]) ∧ Below w.heap.size w w' := by
  have HC := hid1 (fun W r => ccheck_any h v c ao m cap N W hmc hcap r)
  generalize cuk h v c m N = q at *
  go_enter Try.func12, Try.ntmps12
  go_wp2_with fail
  refine gen_calls (fun W => W.heap.size = w.heap.size + 2 ∧ Below w.heap.size w W ∧ W.rowIs (w.heap.size + 1) 33 2 (sf 0 none 0 0)) ⟨by simp, bl_alloc (bl_alloc (Below.refl _ _) _) _, by have := row_new (w.alloc (.cells #[.int .i64 h, .int .i64 v, .int .i64 c, .slice ao m cap] 31)) 0 none 0 0 33; rwa [World.size_alloc] at this⟩ ?_
  rintro W ⟨z0, B0, r0⟩
  refine (HC.out W (rd.below B0)).mono ?_
  rintro e w1 ⟨rfl, hb⟩
  replace r0 := keepr hb r0
  have c0 := sf_len r0
  have c1 := sf_ws r0
  have f0 := r0.frozen 0
  have f1 := r0.frozen 1
  have B1 := bl_step B0 hb
  clear r0 hb B0
  go_wp2_with fail
  exact bodyPost_ret (v := .tuple #[rv 0 none 0 0, .int .i64 q]) (by simp [results, Try.results12, go_sem, c0, c1]) rfl ⟨rfl, bl_set (bl_set B1 (by omega) _) (by omega) _⟩
set_option maxHeartbeats 2000000 in
set_option maxRecDepth 100000 in
theorem cflat_ok (H V C g o m cap N : Nat) (w : World) (hH : 1 ≤ H ∧ H ≤ 4096) (hV : 1 ≤ V ∧ V ≤ 4096) (hC : 1 ≤ C ∧ C ≤ 4096) (hT : H * V * C ≤ 16777216) (k : cuk H V C m N = 0) (hm : m = H * V * nw C) (hmc : m ≤ cap) (hcap : cap ≤ 9223372036854775807)
    (hok : Pok (H * V) C N) (rd : Wr w (some ⟨g, o, none⟩) m N) :
    Calls Try.prog 12 #[cuv H V C (some ⟨g, o, none⟩) m cap] w fun e w' => ∃ G, e = .returned (.tuple #[rv (H * V * C : Nat) (some ⟨G, 0, none⟩) (nw (H * V * C)) (nw (H * V * C)), .int .i64 0]) ∧ w.heap.size ≤ G ∧ w'.rowIs G 53 (nw (H * V * C)) (wf (js C (pl N (nw C)) (H * V))) ∧ Below w.heap.size w w' := by
  obtain ⟨i0, hi, hz0, hz1, hz2⟩ := info_parts info_u64
  have HC := hid1 (fun W r => ccheck_any H V C (some ⟨g, o, none⟩) m cap N W hmc hcap r)
  rw [k] at HC
  have HS := hid1 (fun n Bc w hn r => places_stops n Bc H V C g o m cap hn hH.2 hV.2 hC.1 hC.2 (by omega) hmc hcap w r)
  have hP : H * V ≤ 16777216 := (wo_bd hH.2 hV.2 hC.2).1
  have HI : ∀ i, i < H * V → i * nw C + nw C ≤ m := fun i hi => by rw [hm, ← Nat.succ_mul]; exact Nat.mul_le_mul_right _ hi
  have HJ : ∀ i, i < H * V → i * C + C ≤ H * V * C := fun i hi => by rw [← Nat.succ_mul]; exact Nat.mul_le_mul_right _ hi
  have hd64 : nw C ≤ 64 := by unfold nw; omega
  have hdC : C ≤ 64 * nw C := nw_le C
  have HOK := hid1 hok
  clear hok
  have HW := hid1 (kwordsFor_any (H * V * C) hT)
  have hbT := nw_bd hT
  have p1 : (H : Int) * (V : Int) = ((H * V : Nat) : Int) := by push_cast; rfl
  have p2 : ((H * V : Nat) : Int) * (C : Int) = ((H * V * C : Nat) : Int) := by push_cast; rfl
  obtain ⟨T, hTT⟩ : ∃ T, H * V * C = T := ⟨_, rfl⟩
  rw [hTT] at hT HJ HW hbT p2 ⊢
  clear hTT
  have HM := hid1 hm
  clear hm k
  have RD := hid1 rd
  clear rd
  have r1 : IntKind.i64.wrap ((H * V : Nat) : Int) = ((H * V : Nat) : Int) := by rw [IntKind.wrap_i64]; omega
  have r2 : IntKind.i64.wrap (T : Int) = (T : Int) := by rw [IntKind.wrap_i64]; omega
  obtain ⟨P, hPP⟩ : ∃ P, H * V = P := ⟨_, rfl⟩
  have HPP := hid1 hPP
  rw [hPP] at hP HI HJ HS HOK p1 p2 r1 ⊢
  clear hPP
  obtain ⟨FL, hFL⟩ : ∃ FL, js C (pl N (nw C)) P = FL := ⟨_, rfl⟩
  rw [hFL]
  have HFL := hid1 hFL
  clear hFL
  refine (callsIn_wide (n := 3)).1 (callsIn_of_wp_marks Try.func12 rfl trivial ?_ rfl)
  simp only [Try.ntmps12, List.size_toArray, List.length_cons, List.length_nil, Nat.reduceAdd, Nat.reduceSub, Array.replicate_succ, Array.replicate_zero, List.push_toArray, List.append_toArray, List.nil_append, List.cons_append]
  refine wpIn_wide.2 ?_
  go_wp2_with fail
  refine gen_calls (fun W => W.heap.size = w.heap.size + 2 ∧ Below w.heap.size w W ∧ W.rowIs w.heap.size 31 4 (cf H V C (some ⟨g, o, none⟩) m cap) ∧ W.rowIs (w.heap.size + 1) 33 2 (sf 0 none 0 0)) ⟨by simp, bl_alloc (bl_alloc (Below.refl _ _) _) _, (cu_new w _ _ _ _ _ _ _).alloc _, by have := row_new (w.alloc (.cells #[.int .i64 H, .int .i64 V, .int .i64 C, .slice (some ⟨g, o, none⟩) m cap] 31)) 0 none 0 0 33; rwa [World.size_alloc] at this⟩ ?_
  rintro W ⟨z0, B0, r0, rs⟩
  refine (HC.out W (RD.out.below B0)).mono ?_
  rintro e w1 ⟨rfl, hb⟩
  replace r0 := keepr hb r0
  replace rs := keepr hb rs
  have B1 := bl_step B0 hb
  have z1 := hb.size
  clear hb B0
  have d0 := cf0 r0
  have d1 := cf1 r0
  have d2 := cf2 r0
  have d3 := cf3 r0
  have l0 : w.heap.size < w1.heap.size := by omega
  have l1 : w.heap.size < w1.heap.size + 1 := by omega
  go_wp2_with (first | (go_at_call 29; refine (HW.out _).mono ?_; rintro e w2 ⟨rfl, rfl⟩) | (refine wpList_make_row _ rfl _ _ 29 rfl 53 i0 (.int .u64 0) und_u64s hi hz0 hz1 rfl .i64 .i64 (nw T) (by go_simp) (by go_simp) (by rw [hz2]; omega) (by omega) ?_))
  obtain ⟨W3, eW3⟩ : ∃ W3, (w2.alloc (.cells (madeCells #[.int .u64 0] (nw T)) 53)).alloc (.cells #[.int .i64 T, .slice (some ⟨w2.heap.size, 0, none⟩) (nw T) (nw T)] 33) = W3 := ⟨_, rfl⟩
  rw [eW3]
  have z3 : W3.heap.size = w2.heap.size + 2 := by rw [← eW3]; simp
  have R0 : W3.rowIs w.heap.size 31 4 (cf H V C (some ⟨g, o, none⟩) m cap) := by rw [← eW3]; exact (r0.alloc _).alloc _
  have RS : W3.rowIs (w.heap.size + 1) 33 2 (sf 0 none 0 0) := by rw [← eW3]; exact (rs.alloc _).alloc _
  have R2 : W3.rowIs w2.heap.size 53 (nw T) (wf 0) := by
    rw [← eW3]
    exact ((World.rowIs_made w2 (.int .u64 0) (nw T) 53).alloc _).congr fun j _ => by simp [wf, wd_zero]
  have R3 : W3.rowIs (w2.heap.size + 1) 33 2 (sf T (some ⟨w2.heap.size, 0, none⟩) (nw T) (nw T)) := by
    rw [← eW3]
    have := row_new (w2.alloc (.cells (madeCells #[.int .u64 0] (nw T)) 53)) T (some ⟨w2.heap.size, 0, none⟩) (nw T) (nw T) 33
    rw [World.size_alloc] at this
    exact this
  have B3 : Below w.heap.size w W3 := by rw [← eW3]; exact bl_alloc (bl_alloc B1 _) _
  clear eW3 B1 r0 rs d0 d1 d2 d3
  obtain ⟨b1, eb1⟩ : ∃ b1, w2.heap.size = b1 := ⟨_, rfl⟩
  rw [eb1] at R2 R3 z3 z1 l0 l1 ⊢
  clear eb1
  refine (places_any _ _ _ _ _ _ _).mono ?_
  rintro e w4 ⟨rfl, rfl⟩
  go_wp2_with fail
  have R4 := cu_new W3 H V C (some ⟨g, o, none⟩) m cap 31
  obtain ⟨W4, eW4⟩ : ∃ W4, W3.alloc (.cells #[.int .i64 H, .int .i64 V, .int .i64 C, .slice (some ⟨g, o, none⟩) m cap] 31) = W4 := ⟨_, rfl⟩
  rw [eW4, z3] at R4
  rw [eW4]
  have z4 : W4.heap.size = b1 + 3 := by rw [← eW4]; simp; omega
  replace R0 : W4.rowIs w.heap.size 31 4 (cf H V C (some ⟨g, o, none⟩) m cap) := by rw [← eW4]; exact R0.alloc _
  replace RS : W4.rowIs (w.heap.size + 1) 33 2 (sf 0 none 0 0) := by rw [← eW4]; exact RS.alloc _
  replace R2 : W4.rowIs b1 53 (nw T) (wf 0) := by rw [← eW4]; exact R2.alloc _
  replace R3 : W4.rowIs (b1 + 1) 33 2 (sf T (some ⟨b1, 0, none⟩) (nw T) (nw T)) := by rw [← eW4]; exact R3.alloc _
  have B4 : Below w.heap.size w W4 := by rw [← eW4]; exact bl_alloc B3 _
  clear eW4 B3 z3 W3
  refine (wpIn_wide (n := 3)).1 ?_
  refine wpIn_rangeFunc_ownG rfl (by decide) (gf := 50) (lb := #[.pointer (some ⟨b1 + 2, 0, none⟩)]) rfl trivial (enters_of Try.func50 (by kernel_rfl) rfl)
    (HS.out 2 (b1 + 2) W4 (by decide) R4) (fun h k => k.trans h) (fun W l o o' hl _ _ _ => World.putObj_heap_other (by omega)) (Below.refl _ _) (fun _ => rfl)
    (fun (pre : List (Fin P)) W => W.rowIs w.heap.size 31 4 (cf H V C (some ⟨g, o, none⟩) m cap) ∧ W.rowIs (w.heap.size + 1) 33 2 (sf 0 none 0 0) ∧ W.rowIs b1 53 (nw T) (wf (fx N C pre)) ∧ W.rowIs (b1 + 1) 33 2 (sf T (some ⟨b1, 0, none⟩) (nw T) (nw T)) ∧ W.rowIs (b1 + 2) 31 4 (cf H V C (some ⟨g, o, none⟩) m cap) ∧ Below w.heap.size w W)
    (fun (_ : Code) (_ : List (Fin P)) _ => False)
    (OwnFrom.and (Own.from (krow_own _ _ _ _) _) (OwnFrom.and (Own.from (krow_own _ _ _ _) _) (OwnFrom.and (Own.from (krow_own _ _ _ (fun (pre : List (Fin P)) => wf (fx N C pre))) _) (OwnFrom.and (Own.from (krow_own _ _ _ _) _) (OwnFrom.and (Own.from (krow_own _ _ _ _) _) (ownFrom_below (Nat.le_refl _) (by omega)))))))
    (fun _ _ _ _ _ hs _ _ => hs)
    ⟨R0, RS, R2, R3, R4, B4⟩ ?a1 ?assign ?body ?done ?stop
  case assign =>
    intro l x W K hK
    gi_wp2
    exact hK
  case body =>
    clear R0 RS R2 R3 R4 B4
    rintro l pre x W ⟨R0, RS, R2, R3, R4, B4⟩ _
    have hxi := HI x.1 x.2
    have hxj := HJ x.1 x.2
    have hxP := x.2
    have hxo := HOK.out x.1 x.2
    have hpl := (RD.out.below B4).place hxi
    have hpg : g < w.heap.size := by
      obtain ⟨g', o', e, c⟩ := RD.out.2 (x.1 * nw C) (by have : 0 < nw C := (by unfold nw; omega); omega)
      cases e
      exact lt_of_cell c
    have c2 := cf2 R0
    have c3 := sf_ws R3
    have HFS := hid1 (fx_step N C pre x)
    obtain ⟨i, hxi'⟩ : ∃ i, x.1 = i := ⟨_, rfl⟩
    rw [hxi'] at hxi hxj hpl hxP hxo HFS ⊢
    obtain ⟨y, hy⟩ : ∃ y, i * C = y := ⟨_, rfl⟩
    have p3 : (i : Int) * (C : Int) = (y : Nat) := by rw [← hy]; push_cast; rfl
    rw [hy] at hxj HFS
    have r4 : IntKind.i64.wrap (y : Int) = (y : Int) := by rw [IntKind.wrap_i64]; omega
    have HP := hid1 hpl
    have HO := hid1 hxo
    clear hy hxi' hpl hxo HPP HM HFL HC
    gi_wp2
    refine ⟨trivial, CallsIn.inRound l (callsIn_wide.2 ((klay_at (fx N C pre) (pl N (nw C) i) b1 y C T (nw T) (nw C) (some ⟨g, o + i * nw C, none⟩) W hxj hT R2 HO.out HP.out (fun g' o' e _ => by cases e; omega)).mono ?_))⟩
    rintro e W2 ⟨rfl, hrow, hbut⟩
    gi_wp2
    refine ⟨keepsFrom_but hbut R2, hbut.block _ R4.lt (by omega), hbut.row (by omega) R0, hbut.row (by omega) RS, ?_, hbut.row (by omega) R3, hbut.row (by omega) R4, hbut.below (by omega) B4.size B4⟩
    rw [HFS.out]; exact hrow
  case done =>
    clear R0 RS R2 R3 R4 B4
    rintro D ys W hD rfl ⟨R0, RS, R2, R3, R4, B4⟩ hK
    rw [fx_upt, HFL.out] at R2
    have c2 := sf_len R3
    have c3 := sf_ws R3
    have s0 := sf_len RS
    have s1 := sf_ws RS
    have f0 := RS.frozen 0
    have f1 := RS.frozen 1
    have HR := hid1 R2
    have HRS := hid1 RS
    clear R0 R2 R3 R4 RS HS HI HC HPP HM HOK HFL
    go_wp2_with fail
    have hK1 := (KeepsOthers.setCell W ⟨w.heap.size + 1, 0, none⟩ (.int .i64 T)).same D _ hK rfl
    have hK2 := (KeepsOthers.setCell (W.setCell ⟨w.heap.size + 1, 0, none⟩ (.int .i64 T)) ⟨w.heap.size + 1, 1, none⟩ (.slice (some ⟨b1, 0, none⟩) (nw T) (nw T))).same D _ hK1 rfl
    refine ⟨by simp, .inl ⟨_, _, rfl, run_takeDeferred hK2, ?_⟩⟩
    have k0 := sf_len (rs_set HRS.out T (some ⟨b1, 0, none⟩) (nw T) (nw T))
    have k1 := sf_ws (rs_set HRS.out T (some ⟨b1, 0, none⟩) (nw T) (nw T))
    have k2 := cell_kept k0 (grownBy_putObj' _ D (.deferred none)) (fun r e => by cases e; exact ⟨_, hK2, rfl⟩)
    have k3 := cell_kept k1 (grownBy_putObj' _ D (.deferred none)) (fun r e => by cases e; exact ⟨_, hK2, rfl⟩)
    refine ⟨.tuple #[rv T (some ⟨b1, 0, none⟩) (nw T) (nw T), .int .i64 0], ?_, b1, rfl, by omega, ((HR.out.setOther (a := ⟨w.heap.size + 1, 0, none⟩) (by show b1 ≠ w.heap.size + 1; omega) _).setOther (a := ⟨w.heap.size + 1, 1, none⟩) (by show b1 ≠ w.heap.size + 1; omega) _).of_block (World.putObj_heap_other (by omega)), (bl_set (bl_set B4 (by omega) _) (by omega) _).trans (belowK_b (w := w) (Nat.le_refl _) _ D _ _ (by omega) hK2 rfl rfl)⟩
    simp [results, Try.f12, go_sem, k2, k3]
  case stop =>
    rintro D c pre W hD _ h _
    exact h.elim
end Go.Proofs.Ytfboegdibohciaa
