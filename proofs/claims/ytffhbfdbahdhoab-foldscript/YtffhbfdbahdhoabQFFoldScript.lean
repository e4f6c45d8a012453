import Derived.Test.YtffhbfdbahdhoabQEFoldScript
import Derived.Test.YtffhbfdbahdhoabQAFoldScript
/- FoldScript, WALKED. -/
namespace Go.Proofs.Ytffhbfdbahdhoab
open Go.RowKit Go.Shelf Wd
attribute [local go_sem ↓] Go.wp_at_zero Go.wp_at_succ

theorem meet_ofH {J K : Act → World → Prop} {Q : Exit → Act → World → Prop} {a : Act} {w : World} (hK : ∀ a w, Met J a w → K a w) (h : Met J a w) : Exit.then K Q .normal a w := hK a w h
/-- A list of steps. -/
def Lo14 (W : World) (ao : Option Addr) (n : Nat) : Prop := ∀ j, j < n → ∃ (g o : Nat) (k gn gd bn bd mn md sn sd m t lo hi x : Int), ao = some ⟨g, o, none⟩ ∧ O14 W g (o + j * 14) k gn gd bn bd mn md sn sd m t lo hi x
theorem Lo14.keep {W w' : World} {ao : Option Addr} {n : Nat} (h : Lo14 W ao n) (hb : Below W.heap.size W w') : Lo14 w' ao n := fun j hj => by
  obtain ⟨g, o, k, gn, gd, bn, bd, mn, md, sn, sd, m, t, lo, hi, x, e, a⟩ := h j hj
  exact ⟨g, o, k, gn, gd, bn, bd, mn, md, sn, sd, m, t, lo, hi, x, e, a.keep hb⟩
/-- The last answer. -/
def Wl (w : World) (b : Nat) (u v : Int) : Prop := w.cell? ⟨b, 0, none⟩ = some (.int .i64 u) ∧ w.cell? ⟨b, 1, none⟩ = some (.int .i64 v) ∧ w.frozen? ⟨b, 0, none⟩ = false ∧ w.frozen? ⟨b, 1, none⟩ = false
theorem Wl.keep {w w' : World} {b : Nat} {u v : Int} (h : Wl w b u v) (hb : Below w.heap.size w w') : Wl w' b u v := by
  have z := lt_of_cell h.1
  exact ⟨keepc hb h.1, keepc hb h.2.1, keepf hb z h.2.2.1, keepf hb z h.2.2.2⟩
set_option maxHeartbeats 1600000 in
set_option maxRecDepth 100000 in
theorem foldScript_any (ao : Option Addr) (m0 cm : Nat) (hm0 : m0 ≤ 9223372036854775807) (w : World) (L1 : Lo14 w ao m0) :
    Calls Try.prog 4 #[.slice ao m0 cm] w fun e w' => e = .returned (.bool true) ∧ Below w.heap.size w w' := by
  have H1 := hid1 L1
  clear L1
  go_enter Try.func4, Try.ntmps4
  go_wp2_with fail
  refine (obegun_any _).mono ?_
  rintro e w1 ⟨rfl, hb1⟩
  have z1 := hb1.size
  go_wp2_with fail
  go_loopw [5] (fun i wr => ∃ n : Nat, n ≤ m0 ∧ i = .int .i64 n ∧ (∃ u v : Int, Hid (Wl wr w1.heap.size u v)) ∧ Below w.heap.size w wr) (fun i _ => m0 - (intOf i).toNat)
  case atStart => exact ⟨0, Nat.zero_le _, rfl, ⟨0, 0, hid1 ⟨by simp [go_sem], by simp [go_sem], by simp [go_sem], by simp [go_sem]⟩⟩, by repeat (first | (with_reducible exact Below.refl _ _) | (with_reducible refine bl_alloc ?_ _) | (with_reducible refine Below.drew ?_) | (with_reducible refine bl_drewN ?_ _) | (with_reducible refine bl_set ?_ (by omega) _) | (with_reducible refine bl_step ?_ (by assumption)))⟩
  case round =>
    clear hb1
    obtain ⟨j, hj, rfl, ⟨u, v, HW⟩, hnx⟩ := hrel
    generalize w1.heap.size = G at *
    have ii0 : (0 : Int) ≤ (j : Int) := by omega
    by_cases hlj : j < m0
    · have ii : (j : Int) < (m0 : Int) := by omega
      obtain ⟨g, o, k, gn, gd, bn, bd, mn, md, sn, sd, m, t, lo, hi, x, rfl, HO0⟩ := (H1.out.keep hnx) j hlj
      obtain ⟨h0, h1, h2, h3, h4, h5, h6, h7, h8, h9, h10, h11, h12, h13⟩ := HO0
      obtain ⟨l0, l1, f0, f1⟩ := HW.out
      have HP := hid1 (plays_any k gn gd bn bd mn md sn sd m t lo hi x u v)
      have HB := hid1 hnx
      clear hnx
      go_upto_region 8 with fail
      go_cut [3] (fun s wx => s = .bool true ∧ (∃ A B : Int, Hid (Wl wx G A B)) ∧ Hid (Below w.heap.size w wx))
      case first =>
        go_region_with ((go_at_call 8; (with_reducible refine (HP.out _).mono ?_); rintro e x1 ⟨⟨A, B, rfl⟩, hx1⟩; have p0 := keepc hx1 (b := G) (o := 0) (v := .int .i64 u) (by simp [go_sem, *]); have p1 := keepc hx1 (b := G) (o := 1) (v := .int .i64 v) (by simp [go_sem, *]); have zG := lt_of_cell l0; have q0 := keepf hx1 (b := G) (o := 0) (by simpa using zG) (by simp [go_sem, *]); have q1 := keepf hx1 (b := G) (o := 1) (by simpa using zG) (by simp [go_sem, *])))
        all_goals refine meet_ofH (by assumption) ?_
        all_goals go_meet
        all_goals exact ⟨rfl, ⟨A, B, hid1 ⟨by simp [go_sem, *], by simp [go_sem, *], by simp [go_sem, *], by simp [go_sem, *]⟩⟩, hid1 (have BH := HB.out; by repeat (first | (with_reducible exact Below.refl _ _) | (with_reducible refine bl_alloc ?_ _) | (with_reducible refine Below.drew ?_) | (with_reducible refine bl_drewN ?_ _) | (with_reducible refine bl_set ?_ (by first | omega | (simp; done) | (simp; omega)) _) | (with_reducible refine bl_step ?_ (by assumption))))⟩
      case rest =>
        obtain ⟨rfl, ⟨A, B, HW2⟩, HB2⟩ := hcut
        have BY := HB2.out
        clear HB HB2 HW HP h0 h1 h2 h3 h4 h5 h6 h7 h8 h9 h10 h11 h12 h13 l0 l1 f0 f1
        go_wp2_with fail
        exact ⟨⟨j + 1, by omega, by go_num, ⟨A, B, HW2⟩, BY⟩, by simp [intOf]; omega⟩
    · go_wp2_with fail
      go_ret
      exact ⟨rfl, hnx⟩
end Go.Proofs.Ytffhbfdbahdhoab
/- PARAMETERS THAT ARE SCRIPTS. -/
namespace Go.Proofs.Ytffhbfdbahdhoab
open Go.ChangeShapes Go.WideShapes Go.ChangeAt Go.RowKit Wd
set_option maxRecDepth 100000

theorem cells_op : Try.prog.cellsOf 40 = 14 := by kernel_rfl
theorem und_ops : Try.prog.underlying 34 = some (.slice 40) := by kernel_rfl
theorem len14 {l : List Value} (h : l.length = 14) : ∃ c0 c1 c2 c3 c4 c5 c6 c7 c8 c9 c10 c11 c12 c13, l = [c0, c1, c2, c3, c4, c5, c6, c7, c8, c9, c10, c11, c12, c13] := by
  match l, h with
  | [c0, c1, c2, c3, c4, c5, c6, c7, c8, c9, c10, c11, c12, c13], _ => exact ⟨c0, c1, c2, c3, c4, c5, c6, c7, c8, c9, c10, c11, c12, c13, rfl⟩
theorem fldN {H : Type} {enc : TypeId × Value → H} {w : World} {base : Nat} {sp : Nat → Bool} {held : Bool} {t : TypeId} {fs : Array Field} {fuel : Nat} {cs : List Value} {x : DataW H × List MemPlace}
    (ht : Try.prog.underlying t = some (.struct fs)) (h : DataW.trod enc Try.prog w base sp held fuel t cs = some x) (i : Nat) (f : Field) (hi : fs[i]? = some f) (hu : f.type = 32) :
    ∃ gn gd bn bd mn md sn sd : Int, (cs.drop f.offset).take 8 = [.int .i64 gn, .int .i64 gd, .int .i64 bn, .int .i64 bd, .int .i64 mn, .int .i64 md, .int .i64 sn, .int .i64 sd] := by
  obtain ⟨n, y, g⟩ := fld ht h i f hi
  rw [hu, cells_norm] at g
  exact norm_cells g
theorem fldT {H : Type} {enc : TypeId × Value → H} {w : World} {base : Nat} {sp : Nat → Bool} {held : Bool} {t : TypeId} {fs : Array Field} {fuel : Nat} {cs : List Value} {x : DataW H × List MemPlace}
    (ht : Try.prog.underlying t = some (.struct fs)) (h : DataW.trod enc Try.prog w base sp held fuel t cs = some x) (i : Nat) (f : Field) (hi : fs[i]? = some f) (hu : f.type = 25) :
    ∃ a b : Int, (cs.drop f.offset).take 2 = [.int .i64 a, .int .i64 b] := by
  obtain ⟨n, y, g⟩ := fld ht h i f hi
  rw [hu, cells_thr] at g
  exact thr_cells g
theorem fldR {H : Type} {enc : TypeId × Value → H} {w : World} {base : Nat} {sp : Nat → Bool} {held : Bool} {t : TypeId} {fs : Array Field} {fuel : Nat} {cs : List Value} {x : DataW H × List MemPlace}
    (ht : Try.prog.underlying t = some (.struct fs)) (h : DataW.trod enc Try.prog w base sp held fuel t cs = some x) (i : Nat) (f : Field) (hi : fs[i]? = some f) (hu : f.type = 38) :
    ∃ a b : Int, (cs.drop f.offset).take 2 = [.int .i64 a, .int .i64 b] := by
  obtain ⟨n, y, g⟩ := fld ht h i f hi
  rw [hu, cells_rch] at g
  exact rch_cells g
theorem op_cells {H : Type} {enc : TypeId × Value → H} {w : World} {base : Nat} {sp : Nat → Bool} {held : Bool} {fuel : Nat} {cs : List Value} {y : DataW H × List MemPlace}
    (h : DataW.trod enc Try.prog w base sp held fuel 40 cs = some y) : ∃ y0 y1 y2 y3 y4 y5 y6 y7 y8 y9 y10 y11 y12 y13 : Int, cs = [.int .i64 y0, .int .i64 y1, .int .i64 y2, .int .i64 y3, .int .i64 y4, .int .i64 y5, .int .i64 y6, .int .i64 y7, .int .i64 y8, .int .i64 y9, .int .i64 y10, .int .i64 y11, .int .i64 y12, .int .i64 y13] := by
  obtain ⟨z0, e0⟩ := fldI Try.underlying40 h 0 _ rfl Try.underlying3 cells_int
  obtain ⟨b1, b2, b3, b4, b5, b6, b7, b8, e1⟩ := fldN Try.underlying40 h 1 _ rfl rfl
  obtain ⟨z9, z10, e2⟩ := fldT Try.underlying40 h 2 _ rfl rfl
  obtain ⟨z11, z12, e3⟩ := fldR Try.underlying40 h 3 _ rfl rfl
  obtain ⟨z13, e4⟩ := fldI Try.underlying40 h 4 _ rfl Try.underlying2 cells_i64
  have hl : cs.length = 14 := by
    obtain ⟨_, _, _, _, hlen, _, _⟩ := DataW.trod_struct Try.underlying40 h
    exact hlen.trans cells_op
  obtain ⟨c0, c1, c2, c3, c4, c5, c6, c7, c8, c9, c10, c11, c12, c13, rfl⟩ := len14 hl
  simp at e0 e1 e2 e3 e4
  obtain ⟨rfl, rfl, rfl, rfl, rfl, rfl, rfl, rfl⟩ := e1
  obtain ⟨rfl, rfl⟩ := e2
  obtain ⟨rfl, rfl⟩ := e3
  subst e0 e4
  exact ⟨_, _, _, _, _, _, _, _, _, _, _, _, _, _, rfl⟩
theorem open_ops {H : Type} {enc : TypeId × Value → H} {W : World} {base : Nat} {v : Value} {d : DataW H} {p : List MemPlace}
    (hv : Value.okWide Try.prog W .any base 34 v) (h : DataW.Trod enc Try.prog W 0 (fun _ => true) true 34 v d p) :
    ∃ (ao : Option Addr) (m cap : Nat), v = .slice ao m cap ∧ m ≤ 9223372036854775807 ∧ Lo14 W ao m := by
  obtain ⟨ao, m, cap, rfl, hm, hf⟩ := open_list und_ops cells_op (by decide) hv h
  refine ⟨ao, m, cap, rfl, hm, fun k hk => ?_⟩
  obtain ⟨g, o, n, cs, y, rfl, ht, _, hc⟩ := hf k hk
  obtain ⟨y0, y1, y2, y3, y4, y5, y6, y7, y8, y9, y10, y11, y12, y13, rfl⟩ := op_cells ht
  exact ⟨g, o, y0, y1, y2, y3, y4, y5, y6, y7, y8, y9, y10, y11, y12, y13, rfl, by simpa using hc 0 (by decide), by simpa using hc 1 (by decide), by simpa using hc 2 (by decide), by simpa using hc 3 (by decide), by simpa using hc 4 (by decide), by simpa using hc 5 (by decide), by simpa using hc 6 (by decide), by simpa using hc 7 (by decide), by simpa using hc 8 (by decide), by simpa using hc 9 (by decide), by simpa using hc 10 (by decide), by simpa using hc 11 (by decide), by simpa using hc 12 (by decide), by simpa using hc 13 (by decide)⟩
end Go.Proofs.Ytffhbfdbahdhoab
namespace Go.Proofs.Ytffhbfdbahdhoab
open Go.ChangeShapes Go.WideShapes Go.ChangeAt Go.RowKit Wd

set_option maxRecDepth 100000 in
theorem foldScript_lifted (os : Os) (started : os.Started) (H : Type) (enc : TypeId × Value → H) :
    ReturnsInHanded {} Try.checked os 4 .any (Rows.foldScriptSpec.pre6 enc Try.prog Try.f4 Rows.foldScriptRow.domain false) (Rows.foldScriptSpec.post enc Try.prog Try.f4 false true false false) := by
  refine returnsInHanded_of_change_sized (C := Try.checked) own started (by kernel_rfl) Try.func4
    (ChangeSpec.witness6 (enc := enc) (C := Try.checked) false ⟨#[], #[.slice none 0 0], []⟩ 8 (by kernel_rfl) (by kernel_rfl) (by kernel_rfl) (by kernel_rfl)) ?_
  intro W base args ds gs before hval0 hW _ _ _
  have hval : ∀ (j : Nat) t v, Try.f4.params[j]? = some t → args[j]? = some v → Value.okWide Try.prog W .any base t v := hval0
  have hW' := hW
  obtain ⟨p, q, hA0, hV, rfl, hfz, hnd⟩ := hW
  have hA : DataW.TrodAll enc Try.prog W 0 (fun _ => true) true Try.f4.params.toList args.toList ds p := hA0
  rw [Try.params4] at hA hval
  obtain ⟨v0, vs0, d0, ds0, p0, q0, hargs, rfl, rfl, h0, r0⟩ := trodAll_cons hA
  obtain ⟨rfl, rfl, rfl⟩ := trodAll_nil r0
  obtain rfl : args = #[v0] := by cases args; simp_all
  obtain ⟨rfl, rfl⟩ := trodVars_none hV
  have lt0 : ∀ x ∈ p0, x.block < W.heap.size := by obtain ⟨m, hm⟩ := h0; exact DataW.trod_lt m _ _ _ hm
  have k0 := h0
  obtain ⟨ao0, m0, c0, rfl, hm0, f0⟩ := open_ops (hval 0 34 v0 rfl rfl) h0
  clear hA0 hval0
  refine (foldScript_any ao0 m0 c0 hm0 W f0).mono fun e W' ⟨he, bel⟩ => ?_
  subst he
  exact ⟨_, rfl, _, _, _, [], _, [], hW', trodAll_mk1 (shut_bool Try.underlying4 _), (trodAll_cons_mk (Below.trod laidOut (by kernel_rfl) (of_decide_eq_true (by kernel_rfl)) k0 bel lt0) trodAll_mk0), rfl, bel.frame _, fun h => by cases h⟩

theorem foldScript_holds : Rows.FoldScriptSaid :=
  OpenClaim.holds_of_wide 4 Try.f4 rfl rfl rfl rfl rfl rfl rfl ⟨rfl, rfl, rfl, rfl, rfl⟩ rfl rfl rfl rfl rfl (by kernel_rfl) Try.func4 (by kernel_rfl)
    (of_decide_eq_true (by kernel_rfl)) (by unfold Func.isWrapper; first | (rw [if_pos (by decide +kernel)]; kernel_rfl) | (rw [if_neg (by decide +kernel)]; exact ⟨rfl, rfl⟩))
    (fun os started H enc _ => foldScript_lifted os started H enc)
#print axioms foldScript_holds
end Go.Proofs.Ytffhbfdbahdhoab
