import Derived.Test.YtlghmojjcfjibaaQAPoolScript
import Derived.Test.YtlghmojjcfjibaaQFPoolScript
/- PARAMETERS THAT ARE LISTS OF STEPS, LISTS OF INTS (plain rows). -/
namespace Go.Proofs.Ytlghmojjcfjibaa
open Go.ChangeShapes Go.WideShapes Go.ChangeAt Go.RowKit
set_option maxRecDepth 100000

theorem cells_opU : Try.prog.cellsOf 57 = 13 := by kernel_rfl
theorem bytes_opU : Try.prog.bytesOf 57 = 120 := by kernel_rfl
theorem und_opsU : Try.prog.underlying 71 = some (.slice 57) := by kernel_rfl
section
variable {H : Type} {enc : TypeId × Value → H} {W : World} {fuel : Nat} {cs : List Value} {x : DataW H × List MemPlace}
theorem open_opZ (hh : DataW.trod enc Try.prog W 0 (fun _ => true) true fuel 57 cs = some x) (hz : ∀ n ∈ x.1.weights Try.prog 57, n ≤ reachBytes) :
    ∃ (kd h v c : Int) (xo : Option Addr) (n xc N : Nat) (r s sy sx t l b q : Int), cs = [.int .i64 kd, .int .i64 h, .int .i64 v, .int .i64 c, .slice xo n xc, .int .i64 r, .int .i64 s, .int .i64 sy, .int .i64 sx, .int .i64 t, .int .i64 l, .int .i64 b, .int .i64 q] ∧ Wr W xo n N ∧ n ≤ 17592186043904 := by
  have hl : cs.length = 13 := by
    obtain ⟨_, _, _, _, hlen, _, _⟩ := DataW.trod_struct Try.underlying57 hh
    exact hlen.trans cells_opU
  obtain ⟨_, y0, t0, _⟩ := fldZ Try.underlying57 hh hz 0 _ rfl
  obtain ⟨_, y1, t1, z1⟩ := fldZ Try.underlying57 hh hz 1 _ rfl
  obtain ⟨_, y2, t2, z2⟩ := fldZ Try.underlying57 hh hz 2 _ rfl
  replace t0 : DataW.trod enc Try.prog W 0 (fun _ => true) true _ 3 ((cs.drop 0).take (Try.prog.cellsOf 3)) = some y0 := t0
  replace t1 : DataW.trod enc Try.prog W 0 (fun _ => true) true _ 26 ((cs.drop 1).take (Try.prog.cellsOf 26)) = some y1 := t1
  replace t2 : DataW.trod enc Try.prog W 0 (fun _ => true) true _ 28 ((cs.drop 5).take (Try.prog.cellsOf 28)) = some y2 := t2
  rw [cells_intF] at t0
  rw [cells_cube] at t1
  rw [cells_winF] at t2
  obtain ⟨kd, e0, _, _⟩ := DataW.trod_int Try.underlying3 t0
  obtain ⟨h, v, c, xo, n, xc, N, e1, wr, hn, _⟩ := open_cubeZ t1 z1
  obtain ⟨r, s, sy, sx, t, l, b, q, e2⟩ := win_cellsF t2
  match cs, hl with
  | [a0, a1, a2, a3, a4, a5, a6, a7, a8, a9, a10, a11, a12], _ =>
    simp at e0 e1 e2
    obtain ⟨rfl, rfl, rfl, rfl⟩ := e1
    obtain ⟨rfl, rfl, rfl, rfl, rfl, rfl, rfl, rfl⟩ := e2
    subst e0
    exact ⟨kd, h, v, c, xo, n, xc, N, r, s, sy, sx, t, l, b, q, rfl, wr, hn⟩
end
theorem open_ops {H : Type} {enc : TypeId × Value → H} {W : World} {base : Nat} {v : Value} {d : DataW H} {p : List MemPlace}
    (hv : Value.okWide Try.prog W .any base 71 v) (h : DataW.Trod enc Try.prog W 0 (fun _ => true) true 71 v d p) (hz : ∀ n ∈ d.weights Try.prog 71, n ≤ reachBytes) :
    ∃ (ao : Option Addr) (m cap : Nat), v = .slice ao m cap ∧ m ≤ 1172812402927 ∧ LoU W ao m := by
  obtain ⟨a0, len, cap, rfl⟩ := okWide_slice und_opsU hv
  obtain ⟨fuel, hf⟩ := h
  rcases Deep.open_slice und_opsU hf with ⟨hc, hx⟩ | ⟨a, len', cap', mm, n, D, Pl, hc, _, hl, hm, hmm, hx, hcell⟩
  · simp [Value.cells] at hc
    obtain ⟨rfl, rfl, rfl⟩ := hc
    exact ⟨none, 0, 0, rfl, by omega, fun j hj => absurd hj (by simp)⟩
  · simp [Value.cells] at hc
    obtain ⟨rfl, rfl, rfl⟩ := hc
    simp only [if_true] at hmm
    have hmx := max_is
    have hd : d = .slice ((List.range len).map D) ((List.range (mm - len)).map fun j => D (len + j)) := congrArg Prod.fst hx
    have hsz : len ≤ 1172812402927 := by
      have w1 := hz ((((List.range len).map D).length + ((List.range (mm - len)).map fun j => D (len + j)).length) * 120) (by
        rw [hd]
        simp only [DataW.weights, und_opsU, bytes_opU]
        exact List.mem_cons_self)
      rw [reach_is] at w1
      simp at w1
      omega
    obtain ⟨b, o, s⟩ := a
    refine ⟨some ⟨b, o, s⟩, len, cap, rfl, hsz, fun j hj => ?_⟩
    obtain ⟨cs1, h1, h2⟩ := hcell j (by omega)
    rw [cells_opU] at h1
    obtain ⟨_, hlen, hc1⟩ := World.cells?_some h1
    have hzj : ∀ n ∈ (D j).weights Try.prog 57, n ≤ reachBytes := fun n hn => hz n (by
      rw [hd]
      simp only [DataW.weights, und_opsU]
      refine List.mem_cons_of_mem _ (List.mem_append.mpr (Or.inl ?_))
      exact weightsAll_mem (List.mem_map.mpr ⟨j, List.mem_range.mpr hj, rfl⟩) n hn)
    obtain ⟨kd, h, v, c, xo, m, xc, N, r, s', sy, sx, t, l, b', q, rfl, wr, hm'⟩ := open_opZ h2 hzj
    have e0 := hc1 0 (by decide)
    have e1 := hc1 1 (by decide)
    have e2 := hc1 2 (by decide)
    have e3 := hc1 3 (by decide)
    have e4 := hc1 4 (by decide)
    have e5 := hc1 5 (by decide)
    have e6 := hc1 6 (by decide)
    have e7 := hc1 7 (by decide)
    have e8 := hc1 8 (by decide)
    have e9 := hc1 9 (by decide)
    have e10 := hc1 10 (by decide)
    have e11 := hc1 11 (by decide)
    have e12 := hc1 12 (by decide)
    rw [Deep.add_add] at e0 e1 e2 e3 e4 e5 e6 e7 e8 e9 e10 e11 e12
    have hs : s = none := by
      obtain ⟨cs0, h0, _⟩ := hcell 0 (by omega)
      rw [cells_opU] at h0
      obtain ⟨_, hlen0, hc0⟩ := World.cells?_some h0
      have e2 := hc0 0 (by decide)
      rw [Deep.add_add, List.getElem?_eq_getElem (by omega)] at e2
      have := World.cell?_spot e2
      simpa [Addr.add] using this
    subst hs
    rw [add_at] at e0 e1 e2 e3 e4 e5 e6 e7 e8 e9 e10 e11 e12
    exact ⟨b, o, kd, h, v, c, xo, m, xc, N, r, s', sy, sx, t, l, b', q, rfl, ⟨by simpa using e0, by simpa [Nat.add_assoc] using e1, by simpa [Nat.add_assoc] using e2, by simpa [Nat.add_assoc] using e3, by simpa [Nat.add_assoc] using e4, by simpa [Nat.add_assoc] using e5, by simpa [Nat.add_assoc] using e6, by simpa [Nat.add_assoc] using e7, by simpa [Nat.add_assoc] using e8, by simpa [Nat.add_assoc] using e9, by simpa [Nat.add_assoc] using e10, by simpa [Nat.add_assoc] using e11, by simpa [Nat.add_assoc] using e12⟩, wr, hm'⟩
theorem und_intsU : Try.prog.underlying 72 = some (.slice 3) := by kernel_rfl
theorem i64_of_wfU {x : Int} (h : (Lit.int .i64 x).wf = true) : -9223372036854775808 ≤ x ∧ x ≤ 9223372036854775807 := by
  simp [Lit.wf, IntKind.min, IntKind.max, IntKind.signed, IntKind.bits] at h
  exact ⟨by omega, by omega⟩
theorem open_i64U {H : Type} {enc : TypeId × Value → H} {W : World} {base : Nat} {v : Value} {d : DataW H} {p : List MemPlace}
    (hv : Value.okWide Try.prog W .any base 72 v) (h : DataW.Trod enc Try.prog W 0 (fun _ => true) true 72 v d p) :
    ∃ (ao : Option Addr) (m cap : Nat) (f : Nat → Int), v = .slice ao m cap ∧ m ≤ 9223372036854775807 ∧ (∀ k, k < m → -9223372036854775808 ≤ f k ∧ f k ≤ 9223372036854775807) ∧ Rs W ao m (fun k => .int .i64 (f k)) := by
  obtain ⟨ao, m, cap, rfl, hm, hf⟩ := open_list und_intsU cells_intF (by decide) hv h
  have each : ∀ k, k < m → ∃ z : Int, (-9223372036854775808 ≤ z ∧ z ≤ 9223372036854775807) ∧ ∃ g o, ao = some ⟨g, o, none⟩ ∧ W.cell? ⟨g, o + k, none⟩ = some (.int .i64 z) := fun k hk => by
    obtain ⟨g, o, n, cs, y, rfl, ht, _, hc⟩ := hf k hk
    obtain ⟨x, rfl, _, hw⟩ := DataW.trod_int Try.underlying3 ht
    exact ⟨x, i64_of_wfU hw, g, o, rfl, by simpa using hc 0 (by decide)⟩
  obtain ⟨q, hq⟩ := Deep.choose_lt each
  exact ⟨ao, m, cap, q, rfl, hm, fun k hk => (hq k hk).1, fun k hk => (hq k hk).2⟩
end Go.Proofs.Ytlghmojjcfjibaa
namespace Go.Proofs.Ytlghmojjcfjibaa
open Go.ChangeShapes Go.WideShapes Go.ChangeAt Go.RowKit

set_option maxRecDepth 100000 in
theorem poolScript_lifted (os : Os) (started : os.Started) (H : Type) (enc : TypeId × Value → H) :
    ReturnsInHanded {} Try.checked os 8 .any (Rows.poolScriptSpec.pre6 enc Try.prog Try.f8 Rows.poolScriptRow.domain false) (Rows.poolScriptSpec.post enc Try.prog Try.f8 false true false false) := by
  refine returnsInHanded_of_change_sized (C := Try.checked) own started (by kernel_rfl) Try.func8
    (ChangeSpec.witness6 (enc := enc) (C := Try.checked) false ⟨#[], #[.slice none 0 0, .slice none 0 0], []⟩ 8 (by kernel_rfl) (by kernel_rfl) (by kernel_rfl) (by kernel_rfl)) ?_
  intro W base args ds gs before hval0 hW hcnd hsz _
  have hval : ∀ (j : Nat) t v, Try.f8.params[j]? = some t → args[j]? = some v → Value.okWide Try.prog W .any base t v := hval0
  have hW' := hW
  obtain ⟨p, q, hA0, hV, rfl, hfz, hnd⟩ := hW
  have hA : DataW.TrodAll enc Try.prog W 0 (fun _ => true) true Try.f8.params.toList args.toList ds p := hA0
  rw [Try.params8] at hA hval hsz
  obtain ⟨v0, vs0, d0, ds0, p0, q0, hargs, rfl, rfl, h0, r0⟩ := trodAll_cons hA
  obtain ⟨v1, vs1, d1, ds1, p1, q1, rfl, rfl, rfl, h1, r1⟩ := trodAll_cons r0
  obtain ⟨rfl, rfl, rfl⟩ := trodAll_nil r1
  obtain rfl : args = #[v0, v1] := by cases args; simp_all
  obtain ⟨rfl, rfl⟩ := trodVars_none hV
  have lt0 : ∀ x ∈ p0, x.block < W.heap.size := by obtain ⟨m, hm⟩ := h0; exact DataW.trod_lt m _ _ _ hm
  have k0 := h0
  have lt1 : ∀ x ∈ p1, x.block < W.heap.size := by obtain ⟨m, hm⟩ := h1; exact DataW.trod_lt m _ _ _ hm
  have k1 := h1
  obtain ⟨ao0, m0, c0, rfl, hm0, f0⟩ := open_ops (hval 0 71 v0 rfl rfl) h0 (fun n hn => by have := List.all_eq_true.1 hsz _ (DataW.weights_mem_each (j := 0) (t := 71) (d := d0) rfl rfl n hn); simpa using this)
  obtain ⟨ao1, m1, c1, g1, rfl, hm1, z1, f1⟩ := open_i64U (hval 1 72 v1 rfl rfl) h1
  clear hA0 hval0
  refine (poolScript_any ao0 m0 c0 ao1 m1 c1 g1 W hm0 z1 f0 f1).mono fun e W' ⟨he, bel⟩ => ?_
  subst he
  exact ⟨_, rfl, _, _, _, [], _, [], hW', trodAll_mk1 (shut_bool Try.underlying4 _), (trodAll_cons_mk (Below.trod laidOut (by kernel_rfl) (of_decide_eq_true (by kernel_rfl)) k0 bel lt0) (trodAll_cons_mk (Below.trod laidOut (by kernel_rfl) (of_decide_eq_true (by kernel_rfl)) k1 bel lt1) trodAll_mk0)), rfl, bel.frame _, fun h => by cases h⟩

theorem poolScript_holds : Rows.PoolScriptSaid :=
  OpenClaim.holds_of_wide 8 Try.f8 rfl rfl rfl rfl rfl rfl rfl ⟨rfl, rfl, rfl, rfl, rfl⟩ rfl rfl rfl rfl rfl (by kernel_rfl) Try.func8 (by kernel_rfl)
    (of_decide_eq_true (by kernel_rfl)) (by unfold Func.isWrapper; first | (rw [if_pos (by decide +kernel)]; kernel_rfl) | (rw [if_neg (by decide +kernel)]; exact ⟨rfl, rfl⟩))
    (fun os started H enc _ => poolScript_lifted os started H enc)
#print axioms poolScript_holds
end Go.Proofs.Ytlghmojjcfjibaa
