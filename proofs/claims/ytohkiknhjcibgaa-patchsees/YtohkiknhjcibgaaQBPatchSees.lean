import Derived.Test.YtohkiknhjcibgaaQAPatchSees
import Derived.Test.YtohkiknhjcibgaaEW2
import Derived.Test.YtohkiknhjcibgaaEW1
import Derived.Test.YtohkiknhjcibgaaEW8
/- heddleref13: Spread walks. -/
namespace Go.Proofs.Ytohkiknhjcibgaa
open Go.RowKit Go.Shelf

attribute [local go_sem ↓] Go.wp_at_zero Go.wp_at_succ

theorem step_app13 {ops : Array Oper} {o : Oper} {a : Act} {w : World} {K : Act → World → Prop} {Q : Exit → Act → World → Prop} {E : Prop}
    (hg : o.guard = none) (s x : Operand) (hop : o.op = Op.call { callee := Callee.builtin Builtin.append, args := #[s, x], argTypes := #[24, 24] })
    (base : Nat) (v : Value) (l : List Int) (b n : Nat) (hs : a.eval s = v) (hown : w.ownsRow base 3 1 v n (ints l b n))
    (ad : Addr) (y : Int) (hx : a.eval x = .slice (some ad) 1 1) (hc : w.cell? ad = some (.int .i64 y)) (hM : n ≤ 16777216) (hb : base ≤ w.heap.size) (hy : y = ia l (b + n))
    (hK : ∀ v' w', w'.ownsRow base 3 1 v' (n + 1) (ints l b (n + 1)) → w.grownBy w' v.ownBlock → (v'.ownBlock = v.ownBlock ∨ v'.ownBlock = some w.heap.size) → K (a.put o.dst v') w') :
    if Region.wanted o (yielded ops a.tmps) = true then Oper.wp Try.prog o a w K Q else E := by
  have hw : Region.wanted o (yielded ops a.tmps) = true := by simp [Region.wanted, hg]
  rw [if_pos hw]
  obtain ⟨i0, hi, hz0, hz1, hz2⟩ := info_parts info_intE
  obtain ⟨v', w', hr, h2, h3, h4, h5⟩ := run_append_own_at (P := Try.prog) w base 24 o.type 3 i0 (.int .i64 0) 1 8 und_intsE hi hz0 hz1 hz2 rfl (by decide) v n (ints l b n) hown ad 1 1 [.int .i64 y] rfl
    (fun j u hu => by
      rcases j with _ | j
      · simp at hu; subst hu; exact hc
      · simp at hu) (fun u hu => by simp at hu; subst hu; rfl) (by unfold maxLen; omega) (by omega) hb
  unfold Oper.wp execOp
  simp only [hop, resolve, invoke, builtin, Sem.run_bind, Sem.run_pure, Result.andThen_ok, List.map_toArray, List.map_cons, List.map_nil, hs, hx, hr]
  exact hK _ _ (by rw [ints_snoc, ← hy]; exact h2) h3 h5
theorem meet_of13 {J K : Act → World → Prop} {Q : Exit → Act → World → Prop} {a : Act} {w : World} (hK : ∀ a' w', Met J a' w' → K a' w') (h : Met J a w) : Exit.then K Q Exit.normal a w := hK _ _ h
theorem Rl.form {w wr : World} {u : Value} {xs : List Value} {l : List Int} {C k : Nat} (h : Rl w wr u xs l C k) (h0 : 0 < xs.length) : ∃ gO cO, u = .slice (some ⟨gO, 0, none⟩) xs.length cO ∧ gO < wr.heap.size := by
  obtain ⟨g, c, f, e, hb, h4, h5, hrow, hf⟩ := own_row h.o h0
  exact ⟨g, c, e, hrow.lt⟩
theorem own_form13 {w : World} {base : Nat} {e : TypeId} {size : Nat} {v : Value} {n : Nat} {xs : List Value} (h : w.ownsRow base e size v n xs) : ∃ ao cp, v = .slice ao n cp := by
  rcases h.2 with ⟨rfl, rfl⟩ | ⟨g, cap, cur, rfl, _⟩
  · exact ⟨none, 0, rfl⟩
  · exact ⟨_, cap, rfl⟩
theorem Rl.drew {w wr : World} {u : Value} {xs : List Value} {l : List Int} {C k : Nat} (h : Rl w wr u xs l C k) : Rl w wr.drew u xs l C k := ⟨h.o, h.e, h.d, h.r0, h.b.drew⟩
end Go.Proofs.Ytohkiknhjcibgaa
/- PACKAGE patch: Spread. -/
namespace Go.Proofs.Ytohkiknhjcibgaa
open Go.RowKit Go.Shelf

set_option maxHeartbeats 3200000 in
set_option maxRecDepth 100000 in
theorem spread_walk (C P n K0 g o cap : Nat) (l : List Int) (hl : l.length = n) (w : World) (hC : 1 ≤ C ∧ C ≤ 4096) (hP : 1 ≤ P) (hn : P * C = n) (hM : P * nw C ≤ 262144) (hK0 : K0 ≤ n) (good : ∀ k, k < K0 → -1 ≤ ia l k ∧ ia l k ≤ 1) (stop : K0 < n → ¬ (-1 ≤ ia l K0 ∧ ia l K0 ≤ 1)) (rd : R8 w (some ⟨g, o, none⟩) l) :
    Calls Try.prog 12 #[.int .i64 C, .slice (some ⟨g, o, none⟩) n cap] w fun e w' => ((K0 = n ∧ ∃ G1 G2, e = .returned (.tuple #[rwv (bt (P * nw C) G1 0) (bt (P * nw C) G2 0), .int .i64 0]) ∧ w.heap.size ≤ G1 ∧ w.heap.size ≤ G2 ∧ G1 ≠ G2 ∧ w'.rowIs G1 41 (P * nw C) (wf (spN l C P)) ∧ w'.rowIs G2 41 (P * nw C) (wf (spN (nzl l) C P))) ∨
      (K0 < n ∧ e = .returned (.tuple #[rwv ⟨0, none, 0, 0, 0⟩ ⟨0, none, 0, 0, 0⟩, .int .i64 52]))) ∧ Below w.heap.size w w' := by
  have hd1 : nw C ≤ 64 := by unfold nw; omega
  have hd0 : 1 ≤ nw C := by unfold nw; omega
  have hn0 : 0 < n := by rw [← hn]; exact Nat.mul_pos hP hC.1
  have hPb : P ≤ 262144 := Nat.le_trans (Nat.le_mul_of_pos_right P hd0) hM
  have hnb : n ≤ 1073741824 := by rw [← hn]; exact Nat.mul_le_mul hPb hC.2
  obtain ⟨M, eM⟩ : ∃ M, P * nw C = M := ⟨_, rfl⟩
  have HW := hid1 (pwordsFor_any C (by omega))
  have HBL := hid1 (pblank_any M (by omega))
  have HST := hid1 (fun k (hk : k < n) => And.intro (spN_step (l := l) (C := C) (P := P) (i := k) hC.1 (by rw [hn]; exact hk)) (spN_step (l := nzl l) (C := C) (P := P) (i := k) hC.1 (by rw [hn]; exact hk)))
  have HIX : Hid (∀ k, k < n → k / C * (64 * nw C) + k % C < 64 * M ∧ k / C < P ∧ k % C < C) := fun k hk => by
    have h1 : k / C < P := Nat.div_lt_of_lt_mul (by rw [Nat.mul_comm, hn]; exact hk)
    have h2 := Nat.mod_lt k (show 0 < C by omega)
    have h3 := Nat.mul_le_mul_right (64 * nw C) (show k / C + 1 ≤ P from h1)
    rw [Nat.succ_mul] at h3
    have h4 := nw_le C
    have h5 : P * (64 * nw C) = 64 * M := by rw [← eM, Nat.mul_left_comm]
    omega
  have RD := hid1 rd
  have HL := hid1 hl
  have HG := hid1 good
  have HSP := hid1 stop
  have HN := hid1 hn
  rw [eM] at hM ⊢
  have iq : (n : Int) / (C : Int) = (P : Int) := by rw [← hn]; push_cast; exact Int.mul_ediv_cancel _ (by omega)
  have ir : (n : Int) % (C : Int) = 0 := by rw [← hn]; push_cast; exact Int.mul_emod_left _ _
  have irt : (n : Int).tmod (C : Int) = 0 := by rw [Int.tmod_eq_emod_of_nonneg (by omega)]; exact ir
  have iM : (P : Int) * (nw C : Int) = (M : Int) := by rw [← eM]; push_cast; rfl
  have wP : IntKind.i64.wrap (P : Int) = (P : Int) := by rw [IntKind.wrap_i64]; omega
  have wM : IntKind.i64.wrap (M : Int) = (M : Int) := by rw [IntKind.wrap_i64]; omega
  have wM64 : IntKind.i64.wrap ((M : Int) * 64) = (M : Int) * 64 := by rw [IntKind.wrap_i64]; omega
  have iC1 : ¬ (C : Int) < 1 := by omega
  have iC2 : ¬ (4096 : Int) < (C : Int) := by omega
  have iC0 : ¬ (C : Int) = 0 := by omega
  have iC0' : ¬ C = 0 := by omega
  have iCp : (0 : Int) < (C : Int) := by omega
  have in0 : ¬ (n : Int) = 0 := by omega
  have in0' : ¬ n = 0 := by omega
  have i64m : ¬ (16777216 : Int) < (M : Int) * 64 := by omega
  clear rd hl good stop hn
  go_enter Try.func12, Try.ntmps12
  go_wp2_with (go_at_call 25; refine (HW.out _).mono ?_; rintro e y1 ⟨rfl, rfl⟩)
  refine gen_calls (fun X => X.rowIs w.heap.size 46 4 (qf ⟨0, none, 0, 0, 0⟩ ⟨0, none, 0, 0, 0⟩) ∧ Below w.heap.size w X) ⟨q_new w ⟨0, none, 0, 0, 0⟩ ⟨0, none, 0, 0, 0⟩ _, bl_alloc (Below.refl _ _) _⟩ ?_
  rintro X ⟨b0, BX⟩
  refine (HBL.out X).mono ?_
  rintro e y1 ⟨G1, G2, rfl, hG1, hG2, hne, r1, r2, hb⟩
  have lX := b0.lt
  replace b0 := keepr hb b0
  have BY := bl_step BX hb
  have l1 := r1.lt
  have l2 := r2.lt
  clear hb BX HBL HW
  have HB0 := hid1 b0
  have HR1 := hid1 r1
  have HR2 := hid1 r2
  have HBY := hid1 BY
  clear b0 r1 r2 BY
  go_wp2_with fail
  go_loopw [47] (fun i wr => ∃ k : Nat, k ≤ K0 ∧ i = .int .i64 k ∧ wr.rowIs w.heap.size 46 4 (qf ⟨0, none, 0, 0, 0⟩ ⟨0, none, 0, 0, 0⟩) ∧ wr.rowIs y1.heap.size 46 4 (qf (bt M G1 0) (bt M G2 0)) ∧ wr.rowIs G1 41 M (wf (spN (l.take k) C P)) ∧ wr.rowIs G2 41 M (wf (spN ((nzl l).take k) C P)) ∧ Below w.heap.size w wr) (fun i _ => n - (intOf i).toNat)
  case atStart => exact ⟨0, Nat.zero_le _, rfl, HB0.out.alloc _, q_new y1 (bt M G1 0) (bt M G2 0) _, by rw [List.take_zero, spN_nil]; exact HR1.out.alloc _, by rw [List.take_zero, spN_nil]; exact HR2.out.alloc _, bl_alloc HBY.out _⟩
  case round =>
    clear HB0 HR1 HR2 HBY
    obtain ⟨k, hk, rfl, b0, b8, r1, r2, BR⟩ := hrel
    have ik0 : (0 : Int) ≤ (k : Int) := by omega
    by_cases hlt : k < n
    · have ik : (k : Int) < (n : Int) := by omega
      obtain ⟨ga, oa, ea, c8⟩ := RD.out k (by rw [HL.out]; exact hlt)
      cases ea
      replace c8 := keepc BR c8
      by_cases hg : k < K0
      · obtain ⟨w1, w2⟩ := HG.out k hg
        obtain ⟨s1, s2⟩ := HST.out k hlt
        obtain ⟨x1, x2, x3⟩ := HIX.out k hlt
        rw [nzl_at] at s2
        obtain ⟨z, ez⟩ : ∃ z, ia l k = z := ⟨_, rfl⟩
        rw [ez] at w1 w2 s1 s2 c8
        have w1' : ¬ z < -1 := by omega
        have w2' : ¬ 1 < z := by omega
        obtain ⟨pp, epp⟩ : ∃ pp, k / C = pp := ⟨_, rfl⟩
        obtain ⟨cc, ecc⟩ : ∃ cc, k % C = cc := ⟨_, rfl⟩
        have ipp : (k : Int) / (C : Int) = (pp : Int) := by rw [← epp]; simp
        have icc : (k : Int) % (C : Int) = (cc : Int) := by rw [← ecc]; simp
        have icct : (k : Int).tmod (C : Int) = (cc : Int) := by rw [Int.tmod_eq_emod_of_nonneg (by omega)]; exact icc
        rw [epp, ecc] at s1 s2 x1
        rw [epp] at x2
        rw [ecc] at x3
        obtain ⟨ix, eix⟩ : ∃ ix, pp * (64 * nw C) + cc = ix := ⟨_, rfl⟩
        rw [eix] at s1 s2 x1
        have b1 : pp * nw C ≤ 262144 := Nat.le_trans (Nat.mul_le_mul_right _ (Nat.le_of_lt x2)) (by rw [eM]; exact hM)
        obtain ⟨pd, epd⟩ : ∃ pd, pp * nw C = pd := ⟨_, rfl⟩
        have ipd : (pp : Int) * (nw C : Int) = (pd : Int) := by rw [← epd]; push_cast; rfl
        have eix' : pd * 64 + cc = ix := by rw [← eix, ← epd]; rw [Nat.mul_left_comm, Nat.mul_comm 64]
        have iix : (pd : Int) * 64 + (cc : Int) = (ix : Int) := by rw [← eix']; push_cast; rfl
        rw [epd] at b1
        have v1 : IntKind.i64.wrap (pp : Int) = (pp : Int) := by rw [IntKind.wrap_i64]; omega
        have v2 : IntKind.i64.wrap (cc : Int) = (cc : Int) := by rw [IntKind.wrap_i64]; omega
        have v3 : IntKind.i64.wrap (pd : Int) = (pd : Int) := by rw [IntKind.wrap_i64]; omega
        have v4 : IntKind.i64.wrap ((pd : Int) * 64) = (pd : Int) * 64 := by rw [IntKind.wrap_i64]; omega
        have v5 : IntKind.i64.wrap (ix : Int) = (ix : Int) := by rw [IntKind.wrap_i64]; omega
        have HSET := hid1 (fun W q1 q2 => pset_any M G1 G2 (spN (l.take k) C P) (spN ((nzl l).take k) C P) ix z W hM x1 ⟨w1, w2⟩ hne q1 q2 (spN (l.take (k + 1)) C P) (spN ((nzl l).take (k + 1)) C P) s1 (by rw [s2]; by_cases h0 : z = 0 <;> simp [h0]))
        have HB0 := hid1 b0
        have HB8 := hid1 b8
        have HR1 := hid1 r1
        have HR2 := hid1 r2
        have HBR := hid1 BR
        have lb8 := b8.lt
        clear b0 b8 r1 r2 BR s1 s2 eix eix' epp ecc epd ez
        go_wp2_with fail
        go_quiet (fail)
        go_upto_region 16 with fail
        refine gen_world (fun X => X.rowIs w.heap.size 46 4 (qf ⟨0, none, 0, 0, 0⟩ ⟨0, none, 0, 0, 0⟩) ∧ X.rowIs y1.heap.size 46 4 (qf (bt M G1 0) (bt M G2 0)) ∧ X.rowIs G1 41 M (wf (spN (l.take k) C P)) ∧ X.rowIs G2 41 M (wf (spN ((nzl l).take k) C P)) ∧ Below w.heap.size w X) ⟨row_drewN HB0.out _, row_drewN HB8.out _, row_drewN HR1.out _, row_drewN HR2.out _, bl_drewN HBR.out _⟩ ?_
        clear HB0 HB8 HR1 HR2 HBR
        rintro X ⟨b0, b8, r1, r2, BR⟩
        have c0 := q0 b8
        have c1 := q1 b8
        have c2 := q2 b8
        have c3 := q3 b8
        go_wp2_with fail
        refine (HSET.out X r1 r2).mono ?_
        rintro e y2 ⟨rfl, p1, p2, W1, bt2, bt1⟩
        have HX : Hid (y2.rowIs w.heap.size 46 4 (qf ⟨0, none, 0, 0, 0⟩ ⟨0, none, 0, 0, 0⟩) ∧ y2.rowIs y1.heap.size 46 4 (qf (bt M G1 0) (bt M G2 0)) ∧ Below w.heap.size w y2) := ⟨bt1.row (by omega) (bt2.row (by omega) b0), bt1.row (by omega) (bt2.row (by omega) b8), bt1.below (by omega) (Nat.le_trans BR.size bt2.size) (bt2.below (by omega) BR.size BR)⟩
        have HP1 := hid1 p1
        have HP2 := hid1 p2
        clear b0 b8 r1 r2 BR c0 c1 c2 c3 p1 p2 bt1 bt2
        go_wp2_with fail
        exact ⟨⟨k + 1, by omega, by go_num, HX.out.1, HX.out.2.1, HP1.out, HP2.out, HX.out.2.2⟩, by simp [intOf]; omega⟩
      · obtain rfl : k = K0 := by omega
        have hsp := HSP.out hlt
        obtain ⟨z, ez⟩ : ∃ z, ia l k = z := ⟨_, rfl⟩
        rw [ez] at hsp c8
        have f0 := b0.frozen 0
        have f1 := b0.frozen 1
        have f2 := b0.frozen 2
        have f3 := b0.frozen 3
        have d0 := q0 b0
        have d1 := q1 b0
        have d2 := q2 b0
        have d3 := q3 b0
        clear b8 r1 r2 ez
        by_cases hz : z < -1
        · go_wp2_with fail
          exact bodyPost_ret (v := .tuple #[rwv ⟨0, none, 0, 0, 0⟩ ⟨0, none, 0, 0, 0⟩, .int .i64 52]) (by simp [results, Try.results12, go_sem, d0, d1, d2, d3]) rfl ⟨.inr rfl, bl_set (bl_set (bl_set (bl_set BR (Nat.le_refl _) _) (Nat.le_refl _) _) (Nat.le_refl _) _) (Nat.le_refl _) _⟩
        · have hz2 : 1 < z := by omega
          go_wp2_with fail
          exact bodyPost_ret (v := .tuple #[rwv ⟨0, none, 0, 0, 0⟩ ⟨0, none, 0, 0, 0⟩, .int .i64 52]) (by simp [results, Try.results12, go_sem, d0, d1, d2, d3]) rfl ⟨.inr rfl, bl_set (bl_set (bl_set (bl_set BR (Nat.le_refl _) _) (Nat.le_refl _) _) (Nat.le_refl _) _) (Nat.le_refl _) _⟩
    · obtain rfl : k = K0 := by omega
      obtain rfl : k = n := by omega
      have s0 := q0 b8
      have s1 := q1 b8
      have s2 := q2 b8
      have s3 := q3 b8
      have f0 := b0.frozen 0
      have f1 := b0.frozen 1
      have f2 := b0.frozen 2
      have f3 := b0.frozen 3
      have d0 := q0 b0
      have d1 := q1 b0
      have d2 := q2 b0
      have d3 := q3 b0
      have e1 : l.take k = l := List.take_of_length_le (by rw [HL.out]; exact Nat.le_refl _)
      have e2 : (nzl l).take k = nzl l := List.take_of_length_le (by rw [nzl_len, HL.out]; exact Nat.le_refl _)
      rw [e1] at r1
      rw [e2] at r2
      have HR1 := hid1 r1
      have HR2 := hid1 r2
      clear r1 r2 e1 e2 b8
      go_wp2_with fail
      have btz : But w.heap.size wr _ := (((((But.refl w.heap.size wr).set (o := 0) (.int .i64 ((64 * M : Nat) : Int))).set (o := 1) (.slice (some ⟨G1, 0, none⟩) M M)).set (o := 2) (.int .i64 ((64 * M : Nat) : Int))).set (o := 3) (.slice (some ⟨G2, 0, none⟩) M M))
      exact bodyPost_ret (v := .tuple #[rwv (bt M G1 0) (bt M G2 0), .int .i64 0]) (by simp [results, Try.results12, go_sem, d0, d1, d2, d3]) rfl ⟨⟨G1, G2, rfl, by omega, by omega, hne, btz.row (by omega) HR1.out, btz.row (by omega) HR2.out⟩, btz.below (Nat.le_refl _) BR.size BR⟩
end Go.Proofs.Ytohkiknhjcibgaa
/- PACKAGE patch: Spread refuses. -/
namespace Go.Proofs.Ytohkiknhjcibgaa
open Go.RowKit Go.Shelf

set_option maxHeartbeats 1600000 in
set_option maxRecDepth 100000 in
theorem spread_arg (c : Int) (n cap : Nat) (ao : Option Addr) (w : World) (hc : c < 1 ∨ 4096 < c) :
    Calls Try.prog 12 #[.int .i64 c, .slice ao n cap] w fun e w' => e = .returned (.tuple #[rwv ⟨0, none, 0, 0, 0⟩ ⟨0, none, 0, 0, 0⟩, .int .i64 1]) ∧ Below w.heap.size w w' := by
  rcases hc with hc | hc
  · go_enter Try.func12, Try.ntmps12
    go_wp2_with fail
    exact bodyPost_ret (v := .tuple #[rwv ⟨0, none, 0, 0, 0⟩ ⟨0, none, 0, 0, 0⟩, .int .i64 1]) (by simp [results, Try.results12, go_sem]) rfl ⟨rfl, bl_alloc (Below.refl _ _) _⟩
  · have hc1 : ¬ c < 1 := by omega
    go_enter Try.func12, Try.ntmps12
    go_wp2_with fail
    exact bodyPost_ret (v := .tuple #[rwv ⟨0, none, 0, 0, 0⟩ ⟨0, none, 0, 0, 0⟩, .int .i64 1]) (by simp [results, Try.results12, go_sem]) rfl ⟨rfl, bl_alloc (Below.refl _ _) _⟩
set_option maxHeartbeats 1600000 in
set_option maxRecDepth 100000 in
theorem spread_fit (C n cap : Nat) (ao : Option Addr) (w : World) (hC : 1 ≤ C ∧ C ≤ 4096) (hn : n ≤ 9223372036854775807) (h : n = 0 ∨ n % C ≠ 0) :
    Calls Try.prog 12 #[.int .i64 C, .slice ao n cap] w fun e w' => e = .returned (.tuple #[rwv ⟨0, none, 0, 0, 0⟩ ⟨0, none, 0, 0, 0⟩, .int .i64 32]) ∧ Below w.heap.size w w' := by
  have iC1 : ¬ (C : Int) < 1 := by omega
  have iC2 : ¬ (4096 : Int) < (C : Int) := by omega
  have iC0 : ¬ (C : Int) = 0 := by omega
  have iC0' : ¬ C = 0 := by omega
  by_cases h0 : n = 0
  · subst h0
    go_enter Try.func12, Try.ntmps12
    go_wp2_with fail
    exact bodyPost_ret (v := .tuple #[rwv ⟨0, none, 0, 0, 0⟩ ⟨0, none, 0, 0, 0⟩, .int .i64 32]) (by simp [results, Try.results12, go_sem]) rfl ⟨rfl, bl_alloc (Below.refl _ _) _⟩
  · have hr : n % C ≠ 0 := by rcases h with h | h; exact absurd h h0; exact h
    obtain ⟨q, hq⟩ : ∃ q, n % C = q := ⟨_, rfl⟩
    rw [hq] at hr
    have ir : (n : Int) % (C : Int) = (q : Int) := by rw [← hq]; simp
    have irt : (n : Int).tmod (C : Int) = (q : Int) := by rw [Int.tmod_eq_emod_of_nonneg (by omega)]; exact ir
    have iq : decide ((q : Int) = 0) = false := by simpa using hr
    have iq4 : ((q : Int) != 0) = true := by simpa using hr
    have in0 : ¬ (n : Int) = 0 := by omega
    have hqC : q < C := by rw [← hq]; exact Nat.mod_lt _ (by omega)
    have wq : IntKind.i64.wrap (q : Int) = (q : Int) := by rw [IntKind.wrap_i64]; omega
    clear hq h
    go_enter Try.func12, Try.ntmps12
    go_wp2_with fail
    exact bodyPost_ret (v := .tuple #[rwv ⟨0, none, 0, 0, 0⟩ ⟨0, none, 0, 0, 0⟩, .int .i64 32]) (by simp [results, Try.results12, go_sem]) rfl ⟨rfl, bl_alloc (Below.refl _ _) _⟩
set_option maxHeartbeats 1600000 in
set_option maxRecDepth 100000 in
theorem spread_long (C P n cap : Nat) (ao : Option Addr) (w : World) (hC : 1 ≤ C ∧ C ≤ 4096) (hP : 1 ≤ P) (hn : P * C = n) (hnb : n ≤ 140737488351232) (hM : 262144 < P * nw C) :
    Calls Try.prog 12 #[.int .i64 C, .slice ao n cap] w fun e w' => e = .returned (.tuple #[rwv ⟨0, none, 0, 0, 0⟩ ⟨0, none, 0, 0, 0⟩, .int .i64 2]) ∧ Below w.heap.size w w' := by
  have hd1 : nw C ≤ 64 := by unfold nw; omega
  have hn0 : 0 < n := by rw [← hn]; exact Nat.mul_pos hP hC.1
  have hPb : P ≤ 140737488351232 := Nat.le_trans (Nat.le_mul_of_pos_right P hC.1) (by rw [hn]; exact hnb)
  obtain ⟨M, eM⟩ : ∃ M, P * nw C = M := ⟨_, rfl⟩
  have hMb : M ≤ 9007199254478848 := by rw [← eM]; exact Nat.mul_le_mul hPb hd1
  have HW := hid1 (pwordsFor_any C (by omega))
  rw [eM] at hM
  have iq : (n : Int) / (C : Int) = (P : Int) := by rw [← hn]; push_cast; exact Int.mul_ediv_cancel _ (by omega)
  have ir : (n : Int) % (C : Int) = 0 := by rw [← hn]; push_cast; exact Int.mul_emod_left _ _
  have irt : (n : Int).tmod (C : Int) = 0 := by rw [Int.tmod_eq_emod_of_nonneg (by omega)]; exact ir
  have iM : (P : Int) * (nw C : Int) = (M : Int) := by rw [← eM]; push_cast; rfl
  have wP : IntKind.i64.wrap (P : Int) = (P : Int) := by rw [IntKind.wrap_i64]; omega
  have wM : IntKind.i64.wrap (M : Int) = (M : Int) := by rw [IntKind.wrap_i64]; omega
  have wM64 : IntKind.i64.wrap ((M : Int) * 64) = (M : Int) * 64 := by rw [IntKind.wrap_i64]; omega
  have iC1 : ¬ (C : Int) < 1 := by omega
  have iC2 : ¬ (4096 : Int) < (C : Int) := by omega
  have iC0 : ¬ (C : Int) = 0 := by omega
  have iC0' : ¬ C = 0 := by omega
  have in0 : ¬ (n : Int) = 0 := by omega
  have in0' : ¬ n = 0 := by omega
  have i64m : (16777216 : Int) < (M : Int) * 64 := by omega
  clear hn eM
  go_enter Try.func12, Try.ntmps12
  go_wp2_with (go_at_call 25; refine (HW.out _).mono ?_; rintro e y1 ⟨rfl, rfl⟩)
  exact bodyPost_ret (v := .tuple #[rwv ⟨0, none, 0, 0, 0⟩ ⟨0, none, 0, 0, 0⟩, .int .i64 2]) (by simp [results, Try.results12, go_sem]) rfl ⟨rfl, bl_alloc (Below.refl _ _) _⟩
end Go.Proofs.Ytohkiknhjcibgaa
/- Both Spreads as one. -/
namespace Go.Proofs.Ytohkiknhjcibgaa
open Go.RowKit Go.Shelf

theorem own_wrE {W : World} {base m N c : Nat} {bo : Option Addr} (hN : N < 2 ^ (64 * m)) (h : W.ownsRow base 41 1 (.slice bo m c) m (wl N m)) : Wr W bo m N := by
  refine ⟨hN, fun k hk => ?_⟩
  rcases h.2 with ⟨_, h0⟩ | ⟨g, cap, cur, e, _⟩
  · omega
  · cases e
    refine ⟨g, 0, rfl, ?_⟩
    have := h.cells (g := g) rfl k _ (wl_at hk)
    rcases k with _ | k <;> simpa [Addr.add] using this
theorem row_wrE {W : World} {G m N : Nat} (hN : N < 2 ^ (64 * m)) (h : W.rowIs G 41 m (wf N)) : Wr W (some ⟨G, 0, none⟩) m N :=
  ⟨hN, fun k hk => ⟨G, 0, rfl, by rw [Nat.zero_add]; exact h.cell hk⟩⟩
theorem first_bad (l : List Int) : ∀ n, ∃ K0, K0 ≤ n ∧ (∀ k, k < K0 → -1 ≤ ia l k ∧ ia l k ≤ 1) ∧ (K0 < n → ¬ (-1 ≤ ia l K0 ∧ ia l K0 ≤ 1))
  | 0 => ⟨0, Nat.le_refl _, fun k hk => absurd hk (by omega), fun h => absurd h (by omega)⟩
  | n + 1 => by
    obtain ⟨K, h1, h2, h3⟩ := first_bad l n
    by_cases e : K < n
    · exact ⟨K, by omega, h2, fun _ => h3 e⟩
    · obtain rfl : K = n := by omega
      by_cases g : -1 ≤ ia l K ∧ ia l K ≤ 1
      · exact ⟨K + 1, Nat.le_refl _, fun k hk => by
          by_cases e2 : k = K
          · rw [e2]; exact g
          · exact h2 k (by omega), fun h => absurd h (by omega)⟩
      · exact ⟨K, by omega, h2, fun _ => g⟩
/-- Words of an answer: they lie in new memory. -/
def Wn (w w' : World) (ao : Option Addr) (m N : Nat) : Prop := Wr w' ao m N ∧ ∀ g o, ao = some ⟨g, o, none⟩ → w.heap.size ≤ g
theorem Wn.below {w W X : World} {ao : Option Addr} {m N : Nat} (h : Wn w W ao m N) (hb : Below W.heap.size W X) : Wn w X ao m N := ⟨h.1.below hb, h.2⟩
theorem Wn.set {w W : World} {ao : Option Addr} {m N b i : Nat} (h : Wn w W ao m N) (hb : b < w.heap.size) (v : Value) : Wn w (W.setCell ⟨b, i, none⟩ v) ao m N :=
  ⟨⟨h.1.1, fun k hk => by
    obtain ⟨g, o, e, c⟩ := h.1.2 k hk
    have := h.2 g o e
    refine ⟨g, o, e, ?_⟩
    have hne : ¬ b = g := by omega
    simp [go_sem, c]⟩, h.2⟩
theorem wr_none (w w' : World) : Wn w w' none 0 0 := ⟨⟨by decide, fun k hk => absurd hk (by omega)⟩, fun g o e => by cases e⟩
end Go.Proofs.Ytohkiknhjcibgaa
/- heddlelaw13: begun. -/
namespace Go.Proofs.Ytohkiknhjcibgaa
open Go.RowKit Go.Shelf

/-- The cube's words 1, 0, 1, 1; a patch's 0, 0, 0, 1; weights' 1, 1, 1, 1. -/
def nC : Nat := 6277101735386680764176071790128604879565730051895802724353
def nP : Nat := 6277101735386680763835789423207666416102355444464034512896
def nW : Nat := 6277101735386680764176071790128604879584176795969512275969
theorem nC_is : nC = 1 + 2 ^ 128 + 2 ^ 192 := by decide
theorem nP_is : nP = 2 ^ 192 := by decide
theorem nW_is : nW = 1 + 2 ^ 64 + 2 ^ 128 + 2 ^ 192 := by decide
theorem wr_four (w : World) (t : TypeId) (a b c d N : Nat) (hN : N < 2 ^ (64 * 4)) (h0 : wd N 0 = a) (h1 : wd N 1 = b) (h2 : wd N 2 = c) (h3 : wd N 3 = d) : Wr (w.alloc (.cells #[.int .u64 a, .int .u64 b, .int .u64 c, .int .u64 d] t)) (some ⟨w.heap.size, 0, none⟩) 4 N := by
  refine ⟨hN, fun k hk => ⟨w.heap.size, 0, rfl, ?_⟩⟩
  rcases (show k = 0 ∨ k = 1 ∨ k = 2 ∨ k = 3 by omega) with rfl | rfl | rfl | rfl
  · simp [go_sem, wf, h0]
  · simp [go_sem, wf, h1]
  · simp [go_sem, wf, h2]
  · simp [go_sem, wf, h3]
theorem b_slV : Sg.slV (2 : Nat) (2 : Nat) (1 : Nat) (2 : Nat) (2 : Nat) (1 : Nat) (1 : Nat) (1 : Nat) (1 : Nat) (0 : Nat) (0 : Nat) 1 = Sg.sle (2 : Nat) (2 : Nat) 1 0 := by
  unfold Sg.slV
  rw [if_pos (by decide)]
  rfl
theorem b_seS : seS 2 2 1 nC 2 2 1 1 1 1 2 0 0 = nP := by decide +kernel
theorem b_seM : seM 2 2 1 2 2 1 1 1 1 2 0 0 = nP := by decide +kernel
theorem b_spN : spN [1, 1, 1, 1] 1 4 = nW := by decide +kernel
theorem b_spM : spN (nzl [1, 1, 1, 1]) 1 4 = nW := by decide +kernel
theorem b_cuk : cuk (2 : Nat) (2 : Nat) (1 : Nat) 4 nC = 0 := by decide +kernel
theorem b_see (g : Nat) (w : World) (rd : Wr w (some ⟨g, 0, none⟩) 4 nC) :
    Calls Try.prog 6 #[cuv 2 2 1 (some ⟨g, 0, none⟩) 4 4, Sg.win 2 2 1 1 1 1 0 0, .int .i64 0] w fun e w' => ∃ gL cap A1 K1 A2 K2, e = .returned (.tuple #[.slice (some ⟨gL, 0, none⟩) 4 cap, Sg.shp 2 2 1, .int .i64 0]) ∧ (w'.cell? ⟨gL, 0, none⟩ = some (.int .i64 256) ∧ w'.cell? ⟨gL, 1, none⟩ = some (.slice (some ⟨A1, 0, none⟩) 4 K1) ∧ w'.cell? ⟨gL, 2, none⟩ = some (.int .i64 256) ∧ w'.cell? ⟨gL, 3, none⟩ = some (.slice (some ⟨A2, 0, none⟩) 4 K2)) ∧ Wr w' (some ⟨A1, 0, none⟩) 4 nP ∧ Wr w' (some ⟨A2, 0, none⟩) 4 nP ∧ Below w.heap.size w w' := by
  refine (see_ok 2 2 1 g 0 4 4 2 2 1 1 1 1 0 0 2 2 nC 0 0 4 4 0 w (by decide) (by decide) rd (by decide) (by decide) (by decide) (by decide) (by decide) (by decide) (by decide) (by decide) (by decide) (by decide) (by decide) b_cuk (by decide) (by decide) (by decide) b_slV (by decide) (by decide) (by decide) (by decide) (by decide)).mono ?_
  rintro e w' ⟨u, L, rfl, sr, hb⟩
  have hn : L.length = 4 := by rw [sr.n]; rfl
  obtain ⟨A1, K1, A2, K2, eL, _, _, o1, o2⟩ := sr.r 0 (by omega) (by decide)
  have e0 : (List.range 4)[0] = 0 := rfl
  rw [e0, b_seS, b_seM] at eL
  rw [e0, b_seS] at o1
  rw [e0, b_seM] at o2
  have ho := sr.o
  rw [hn] at ho
  rcases own_formsE ho with ⟨_, h0⟩ | ⟨gL, cap, rfl, _, _, _⟩
  · omega
  · obtain ⟨h0, h1, h2, h3⟩ := rcs_at L 0 (by omega)
    rw [eL] at h0 h1 h2 h3
    exact ⟨gL, cap, A1, K1, A2, K2, rfl, ⟨own_atE ho h0, own_atE ho h1, own_atE ho h2, own_atE ho h3⟩, o1.wr, o2.wr, hb⟩
/-- The weights 1, 1, 1, 1. -/
theorem b_r8 (w : World) (t : TypeId) : R8 (w.alloc (.cells #[.int .i8 1, .int .i8 1, .int .i8 1, .int .i8 1] t)) (some ⟨w.heap.size, 0, none⟩) [1, 1, 1, 1] := by
  intro k hk
  refine ⟨w.heap.size, 0, rfl, ?_⟩
  simp at hk
  rcases (show k = 0 ∨ k = 1 ∨ k = 2 ∨ k = 3 by omega) with rfl | rfl | rfl | rfl <;> simp [go_sem, ia]
theorem b_spread (g : Nat) (w : World) (rd : R8 w (some ⟨g, 0, none⟩) [1, 1, 1, 1]) :
    Calls Try.prog 12 #[.int .i64 1, .slice (some ⟨g, 0, none⟩) 4 4] w fun e w' => ∃ G1 G2, e = .returned (.tuple #[rwv (bt 4 G1 0) (bt 4 G2 0), .int .i64 0]) ∧ w'.rowIs G1 41 4 (wf nW) ∧ w'.rowIs G2 41 4 (wf nW) ∧ Below w.heap.size w w' := by
  refine (spread_walk 1 4 4 4 g 0 4 [1, 1, 1, 1] rfl w (by decide) (by decide) (by decide) (by decide) (by decide) (fun k hk => by rcases (show k = 0 ∨ k = 1 ∨ k = 2 ∨ k = 3 by omega) with rfl | rfl | rfl | rfl <;> decide) (fun h => absurd h (by decide)) rd).mono ?_
  rintro e w' ⟨h, hb⟩
  rcases h with ⟨_, G1, G2, rfl, _, _, _, r1, r2⟩ | ⟨h, _⟩
  · rw [b_spN] at r1
    rw [b_spM] at r2
    exact ⟨G1, G2, rfl, r1, r2, hb⟩
  · omega
theorem b_lost (g1 g2 A1 K1 A2 K2 : Nat) (w : World) (r1 : Wr w (some ⟨g1, 0, none⟩) 4 nW) (r2 : Wr w (some ⟨g2, 0, none⟩) 4 nW) (x1 : Wr w (some ⟨A1, 0, none⟩) 4 nP) (x2 : Wr w (some ⟨A2, 0, none⟩) 4 nP) :
    Calls Try.prog 13 #[rwv (bt 4 g1 0) (bt 4 g2 0), rwv (bk 4 A1 K1 0) (bk 4 A2 K2 0)] w fun e w' => e = .returned (.tuple #[.int .i64 3, .int .i64 0]) ∧ Below w.heap.size w w' := by
  have rw' : ∀ {ao : Option Addr} {N : Nat} (n : Int) (k : Nat), Wr w ao 4 N → Rw w ⟨n, ao, 4, k, N⟩ := fun n k h => ⟨h.1, by show 4 ≤ 9223372036854775807; decide, h.2⟩
  refine (lost_any ⟨256, some ⟨g1, 0, none⟩, 4, 4, nW⟩ ⟨256, some ⟨g2, 0, none⟩, 4, 4, nW⟩ ⟨256, some ⟨A1, 0, none⟩, 4, K1, nP⟩ ⟨256, some ⟨A2, 0, none⟩, 4, K2, nP⟩ w (rw' _ _ r1) (rw' _ _ r2) (rw' _ _ x1) (rw' _ _ x2)).mono ?_
  rintro e w' ⟨rfl, hb⟩
  have d1 : ∀ (a1 a2 : Option Addr) (k1 k2 : Nat), dck ⟨256, a1, 4, k1, nW⟩ ⟨256, a2, 4, k2, nW⟩ = 0 := fun a1 a2 k1 k2 => by
    have e : dck ⟨256, a1, 4, k1, nW⟩ ⟨256, a2, 4, k2, nW⟩ = dck ⟨256, none, 4, 0, nW⟩ ⟨256, none, 4, 0, nW⟩ := rfl
    rw [e]; decide +kernel
  have d2 : ∀ (a1 a2 : Option Addr) (k1 k2 : Nat), dck ⟨256, a1, 4, k1, nP⟩ ⟨256, a2, 4, k2, nP⟩ = 0 := fun a1 a2 k1 k2 => by
    have e : dck ⟨256, a1, 4, k1, nP⟩ ⟨256, a2, 4, k2, nP⟩ = dck ⟨256, none, 4, 0, nP⟩ ⟨256, none, 4, 0, nP⟩ := rfl
    rw [e]; decide +kernel
  have hE : loE ⟨256, some ⟨g1, 0, none⟩, 4, 4, nW⟩ ⟨256, some ⟨g2, 0, none⟩, 4, 4, nW⟩ ⟨256, some ⟨A1, 0, none⟩, 4, K1, nP⟩ ⟨256, some ⟨A2, 0, none⟩, 4, K2, nP⟩ = 0 := by
    unfold loE; rw [d1, d2]; rfl
  have hV : loV ⟨256, some ⟨g1, 0, none⟩, 4, 4, nW⟩ ⟨256, some ⟨g2, 0, none⟩, 4, 4, nW⟩ ⟨256, some ⟨A1, 0, none⟩, 4, K1, nP⟩ ⟨256, some ⟨A2, 0, none⟩, 4, K2, nP⟩ = 3 := by
    unfold loV; rw [if_pos hE]
    show lo nW nW nP 256 = 3
    decide +kernel
  exact ⟨by rw [hE, hV], hb⟩
theorem kpB {Z Y : World} {gL A1 K1 A2 K2 b3 : Nat} (c : Z.cell? ⟨gL, 0, none⟩ = some (.int .i64 256) ∧ Z.cell? ⟨gL, 1, none⟩ = some (.slice (some ⟨A1, 0, none⟩) 4 K1) ∧ Z.cell? ⟨gL, 2, none⟩ = some (.int .i64 256) ∧ Z.cell? ⟨gL, 3, none⟩ = some (.slice (some ⟨A2, 0, none⟩) 4 K2)) (r : Z.rowIs b3 29 3 (hf 2 2 1)) (hB : Below Z.heap.size Z Y) :
    (Y.cell? ⟨gL, 0, none⟩ = some (.int .i64 256) ∧ Y.cell? ⟨gL, 1, none⟩ = some (.slice (some ⟨A1, 0, none⟩) 4 K1) ∧ Y.cell? ⟨gL, 2, none⟩ = some (.int .i64 256) ∧ Y.cell? ⟨gL, 3, none⟩ = some (.slice (some ⟨A2, 0, none⟩) 4 K2)) ∧ (Y.cell? ⟨b3, 0, none⟩ = some (.int .i64 2) ∧ Y.cell? ⟨b3, 1, none⟩ = some (.int .i64 2) ∧ Y.cell? ⟨b3, 2, none⟩ = some (.int .i64 1)) :=
  ⟨⟨keepc hB c.1, keepc hB c.2.1, keepc hB c.2.2.1, keepc hB c.2.2.2⟩, hf0 (keepr hB r), hf1 (keepr hB r), hf2 (keepr hB r)⟩
theorem kpC {Z Y : World} {gL A1 K1 A2 K2 b5 G1 G2 : Nat} (c : Z.cell? ⟨gL, 0, none⟩ = some (.int .i64 256) ∧ Z.cell? ⟨gL, 1, none⟩ = some (.slice (some ⟨A1, 0, none⟩) 4 K1) ∧ Z.cell? ⟨gL, 2, none⟩ = some (.int .i64 256) ∧ Z.cell? ⟨gL, 3, none⟩ = some (.slice (some ⟨A2, 0, none⟩) 4 K2)) (r : Z.rowIs b5 46 4 (qf (bt 4 G1 0) (bt 4 G2 0))) (hB : Below Z.heap.size Z Y) :
    (Y.cell? ⟨gL, 0, none⟩ = some (.int .i64 256) ∧ Y.cell? ⟨gL, 1, none⟩ = some (.slice (some ⟨A1, 0, none⟩) 4 K1) ∧ Y.cell? ⟨gL, 2, none⟩ = some (.int .i64 256) ∧ Y.cell? ⟨gL, 3, none⟩ = some (.slice (some ⟨A2, 0, none⟩) 4 K2)) ∧ (Y.cell? ⟨b5, 0, none⟩ = some (.int .i64 256) ∧ Y.cell? ⟨b5, 1, none⟩ = some (.slice (some ⟨G1, 0, none⟩) 4 4) ∧ Y.cell? ⟨b5, 2, none⟩ = some (.int .i64 256) ∧ Y.cell? ⟨b5, 3, none⟩ = some (.slice (some ⟨G2, 0, none⟩) 4 4)) :=
  ⟨⟨keepc hB c.1, keepc hB c.2.1, keepc hB c.2.2.1, keepc hB c.2.2.2⟩, q0 (keepr hB r), q1 (keepr hB r), q2 (keepr hB r), q3 (keepr hB r)⟩
set_option maxHeartbeats 6400000 in
set_option maxRecDepth 100000 in
theorem pbegun_any (w : World) : Calls Try.prog 4 #[] w fun e w' => e = .returned (.bool true) ∧ Below w.heap.size w w' := by
  have hfo := follows
  go_enter Try.func4, Try.ntmps4
  go_wp2_with fail
  refine gen_calls (fun X => Wr X (some ⟨w.heap.size, 0, none⟩) 4 nC ∧ Below w.heap.size w X) ⟨(wr_four w 41 1 0 1 1 nC (by decide) (by decide) (by decide) (by decide) (by decide)).below (bl_alloc (Below.refl _ _) _), bl_alloc (bl_alloc (Below.refl _ _) _) _⟩ ?_
  rintro X ⟨rC, BX⟩
  refine (b_see w.heap.size X rC).mono ?_
  rintro e w1 ⟨gL, cap, A1, K1, A2, K2, rfl, cL, x1, x2, hb⟩
  have B1 := bl_step BX hb
  clear hb BX rC
  go_upto_region 3 with fail
  refine gen_world (fun Z => (Z.cell? ⟨gL, 0, none⟩ = some (.int .i64 256) ∧ Z.cell? ⟨gL, 1, none⟩ = some (.slice (some ⟨A1, 0, none⟩) 4 K1) ∧ Z.cell? ⟨gL, 2, none⟩ = some (.int .i64 256) ∧ Z.cell? ⟨gL, 3, none⟩ = some (.slice (some ⟨A2, 0, none⟩) 4 K2)) ∧ Z.rowIs w1.heap.size 29 3 (hf 2 2 1) ∧ Wr Z (some ⟨A1, 0, none⟩) 4 nP ∧ Wr Z (some ⟨A2, 0, none⟩) 4 nP ∧ Below w.heap.size w Z)
    ⟨⟨keepc (bl_alloc (Below.refl _ _) _) cL.1, keepc (bl_alloc (Below.refl _ _) _) cL.2.1, keepc (bl_alloc (Below.refl _ _) _) cL.2.2.1, keepc (bl_alloc (Below.refl _ _) _) cL.2.2.2⟩, hf_new _ _ _ _ _, x1.below (bl_alloc (Below.refl _ _) _), x2.below (bl_alloc (Below.refl _ _) _), bl_alloc B1 _⟩ ?_
  clear cL x1 x2 B1
  rintro Z ⟨cL, r3, x1, x2, BZ⟩
  have HCL := hid1 cL
  have HR3 := hid1 r3
  have HX1 := hid1 x1
  have HX2 := hid1 x2
  have HBZ := hid1 BZ
  clear cL r3 x1 x2 BZ
  go_cut [55] from 18 to 55 (fun s55 wx => s55 = .bool false ∧ Below Z.heap.size Z wx)
  case first =>
    go_region_held3 (fun Y => (Y.cell? ⟨gL, 0, none⟩ = some (.int .i64 256) ∧ Y.cell? ⟨gL, 1, none⟩ = some (.slice (some ⟨A1, 0, none⟩) 4 K1) ∧ Y.cell? ⟨gL, 2, none⟩ = some (.int .i64 256) ∧ Y.cell? ⟨gL, 3, none⟩ = some (.slice (some ⟨A2, 0, none⟩) 4 K2)) ∧ (Y.cell? ⟨w1.heap.size, 0, none⟩ = some (.int .i64 2) ∧ Y.cell? ⟨w1.heap.size, 1, none⟩ = some (.int .i64 2) ∧ Y.cell? ⟨w1.heap.size, 2, none⟩ = some (.int .i64 1)))
      (((try dsimp only); (with_reducible refine kpB (Z := Z) HCL.out HR3.out ?_); repeat (first | (with_reducible exact Below.refl _ _) | (with_reducible assumption) | (with_reducible refine Below.drew ?_) | (with_reducible refine bl_alloc ?_ _))))
      (first
        | (go_at_call 10; refine (pbits_same 256 4 nP _ _ _ _ _ (by decide) (HX1.out.below (by repeat (first | (with_reducible exact Below.refl _ _) | (with_reducible refine Below.drew ?_) | (with_reducible refine bl_alloc ?_ _)))) (by first | exact (wr_four Z 41 0 0 0 1 nP (by decide) (by decide) (by decide) (by decide) (by decide)).below (Below.refl _ _).drew | exact wr_four Z.drew 41 0 0 0 1 nP (by decide) (by decide) (by decide) (by decide) (by decide))).mono ?_; rintro e y1 ⟨rfl, hb⟩; have by1 : Below Z.heap.size Z y1 := (by first | exact bl_step (bl_alloc (Below.refl _ _) _).drew hb | exact bl_step (bl_alloc (Below.refl _ _).drew _) hb); clear hb)
        | (go_at_call 11; refine (prow_same (bk 4 A1 K1 0) (bk 4 A2 K2 0) (bk 4 A2 K2 0) (bk 4 A1 K1 0) _ (by show 4 ≤ 9223372036854775807; decide) (by show 4 ≤ 9223372036854775807; decide) rfl rfl rfl rfl nP nP (HX1.out.below by1) (HX2.out.below by1) (HX2.out.below by1) (HX1.out.below by1)).mono ?_; rintro e y2 ⟨rfl, hb⟩; have by2 : Below Z.heap.size Z y2 := bl_step by1 hb; clear hb))
    all_goals (refine kmeet_of (by assumption) ?_; go_meet; exact ⟨rfl, by2⟩)
  case rest =>
    obtain ⟨rfl, Bc⟩ := hcut
    have cL := (kpB HCL.out HR3.out Bc).1
    have x1 := HX1.out.below Bc
    have x2 := HX2.out.below Bc
    have BC := bl_step HBZ.out Bc
    clear HCL HR3 HX1 HX2 HBZ Bc
    go_wp2_with fail
    refine gen_calls (fun X => R8 X (some ⟨wc.heap.size, 0, none⟩) [1, 1, 1, 1] ∧ (X.cell? ⟨gL, 0, none⟩ = some (.int .i64 256) ∧ X.cell? ⟨gL, 1, none⟩ = some (.slice (some ⟨A1, 0, none⟩) 4 K1) ∧ X.cell? ⟨gL, 2, none⟩ = some (.int .i64 256) ∧ X.cell? ⟨gL, 3, none⟩ = some (.slice (some ⟨A2, 0, none⟩) 4 K2)) ∧ Wr X (some ⟨A1, 0, none⟩) 4 nP ∧ Wr X (some ⟨A2, 0, none⟩) 4 nP ∧ Below w.heap.size w X)
      ⟨b_r8 wc _, ⟨keepc (bl_alloc (Below.refl _ _) _) cL.1, keepc (bl_alloc (Below.refl _ _) _) cL.2.1, keepc (bl_alloc (Below.refl _ _) _) cL.2.2.1, keepc (bl_alloc (Below.refl _ _) _) cL.2.2.2⟩, x1.below (bl_alloc (Below.refl _ _) _), x2.below (bl_alloc (Below.refl _ _) _), bl_alloc BC _⟩ ?_
    clear cL x1 x2 BC
    rintro X ⟨r8, cL, x1, x2, BX⟩
    refine (b_spread wc.heap.size X r8).mono ?_
    rintro e w2 ⟨G1, G2, rfl, g1, g2, hb⟩
    have B2 := bl_step BX hb
    replace x1 := x1.below hb
    replace x2 := x2.below hb
    have cL' := And.intro (keepc hb cL.1) (And.intro (keepc hb cL.2.1) (And.intro (keepc hb cL.2.2.1) (keepc hb cL.2.2.2)))
    have y1 := Wr.row g1 (show nW < 2 ^ (64 * 4) by decide)
    have y2 := Wr.row g2 (show nW < 2 ^ (64 * 4) by decide)
    clear hb BX r8 cL g1 g2
    go_upto_region 6 with fail
    refine gen_world (fun V => V.rowIs w2.heap.size 46 4 (qf (bt 4 G1 0) (bt 4 G2 0)) ∧ (V.cell? ⟨gL, 0, none⟩ = some (.int .i64 256) ∧ V.cell? ⟨gL, 1, none⟩ = some (.slice (some ⟨A1, 0, none⟩) 4 K1) ∧ V.cell? ⟨gL, 2, none⟩ = some (.int .i64 256) ∧ V.cell? ⟨gL, 3, none⟩ = some (.slice (some ⟨A2, 0, none⟩) 4 K2)) ∧ Wr V (some ⟨G1, 0, none⟩) 4 nW ∧ Wr V (some ⟨G2, 0, none⟩) 4 nW ∧ Wr V (some ⟨A1, 0, none⟩) 4 nP ∧ Wr V (some ⟨A2, 0, none⟩) 4 nP ∧ Below w.heap.size w V)
      ⟨q_new w2 (bt 4 G1 0) (bt 4 G2 0) _, ⟨keepc (bl_alloc (Below.refl _ _) _) cL'.1, keepc (bl_alloc (Below.refl _ _) _) cL'.2.1, keepc (bl_alloc (Below.refl _ _) _) cL'.2.2.1, keepc (bl_alloc (Below.refl _ _) _) cL'.2.2.2⟩, y1.below (bl_alloc (Below.refl _ _) _), y2.below (bl_alloc (Below.refl _ _) _), x1.below (bl_alloc (Below.refl _ _) _), x2.below (bl_alloc (Below.refl _ _) _), bl_alloc B2 _⟩ ?_
    clear cL' y1 y2 x1 x2 B2
    rintro V ⟨r5, cV, y1, y2, x1, x2, BV⟩
    have HR5 := hid1 r5
    have HCV := hid1 cV
    have HL := hid1 (fun (Y : World) (hY : Below V.heap.size V Y) => b_lost G1 G2 A1 K1 A2 K2 Y (y1.below hY) (y2.below hY) (x1.below hY) (x2.below hY))
    have HBV := hid1 BV
    clear r5 cV y1 y2 x1 x2 BV
    go_cut [6, 7] from 61 to 68 (fun s6 s7 wx => s6 = .int .i64 3 ∧ s7 = .int .i64 0 ∧ Below V.heap.size V wx)
    case first =>
      go_region_held3 (fun Y => (Y.cell? ⟨gL, 0, none⟩ = some (.int .i64 256) ∧ Y.cell? ⟨gL, 1, none⟩ = some (.slice (some ⟨A1, 0, none⟩) 4 K1) ∧ Y.cell? ⟨gL, 2, none⟩ = some (.int .i64 256) ∧ Y.cell? ⟨gL, 3, none⟩ = some (.slice (some ⟨A2, 0, none⟩) 4 K2)) ∧ (Y.cell? ⟨w2.heap.size, 0, none⟩ = some (.int .i64 256) ∧ Y.cell? ⟨w2.heap.size, 1, none⟩ = some (.slice (some ⟨G1, 0, none⟩) 4 4) ∧ Y.cell? ⟨w2.heap.size, 2, none⟩ = some (.int .i64 256) ∧ Y.cell? ⟨w2.heap.size, 3, none⟩ = some (.slice (some ⟨G2, 0, none⟩) 4 4)))
        (((try dsimp only); (with_reducible refine kpC (Z := V) HCV.out HR5.out ?_); repeat (first | (with_reducible exact Below.refl _ _) | (with_reducible assumption) | (with_reducible refine Below.drew ?_))))
        ((go_at_call 13; refine (HL.out _ (by repeat (first | (with_reducible exact Below.refl _ _) | (with_reducible refine Below.drew ?_)))).mono ?_; rintro e y1 ⟨rfl, hb⟩; have by1 : Below V.heap.size V y1 := bl_step (Below.refl _ _).drew hb; clear hb))
      all_goals (refine kmeet_of (by assumption) ?_; go_meet; exact ⟨rfl, rfl, by1⟩)
    case rest =>
      obtain ⟨rfl, rfl, Bc⟩ := hcut
      have BC := bl_step HBV.out Bc
      clear HR5 HCV HL HBV Bc
      go_wp2_with fail
      go_ret
      exact ⟨rfl, BC⟩
end Go.Proofs.Ytohkiknhjcibgaa
/- PatchRows: what its walk reads and keeps. -/
namespace Go.Proofs.Ytohkiknhjcibgaa
open Go.RowKit Go.Shelf

/-- A row's four cells. -/
def CrE (w : World) (g o : Nat) (A B : Bt) : Prop := w.cell? ⟨g, o, none⟩ = some (.int .i64 A.n) ∧ w.cell? ⟨g, o + 1, none⟩ = some (.slice A.ao A.m A.cap) ∧ w.cell? ⟨g, o + 2, none⟩ = some (.int .i64 B.n) ∧ w.cell? ⟨g, o + 3, none⟩ = some (.slice B.ao B.m B.cap)
theorem CrE.below {W X : World} {g o : Nat} {A B : Bt} (h : CrE W g o A B) (hb : Below W.heap.size W X) : CrE X g o A B := ⟨keepc hb h.1, keepc hb h.2.1, keepc hb h.2.2.1, keepc hb h.2.2.2⟩
/-- A row that came in, with its size. -/
def RzE (w : World) (b : Bt) : Prop := Rw w b ∧ (b.ao = none → b.cap = 0) ∧ b.m ≤ 17592186043904
theorem RzE.below {W X : World} {b : Bt} (h : RzE W b) (hb : Below W.heap.size W X) : RzE X b := ⟨h.1.below hb, h.2⟩
theorem RzE.wr {W : World} {b : Bt} (h : RzE W b) : Wr W b.ao b.m b.N := ⟨h.1.1, h.1.2.2⟩
def LrE (w : World) (ao : Option Addr) (l : List (Bt × Bt)) : Prop := ∀ i (h : i < l.length), (∃ g o, ao = some ⟨g, o, none⟩ ∧ CrE w g (o + i * 4) l[i].1 l[i].2) ∧ RzE w l[i].1 ∧ RzE w l[i].2
def LiE (w : World) (ao : Option Addr) (m : Nat) : Prop := ∀ k, k < m → ∃ g o z, ao = some ⟨g, o, none⟩ ∧ w.cell? ⟨g, o + k, none⟩ = some (.int .i64 z)
def L8E (w : World) (ao : Option Addr) (m : Nat) : Prop := ∀ k, k < m → ∃ g o xo n xc l, ao = some ⟨g, o, none⟩ ∧ w.cell? ⟨g, o + k, none⟩ = some (.slice xo n xc) ∧ l.length = n ∧ n ≤ 140737488351232 ∧ (xo = none → xc = 0) ∧ R8 w xo l
theorem r8_below {W X : World} {ao : Option Addr} {l : List Int} (h : R8 W ao l) (hb : Below W.heap.size W X) : R8 X ao l := fun k hk => by
  obtain ⟨g, o, e, c⟩ := h k hk
  exact ⟨g, o, e, keepc hb c⟩
/-- A row in words with marks behind them. -/
abbrev twE (b : Bt) (G : Nat) : Bt := ⟨b.n, some ⟨G, 0, none⟩, b.m, b.m + 20, b.N⟩
theorem tw_rw {W : World} {b : Bt} {G K : Nat} (hb : RzE W b) (h : Ow W G K (b.m + 20) (rmN b.N b.m 20)) : Rw W (twE b G) := by
  have h1 := rmN_wr hb.1.1 h
  exact ⟨h1.1, hb.1.2.1, h1.2⟩
abbrev slE (b : Bt) : Value := .slice b.ao b.m b.cap
/-- Four cells. -/
def q4 (a b c d : Value) : Nat → Value := fun k => if k = 0 then a else if k = 1 then b else if k = 2 then c else d
def s4 {α : Type} (a b c d : α) : Nat → α := fun k => if k = 0 then a else if k = 1 then b else if k = 2 then c else d
theorem q4_new (w : World) (a b c d : Value) (t : TypeId) : (w.alloc (.cells #[a, b, c, d] t)).rowIs w.heap.size t 4 (q4 a b c d) :=
  World.rowIs_alloc w _ _ _ (fun i hi => by
    rcases i with _ | _ | _ | _ | i
    · rfl
    · rfl
    · rfl
    · rfl
    · simp at hi; omega)
theorem q4_s4 (A B C D : Bt) (j : Nat) : q4 (slE A) (slE B) (slE C) (slE D) j = slE (s4 A B C D j) := by
  unfold q4 s4
  by_cases h0 : j = 0
  · simp [h0]
  · by_cases h1 : j = 1
    · simp [h1]
    · by_cases h2 : j = 2
      · simp [h2]
      · simp [h0, h1, h2]
theorem s4_rz {W : World} {A B C D : Bt} (a : RzE W A) (b : RzE W B) (c : RzE W C) (d : RzE W D) (j : Nat) : RzE W (s4 A B C D j) := by
  unfold s4
  split
  · exact a
  · split
    · exact b
    · split
      · exact c
      · exact d
theorem q_allE {w : World} {b t : Nat} {f : Nat → Value} (r : w.rowIs b t 4 f) (A B : Bt) : ((((w.setCell ⟨b, 0, none⟩ (.int .i64 A.n)).setCell ⟨b, 1, none⟩ (.slice A.ao A.m A.cap)).setCell ⟨b, 2, none⟩ (.int .i64 B.n)).setCell ⟨b, 3, none⟩ (.slice B.ao B.m B.cap)).rowIs b t 4 (qf A B) := by
  refine ((((r.set 0 _).set 1 _).set 2 _).set 3 _).congr fun k hk => ?_
  rcases k with _ | _ | _ | _ | k
  · rfl
  · rfl
  · rfl
  · rfl
  · omega
theorem app_one8 {ops : Array Oper} {rest : List Oper} {o : Oper} {a : Act} {Q : Exit → Act → World → Prop} {w : World} (hgd : o.guard = none) (s x : Operand)
    (ho : o.op = .call { callee := .builtin .append, args := #[s, x], argTypes := #[69, 69] }) (base : Nat) (v : Value) (l : List Int) (n : Nat) (hs : a.eval s = v) (hown : w.ownsRow base 50 1 v n (i8s l))
    (g : Nat) (y : Int) (cb : Nat) (hx : a.eval x = .slice (some ⟨g, 0, none⟩) 1 cb) (hr : w.cell? ⟨g, 0, none⟩ = some (.int .i8 y)) (hM : n ≤ 140737488351252) (hb : base ≤ w.heap.size)
    (h : ∀ v' w', w'.ownsRow base 50 1 v' (n + 1) (i8s (l ++ [y])) → w.grownBy w' v.ownBlock → wpList Try.prog ops Q rest (a.put o.dst v') w') : wpList Try.prog ops Q (o :: rest) a w := by
  obtain ⟨i0, hi, hz0, hz1, hz2⟩ := info_parts info_i8
  refine wpList_append_own w hgd s x _ ho base 50 i0 (.int .i8 0) 1 1 und_i8s hi hz0 hz1 hz2 rfl (by decide) v n (i8s l) hs hown ⟨g, 0, none⟩ 1 cb [.int .i8 y] hx rfl
    (fun j u hu => ?_) (fun u hu => by simp at hu; subst hu; rfl) (by unfold maxLen; omega) (by omega) hb ?_
  · rcases j with _ | j
    · simp at hu; subst hu; exact hr
    · simp at hu
  · intro v' w' h1 h2 _
    exact h v' w' (by rw [i8s_snoc]; exact h1) h2
theorem app_nil8 {ops : Array Oper} {rest : List Oper} {o : Oper} {a : Act} {Q : Exit → Act → World → Prop} {w : World} (hgd : o.guard = none) (s x : Operand)
    (ho : o.op = .call { callee := .builtin .append, args := #[s, x], argTypes := #[69, 69] }) (hs : a.eval s = .slice none 0 0)
    (bo : Option Addr) (l : List Int) (n cb : Nat) (hl : l.length = n) (hx : a.eval x = .slice bo n cb) (hr : R8 w bo l) (hn : bo = none → cb = 0) (hM : n ≤ 140737488351232)
    (h : ∀ v' w', w'.ownsRow w.heap.size 50 1 v' n (i8s l) → Below w.heap.size w w' → wpList Try.prog ops Q rest (a.put o.dst v') w') : wpList Try.prog ops Q (o :: rest) a w := by
  subst hl
  refine app_nil hgd s x ho hs bo l cb hx hr (fun e => ⟨?_, hn e⟩) hM h
  rcases Nat.eq_zero_or_pos l.length with h0 | h0
  · exact h0
  · obtain ⟨g, o', e', _⟩ := hr 0 h0
    rw [e] at e'
    cases e'
/-- Marks. -/
def mks (i : Nat) : List Int := (List.range i).map fun (j : Nat) => 77 + (j : Int)
theorem mks_len (i : Nat) : (mks i).length = i := by simp [mks]
theorem mks_snoc (i : Nat) : mks (i + 1) = mks i ++ [77 + (i : Int)] := by simp [mks, List.range_succ]
theorem ia_mks (l : List Int) {i j : Nat} (h : j < i) : ia (l ++ mks i) (l.length + j) = 77 + (j : Int) := by
  simp [ia, mks, List.getD, h]
theorem ia_ahead (l k : List Int) {j : Nat} (h : j < l.length) : ia (l ++ k) j = ia l j := by
  simp [ia, List.getD, List.getElem?_append_left, h]
theorem keepc2 {W X : World} {g o g' o' : Nat} {v v' : Value} (h : W.cell? ⟨g, o, none⟩ = some v) (h' : W.cell? ⟨g', o', none⟩ = some v') (hb : Below W.heap.size W X) : X.cell? ⟨g, o, none⟩ = some v ∧ X.cell? ⟨g', o', none⟩ = some v' := ⟨keepc hb h, keepc hb h'⟩
theorem own8_r8 {W : World} {base G K n : Nat} {l : List Int} (hl : l.length = n) (h : W.ownsRow base 50 1 (.slice (some ⟨G, 0, none⟩) n K) n (i8s l)) : R8 W (some ⟨G, 0, none⟩) l := by
  subst hl
  intro k hk
  have := h.cells (g := G) rfl k _ (i8s_at hk)
  exact ⟨G, 0, rfl, by rcases k with _ | k <;> simpa [Addr.add] using this⟩
theorem r8_ahead {W : World} {ao : Option Addr} {l k : List Int} (h : R8 W ao (l ++ k)) : R8 W ao l := fun j hj => by
  have := h j (by rw [List.length_append]; omega)
  rwa [ia_ahead l k hj] at this
end Go.Proofs.Ytohkiknhjcibgaa
