/- The Room's bits. -/
import Derived.Test.YtpinmfhabbcflabDoorDQ1
import Derived.Deep.DeepCutAuto
namespace Go.Proofs.YtpinmfhabbcflabDoor
open Go.RowKit
attribute [local go_sem ↓] Go.wp_at_zero Go.wp_at_succ

theorem step_append_own {ops : Array Oper} {o : Oper} {a : Act} {w : World} {K : Act → World → Prop} {Q : Exit → Act → World → Prop} {E : Prop}
    (hg : o.guard = none) (s x : Operand) (t : TypeId) (hop : o.op = Op.call { callee := Callee.builtin Builtin.append, args := #[s, x], argTypes := #[t, t] })
    (base : Nat) (e : TypeId) (i : TypeInfo) (z : Value) (size bytes : Nat) (ht : Tryd.prog.underlying t = some (.slice e)) (hi : Tryd.prog.info? e = some i) (hz : i.zero = some z)
    (hsize : i.size = size) (hby : i.bytes = bytes) (hzs : z.cells.size = size) (hsz : 0 < size)
    (v : Value) (n : Nat) (xs : List Value) (hs : a.eval s = v) (hown : w.ownsRow base e size v n xs)
    (ad : Addr) (m c : Nat) (news : List Value) (hx : a.eval x = .slice (some ad) m c) (hl : news.length = m * size) (hnews : ∀ j u, news[j]? = some u → w.cell? (ad.add j) = some u) (h1 : ∀ u ∈ news, u.oneCell' = true)
    (h63 : n + m ≤ maxLen) (hbytes : (n + m) * bytes ≤ 140737488355328) (hbase : base ≤ w.heap.size)
    (hK : ∀ v' w', w'.ownsRow base e size v' (n + m) (xs ++ news) → w.grownBy w' v.ownBlock → (v'.ownBlock = v.ownBlock ∨ v'.ownBlock = some w.heap.size) → K (a.put o.dst v') w') :
    if Region.wanted o (yielded ops a.tmps) = true then Oper.wp Tryd.prog o a w K Q else E := by
  have hw : Region.wanted o (yielded ops a.tmps) = true := by simp [Region.wanted, hg]
  rw [if_pos hw]
  obtain ⟨v', w', hr, h2, h3, h4, h5⟩ := run_append_own_at (P := Tryd.prog) w base t o.type e i z size bytes ht hi hz hsize hby hzs hsz v n xs hown ad m c news hl hnews h1 h63 hbytes hbase
  unfold Oper.wp execOp
  simp only [hop, resolve, invoke, builtin, Sem.run_bind, Sem.run_pure, Result.andThen_ok, List.map_toArray, List.map_cons, List.map_nil, hs, hx, hr]
  exact hK _ _ h2 h3 h5
theorem one_new (w : World) (u : Value) (t : TypeId) : ∀ j x, [u][j]? = some x → (w.alloc (.cells #[u] t)).cell? ((⟨w.heap.size, 0, none⟩ : Addr).add j) = some x := by
  intro j x hx
  rcases j with _ | j
  · simp at hx; subst hx; simp [go_sem, Addr.add]
  · simp at hx
theorem own_form {w : World} {base : Nat} {e : TypeId} {size : Nat} {v : Value} {n : Nat} {xs : List Value} (h : w.ownsRow base e size v n xs) : ∃ ao cp, v = .slice ao n cp := by
  rcases h.2 with ⟨rfl, rfl⟩ | ⟨g, cap, cur, rfl, _⟩
  · exact ⟨none, 0, rfl⟩
  · exact ⟨_, cap, rfl⟩
theorem own_some {w : World} {base : Nat} {e : TypeId} {size : Nat} {v : Value} {n : Nat} {xs : List Value} (h : w.ownsRow base e size v n xs) (hn : 0 < n) : ∃ g cp, v = .slice (some ⟨g, 0, none⟩) n cp ∧ n ≤ cp ∧ g < w.heap.size := by
  rcases h.2 with ⟨_, h0⟩ | ⟨g, cap, cur, rfl, _, hg, h4, _⟩
  · omega
  · exact ⟨g, cap, rfl, h4, (Array.getElem?_eq_some_iff.1 hg).1⟩
theorem meet_of {J K : Act → World → Prop} {Q : Exit → Act → World → Prop} {a : Act} {w : World} (hK : ∀ a' w', Met J a' w' → K a' w') (h : Met J a w) : Exit.then K Q Exit.normal a w := hK _ _ h
/-- .. and in the list of what they were. -/
theorem rm_was {W X Y : World} {M n1 n2 : Nat} {vw vs v' : Value} {xs1 xs2 : List Value} {L : List (Bt × Value)} (hX : Below W.heap.size W X) (h1 : W.rowIs M 28 2 (rf vw vs)) (h2 : W.ownsRow (M + 1) 29 1 vw n1 xs1) (h3 : W.ownsRow (M + 1) 29 1 vs n2 xs2) (h4 : vw.ownBlock = none ∨ vw.ownBlock ≠ vs.ownBlock) (h5 : ∀ e ∈ L, W.ownsRow (M + 1) 55 1 e.2 (e.1.m + 20) (el e.1 (e.1.m + 20)))
    (hg : X.grownBy Y vs.ownBlock) (hat : v'.ownBlock = vs.ownBlock ∨ v'.ownBlock = some X.heap.size) :
    Y.rowIs M 28 2 (rf vw vs) ∧ Y.ownsRow (M + 1) 29 1 vw n1 xs1 ∧ (vw.ownBlock = none ∨ vw.ownBlock ≠ v'.ownBlock) ∧ (∀ e ∈ L, Y.ownsRow (M + 1) 55 1 e.2 (e.1.m + 20) (el e.1 (e.1.m + 20))) ∧ Below (M + 1) W Y ∧ (∀ b t k f, W.rowIs b t k f → 29 ≠ t → Y.rowIs b t k f) := by
  have hM := h1.lt
  refine ⟨row_grown (keepr hX h1) (own_keep h3 hX) hg (by decide), (own_keep h2 hX).kept hg h4, ?_, fun e he => (own_keep (h5 e he) hX).kept hg (own_own_ne (h5 e he) h3 (by decide)), (hX.mono (by omega)).grown hg (by have := hX.size; omega) (fun q hq => ((own_keep h3 hX).lt q hq).1), fun b t k f hr ht => row_grown (keepr hX hr) (own_keep h3 hX) hg ht⟩
  rcases hat with h | h
  · rw [h]; exact h4
  · rcases h4 with h' | _
    · exact .inl h'
    · right
      rw [h]
      intro e1
      have := (own_keep h2 hX).lt _ e1
      omega
theorem rm_end {Y : World} {M : Nat} {vw vs v' : Value} {L : List (Bt × Value)} (h1 : Y.rowIs M 28 2 (rf vw vs)) (h2 : Y.ownsRow (M + 1) 29 1 vw L.length (L.map (·.2))) (h3 : Y.ownsRow (M + 1) 29 1 v' L.length (L.map wasV)) (h4 : vw.ownBlock = none ∨ vw.ownBlock ≠ v'.ownBlock) (h5 : ∀ e ∈ L, Y.ownsRow (M + 1) 55 1 e.2 (e.1.m + 20) (el e.1 (e.1.m + 20))) : Rm (Y.setCell ⟨M, 1, none⟩ v') M L := by
  refine ⟨vw, v', (h1.set 1 v').congr fun k hk => ?_, ownsRow_setCell_below h2 (by show M < M + 1; omega) _, ownsRow_setCell_below h3 (by show M < M + 1; omega) _, h4, fun e he => ownsRow_setCell_below (h5 e he) (by show M < M + 1; omega) _⟩
  unfold rf
  rcases k with _ | _ | k
  · rfl
  · rfl
  · omega
theorem rm_more {Y : World} {M n : Nat} {vw vs v' : Value} {L : List (Bt × Value)} {x : Bt × Value} (hn : n = L.length) (h1 : Y.rowIs M 28 2 (rf vw vs)) (h2 : Y.ownsRow (M + 1) 29 1 vw (n + 1) (L.map (·.2) ++ [x.2])) (h3 : Y.ownsRow (M + 1) 29 1 v' (n + 1) (L.map wasV ++ [wasV x])) (h4 : vw.ownBlock = none ∨ vw.ownBlock ≠ v'.ownBlock) (h5 : ∀ e ∈ L ++ [x], Y.ownsRow (M + 1) 55 1 e.2 (e.1.m + 20) (el e.1 (e.1.m + 20))) : Rm (Y.setCell ⟨M, 1, none⟩ v') M (L ++ [x]) := by
  subst hn
  exact rm_end h1 (by rw [List.map_append, List.length_append]; exact h2) (by rw [List.map_append, List.length_append]; exact h3) h4 h5
theorem rf_put {Y : World} {M : Nat} {vw vs v' : Value} {t : TypeId} (h1 : Y.rowIs M t 2 (rf vw vs)) : (Y.setCell ⟨M, 0, none⟩ v').rowIs M t 2 (rf v' vs) := by
  refine (h1.set 0 v').congr fun k hk => ?_
  unfold rf
  rcases k with _ | _ | k
  · rfl
  · rfl
  · omega
/-- What is neither of a Room's own kinds is as it was. -/
def Fr (w w' : World) : Prop := ∀ bk t k f, w.rowIs bk t k f → t ≠ 28 → 29 ≠ t → 55 ≠ t → w'.rowIs bk t k f
theorem Fr.trans {a b c : World} (h : Fr a b) (k : Fr b c) : Fr a c := fun bk t n f r h1 h2 h3 => k bk t n f (h bk t n f r h1 h2 h3) h1 h2 h3
theorem Fr.of_below {w w' : World} (h : Below w.heap.size w w') : Fr w w' := fun _ _ _ _ r _ _ _ => keepr h r
theorem Fr.set {w w' : World} {M o : Nat} {g : Nat → Value} {n : Nat} (h : Fr w w') (hM : w'.rowIs M 28 n g) (v : Value) : Fr w (w'.setCell ⟨M, o, none⟩ v) := fun bk t k f r h1 h2 h3 => (h bk t k f r h1 h2 h3).setOther (a := ⟨M, o, none⟩) (row_ne (h bk t k f r h1 h2 h3) hM h1) v
theorem Fr.setNew {w w' : World} {b o : Nat} (h : Fr w w') (hb : w.heap.size ≤ b) (v : Value) : Fr w (w'.setCell ⟨b, o, none⟩ v) := fun bk t k f r h1 h2 h3 => (h bk t k f r h1 h2 h3).setOther (a := ⟨b, o, none⟩) (by have := r.lt; show bk ≠ b; omega) v
theorem Fr.drew {w w' : World} (h : Fr w w') : Fr w w'.drew := fun bk t k f r h1 h2 h3 => (h bk t k f r h1 h2 h3).drew
theorem Rm.put {w : World} {M b n o : Nat} {t : TypeId} {f : Nat → Value} {L : List (Bt × Value)} (h : Rm w M L) (r : w.rowIs b t n f) (t1 : 29 ≠ t) (t2 : 55 ≠ t) (hM : M ≠ b) (v : Value) : Rm (w.setCell ⟨b, o, none⟩ v) M L := by
  obtain ⟨vw, vs, h1, h2, h3, h4, h5⟩ := h
  exact ⟨vw, vs, h1.setOther (a := ⟨b, o, none⟩) hM v, ownsRow_setCell_other h2 (own_row_ne h2 r t1) v, ownsRow_setCell_other h3 (own_row_ne h3 r t1) v, h4, fun e he => ownsRow_setCell_other (h5 e he) (own_row_ne (h5 e he) r t2) v⟩
theorem Rm.drew {w : World} {M : Nat} {L : List (Bt × Value)} (h : Rm w M L) : Rm w.drew M L := h.below (Below.refl _ _).drew
set_option maxHeartbeats 3200000 in
set_option maxRecDepth 100000 in
theorem room_bits (b : Bt) (M : Nat) (L : List (Bt × Value)) (w : World) (hL : L.length ≤ 16) (hR : Rm w M L) (hb : Rz w b) :
    Calls Tryd.prog 23 #[.pointer (some ⟨M, 0, none⟩), b.v] w fun e w' => ∃ g c, e = .returned (rv b.n (some ⟨g, 0, none⟩) b.m (b.m + 20)) ∧ Rm w' M (L ++ [(b, .slice (some ⟨g, 0, none⟩) (b.m + 20) c)]) ∧ Below M w w' ∧ Fr w w' := by
  have HR := hid1 hR
  have HB := hid1 hb
  have hm := hb.2.2
  have im : (b.m : Int) ≤ 17592186043904 := by omega
  have Mw : M < w.heap.size := by obtain ⟨vw, vs, h1, _⟩ := hR; exact h1.lt
  clear hR hb
  go_enter Tryd.func23, Tryd.ntmps23
  go_wp2_with (at_builtin; refine app_nilW rfl _ _ rfl (by go_simp) b (by go_simp) (HB.out.below (bl_alloc (bl_alloc (Below.refl _ _) _) _)) ?_; intro v w1 hown hb1)
  have r3 := keepr hb1 ((row_new w b.n b.ao b.m b.cap 31).alloc (.cells #[.int .i64 0, .slice none 0 0] 31))
  have r4 : w1.rowIs (w.heap.size + 1) 31 2 (sf 0 none 0 0) := by
    have h := row_new (w.alloc (.cells #[.int .i64 b.n, .slice b.ao b.m b.cap] 31)) 0 none 0 0 31
    rw [World.size_alloc] at h
    exact keepr hb1 h
  have B1 : Below w.heap.size w w1 := bl_step (bl_alloc (bl_alloc (Below.refl _ _) _) _) hb1
  have hown2 : w1.ownsRow (w.heap.size + 2) 55 1 v b.m (el b b.m) := by
    simp only [World.size_alloc] at hown
    exact hown
  clear hown hb1
  go_loopw [5, 6] (fun x i wr => ∃ (u : Value) (k : Nat), k ≤ 20 ∧ x = u ∧ i = .int .i64 k ∧ wr.ownsRow (w.heap.size + 2) 55 1 u (b.m + k) (el b (b.m + k)) ∧ wr.rowIs w.heap.size 31 2 (sf b.n b.ao b.m b.cap) ∧ wr.rowIs (w.heap.size + 1) 31 2 (sf 0 none 0 0) ∧ Below w.heap.size w wr) (fun _ i _ => 20 - (intOf i).toNat)
  case atStart => exact ⟨v, 0, by omega, rfl, rfl, hown2, r3, r4, B1⟩
  case round =>
    clear r3 r4 B1 hown2
    obtain ⟨u, k, hk, ev, rfl, hown, r3, r4, B0⟩ := hrel
    replace ev := ev.symm
    subst ev
    have HO := hid1 hown
    have R3 := hid1 r3
    have R4 := hid1 r4
    have sz : w.heap.size + 2 ≤ wr.heap.size := by have := r4.lt; omega
    clear hown r3 r4
    by_cases hlt : k < 20
    · have ik : (k : Int) < 20 := by omega
      have ik0 : (0 : Int) ≤ (k : Int) := by omega
      have HW : Hid (eW b (b.m + k) = .int .u64 (77 + (k : Int))) := hid1 (by unfold eW; rw [if_neg (by omega), show b.m + k - b.m = k by omega]; simp)
      go_wp2_with (at_builtin; refine app_oneW rfl _ _ rfl (w.heap.size + 2) u b (b.m + k) (by go_simp) (HO.out.alloc _) wr.heap.size (77 + (k : Int)) 1 (by go_simp) (by simp [go_sem]) (by omega) (by simp; omega) HW.out ?_; intro v' w' hown hgrow)
      have BQ := grown_below HO.out sz hgrow
      exact ⟨⟨v', k + 1, by omega, rfl, by go_num, hown, R3.out.of_block (BQ.block _ (by omega)), R4.out.of_block (BQ.block _ (by omega)), B0.trans (BQ.mono (by omega))⟩, by simp [intOf]; omega⟩
    · have hk20 : k = 20 := by omega
      subst hk20
      rename World => W0
      obtain ⟨vw, vs, h1, h2, h3, h4, h5⟩ := HR.out.below B0
      obtain ⟨i1, hi1, hz10, hz11, hz12⟩ := info_parts info_us
      obtain ⟨nl, enl⟩ : ∃ n, L.length = n := ⟨_, rfl⟩
      rw [enl] at h2 h3 hL
      have EL : nl = L.length := enl.symm
      have ENL := hid1 enl
      clear enl
      obtain ⟨g, cp, rfl, hcp, hgl⟩ := own_some HO.out (by omega)
      obtain ⟨wo, wcp, rfl⟩ := own_form h2
      obtain ⟨so, scp, rfl⟩ := own_form h3
      have d0 : W0.cell? ⟨M, 0, none⟩ = some (.slice wo nl wcp) := h1.cell (by omega)
      have f0 := h1.frozen 0
      have g0 := h1.lt
      have H1 := hid1 h1
      have H2 := hid1 h2
      have H3 := hid1 h3
      have H4 := hid1 h4
      have H5 := hid1 h5
      have H6 := hid1 (own_mono HO.out (base' := M + 1) (by omega))
      have EL' := hid1 EL
      clear h1 h2 h3 h4 h5 HR HO EL
      go_wp2_with (at_builtin; refine wpList_append_own_at _ rfl _ _ 26 rfl (M + 1) 29 i1 (.slice none 0 0) 1 24 und_uss hi1 hz10 hz11 hz12 rfl (by decide) (.slice wo nl wcp) nl (L.map (·.2)) (by go_simp) (H2.out.alloc _) ⟨W0.heap.size, 0, none⟩ 1 1 [.slice (some ⟨g, 0, none⟩) (b.m + 20) cp] (by go_simp) rfl (one_new W0 _ _) (fun x hx => by simp at hx; subst hx; rfl) (by unfold maxLen; omega) (by omega) (by simp; omega) ?_; intro vw' w2 hown2 hgrow hnil hat; obtain ⟨vo, vcp, rfl⟩ := own_form hown2; obtain ⟨h1, h3, h4, h5⟩ := rm_words (b := b) H1.out (EL'.out ▸ H2.out) (EL'.out ▸ H3.out) H4.out H5.out H6.out hgrow (by simpa using hat); have e0 := h1.cell (i := 0) (by omega); have f0' := h1.frozen 0; have g0' := h1.lt; have K1 := hid1 h1; have K2 := hid1 hown2; have K3 := hid1 h3; have K4 := hid1 h4; have K5 := hid1 h5; have K6 := hid1 hgrow; clear h1 h3 h4 h5 hown2 hgrow hnil hat)
      have BQ := grown_below H2.out (by omega) K6.out
      have B1 : Below M w w2 := (B0.mono (by omega)).trans (BQ.mono (by omega))
      have R3' := hid1 (row_grown (R3.out.alloc _) (H2.out.alloc _) K6.out (by decide))
      have R4' := hid1 (row_grown (R4.out.alloc _) (H2.out.alloc _) K6.out (by decide))
      have F1 : Fr w w2 := fun bk t k f r h1 h2 h3 => row_grown ((keepr B0 r).alloc _) (H2.out.alloc _) K6.out h2
      have nM : w.heap.size ≠ M := by omega
      have nM2 : w.heap.size + 1 ≠ M := by omega
      refine gen_world (fun W => W.rowIs M 28 2 (rf (.slice vo (nl + 1) vcp) (.slice so nl scp)) ∧ W.ownsRow (M + 1) 29 1 (.slice vo (nl + 1) vcp) (nl + 1) (L.map (·.2) ++ [.slice (some ⟨g, 0, none⟩) (b.m + 20) cp]) ∧ W.ownsRow (M + 1) 29 1 (.slice so nl scp) nl (L.map wasV) ∧ (∀ e ∈ L ++ [(b, .slice (some ⟨g, 0, none⟩) (b.m + 20) cp)], W.ownsRow (M + 1) 55 1 e.2 (e.1.m + 20) (el e.1 (e.1.m + 20))) ∧ W.rowIs w.heap.size 31 2 (sf b.n b.ao b.m b.cap) ∧ W.rowIs (w.heap.size + 1) 31 2 (sf 0 none 0 0) ∧ Below M w W ∧ Fr w W)
        ⟨rf_put K1.out, ownsRow_setCell_below K2.out (by show M < M + 1; omega) _, ownsRow_setCell_below (EL'.out ▸ K3.out) (by show M < M + 1; omega) _, fun e he => ownsRow_setCell_below (K5.out e he) (by show M < M + 1; omega) _, R3'.out.setOther (a := ⟨M, 0, none⟩) nM _, R4'.out.setOther (a := ⟨M, 0, none⟩) nM2 _, B1.setCell (Nat.le_refl _) _, F1.set K1.out _⟩ ?_
      rintro W3 ⟨k1, k2, k3, k5, r3, r4, B3, F3⟩
      have HF3 := hid1 F3
      clear F1 F3
      have x1 : W3.cell? ⟨M, 1, none⟩ = some (.slice so nl scp) := k1.cell (by omega)
      have x3 := sf_ws r3
      have xf := k1.frozen 1
      have xl := k1.lt
      have xh := r3.lt
      have P1 := hid1 k1
      have P2 := hid1 k2
      have P3 := hid1 k3
      have P5 := hid1 k5
      have Q3 := hid1 r3
      have Q4 := hid1 r4
      have PB := hid1 B3
      have OW : Hid (∀ X, Below W3.heap.size W3 X → X.ownsRow (M + 1) 29 1 (.slice so nl scp) nl (L.map wasV)) := fun X hX => own_keep P3.out hX
      clear k1 k2 k3 k5 r3 r4 B3 K1 K2 K3 K5 K6 R3' R4' B1 BQ R3 R4 H1 H2 H3 H4 H5 H6 d0 f0 g0 e0 f0' g0'
      go_cut [] (fun wx => Rm wx M (L ++ [(b, .slice (some ⟨g, 0, none⟩) (b.m + 20) cp)]) ∧ wx.rowIs w.heap.size 31 2 (sf b.n b.ao b.m b.cap) ∧ wx.rowIs (w.heap.size + 1) 31 2 (sf 0 none 0 0) ∧ Below M w wx ∧ Fr w wx)
      case first =>
        go_region_law ((refine step_append_own rfl (.tmp 34) (.tmp 37) 26 rfl (M + 1) 29 i1 (.slice none 0 0) 1 24 und_uss hi1 hz10 hz11 hz12 rfl (by decide) (.slice so nl scp) nl (L.map wasV) (by go_simp) (OW.out _ (by repeat (first | (with_reducible exact Below.refl _ _) | (with_reducible assumption) | (with_reducible refine Below.drew ?_) | (with_reducible refine bl_alloc ?_ _) | (with_reducible refine bl_drewN ?_ _)))) ⟨W3.heap.size, 0, none⟩ 1 1 [.slice b.ao b.m b.cap] (by go_simp) rfl (one_new W3 _ _) (fun x hx => by simp at hx; subst hx; rfl) (by unfold maxLen; omega) (by omega) (by simp; omega) ?_; intro v3 y3 hown3 hgrow3 hat3; obtain ⟨zo, zcp, rfl⟩ := own_form hown3; obtain ⟨q1r, q2r, q4r, q5r, q6r, q7r⟩ := rm_was (by repeat (first | (with_reducible exact Below.refl _ _) | (with_reducible assumption) | (with_reducible refine Below.drew ?_) | (with_reducible refine bl_alloc ?_ _) | (with_reducible refine bl_drewN ?_ _))) P1.out P2.out P3.out K4.out P5.out hgrow3 hat3; have z1 := q1r.cell (i := 1) (by omega); have zf := q1r.frozen 1; have zl := q1r.lt; have Z1 := hid1 q1r; have Z2 := hid1 q2r; have Z3 := hid1 hown3; have Z4 := hid1 q4r; have Z5 := hid1 q5r; have Z6 := hid1 q6r; have Z7 := hid1 q7r; clear q1r q2r q4r q5r q6r q7r hown3 hgrow3 hat3))
        all_goals
          refine meet_of (by assumption) ?_
          go_meet
          exact ⟨rm_more EL'.out Z1.out Z2.out Z3.out Z4.out Z5.out, (Z7.out _ _ _ _ Q3.out (by decide)).setOther (a := ⟨M, 1, none⟩) nM _, (Z7.out _ _ _ _ Q4.out (by decide)).setOther (a := ⟨M, 1, none⟩) nM2 _, (PB.out.trans (Z6.out.mono (by omega))).setCell (Nat.le_refl _) _, (HF3.out.trans fun bk t k f r _ h2 _ => Z7.out bk t k f r h2).set Z1.out _⟩
      case rest =>
        obtain ⟨hrm, r3, r4, B3, F3⟩ := hcut
        have HF4 := hid1 F3
        clear F3
        have x0 := sf_len r3
        have x1' := sf_ws r3
        have y0 := sf_len r4
        have y1 := sf_ws r4
        have yf0 := r4.frozen 0
        have yf1 := r4.frozen 1
        have yl := r4.lt
        have HRM := hid1 hrm
        have HB3 := hid1 B3
        have Q4' := hid1 r4
        clear hrm B3 r3 r4 P1 P2 P3 P5 Q3 Q4 PB OW x1 x3 xf xl xh
        have ic1 : (b.m : Int) ≤ (cp : Int) := by omega
        have ic2 : ((b.m + 20 : Nat) : Int) ≤ (cp : Int) := by omega
        have ic3 : b.m ≤ cp := by omega
        have ic4 : (0 : Int) ≤ (b.m : Int) := by omega
        have ic5 : (b.m : Int) + 20 ≤ (cp : Int) := by omega
        go_wp2_with fail
        go_region
        all_goals
          go_wp2_with fail
          have nM3 : w.heap.size + 1 ≠ M := nM2
          refine bodyPost_ret (v := rv b.n (some ⟨g, 0, none⟩) b.m (b.m + 20)) (by simp [results, Tryd.results23, go_sem, y0, y1]) rfl ⟨g, cp, rfl, ?_, ?_, ?_⟩
          · first
            | exact (HRM.out.drew.put (o := 0) Q4'.out.drew (by decide) (by decide) nM2.symm _).put (o := 1) (Q4'.out.drew.set 0 _) (by decide) (by decide) nM2.symm _
            | exact ((HRM.out.put (o := 0) Q4'.out (by decide) (by decide) nM2.symm _).put (o := 1) (Q4'.out.set 0 _) (by decide) (by decide) nM2.symm _).drew
          · first
            | exact (((HB3.out.drew).setCell (by show M ≤ w.heap.size + 1; omega) _).setCell (by show M ≤ w.heap.size + 1; omega) _)
            | exact (((HB3.out).setCell (by show M ≤ w.heap.size + 1; omega) _).setCell (by show M ≤ w.heap.size + 1; omega) _).drew
          · first
            | exact (HF4.out.drew.setNew (by omega) _).setNew (by omega) _
            | exact ((HF4.out.setNew (by omega) _).setNew (by omega) _).drew
end Go.Proofs.YtpinmfhabbcflabDoor
