/- The document's cache: Get. -/
import Derived.Test.YtpjcpikafpnmpaaAC3
namespace Go.Proofs.Ytpjcpikafpnmpaa
open Go.RowKit

theorem four {f g : Nat → Value} (h0 : f 0 = g 0) (h1 : f 1 = g 1) (h2 : f 2 = g 2) (h3 : f 3 = g 3) : ∀ i, i < 4 → f i = g i := fun i hi => by
  rcases i with _ | _ | _ | _ | i
  · exact h0
  · exact h1
  · exact h2
  · exact h3
  · omega
theorem Rv.count {w : World} {T : Nat → Prop} {d : Nat} {rm h m : Int} {v : Value} {R : List Re} (r : Rv w T d rm h m v R) (h' : Int) : Rv (w.setCell ⟨d, 2, none⟩ (.int .i64 h')) T d rm h' m v R :=
  ⟨(r.box.set 2 _).congr (four rfl rfl rfl rfl), r.el.setd r.box 2 _, r.sd⟩
theorem Rv.counM {w : World} {T : Nat → Prop} {d : Nat} {rm h m : Int} {v : Value} {R : List Re} (r : Rv w T d rm h m v R) (m' : Int) : Rv (w.setCell ⟨d, 3, none⟩ (.int .i64 m')) T d rm h m' v R :=
  ⟨(r.box.set 3 _).congr (four rfl rfl rfl rfl), r.el.setd r.box 3 _, r.sd⟩
theorem Rv.setL {w : World} {T T' : Nat → Prop} {d : Nat} {rm h m : Int} {v : Value} {R : List Re} (r : Rv w T d rm h m v R) (hT : T' d) {v' : Value} {R' : List Re} (e : El w T' 0 v' R') : Rv (w.setCell ⟨d, 1, none⟩ v') T' d rm h m v' R' :=
  ⟨(r.box.set 1 _).congr (four rfl rfl rfl rfl), e.setd r.box 1 _, hT⟩
theorem sk_sub {i : Int} {R : List Re} {y : Re} (h : y ∈ sk i R) : y ∈ R := by
  unfold sk at h
  split at h
  · exact h
  · exact List.mem_of_mem_eraseIdx h
theorem Rv.first {w W : World} {T : Nat → Prop} {d : Nat} {rm h m : Int} {v : Value} {R : List Re} (r : Rv w T d rm h m v R) (bl : Below w.heap.size w W) {x : Re} (hx : Ow W 0 x.v x.l) (hxT : ∀ g, x.v.ownBlock = some g → T g ∨ (w.heap.size ≤ g ∧ g < W.heap.size)) {i : Int} {v' : Value} (ow : W.ownsRow w.heap.size 99 3 v' (x :: sk i R).length (rcs (x :: sk i R))) :
    Rv (W.setCell ⟨d, 1, none⟩ v') (grown T w (W.setCell ⟨d, 1, none⟩ v')) d rm h m v' (x :: sk i R) := by
  have rW := r.below bl
  refine rW.setL (.inl r.sd) ⟨own_base ow (Nat.zero_le _), fun y hy => ?_, fun g e => .inr (by simpa using ow.lt g e), fun y hy g e => ?_⟩
  · rcases List.mem_cons.1 hy with rfl | hy
    · exact hx
    · exact rW.el.lg y (sk_sub hy)
  · rcases List.mem_cons.1 hy with rfl | hy
    · rcases hxT g e with h | h
      · exact .inl h
      · exact .inr (by simpa using h)
    · exact .inl (r.el.sl y (sk_sub hy) g e)
theorem BP.qtt {S : Nat → Prop} {a w w' : World} (h : BP S a w) (q : Qt w w') : BP S a w' := by
  obtain ⟨n, rfl⟩ := q
  exact h.drewN n
theorem Rv.qt {w w' : World} {T : Nat → Prop} {d : Nat} {rm h m : Int} {v : Value} {R : List Re} (r : Rv w T d rm h m v R) (q : Qt w w') : Rv w' T d rm h m v R := by
  obtain ⟨n, rfl⟩ := q
  exact r.block fun k _ _ => by rw [heap_drewN]
theorem Rv.more {w : World} {T T' : Nat → Prop} {d : Nat} {rm h m : Int} {v : Value} {R : List Re} (r : Rv w T d rm h m v R) (hT : ∀ k, T k → T' k) : Rv w T' d rm h m v R := ⟨r.box, r.el.more hT (Nat.le_refl _), hT _ r.sd⟩
set_option maxHeartbeats 3200000 in
set_option maxRecDepth 100000 in
theorem rget_hit (w : World) (T : Nat → Prop) (d : Nat) (rm h m : Int) (v : Value) (A C : List Re) (x : Re) (r : Rv w T d rm h m v (A ++ x :: C)) (hlen : (A ++ x :: C).length ≤ 4096) (hT : ∀ k, T k → k < w.heap.size) (ao : Option Addr) (cap : Nat) (hs : Bs w ao x.k) (hn : ∀ y ∈ A, y.k ≠ x.k) (hh : 0 ≤ h ∧ h < 4611686018427387904) (hM : x.l.length * 8 ≤ 140737488355328) :
    Calls Try.prog 41 #[.pointer (some ⟨d, 0, none⟩), .slice ao x.k.size cap] w fun e w' => ∃ u, e = .returned (.tuple #[rsv u x.a, .bool true]) ∧ Ow w' w.heap.size u x.l ∧ ∃ v', Rv w' (grown T w w') d rm (h + 1) m v' (x :: (A ++ C)) ∧ BP T w w' := by
  have hwd : d < w.heap.size := r.box.lt
  have HM := hid1 hM
  obtain ⟨q, hq⟩ : ∃ q, A.length = q := ⟨_, rfl⟩
  have HQ := hid1 hq
  have BA : Below w.heap.size w (w.alloc (.cells #[.slice none 0 0, .int .i64 0] 31)) := bl_alloc (Below.refl _ _) _
  have HF := hid1 (find_hit _ T d rm h m v A C x (r.below BA) (by omega) ao cap (hs.below BA) hn)
  rw [hq] at HF
  have HR := hid1 (And.intro (r.below BA) (And.intro ((BP.refl T w).alloc (.cells #[.slice none 0 0, .int .i64 0] 31)) (rf_new w (.slice none 0 0) 0)))
  clear r BA hs hn hM hq
  go_enter Try.func41, Try.ntmps41
  go_upto_region 2 with (go_at_call 53; refine HF.out.mono ?_; rintro e X1 ⟨rfl, qt1⟩)
  obtain ⟨r0, bp0, c0⟩ := HR.out
  have r1 := r0.qt qt1
  have bp1 := bp0.qtt qt1
  have c1 := keepr (qt1.below (Below.refl _ _)) c0
  have b2 := r1.box.cell (i := 2) (by omega)
  have k2 := r1.box.frozen 2
  dsimp only [rcf] at b2
  have HR1 := hid1 (And.intro r1 (And.intro bp1 c1))
  clear r0 bp0 c0 r1 bp1 c1 HR HF qt1
  have hq0 : ¬ (q : Int) < 0 := by omega
  go_upto_region 6 with fail
  refine gen_world (fun X => Rv X T d rm (h + 1) m v (A ++ x :: C) ∧ BP T w X ∧ X.rowIs w.heap.size 31 2 (rf (.slice none 0 0) 0)) ?_ ?_
  · obtain ⟨r1, bp1, c1⟩ := HR1.out
    exact ⟨r1.count (h + 1), bp1.setA (a := ⟨d, 2, none⟩) r1.sd _, c1.setOther (a := ⟨d, 2, none⟩) (show w.heap.size ≠ d by omega) _⟩
  clear HR1 b2 k2
  rintro X2 ⟨r2, bp2, c2⟩
  clear X1
  obtain ⟨xo, xc, hxv, hxc, nm, -⟩ := (r2.el.lg x (by simp)).nm
  obtain ⟨nx, hnx⟩ : ∃ nx, x.l.length = nx := ⟨_, rfl⟩
  have HNX := hid1 hnx
  rw [hnx] at hxv
  obtain ⟨n, hn⟩ : ∃ n, (A ++ x :: C).length = n := ⟨_, rfl⟩
  have hqn : (q : Int) < (n : Int) := by have := HQ.out; rw [List.length_append, List.length_cons] at hn; omega
  have hq1 : (0 : Int) ≤ (q : Int) := by omega
  obtain ⟨vo, vc, rfl, -, -, hat⟩ := r2.el.sl_at
  obtain ⟨g, yo, yn, yc, rfl, -, hyv, d0, d1, d2⟩ := hat q x (by rw [List.getElem?_append_right (by have := HQ.out; omega), HQ.out, Nat.sub_self]; rfl)
  rw [hxv] at hyv
  injection hyv with e1 e2 e3
  subst e1 e2 e3
  have b1 := r2.box.cell (i := 1) (by omega)
  dsimp only [rcf] at b1
  rw [hn] at b1
  have HR2 := hid1 (And.intro r2 (And.intro bp2 c2))
  have HNM := hid1 (And.intro hxc nm)
  have HXV := hid1 hxv
  have HN := hid1 hn
  clear r2 bp2 c2 hat hxc nm hxv hn hnx
  go_upto_region 7 with fail
  have hz2 : w.heap.size < X2.heap.size := HR2.out.2.2.lt
  refine gen_world (fun X => (Rv X T d rm (h + 1) m (.slice (some ⟨g, 0, none⟩) (A ++ x :: C).length vc) (A ++ x :: C) ∧ BP T w X ∧ X.rowIs w.heap.size 31 2 (rf (.slice none 0 0) 0)) ∧ X.rowIs X2.heap.size 99 3 (ef3 x.k (.slice xo nx xc) x.a)) ?_ ?_
  · obtain ⟨r2, bp2, c2⟩ := HR2.out
    have al : Below X2.heap.size X2 (X2.alloc (.cells #[.string x.k, .slice xo nx xc, .int .i64 x.a] 99)) := bl_alloc (Below.refl _ _) _
    rw [HN.out]
    refine ⟨⟨?_, bp2.alloc _, keepr al c2⟩, ent_row _ _ _ _⟩
    have := r2.below al
    rwa [HN.out] at this
  clear HR2 d0 d1 d2 b1
  generalize X2.heap.size = e3 at *
  rintro X3 ⟨⟨r3, bp3, c3⟩, en3⟩
  have g0 := en3.cell (i := 0) (by omega)
  have g1 := en3.cell (i := 1) (by omega)
  have g2 := en3.cell (i := 2) (by omega)
  dsimp only [ef3] at g0 g1 g2
  have HFI := hid1 (first_any X3 T d rm (h + 1) m _ _ r3 hlen x xo nx xc HXV.out q)
  have HR3 := hid1 (And.intro (And.intro r3 (And.intro bp3 c3)) en3)
  have hd3 : d < X3.heap.size := r3.box.lt
  clear r3 bp3 c3 en3
  go_upto_region 8 with (go_at_call 54; refine HFI.out.mono ?_; rintro e X4' ⟨rfl, v4, W4, rfl, bl4, ow4⟩)
  obtain ⟨⟨r3, bp3, c3⟩, en3⟩ := HR3.out
  have r4 := r3.first bl4 ((r3.below bl4).el.lg x (by simp)) (fun g hg => .inl (r3.el.sl x (by simp) g hg)) ow4
  have hsk : sk (q : Int) (A ++ x :: C) = A ++ C := by rw [← HQ.out]; exact sk_at A C x
  rw [hsk] at r4
  have bp4 := (bp3.step bl4).setA (a := ⟨d, 1, none⟩) r3.sd v4
  have c4 := (keepr bl4 c3).setOther (a := ⟨d, 1, none⟩) (show w.heap.size ≠ d by omega) v4
  have en4 := (keepr bl4 en3).setOther (a := ⟨d, 1, none⟩) (show e3 ≠ d by omega) v4
  have hz3 : w.heap.size < X3.heap.size := c3.lt
  have hz4 : X3.heap.size ≤ (W4.setCell ⟨d, 1, none⟩ v4).heap.size := by simpa using bl4.size
  clear HFI HR3 r3 bp3 c3 en3 bl4 ow4 hsk g0 g1 g2
  generalize W4.setCell ⟨d, 1, none⟩ v4 = X4 at *
  have g0 := en4.cell (i := 0) (by omega)
  have g1 := en4.cell (i := 1) (by omega)
  have g2 := en4.cell (i := 2) (by omega)
  dsimp only [ef3] at g0 g1 g2
  have nm4 : Nm X4 xo x.l := by
    obtain ⟨xo', xc', e, _, nm, _⟩ := (r4.el.lg x (by simp)).nm
    rw [HXV.out] at e
    injection e with e1 _ _
    subst e1
    exact nm
  have HO := hid1 (rown_any xo xc x.l x.a X4 HNM.out.1 nm4 HM.out)
  rw [HNX.out] at HO
  have HR4 := hid1 (And.intro r4 (And.intro bp4 c4))
  clear r4 bp4 c4 en4 nm4 HNM
  go_wp2_with (go_at_call 55; refine HO.out.mono ?_; rintro e X5 ⟨u, rfl, ow5, bl5⟩; obtain ⟨uo, uc, rfl, -, -, -⟩ := ow5.nm; have c5 := keepr bl5 HR4.out.2.2; have h0 := c5.cell (i := 0) (by omega); have h1 := c5.cell (i := 1) (by omega); have l0 := c5.frozen 0; have l1 := c5.frozen 1; dsimp only [rf] at h0 h1)
  obtain ⟨r4, bp4, c4⟩ := HR4.out
  have s5 := rf_set c5 (.slice uo x.l.length uc) x.a
  have h2 := s5.cell (i := 0) (by omega)
  have h3 := s5.cell (i := 1) (by omega)
  dsimp only [rf] at h2 h3
  have hz5 : X4.heap.size ≤ X5.heap.size := bl5.size
  have hkb : ∀ k, k ≠ w.heap.size → ((X5.setCell ⟨w.heap.size, 0, none⟩ (.slice uo x.l.length uc)).setCell ⟨w.heap.size, 1, none⟩ (.int .i64 x.a)).heap[k]? = X5.heap[k]? := fun k hk => by
    rw [Below.heap_setCell _ ⟨w.heap.size, 1, none⟩ _ k hk, Below.heap_setCell _ ⟨w.heap.size, 0, none⟩ _ k hk]
  refine bodyPost_ret (v := .tuple #[rsv (.slice uo x.l.length uc) x.a, .bool true]) (by simp [results, Try.results41, go_sem, h2, h3]) rfl ⟨_, rfl, ?_, v4, ?_, ?_⟩
  · exact (ow5.base (show w.heap.size ≤ X4.heap.size by omega)).block fun b hb => hkb b (by have := ow5.lt b hb; omega)
  · refine ((r4.below bl5).block (w' := (X5.setCell ⟨w.heap.size, 0, none⟩ (.slice uo x.l.length uc)).setCell ⟨w.heap.size, 1, none⟩ (.int .i64 x.a)) fun k hk _ => hkb k ?_).more fun k hk => ?_
    · rcases hk with hk | hk
      · have := hT k hk; omega
      · omega
    · rcases hk with hk | hk
      · exact .inl hk
      · exact .inr ⟨by omega, by simp; omega⟩
  · exact ((bp4.step bl5).set (g := w.heap.size) (o := 0) (.inr (Nat.le_refl _)) _).set (g := w.heap.size) (o := 1) (.inr (Nat.le_refl _)) _
set_option maxHeartbeats 1600000 in
set_option maxRecDepth 100000 in
theorem rget_miss (w : World) (T : Nat → Prop) (d : Nat) (rm h m : Int) (v : Value) (R : List Re) (r : Rv w T d rm h m v R) (hlen : R.length ≤ 4096) (hT : ∀ k, T k → k < w.heap.size) (ao : Option Addr) (cap : Nat) (s : ByteArray) (hs : Bs w ao s) (hn : ∀ y ∈ R, y.k ≠ s) (hh : 0 ≤ m ∧ m < 4611686018427387904) :
    Calls Try.prog 41 #[.pointer (some ⟨d, 0, none⟩), .slice ao s.size cap] w fun e w' => e = .returned (.tuple #[rsv (.slice none 0 0) 0, .bool false]) ∧ Rv w' (grown T w w') d rm h (m + 1) v R ∧ BP T w w' := by
  have hwd : d < w.heap.size := r.box.lt
  have BA : Below w.heap.size w (w.alloc (.cells #[.slice none 0 0, .int .i64 0] 31)) := bl_alloc (Below.refl _ _) _
  have HF := hid1 (find_miss _ T d rm h m v R (r.below BA) (by omega) ao cap s (hs.below BA) hn)
  have HR := hid1 (And.intro (r.below BA) (And.intro ((BP.refl T w).alloc (.cells #[.slice none 0 0, .int .i64 0] 31)) (rf_new w (.slice none 0 0) 0)))
  clear r BA hs hn
  go_enter Try.func41, Try.ntmps41
  go_upto_region 2 with (go_at_call 53; refine HF.out.mono ?_; rintro e X1 ⟨rfl, qt1⟩)
  obtain ⟨r0, bp0, c0⟩ := HR.out
  have r1 := r0.qt qt1
  have bp1 := bp0.qtt qt1
  have c1 := keepr (qt1.below (Below.refl _ _)) c0
  have b3 := r1.box.cell (i := 3) (by omega)
  have k3 := r1.box.frozen 3
  have h0 := c1.cell (i := 0) (by omega)
  have h1 := c1.cell (i := 1) (by omega)
  have l0 := c1.frozen 0
  have l1 := c1.frozen 1
  dsimp only [rcf, rf] at b3 h0 h1
  have HR1 := hid1 (And.intro r1 (And.intro bp1 c1))
  have hwn : w.heap.size ≠ d := by omega
  clear r0 bp0 c0 r1 bp1 c1 HR HF qt1
  go_wp2_with fail
  obtain ⟨r1, bp1, c1⟩ := HR1.out
  have r2 := r1.counM (m + 1)
  have c2 := c1.setOther (a := ⟨d, 3, none⟩) hwn (.int .i64 (m + 1))
  have s5 := rf_set c2 (.slice none 0 0) 0
  have h2 := s5.cell (i := 0) (by omega)
  have h3 := s5.cell (i := 1) (by omega)
  dsimp only [rf] at h2 h3
  have hkb : ∀ k, k ≠ w.heap.size → (((X1.setCell ⟨d, 3, none⟩ (.int .i64 (m + 1))).setCell ⟨w.heap.size, 0, none⟩ (.slice none 0 0)).setCell ⟨w.heap.size, 1, none⟩ (.int .i64 0)).heap[k]? = (X1.setCell ⟨d, 3, none⟩ (.int .i64 (m + 1))).heap[k]? := fun k hk => by
    rw [Below.heap_setCell _ ⟨w.heap.size, 1, none⟩ _ k hk, Below.heap_setCell _ ⟨w.heap.size, 0, none⟩ _ k hk]
  refine bodyPost_ret (v := .tuple #[rsv (.slice none 0 0) 0, .bool false]) (by simp [results, Try.results41, go_sem, h2, h3]) rfl ⟨rfl, ?_, ?_⟩
  · refine (r2.block (w' := ((X1.setCell ⟨d, 3, none⟩ (.int .i64 (m + 1))).setCell ⟨w.heap.size, 0, none⟩ (.slice none 0 0)).setCell ⟨w.heap.size, 1, none⟩ (.int .i64 0)) fun k hk _ => hkb k ?_).more fun k hk => .inl hk
    have := hT k hk; omega
  · exact ((bp1.setA (a := ⟨d, 3, none⟩) r1.sd _).set (g := w.heap.size) (o := 0) (.inr (Nat.le_refl _)) _).set (g := w.heap.size) (o := 1) (.inr (Nat.le_refl _)) _
end Go.Proofs.Ytpjcpikafpnmpaa
