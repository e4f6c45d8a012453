/- CACHE: Put of a key that is there. -/
import Derived.Test.YtpjcpikafpnmpaaAK10
namespace Go.Proofs.Ytpjcpikafpnmpaa
open Go.RowKit Go.MuLone

theorem Ow.alloc {w : World} {base : Nat} {v : Value} {l : List Int} (h : Ow w base v l) (o : Obj) : Ow (w.alloc o) base v l := h.below ((Below.refl _ _).alloc (Nat.le_refl _) o)
/-- Put under way: the cache, the box of the Result that is kept. -/
structure Pm (S : Nat → Prop) (w X : World) (p : Nat) (rm mu : Int) (bm : Nat) (h m : Int) (L : List Ce) (g : Nat) (v : Value) (l : List Int) (a : Int) : Prop where
  ch : Ch X S p rm mu bm h m L
  row : X.rowIs g 31 2 (rf v a)
  ow : Ow X w.heap.size v l
  bp : BP S w X
  low : w.heap.size ≤ g
theorem Pm.lock {S : Nat → Prop} {w X : World} {p : Nat} {rm mu : Int} {bm : Nat} {h m : Int} {L : List Ce} {g : Nat} {v : Value} {l : List Int} {a : Int} (P : Pm S w X p rm mu bm h m L g v l a) (mu' : Int) : Pm S w (X.setCell ⟨p, 1, none⟩ (.int .i32 mu')) p rm mu' bm h m L g v l a := by
  refine ⟨P.ch.lock mu', P.row.setOther (a := ⟨p, 1, none⟩) (row_ne P.row P.ch.rw.box (by decide)) _, P.ow.block fun b hb => Below.heap_setCell _ _ _ _ ?_, P.bp.setA (a := ⟨p, 1, none⟩) P.ch.sp _, P.low⟩
  rcases P.ow.form with ⟨e, _⟩ | ⟨g', cap, f, e, _, row, _⟩
  · rw [e] at hb; cases hb
  · rw [e] at hb; injection hb with hb; subst hb
    exact row_ne row P.ch.rw.box (by decide)
theorem Pm.qt {S : Nat → Prop} {w X Y : World} {p : Nat} {rm mu : Int} {bm : Nat} {h m : Int} {L : List Ce} {g : Nat} {v : Value} {l : List Int} {a : Int} (P : Pm S w X p rm mu bm h m L g v l a) (q : Qt X Y) : Pm S w Y p rm mu bm h m L g v l a := by
  refine ⟨P.ch.qt q, row_qt P.row q, P.ow.block fun b hb => ?_, P.bp.qt q, P.low⟩
  obtain ⟨n, rfl⟩ := q
  rw [heap_drewN]
theorem pm_start {S : Nat → Prop} {w w0 w1 : World} {p : Nat} {rm : Int} {bm : Nat} {h m : Int} {L : List Ce} {v : Value} {l : List Int} {a : Int} (c : Ch w S p rm 0 bm h m L) (b0 : Below w.heap.size w w0) (hb : Below w0.heap.size w0 w1) (ow : Ow w1 w0.heap.size v l) :
    Pm S w (w1.alloc (.cells #[v, .int .i64 a] 31)) p rm 0 bm h m L w1.heap.size v l a := by
  have b1 : Below w.heap.size w w1 := b0.trans (hb.mono b0.size)
  exact ⟨c.below (bl_alloc b1 _), rf_new w1 v a, (ow.base b0.size).alloc _, (BP.bel b1).alloc _, b1.size⟩
set_option maxHeartbeats 1600000 in
set_option maxRecDepth 100000 in
theorem put_hit (S : Nat → Prop) (p : Nat) {rm : Int} {bm : Nat} {h m : Int} (A C : List Ce) (x : Ce) (w : World) (c : Ch w S p rm 0 bm h m (A ++ x :: C)) (ao : Option Addr) (cap : Nat) (hs : Bs w ao x.k) (hd : Bo S ao x.k)
    (ro : Option Addr) (rc : Nat) (l : List Int) (a : Int) (hrc : ro = none → rc = 0) (hr : Nm w ro l) (hM : l.length * 8 ≤ 140737488355328) :
    Calls Try.prog 11 #[.pointer (some ⟨p, 0, none⟩), .slice ao x.k.size cap, rsv (.slice ro l.length rc) a] w fun e w' => e = .returned (.int .i64 0) ∧ ∃ v, Ch w' (grown S w w') p rm 0 bm h m ({ x with v := v, l := l, a := a } :: (A ++ C)) ∧ BP S w w' := by
  have hxk := (c.kz x (by simp)).1
  have hk1 : ¬ (65536 : Int) < (x.k.size : Int) := by omega
  have HC := hid1 c
  have HS := hid1 hs
  have hr1 : Nm (w.alloc (.cells #[.slice ro l.length rc, .int .i64 a] 31)) ro l := hr.below (bl_alloc (Below.refl _ _) _)
  have HO := hid1 (own_any ro rc l a _ hrc hr1 hM)
  have HM := hid1 hM
  have r0 := rf_new w (.slice ro l.length rc) a
  have e0 := r0.cell (i := 0) (by omega)
  have e1 := r0.cell (i := 1) (by omega)
  dsimp only [rf] at e0 e1
  clear hr hr1 hrc hM hs c r0
  obtain ⟨n, hn⟩ : ∃ n, l.length = n := ⟨_, rfl⟩
  rw [hn] at HO e0 e1
  have HN := hid1 hn
  rw [hn]
  clear hn
  obtain ⟨sz, hsz⟩ : ∃ sz, x.k.size = sz := ⟨_, rfl⟩
  have HSZ := hid1 hsz
  rw [hsz] at hk1 ⊢
  clear hsz
  go_enter_defers Try.func11, Try.ntmps11
  go_upto_region 4 with (go_at_call 31; refine HO.out.mono ?_; rintro e w1 ⟨v, rfl, ow, hb1⟩; have HOW := hid1 ow; obtain ⟨bo, K, ev, -, -, -⟩ := ow.nm; rw [HN.out] at ev; subst ev; clear ow)
  have P0 : Pm S w (w1.alloc (.cells #[.slice bo n K, .int .i64 a] 31)) p rm 0 bm h m (A ++ x :: C) w1.heap.size (.slice bo n K) l a := pm_start HC.out (bl_alloc (Below.refl _ _) _) hb1 HOW.out
  clear hb1 HOW e0 e1 HO
  generalize w1.alloc (.cells #[.slice bo n K, .int .i64 a] 31) = X0 at *
  generalize w1.heap.size = g at *
  have c1 := P0.ch.rw.box.cell (i := 1) (by omega)
  have f1 := P0.ch.rw.box.frozen 1
  have P1 := P0.lock 1
  have HB0 := hid1 P0.bp
  dsimp only [cf] at c1
  clear P0
  go_wp2_with (go_at_call 27; refine (lock_free muLib ⟨p, 1, none⟩ _ c1 f1).mono ?_; rintro e w' ⟨rfl, rfl⟩; generalize hw : X0.setCell ⟨p, 1, none⟩ (.int .i32 1) = X1 at *; clear c1 f1 hw)
  have hs1 : Bs X1 ao x.k := HS.out.bp P1.bp hd
  have hcv := conv_qt (cap := cap) hs1
  have hlk := hit_qt P1.ch.mp (show x ∈ A ++ x :: C by simp) hxk
  rw [HSZ.out] at hcv
  have p3 := P1.ch.rw.box.cell (i := 3) (by omega)
  dsimp only [cf] at p3
  have HP1 := hid1 P1
  clear P1
  go_quiet (fail)
  have P2 := HP1.out.qt (⟨nq, rfl⟩ : Qt X1 (X1.drewN nq))
  clear hcv hlk p3 HP1 hs1
  generalize X1.drewN nq = X2 at *
  have r0 := P2.row.cell (i := 0) (by omega)
  have r1 := P2.row.cell (i := 1) (by omega)
  obtain ⟨_, _, hxr⟩ := P2.ch.rw.seg.at x (by simp)
  have x1 := hxr.cell (i := 1) (by omega)
  have x2 := hxr.cell (i := 2) (by omega)
  have y1 := hxr.frozen 1
  have y2 := hxr.frozen 2
  have z1 := hxr.lt
  obtain ⟨bx, Kx, ex, -⟩ := (P2.ch.lg x (by simp)).nm
  dsimp only [rf, ef] at r0 r1 x1 x2
  rw [ex] at x1
  have HP2 := hid1 P2
  clear P2 hxr ex
  generalize hbx : x.b = bxx at *
  have HBX := hid1 hbx
  clear hbx
  go_wp2_with fail
  have P2 := HP2.out
  have hin : ∀ k, k < w.heap.size → (fun k => S k ∨ (w.heap.size ≤ k ∧ k < X2.heap.size)) k → S k := fun k hk h => by
    rcases h with h | h
    · exact h
    · omega
  have ow0 : Ow X2 0 (.slice bo n K) l := P2.ow.base (Nat.zero_le _)
  have c3 := (P2.ch.more (S' := fun k => S k ∨ (w.heap.size ≤ k ∧ k < X2.heap.size)) (fun _ h => .inl h)).result (v := .slice bo n K) (l := l) (a := a) ow0 HM.out (fun g' hg' => .inr (P2.ow.lt g' hg'))
  rw [HBX.out] at c3
  have hsx : S bxx := by have := (P2.ch.se x (by simp)).1; rwa [HBX.out] at this
  have b3 : BP S w ((X2.setCell ⟨bxx, 1, none⟩ (.slice bo n K)).setCell ⟨bxx, 2, none⟩ (.int .i64 a)) := (P2.bp.setA (a := ⟨bxx, 1, none⟩) hsx _).setA (a := ⟨bxx, 2, none⟩) hsx _
  have HIN := hid1 hin
  have HB3 := hid1 b3
  have HZ3 : Hid (((X2.setCell ⟨bxx, 1, none⟩ (.slice bo n K)).setCell ⟨bxx, 2, none⟩ (.int .i64 a)).heap.size = X2.heap.size) := by simp [Hid]
  have HL := hid1 (clead_any _ p A C _ _ c3)
  clear P2 hin ow0 c3 hsx b3 x1 x2 y1 y2 z1 r0 r1
  generalize (X2.setCell ⟨bxx, 1, none⟩ (.slice bo n K)).setCell ⟨bxx, 2, none⟩ (.int .i64 a) = X3 at *
  refine HL.out.mono ?_
  rintro e X4 ⟨rfl, c4, b4, z4⟩
  go_wp2_with fail
  have b5 : BP S w X4 := HB3.out.trans b4 (fun k hk h => HIN.out k hk h)
  have hz : X4.heap.size = X2.heap.size := z4.trans HZ3.out
  refine door (.int .i64 0) (c4.rw.box.cell (i := 1) (by omega)) (c4.rw.box.frozen 1) (by simp [results, Try.results11, go_sem]) ⟨rfl, .slice bo n K, ?_, b5.setA (a := ⟨p, 1, none⟩) (HC.out.sp) _⟩
  have c9 := c4.lock 0
  rw [← HBX.out] at c9
  refine c9.more ?_
  rintro k (h | h)
  · exact .inl h
  · exact .inr ⟨h.1, by simpa [hz] using h.2⟩
end Go.Proofs.Ytpjcpikafpnmpaa
