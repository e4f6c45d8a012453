/- CACHE: Get of a key that is there. -/
import Derived.Test.YtpjcpikafpnmpaaAK8
namespace Go.Proofs.Ytpjcpikafpnmpaa
open Go.RowKit Go.MuLone

theorem Ow.bp {w w' : World} {S : Nat → Prop} {base : Nat} {v : Value} {l : List Int} (h : Ow w base v l) (hb : BP S w w') (hd : ∀ g, v.ownBlock = some g → ¬ S g) : Ow w' base v l := h.block fun g hg => hb.block g (h.lt g hg).2 (hd g hg)
/-- lead, of the whole cache. -/
theorem clead_any (S : Nat → Prop) (p : Nat) {rm mu : Int} {bm : Nat} {h m : Int} (A C : List Ce) (x : Ce) (w : World) (c : Ch w S p rm mu bm h m (A ++ x :: C)) :
    Calls Try.prog 30 #[.pointer (some ⟨p, 4, none⟩), .pointer (some ⟨x.b, 0, none⟩)] w fun e w' => e = .returned (.tuple #[]) ∧ Ch w' S p rm mu bm h m (x :: (A ++ C)) ∧ BP S w w' ∧ w'.heap.size = w.heap.size := by
  refine (lead_any p A C x w c.rw).mono ?_
  rintro e w' ⟨rfl, r, b, z⟩
  have hin : ∀ y, y ∈ x :: (A ++ C) ↔ y ∈ A ++ x :: C := fun y => by simp only [List.mem_cons, List.mem_append]; exact ⟨fun h => by rcases h with h | h | h <;> simp [h], fun h => by rcases h with h | h | h <;> simp [h]⟩
  have hsub : ∀ k, Rb p (x :: (A ++ C)) k → Rb p (A ++ x :: C) k := by
    rintro k (e | ⟨y, hy, e⟩)
    · exact .inl e
    · exact .inr ⟨y, (hin y).1 hy, e⟩
  have hS : ∀ k, Rb p (x :: (A ++ C)) k → S k := by
    rintro k (rfl | ⟨y, hy, rfl⟩)
    · exact c.sp
    · exact (c.se y ((hin y).1 hy)).1
  have hperm : (A ++ x :: C).Perm (x :: (A ++ C)) := List.perm_middle
  refine ⟨rfl, ⟨r, ?_, fun y hy => lg_bp c.rw hsub b c.lg y ((hin y).1 hy), (hperm.map _).nodup_iff.1 c.ks, fun y hy => c.kz y ((hin y).1 hy), c.sp, c.sm, fun y hy => c.se y ((hin y).1 hy), ⟨c.rom.1, c.rom.2.1, by rw [← hperm.length_eq]; exact c.rom.2.2⟩, c.cnt⟩, b.mono fun k _ h => hS k h, z⟩
  obtain ⟨D, h1, h2, h3, h4⟩ := mp_bp c.rw hsub b c.mp
  exact ⟨D, hperm.length_eq ▸ h1, fun y hy => h2 y ((hin y).1 hy), fun s hs => h3 s fun y hy => hs y ((hin y).2 hy), by rw [← hperm.length_eq]; exact h4⟩
set_option maxHeartbeats 1600000 in
set_option maxRecDepth 100000 in
theorem get_hit (S : Nat → Prop) (p : Nat) {rm : Int} {bm : Nat} {h m : Int} (A C : List Ce) (x : Ce) (w : World) (c : Ch w S p rm 0 bm h m (A ++ x :: C)) (ao : Option Addr) (cap : Nat) (hs : Bs w ao x.k) (hd : Bo S ao x.k) (hm : h < 4611686018427387904) (hS : ∀ k, S k → k < w.heap.size) :
    Calls Try.prog 10 #[.pointer (some ⟨p, 0, none⟩), .slice ao x.k.size cap] w fun e w' => ∃ v, e = .returned (.tuple #[rsv v x.a, .bool true]) ∧ Ow w' w.heap.size v x.l ∧ Ch w' S p rm 0 bm (h + 1) m (x :: (A ++ C)) ∧ BP S w w' := by
  have hxk := (c.kz x (by simp)).1
  have HC := hid1 c
  have hp : p < w.heap.size := c.rw.box.lt
  have hpn : w.heap.size ≠ p := by omega
  have c1 := (c.rw.box.alloc (.cells #[.slice none 0 0, .int .i64 0] 31)).cell (i := 1) (by omega)
  have f1 := (c.rw.box.alloc (.cells #[.slice none 0 0, .int .i64 0] 31)).frozen 1
  obtain ⟨c', hb'⟩ := locked c (.cells #[.slice none 0 0, .int .i64 0] 31)
  have hr' := (rf_new w (.slice none 0 0) 0).setOther (a := ⟨p, 1, none⟩) hpn (.int .i32 1)
  have hs' : Bs ((w.alloc (.cells #[.slice none 0 0, .int .i64 0] 31)).setCell ⟨p, 1, none⟩ (.int .i32 1)) ao x.k := hs.bp hb' hd
  have hz' : ((w.alloc (.cells #[.slice none 0 0, .int .i64 0] 31)).setCell ⟨p, 1, none⟩ (.int .i32 1)).heap.size = w.heap.size + 1 := by simp
  dsimp only [cf] at c1
  clear c
  go_enter_defers Try.func10, Try.ntmps10
  go_wp2_with (go_at_call 27; refine (lock_free muLib ⟨p, 1, none⟩ _ c1 f1).mono ?_; rintro e w' ⟨rfl, rfl⟩; generalize hw : (w.alloc (.cells #[.slice none 0 0, .int .i64 0] 31)).setCell ⟨p, 1, none⟩ (.int .i32 1) = w1 at *; clear c1 f1 hw)
  have hcv := conv_qt (cap := cap) hs'
  have hlk := hit_qt c'.mp (show x ∈ A ++ x :: C by simp) hxk
  have p3 := c'.rw.box.cell (i := 3) (by omega)
  dsimp only [cf] at p3
  have HC' := hid1 c'
  clear c'
  generalize x.k.size = sz at *
  go_quiet (fail)
  have q : Qt w1 (w1.drewN nq) := ⟨nq, rfl⟩
  have c2 := HC'.out.qt q
  have r2 := row_qt hr' q
  have b2 := hb'.qt q
  have z2 : (w1.drewN nq).heap.size = w.heap.size + 1 := (size_qt q).trans hz'
  generalize w1.drewN nq = w2 at *
  have p6 := c2.rw.box.cell (i := 6) (by omega)
  have g6 := c2.rw.box.frozen 6
  dsimp only [cf, rf] at p6
  have z3 : p < w2.heap.size := by omega
  have hm0 : 0 ≤ h := c2.cnt.1
  have HC3 := hid1 (c2.count (h + 1) (by omega))
  have HR3 := hid1 (r2.setOther (a := ⟨p, 6, none⟩) hpn (.int .i64 (h + 1)))
  have HB3 := hid1 (b2.setA (a := ⟨p, 6, none⟩) c2.sp (.int .i64 (h + 1)))
  have HZ3 : Hid ((w2.setCell ⟨p, 6, none⟩ (.int .i64 (h + 1))).heap.size = w.heap.size + 1) := by simpa [Hid] using z2
  clear c2 r2 b2 hs hs' hr' hb' q z2
  go_wp2_with (go_at_call 29; refine (more_any h _ hm0 hm).mono ?_; rintro e w' ⟨rfl, e9⟩; rw [e9]; clear e9)
  generalize w2.setCell ⟨p, 6, none⟩ (.int .i64 (h + 1)) = w3 at *
  refine (clead_any S p A C x w3 HC3.out).mono ?_
  rintro e w4 ⟨rfl, c4, b4, z4⟩
  have hx4 := c4.rw.seg.1
  have x1 := hx4.cell (i := 1) (by omega)
  have x2 := hx4.cell (i := 2) (by omega)
  obtain ⟨bo, K, ev, hK, hnm, -⟩ := (c4.lg x (by simp)).nm
  have hno : ¬ S w.heap.size := fun hs => absurd (hS _ hs) (Nat.lt_irrefl _)
  have r4 := b4.row hno HR3.out
  have hl4 := (c4.kz x (by simp)).2
  dsimp only [ef] at x1 x2
  rw [ev] at x1
  have HO := hid1 (own_any bo K x.l x.a w4 hK hnm hl4)
  have d1 := c4.rw.box.cell (i := 1) (by omega)
  have g1 := c4.rw.box.frozen 1
  have HR4 := hid1 r4
  have HC4 := hid1 c4
  have HB4 := hid1 ((HB3.out.trans b4 (fun _ _ h => h)))
  have HZ4 : Hid (w4.heap.size = w.heap.size + 1) := z4.trans HZ3.out
  dsimp only [cf] at d1
  clear r4 hx4 c4 b4 z4 hK hnm hl4 ev
  obtain ⟨n, hn⟩ : ∃ n, x.l.length = n := ⟨_, rfl⟩
  rw [hn] at HO x1
  clear hn
  go_wp2_with (go_at_call 31; refine HO.out.mono ?_; rintro e w5 ⟨v, rfl, ow, hb5⟩; obtain ⟨bo', K', ev', -, -, -⟩ := ow.nm; have HOW := hid1 ow; have hr5 := keepr hb5 HR4.out; have e0 := hr5.cell (i := 0) (by omega); have e1 := hr5.cell (i := 1) (by omega); have k0 := hr5.frozen 0; have k1 := hr5.frozen 1; have z5 := hr5.lt; dsimp only [rf] at e0 e1; obtain ⟨n', hn'⟩ : ∃ n, x.l.length = n := ⟨_, rfl⟩; rw [hn'] at ev'; subst ev')
  have c5 := HC4.out.below hb5
  have hsz : w4.heap.size = w.heap.size + 1 := HZ4.out
  have hw : w.heap.size < w4.heap.size := by omega
  have hv : ∀ b, (Value.slice bo' n' K').ownBlock = some b → b ≠ w.heap.size ∧ b ≠ p := fun b hb => by
    have := HOW.out.lt b hb
    omega
  have c6 := c5.other hr5 (by decide) 0 (.slice bo' n' K')
  have r6 := hr5.set 0 (.slice bo' n' K')
  have c7 := c6.other r6 (by decide) 1 (.int .i64 x.a)
  have r7 := r6.set 1 (.int .i64 x.a)
  have r8 := r7.setOther (a := ⟨p, 1, none⟩) hpn (.int .i32 0)
  have q0 := r8.cell (i := 0) (by omega)
  have q1 := r8.cell (i := 1) (by omega)
  simp only [if_true, Nat.zero_ne_one, if_false] at q0 q1
  have d5 := c7.rw.box.cell (i := 1) (by omega)
  have g5 := c7.rw.box.frozen 1
  have hbp : BP S w ((w5.setCell ⟨w.heap.size, 0, none⟩ (.slice bo' n' K')).setCell ⟨w.heap.size, 1, none⟩ (.int .i64 x.a)) := ((HB4.out.step hb5).set (.inr (Nat.le_refl _)) _).set (.inr (Nat.le_refl _)) _
  refine door (.tuple #[rsv (.slice bo' n' K') x.a, .bool true]) d5 g5 ?_ ⟨_, rfl, ?_, c7.lock 0, hbp.setA (a := ⟨p, 1, none⟩) c7.sp _⟩
  · generalize ((w5.setCell ⟨w.heap.size, 0, none⟩ (.slice bo' n' K')).setCell ⟨w.heap.size, 1, none⟩ (.int .i64 x.a)).setCell ⟨p, 1, none⟩ (.int .i32 0) = w9 at *
    simp [results, Try.results10, go_sem, q0, q1]
  · refine (HOW.out.base (show w.heap.size ≤ w4.heap.size by omega)).block fun b hb => ?_
    have h1 := hv b hb
    rw [Below.heap_setCell _ _ _ _ (show b ≠ p from h1.2), Below.heap_setCell _ _ _ _ (show b ≠ w.heap.size from h1.1), Below.heap_setCell _ _ _ _ (show b ≠ w.heap.size from h1.1)]
end Go.Proofs.Ytpjcpikafpnmpaa
