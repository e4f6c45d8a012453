/- CACHE: New, Stats, Clear. -/
import Derived.Test.YtpjcpikafpnmpaaAK6
namespace Go.Proofs.Ytpjcpikafpnmpaa
open Go.RowKit Go.MuLone

theorem Ch.lock {w : World} {S : Nat → Prop} {p : Nat} {rm mu : Int} {bm : Nat} {h m : Int} {L : List Ce} (c : Ch w S p rm mu bm h m L) (mu' : Int) : Ch (w.setCell ⟨p, 1, none⟩ (.int .i32 mu')) S p rm mu' bm h m L := by
  have hb : ∀ k, k ≠ p → (w.setCell ⟨p, 1, none⟩ (.int .i32 mu')).heap[k]? = w.heap[k]? := fun k hk => Below.heap_setCell w ⟨p, 1, none⟩ _ k hk
  refine ⟨⟨(c.rw.box.set 1 _).congr (eight rfl rfl rfl rfl rfl rfl rfl rfl), c.rw.seg.other (a := ⟨p, 1, none⟩) c.rw.ne _, c.rw.nd⟩, c.mp.keep (hb _ (c.mp.ne c.rw.box)), fun x hx => (c.lg x hx).block fun g hg => hb g ?_, c.ks, c.kz, c.sp, c.sm, c.se, c.rom, c.cnt⟩
  rcases (c.lg x hx).form with ⟨e, _⟩ | ⟨g', cap, f, e, _, row, _⟩
  · rw [e] at hg; cases hg
  · rw [e] at hg; injection hg with hg; subst hg
    exact row_ne row c.rw.box (by decide)
theorem Ch.count {w : World} {S : Nat → Prop} {p : Nat} {rm mu : Int} {bm : Nat} {h m : Int} {L : List Ce} (c : Ch w S p rm mu bm h m L) (h' : Int) (hh : 0 ≤ h') : Ch (w.setCell ⟨p, 6, none⟩ (.int .i64 h')) S p rm mu bm h' m L := by
  have hb : ∀ k, k ≠ p → (w.setCell ⟨p, 6, none⟩ (.int .i64 h')).heap[k]? = w.heap[k]? := fun k hk => Below.heap_setCell w ⟨p, 6, none⟩ _ k hk
  refine ⟨⟨(c.rw.box.set 6 _).congr (eight rfl rfl rfl rfl rfl rfl rfl rfl), c.rw.seg.other (a := ⟨p, 6, none⟩) c.rw.ne _, c.rw.nd⟩, c.mp.keep (hb _ (c.mp.ne c.rw.box)), fun x hx => (c.lg x hx).block fun g hg => hb g ?_, c.ks, c.kz, c.sp, c.sm, c.se, c.rom, ⟨hh, c.cnt.2⟩⟩
  rcases (c.lg x hx).form with ⟨e, _⟩ | ⟨g', cap, f, e, _, row, _⟩
  · rw [e] at hg; cases hg
  · rw [e] at hg; injection hg with hg; subst hg
    exact row_ne row c.rw.box (by decide)
theorem Ch.counM {w : World} {S : Nat → Prop} {p : Nat} {rm mu : Int} {bm : Nat} {h m : Int} {L : List Ce} (c : Ch w S p rm mu bm h m L) (m' : Int) (hh : 0 ≤ m') : Ch (w.setCell ⟨p, 7, none⟩ (.int .i64 m')) S p rm mu bm h m' L := by
  have hb : ∀ k, k ≠ p → (w.setCell ⟨p, 7, none⟩ (.int .i64 m')).heap[k]? = w.heap[k]? := fun k hk => Below.heap_setCell w ⟨p, 7, none⟩ _ k hk
  refine ⟨⟨(c.rw.box.set 7 _).congr (eight rfl rfl rfl rfl rfl rfl rfl rfl), c.rw.seg.other (a := ⟨p, 7, none⟩) c.rw.ne _, c.rw.nd⟩, c.mp.keep (hb _ (c.mp.ne c.rw.box)), fun x hx => (c.lg x hx).block fun g hg => hb g ?_, c.ks, c.kz, c.sp, c.sm, c.se, c.rom, ⟨c.cnt.1, hh⟩⟩
  rcases (c.lg x hx).form with ⟨e, _⟩ | ⟨g', cap, f, e, _, row, _⟩
  · rw [e] at hg; cases hg
  · rw [e] at hg; injection hg with hg; subst hg
    exact row_ne row c.rw.box (by decide)
theorem Ch.qt {w w' : World} {S : Nat → Prop} {p : Nat} {rm mu : Int} {bm : Nat} {h m : Int} {L : List Ce} (c : Ch w S p rm mu bm h m L) (q : Qt w w') : Ch w' S p rm mu bm h m L := by
  obtain ⟨n, rfl⟩ := q
  have e : (w.drewN n).heap = w.heap := by
    induction n with
    | zero => rfl
    | succ n ih => exact ih
  exact c.keep fun k _ _ => by rw [e]
theorem mp_new (w : World) : Mp (w.alloc (.map #[] 0)) w.heap.size [] := ⟨_, World.ownsMap_made w _ _ _, by simp, fun s _ => rfl, rfl⟩
set_option maxHeartbeats 800000 in
set_option maxRecDepth 100000 in
theorem cnew_ok (rm : Int) (h1 : 1 ≤ rm) (h2 : rm ≤ 4096) (w : World) :
    Calls Try.prog 24 #[.int .i64 rm] w fun e w' => ∃ p bm, e = .returned (.tuple #[.pointer (some ⟨p, 0, none⟩), .int .i64 0]) ∧ w.heap.size ≤ p ∧ w.heap.size ≤ bm ∧ Ch w' (fun k => k = p ∨ k = bm) p rm 0 bm 0 0 [] ∧ Below w.heap.size w w' := by
  have hm := fun W => run_makeMap (P := Try.prog) 70 W
  go_enter Try.func24, Try.ntmps24
  go_wp2_with fail
  go_ret2
  refine ⟨w.heap.size + 1, w.heap.size, rfl, by omega, by omega, ⟨⟨?_, trivial, by simp⟩, ?_, by simp, by simp, by simp, .inl rfl, .inr rfl, by simp, ⟨h1, h2, by simp; omega⟩, by omega⟩, bl_alloc (bl_alloc (Below.refl _ _) _) _⟩
  · have := World.rowIs_alloc (w.alloc (.map #[] 0)) #[.int .i64 rm, .int .i32 0, .int .u32 0, .map (some w.heap.size), .pointer none, .pointer none, .int .i64 0, .int .i64 0] 75 (cf rm 0 w.heap.size none none 0 0) (fun i hi => by rcases i with _ | _ | _ | _ | _ | _ | _ | _ | i <;> first | rfl | (simp at hi; omega))
    rwa [World.size_alloc] at this
  · exact (mp_new w).keep (Below.heap_alloc _ _ _ (by simp))
set_option maxRecDepth 100000 in
theorem cnew_bad (rm : Int) (h1 : ¬ (1 ≤ rm ∧ rm ≤ 4096)) (w : World) :
    Calls Try.prog 24 #[.int .i64 rm] w fun e w' => e = .returned (.tuple #[.pointer none, .int .i64 1]) ∧ w' = w := by
  by_cases h : rm < 1
  · go_enter Try.func24, Try.ntmps24
    go_wp2_with fail
    go_ret2
    exact ⟨rfl, rfl⟩
  · have h2 : 4096 < rm := by omega
    clear h1
    go_enter Try.func24, Try.ntmps24
    go_wp2_with fail
    go_ret2
    exact ⟨rfl, rfl⟩
/-- The way out: the deferred Unlock. -/
theorem door {fn : Func} {R : Ending → World → Prop} {tmps : Array Value} {W : World} {p : Nat} (v : Value) (c : W.cell? ⟨p, 1, none⟩ = some (.int .i32 1)) (f : W.frozen? ⟨p, 1, none⟩ = false)
    (hr : (results fn tmps).run Try.prog (W.setCell ⟨p, 1, none⟩ (.int .i32 0)) = .ok v (W.setCell ⟨p, 1, none⟩ (.int .i32 0))) (hR : R (.returned v) (W.setCell ⟨p, 1, none⟩ (.int .i32 0))) :
    bodyPostD Try.prog fn R .ret { tmps := tmps, defers := [{ target := .fn (.func 28) #[], args := #[.pointer (some ⟨p, 1, none⟩)] }] } W := by
  refine leaves_cons (f := 28) (args := #[.pointer (some ⟨p, 1, none⟩)]) (by simp) (by simp [go_sem]) ?_
  refine (unlock_deferred muLib ⟨p, 1, none⟩ .returning _ c f).mono ?_
  rintro e u' w'' ⟨rfl, rfl, rfl⟩
  exact ⟨v, hr, hR⟩
theorem door0 {fn : Func} {R : Ending → World → Prop} {tmps : Array Value} {W : World} {p : Nat} (v : Value) (c : W.cell? ⟨p, 1, none⟩ = some (.int .i32 1)) (f : W.frozen? ⟨p, 1, none⟩ = false)
    (hr : (results fn tmps).run Try.prog (W.setCell ⟨p, 1, none⟩ (.int .i32 0)) = .ok v (W.setCell ⟨p, 1, none⟩ (.int .i32 0))) (hR : R (.returned v) (W.setCell ⟨p, 1, none⟩ (.int .i32 0))) :
    bodyPostD Try.prog fn R .normal { tmps := tmps, defers := [{ target := .fn (.func 28) #[], args := #[.pointer (some ⟨p, 1, none⟩)] }] } W := door (fn := fn) v c f hr hR
theorem bp_p {S : Nat → Prop} {p : Nat} (hs : S p) (w : World) (o : Nat) (v : Value) : BP S w (w.setCell ⟨p, o, none⟩ v) := (BP.refl S w).setA (a := ⟨p, o, none⟩) hs v
set_option maxHeartbeats 800000 in
set_option maxRecDepth 100000 in
theorem stats_any (S : Nat → Prop) (p : Nat) {rm : Int} {bm : Nat} {h m : Int} {L : List Ce} (w : World) (c : Ch w S p rm 0 bm h m L) :
    Calls Try.prog 15 #[.pointer (some ⟨p, 0, none⟩)] w fun e w' => e = .returned (.tuple #[.int .i64 h, .int .i64 m]) ∧ Ch w' S p rm 0 bm h m L ∧ BP S w w' ∧ w'.heap.size = w.heap.size := by
  have HC := hid1 c
  have c1 := c.rw.box.cell (i := 1) (by omega)
  have f1 := c.rw.box.frozen 1
  have c' := c.lock 1
  have c6 := c'.rw.box.cell (i := 6) (by omega)
  have c7 := c'.rw.box.cell (i := 7) (by omega)
  have d1 := c'.rw.box.cell (i := 1) (by omega)
  have g1 := c'.rw.box.frozen 1
  have HC' := hid1 c'
  dsimp only [cf] at c1 c6 c7 d1
  clear c c'
  go_enter_defers Try.func15, Try.ntmps15
  have HB := hid1 (bp_p HC.out.sp w 1 (.int .i32 1))
  have HZ : Hid ((w.setCell ⟨p, 1, none⟩ (.int .i32 1)).heap.size = w.heap.size) := by simp [Hid]
  go_wp2_with (go_at_call 27; refine (lock_free muLib ⟨p, 1, none⟩ _ c1 f1).mono ?_; rintro e w' ⟨rfl, rfl⟩; generalize hw : w.setCell ⟨p, 1, none⟩ (.int .i32 1) = w1 at *; clear c1 f1 hw)
  go_quiet (fail)
  go_wp2_with fail
  have q : Qt w1 (w1.drewN nq) := ⟨nq, rfl⟩
  refine door (.tuple #[.int .i64 h, .int .i64 m]) (q.cell d1) (by simpa using g1) (by simp [results, Try.results15, go_sem]) ⟨rfl, (HC'.out.qt q).lock 0, (HB.out.qt q).trans (bp_p HC.out.sp _ 1 _) (fun _ _ h => h), ?_⟩
  have := size_qt q
  have := HZ.out
  simp
  omega
set_option maxHeartbeats 800000 in
set_option maxRecDepth 100000 in
theorem cclear_any (S : Nat → Prop) (p : Nat) {rm : Int} {bm : Nat} {h m : Int} {L : List Ce} (w : World) (c : Ch w S p rm 0 bm h m L) :
    Calls Try.prog 14 #[.pointer (some ⟨p, 0, none⟩)] w fun e w' => e = .returned (.tuple #[]) ∧ Ch w' S p rm 0 bm h m [] ∧ BP S w w' ∧ w'.heap.size = w.heap.size := by
  have HC := hid1 c
  have c1 := c.rw.box.cell (i := 1) (by omega)
  have f1 := c.rw.box.frozen 1
  have c' := c.lock 1
  have c3 := c'.rw.box.cell (i := 3) (by omega)
  obtain ⟨D, ho, _⟩ := c'.mp
  obtain ⟨w2, hcl, how2, ht⟩ := clear_map ho
  have hbm : ∀ k, k ≠ bm → w2.heap[k]? = (w.setCell ⟨p, 1, none⟩ (.int .i32 1)).heap[k]? := turned_block ht
  have box2 := c'.rw.box.of_block (hbm _ (fun e => c'.mp.ne c'.rw.box e.symm))
  have d4 := box2.cell (i := 4) (by omega)
  have d5 := box2.cell (i := 5) (by omega)
  have g4 := box2.frozen 4
  have g5 := box2.frozen 5
  dsimp only [cf, ptr] at c1 c3 d4 d5
  generalize Option.map (fun b => (⟨b, 0, none⟩ : Addr)) (hd L none) = u4 at *
  generalize Option.map (fun b => (⟨b, 0, none⟩ : Addr)) (lt none L) = u5 at *
  have HC' := hid1 c'
  have HH := hid1 (And.intro how2 (And.intro ht box2))
  have HB := hid1 (bp_p HC.out.sp w 1 (.int .i32 1))
  clear c c' ho how2 ht hbm box2
  generalize hw : w.setCell ⟨p, 1, none⟩ (.int .i32 1) = w1 at *
  have hw' := hid1 hw
  clear hw
  go_enter_defers Try.func14, Try.ntmps14
  go_wp2_with (go_at_call 27; refine (lock_free muLib ⟨p, 1, none⟩ _ c1 f1).mono ?_; rintro e w' ⟨rfl, rfl⟩; rw [hw'.out])
  obtain ⟨how2, ht, box2⟩ := HH.out
  have c' := HC'.out
  have hsz := turned_size ht
  have box3 : ((w2.setCell ⟨p, 4, none⟩ (.pointer none)).setCell ⟨p, 5, none⟩ (.pointer none)).rowIs p 75 8 (cf rm 1 bm none none h m) := ((box2.set 4 _).set 5 _).congr (eight rfl rfl rfl rfl rfl rfl rfl rfl)
  have hb3 : ∀ k, k ≠ p → ((w2.setCell ⟨p, 4, none⟩ (.pointer none)).setCell ⟨p, 5, none⟩ (.pointer none)).heap[k]? = w2.heap[k]? := fun k hk => by
    rw [Below.heap_setCell _ _ _ _ (show k ≠ p from hk), Below.heap_setCell _ _ _ _ (show k ≠ p from hk)]
  have hpm : bm ≠ p := c'.mp.ne c'.rw.box
  have c3 : Ch ((w2.setCell ⟨p, 4, none⟩ (.pointer none)).setCell ⟨p, 5, none⟩ (.pointer none)) S p rm 1 bm h m [] :=
    ⟨⟨box3, trivial, by simp⟩, ⟨_, map_block how2 (hb3 bm hpm), by simp, fun s _ => rfl, rfl⟩, by simp, by simp, by simp, c'.sp, c'.sm, by simp, ⟨c'.rom.1, c'.rom.2.1, by have := c'.rom.1; simp; omega⟩, c'.cnt⟩
  have b3 : BP S w ((w2.setCell ⟨p, 4, none⟩ (.pointer none)).setCell ⟨p, 5, none⟩ (.pointer none)) := ((HB.out.trans (turned_bp ht c'.sm) (fun _ _ h => h)).setA (a := ⟨p, 4, none⟩) c'.sp _).setA (a := ⟨p, 5, none⟩) c'.sp _
  refine door0 (.tuple #[]) (box3.cell (i := 1) (by omega)) (box3.frozen 1) (results_none rfl _ _ _) ⟨rfl, c3.lock 0, b3.trans (bp_p c'.sp _ 1 _) (fun _ _ h => h), ?_⟩
  have := congrArg (fun X : World => X.heap.size) hw'.out
  simp at this ⊢
  omega
end Go.Proofs.Ytpjcpikafpnmpaa
