/- CACHE: letGo, add. -/
import Derived.Test.YtpjcpikafpnmpaaAK5
namespace Go.Proofs.Ytpjcpikafpnmpaa
open Go.RowKit

theorem turned_block {w w' : World} {bm : Nat} (h : w.mapTurned w' bm) : ∀ k, k ≠ bm → w'.heap[k]? = w.heap[k]? := by
  obtain ⟨es, clock, es', clock', hb, rfl⟩ := h
  exact fun k hk => ChangeMaps.heap_setBlock_other hb _ hk
theorem turned_size {w w' : World} {bm : Nat} (h : w.mapTurned w' bm) : w'.heap.size = w.heap.size := by
  obtain ⟨es, clock, es', clock', hb, rfl⟩ := h
  simp [ChangeMaps.setBlock]
theorem turned_bp {S : Nat → Prop} {w w' : World} {bm : Nat} (h : w.mapTurned w' bm) (hs : S bm) : BP S w w' := by
  obtain ⟨es, clock, es', clock', hb, rfl⟩ := h
  exact ⟨rfl, rfl, rfl, by simp [ChangeMaps.setBlock], fun k _ hn => ChangeMaps.heap_setBlock_other hb _ (fun e => hn (e ▸ hs))⟩
theorem bp_drew {S : Nat → Prop} {w w' : World} (h : BP S w.drew w') : BP S w w' := ⟨h.os, h.tape, h.output, h.size, h.block⟩
set_option maxHeartbeats 800000 in
set_option maxRecDepth 100000 in
/-- letGo: one entry, with its key. -/
theorem letGo_any (S : Nat → Prop) (p : Nat) {rm mu : Int} {bm : Nat} {h m : Int} (A C : List Ce) (x : Ce) (w : World) (c : Ch w S p rm mu bm h m (A ++ x :: C)) :
    Calls Try.prog 32 #[.pointer (some ⟨p, 0, none⟩), .pointer (some ⟨x.b, 0, none⟩)] w fun e w' => e = .returned (.tuple #[]) ∧ Ch w' S p rm mu bm h m (A ++ C) ∧ w'.rowIs x.b 81 5 (ef x (lt none A) (hd C none)) ∧ BP S w w' ∧ w'.heap.size = w.heap.size := by
  have HC := hid1 c
  have hxr := ((seg_app A (x :: C) none none).1 c.rw.seg).2.1
  have x0 := hxr.cell (i := 0) (by omega)
  have p3 := c.rw.box.cell (i := 3) (by omega)
  dsimp only [ef, cf] at x0 p3
  obtain ⟨D, h1, h2, h3, h4⟩ := c.mp
  have HD := hid1 (And.intro h1 (And.intro h2 (And.intro h3 h4)))
  have hkx := c.kz x (by simp)
  have HK := hid1 (key_of (s := x.k) (by omega))
  clear h1 h2 h3 h4 hxr hkx c
  generalize hk : x.k = kx at *
  have HKX := hid1 hk
  generalize hb : x.b = bx at *
  have HBX := hid1 hb
  clear hk hb
  go_enter Try.func32, Try.ntmps32
  go_upto_region 0 with fail
  refine still_tail 8 (by decide +kernel) ?_
  simp only [List.take_succ_cons, List.take_zero, List.drop_succ_cons, List.drop_zero]
  repeat still_step
  refine wpStill_nil ?_
  go_wp2_with (at_delete; refine wpList_delete_own _ rfl _ _ _ _ rfl 71 kstr tmap pel bm _ _ rfl (map_block HD.out.1 rfl) _ _ rfl HK.out ?_; intro w1 hown1 ht1)
  have c := HC.out
  have hbm : ∀ {b t n : Nat} {f : Nat → Value}, w.rowIs b t n f → b ≠ bm := fun r e => c.mp.ne r e.symm
  have r1 : Rw w1 p rm mu bm h m (A ++ x :: C) := c.rw.keep (turned_block ht1 _ (hbm c.rw.box)) fun y hy => turned_block ht1 _ (by obtain ⟨_, _, e⟩ := c.rw.seg.at y hy; exact hbm e)
  have l1 : ∀ y ∈ A ++ x :: C, Ow w1 0 y.v y.l := fun y hy => (c.lg y hy).block fun g hg => turned_block ht1 g (by
    rcases (c.lg y hy).form with ⟨e, _⟩ | ⟨g', cap, f, e, _, row, _⟩
    · rw [e] at hg; cases hg
    · rw [e] at hg; injection hg with hg; subst hg; exact hbm row)
  have hkn : ∀ y ∈ A ++ C, y.k ≠ x.k := fun y hy => by
    have hn := c.ks
    rw [List.map_append, List.nodup_append] at hn
    rcases List.mem_append.1 hy with h | h
    · exact hn.2.2 _ (List.mem_map_of_mem h) _ (List.mem_map_of_mem (by simp))
    · intro e
      exact (List.nodup_cons.1 hn.2.1).1 (List.mem_map.2 ⟨y, h, e⟩)
  have hM1 : Mp w1 bm (A ++ C) := by
    obtain ⟨g1, g2, g3, g4⟩ := HD.out
    refine mp_del (x := x) (D := D) (n := (A ++ x :: C).length) ?_ (g1.tidy kstr) g2 g3 g4 hkn
    rw [HKX.out]
    exact hown1
  have b1 : BP S w w1 := bp_drew (turned_bp ht1 c.sm)
  have z1 : w1.heap.size = w.heap.size := (turned_size ht1 : w1.heap.size = w.drew.heap.size)
  have HD1 := hid1 (drop_any p A C x w1 r1)
  rw [HBX.out] at HD1
  have HR1 := hid1 r1
  have HL1 := hid1 l1
  have HM1 := hid1 hM1
  have HB1 := hid1 b1
  clear r1 l1 hkn hM1 b1 c hown1 ht1
  refine HD1.out.mono ?_
  rintro e w2 ⟨rfl, r2, hx2, b2, z2⟩
  go_wp2_with fail
  have c := HC.out
  have hsub : ∀ k, Rb p (A ++ C) k → Rb p (A ++ x :: C) k := by
    rintro k (e | ⟨y, hy, e⟩)
    · exact .inl e
    · exact .inr ⟨y, by rcases List.mem_append.1 hy with h | h <;> simp [h], e⟩
  have hin : ∀ y ∈ A ++ C, y ∈ A ++ x :: C := fun y hy => by rcases List.mem_append.1 hy with h | h <;> simp [h]
  have hS : ∀ k, Rb p (A ++ C) k → S k := by
    rintro k (rfl | ⟨y, hy, rfl⟩)
    · exact c.sp
    · exact (c.se y (hin y hy)).1
  refine bodyPost_end (results_none rfl _ _ _) rfl ⟨rfl, ⟨r2, mp_bp HR1.out hsub b2 HM1.out, fun y hy => lg_bp HR1.out hsub b2 HL1.out y (hin y hy), ?_, fun y hy => c.kz y (hin y hy), c.sp, c.sm, fun y hy => c.se y (hin y hy), ⟨c.rom.1, c.rom.2.1, ?_⟩, c.cnt⟩, ?_, HB1.out.trans (b2.mono fun k _ h => hS k h) (fun _ _ h => h), z2.trans z1⟩
  · refine c.ks.sublist ?_
    simp
  · have := c.rom.2.2
    simp at this ⊢
    omega
  · exact hx2
set_option maxHeartbeats 800000 in
set_option maxRecDepth 100000 in
/-- add: an entry whose key is not there. -/
theorem add_any (S : Nat → Prop) (p : Nat) {rm mu : Int} {bm : Nat} {h m : Int} (L : List Ce) (x : Ce) (pp qq : Option Nat) (w : World) (c : Ch w S p rm mu bm h m L)
    (hx : w.rowIs x.b 81 5 (ef x pp qq)) (hn : ∀ y ∈ L, y.b ≠ x.b) (hkn : ∀ y ∈ L, y.k ≠ x.k) (hl : Ow w 0 x.v x.l) (hz : x.k.size ≤ 65536 ∧ x.l.length * 8 ≤ 140737488355328) (hs : S x.b ∧ ∀ g, x.v.ownBlock = some g → S g) (hr : (L.length : Int) + 1 ≤ rm) :
    Calls Try.prog 33 #[.pointer (some ⟨p, 0, none⟩), .pointer (some ⟨x.b, 0, none⟩)] w fun e w' => e = .returned (.tuple #[]) ∧ Ch w' S p rm mu bm h m (x :: L) ∧ BP S w w' ∧ w'.heap.size = w.heap.size := by
  have HC := hid1 c
  have x0 := hx.cell (i := 0) (by omega)
  have p3 := c.rw.box.cell (i := 3) (by omega)
  dsimp only [ef, cf] at x0 p3
  obtain ⟨D, h1, h2, h3, h4⟩ := c.mp
  have HD := hid1 (And.intro h1 (And.intro h2 (And.intro h3 h4)))
  have HK := hid1 (key_of (s := x.k) (by omega))
  have hlen : L.length < maxLen := by
    have := c.rom.2.1
    unfold maxLen
    omega
  have HX := hid1 (And.intro hx (And.intro hn (And.intro hkn (And.intro hl (And.intro hz (And.intro hs hr))))))
  clear h1 h2 h3 h4 c hx hn hkn hl hz hs hr
  generalize hk : x.k = kx at *
  have HKX := hid1 hk
  generalize hb : x.b = bx at *
  have HBX := hid1 hb
  clear hk hb
  go_enter Try.func33, Try.ntmps33
  go_upto_region 0 with fail
  refine still_tail 9 (by decide +kernel) ?_
  simp only [List.take_succ_cons, List.take_zero, List.drop_succ_cons, List.drop_zero]
  repeat still_step
  refine wpStill_nil ?_
  go_wp2_with (at_mapUpdate; refine wpList_mapUpdate_in _ rfl _ _ _ _ rfl 9 71 kstr tmap pel bm _ _ rfl (map_block HD.out.1 rfl) hlen _ _ _ rfl rfl HK.out _ _ (pel_ptr bx) ?_; intro w1 hown1 ht1)
  have c := HC.out
  obtain ⟨hx, hn, hkn, hl, hz, hs, hr⟩ := HX.out
  have hbm : ∀ {b t n : Nat} {f : Nat → Value}, w.rowIs b t n f → b ≠ bm := fun r e => c.mp.ne r e.symm
  have r1 : Rw w1 p rm mu bm h m L := c.rw.keep (turned_block ht1 _ (hbm c.rw.box)) fun y hy => turned_block ht1 _ (by obtain ⟨_, _, e⟩ := c.rw.seg.at y hy; exact hbm e)
  have hin : ∀ y ∈ x :: L, Ow w 0 y.v y.l := fun y hy => by
    rcases List.mem_cons.1 hy with rfl | hy
    · exact hl
    · exact c.lg y hy
  have l1 : ∀ y ∈ x :: L, Ow w1 0 y.v y.l := fun y hy => (hin y hy).block fun g hg => turned_block ht1 g (by
    rcases (hin y hy).form with ⟨e, _⟩ | ⟨g', cap, f, e, _, row, _⟩
    · rw [e] at hg; cases hg
    · rw [e] at hg; injection hg with hg; subst hg; exact hbm row)
  have hM1 : Mp w1 bm (x :: L) := by
    obtain ⟨g1, g2, g3, g4⟩ := HD.out
    refine mp_put (x := x) (D := D) ?_ (g1.tidy kstr) g2 g3 g4 (by rw [HKX.out]; exact hkn)
    rw [HKX.out, HBX.out]
    exact hown1
  have hx1 := hx.of_block (turned_block ht1 bx (hbm hx))
  have b1 : BP S w w1 := bp_drew (turned_bp ht1 c.sm)
  have z1 : w1.heap.size = w.heap.size := (turned_size ht1 : w1.heap.size = w.drew.heap.size)
  have HA := hid1 (add_row p L x pp qq w1 r1 (by rw [HBX.out]; exact hx1) (by rw [HBX.out]; exact hn))
  rw [HBX.out] at HA
  have HR1 := hid1 (And.intro r1 hx1)
  have HL1 := hid1 l1
  have HM1 := hid1 hM1
  have HB1 := hid1 b1
  clear r1 hx1 l1 hin hM1 b1 c hown1 ht1 hx hn hkn hl hz hs hr
  refine HA.out.mono ?_
  rintro e w2 ⟨rfl, r2, b2, z2⟩
  go_wp2_with fail
  have c := HC.out
  obtain ⟨hx, hn, hkn, hl, hz, hs, hr⟩ := HX.out
  have hbm : ∀ {b t n : Nat} {f : Nat → Value}, w1.rowIs b t n f → b ≠ bm := fun r e => HM1.out.ne r e.symm
  have hmem : ∀ k, Rb p (x :: L) k → S k ∧ ∃ t n f, w1.rowIs k t n f ∧ t ≠ 2 := by
    rintro k (rfl | ⟨y, hy, rfl⟩)
    · exact ⟨c.sp, _, _, _, HR1.out.1.box, by decide⟩
    · rcases List.mem_cons.1 hy with rfl | hy
      · rw [HBX.out]; exact ⟨hs.1, _, _, _, HR1.out.2, by decide⟩
      · obtain ⟨_, _, e⟩ := HR1.out.1.seg.at y hy
        exact ⟨(c.se y hy).1, _, _, _, e, by decide⟩
  refine bodyPost_end (results_none rfl _ _ _) rfl ⟨rfl, ⟨r2, HM1.out.keep (b2.block _ HM1.out.lt fun h => ?_), fun y hy => (HL1.out y hy).block fun g hg => b2.block g ((HL1.out y hy).lt g hg).2 fun h => ?_, ?_, ?_, c.sp, c.sm, ?_, ⟨c.rom.1, c.rom.2.1, ?_⟩, c.cnt⟩, HB1.out.trans (b2.mono fun k _ h => (hmem k h).1) (fun _ _ h => h), z2.trans z1⟩
  · obtain ⟨_, t, n, f, e, _⟩ := hmem _ h
    exact hbm e rfl
  · obtain ⟨_, t, n, f, e, ht⟩ := hmem _ h
    rcases (HL1.out y hy).form with ⟨e', _⟩ | ⟨g', cap, f', e', _, row, _⟩
    · rw [e'] at hg; cases hg
    · rw [e'] at hg; injection hg with hg; subst hg
      exact row_ne row e (fun e => ht e.symm) rfl
  · exact List.nodup_cons.2 ⟨fun h => by
      obtain ⟨y, hy, e⟩ := List.mem_map.1 h
      exact hkn y hy (by rw [← HKX.out]; exact e), c.ks⟩
  · intro y hy
    rcases List.mem_cons.1 hy with rfl | hy
    · rw [HKX.out]; exact hz
    · exact c.kz y hy
  · intro y hy
    rcases List.mem_cons.1 hy with rfl | hy
    · rw [HBX.out]; exact hs
    · exact c.se y hy
  · simp; omega
end Go.Proofs.Ytpjcpikafpnmpaa
