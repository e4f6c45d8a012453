/- CHUNKALL: told. -/
import Derived.Test.YtbpglkhgggokcaaDoorCH11
namespace Go.Proofs.YtbpglkhgggokcaaDoor
open Go.RowKit

/-- The five cells of an operation. -/
def opf (k : Int) (lo : Option Addr) (ln lc m : Nat) (co : Option Addr) (cn cc : Nat) (bo : Option Addr) (bn bc : Nat) : Nat → Value := fun i =>
  if i = 0 then .int .i64 k else if i = 1 then .slice lo ln lc else if i = 2 then .int .u32 m else if i = 3 then .slice co cn cc else .slice bo bn bc
theorem op_new (w : World) (k : Int) (lo : Option Addr) (ln lc m : Nat) (co : Option Addr) (cn cc : Nat) (bo : Option Addr) (bn bc : Nat) (t : TypeId) :
    (w.alloc (.cells #[.int .i64 k, .slice lo ln lc, .int .u32 m, .slice co cn cc, .slice bo bn bc] t)).rowIs w.heap.size t 5 (opf k lo ln lc m co cn cc bo bn bc) :=
  World.rowIs_alloc w _ t _ (fun i hi => by
    rcases i with _ | _ | _ | _ | _ | i
    all_goals first
      | rfl
      | (simp at hi; omega))
/-- The set that the Hand may write, but told's own three blocks. -/
def Sx (S : Nat → Prop) (h : Nat) : Nat → Prop := fun b => S b ∧ (b < h ∨ h + 1 + 1 < b)
/-- told's own memory: the operation, the answer twice. -/
structure Tk (W : World) (h b1 b2 : Nat) (o : Oq) (lo : Option Addr) (lc : Nat) (co : Option Addr) (cc : Nat) (bo : Option Addr) (bc : Nat) (F1 F2 : Nat → Value) : Prop where
  op : W.rowIs h 37 5 (opf o.k lo o.L.length lc o.m co o.cs.length cc bo o.l.length bc)
  r : W.rowIs b1 33 4 F1
  t : W.rowIs b2 33 4 F2
structure Tq (w W : World) (o : Oq) (lo : Option Addr) (lc : Nat) (co : Option Addr) (cc : Nat) (bo : Option Addr) (bc : Nat) : Prop where
  k : Tk W w.heap.size (w.heap.size + 1) (w.heap.size + 1 + 1) o lo lc co cc bo bc tzf tzf
  b : Below w.heap.size w W
  z : W.heap.size = w.heap.size + 1 + 1 + 1
theorem tq_new (w : World) (o : Oq) (lo : Option Addr) (lc : Nat) (co : Option Addr) (cc : Nat) (bo : Option Addr) (bc : Nat) :
    Tq w (((w.alloc (.cells #[.int .i64 o.k, .slice lo o.L.length lc, .int .u32 o.m, .slice co o.cs.length cc, .slice bo o.l.length bc] 37)).alloc (.cells #[.slice none 0 0, .slice none 0 0, .int .u32 0, .int .i64 0] 33)).alloc (.cells #[.slice none 0 0, .slice none 0 0, .int .u32 0, .int .i64 0] 33)) o lo lc co cc bo bc := by
  refine ⟨⟨((op_new w o.k lo o.L.length lc o.m co o.cs.length cc bo o.l.length bc _).alloc _).alloc _, ?_, ?_⟩, bl_alloc (bl_alloc (bl_alloc (Below.refl _ _) _) _) _, by simp⟩
  · have h := (tz_new (w.alloc (.cells #[.int .i64 o.k, .slice lo o.L.length lc, .int .u32 o.m, .slice co o.cs.length cc, .slice bo o.l.length bc] 37)) 33).alloc (.cells #[.slice none 0 0, .slice none 0 0, .int .u32 0, .int .i64 0] 33)
    simpa using h
  · have h := tz_new ((w.alloc (.cells #[.int .i64 o.k, .slice lo o.L.length lc, .int .u32 o.m, .slice co o.cs.length cc, .slice bo o.l.length bc] 37)).alloc (.cells #[.slice none 0 0, .slice none 0 0, .int .u32 0, .int .i64 0] 33)) 33
    simpa using h
theorem BP.self (w : World) (g o : Nat) (x : Value) : BP (· = g) w (w.setCell ⟨g, o, none⟩ x) := BP.set (S := (· = g)) (BP.refl _ w) (.inl rfl) x
theorem BP.on1 {w w' : World} {g : Nat} (h : BP (· = g) w w') (o : Nat) (x : Value) : BP (· = g) w (w'.setCell ⟨g, o, none⟩ x) := BP.set (S := (· = g)) h (.inl rfl) x
theorem sx_of {S : Nat → Prop} {h : Nat} : ∀ b, Sx S h b → S b := fun _ h => h.1
section
variable {W W1 : World} {S : Nat → Prop} {h b1 b2 : Nat} {o : Oq} {lo : Option Addr} {lc : Nat} {co : Option Addr} {cc : Nat} {bo : Option Addr} {bc : Nat} {F1 F2 G : Nat → Value}
theorem Tk.bp (k : Tk W h b1 b2 o lo lc co cc bo bc F1 F2) (hu : BP S W W1) (h0 : ¬ S h) (h1 : ¬ S b1) (h2 : ¬ S b2) : Tk W1 h b1 b2 o lo lc co cc bo bc F1 F2 := ⟨hu.row h0 k.op, hu.row h1 k.r, hu.row h2 k.t⟩
theorem sx_no {S : Nat → Prop} {h b1 b2 : Nat} (e1 : b1 = h + 1) (e2 : b2 = h + 1 + 1) : ¬ Sx S h h ∧ ¬ Sx S h b1 ∧ ¬ Sx S h b2 := ⟨fun k => by have := k.2; omega, fun k => by have := k.2; omega, fun k => by have := k.2; omega⟩
theorem Tk.setT (k : Tk W h b1 b2 o lo lc co cc bo bc F1 F2) (hne : b1 ≠ b2) (i : Nat) (x : Value) : Tk (W.setCell ⟨b2, i, none⟩ x) h b1 b2 o lo lc co cc bo bc F1 (fun j => if j = i then x else F2 j) :=
  ⟨k.op.setOther (a := ⟨b2, i, none⟩) (row_ne k.op k.t (by decide)) _, k.r.setOther (a := ⟨b2, i, none⟩) hne _, k.t.set i x⟩
theorem Tk.cells (k : Tk W h b1 b2 o lo lc co cc bo bc F1 F2) : (∀ i, i < 5 → W.cell? ⟨h, i, none⟩ = some (opf o.k lo o.L.length lc o.m co o.cs.length cc bo o.l.length bc i)) ∧ (∀ i, i < 4 → W.cell? ⟨b1, i, none⟩ = some (F1 i)) ∧ ∀ i, i < 4 → W.cell? ⟨b2, i, none⟩ = some (F2 i) := ⟨fun _ hi => k.op.cell hi, fun _ hi => k.r.cell hi, fun _ hi => k.t.cell hi⟩
theorem Tk.congr (k : Tk W h b1 b2 o lo lc co cc bo bc F1 F2) (hG : ∀ i, i < 4 → F2 i = G i) : Tk W h b1 b2 o lo lc co cc bo bc F1 G := ⟨k.op, k.r, k.t.congr hG⟩
end
/-- What told answers; all of it new memory from z on; the Hand lies below z, in S. -/
structure To (w w' : World) (S : Nat → Prop) (hb : Nat) (o : Oq) (bo : Option Addr) (bn bc : Nat) (co : Option Addr) (cn cc : Nat) : Prop where
  z : ∃ z gs S', w.heap.size ≤ z ∧ z ≤ w'.heap.size ∧ bn = (aB o).length ∧ cn = (aC o).length ∧ w'.ownsRow z 5 1 (.slice bo bn bc) bn (u8s (aB o)) ∧ Ans w' z (.slice co cn cc) (aC o) gs ∧ Hi w' S' hb ∧ (∀ b, S' b → S b ∧ b < z) ∧ bc = bn ∧ ∀ g ∈ gs, (Value.slice bo bn bc).ownBlock ≠ some g
  b : BP S w w'
set_option maxHeartbeats 3200000 in
set_option maxRecDepth 100000 in
theorem told_none (o : Oq) (S : Nat → Prop) (hb : Nat) (lo : Option Addr) (lc : Nat) (co : Option Addr) (cc : Nat) (bo : Option Addr) (bc : Nat) (w : World) (h1 : o.k ≠ 1) (h2 : o.k ≠ 2) (h3 : o.k ≠ 3) (hh : Hi w S hb) :
    Calls Tryd.prog 5 #[.pointer (some ⟨hb, 0, none⟩), ov o.k lo o.L.length lc o.m co o.cs.length cc bo o.l.length bc] w fun e w' => ∃ b bn bcp c cn cp, e = .returned (.tuple #[tld b bn bcp c cn cp (aS o : Nat) (aE o : Nat), .bool true]) ∧ To w w' S hb o b bn bcp c cn cp := by
  have eB : aB o = [] := by unfold aB; rw [if_neg h2]
  have eC : aC o = [] := by unfold aC; rw [if_neg h3]
  have eS : aS o = 0 := by unfold aS; rw [if_neg h1]
  have eE : aE o = 0 := by unfold aE; rw [if_neg h2, if_neg h3]
  have HH := hid1 hh
  have fin : Hid (∀ W, Below w.heap.size w W → To w W S hb o none 0 0 none 0 0) := hid1 fun W hW => by
    obtain ⟨vb, ve, vl, vc, le, gi, ci, fs, hf⟩ := HH.out
    refine ⟨⟨w.heap.size, [], fun b => S b ∧ b < w.heap.size, Nat.le_refl _, hW.size, by rw [eB]; rfl, by rw [eC]; rfl, by rw [eB]; exact World.ownsRow_nil _ _ _ _, by rw [eC]; exact Ans.nil _ _, ⟨vb, ve, vl, vc, le, gi, ci, fs, (hf.sub fun b h1 h2 => ⟨h1, h2⟩).below hW⟩, fun b h => h, rfl, fun g hg => by simp at hg⟩, BP.bel hW⟩
  obtain ⟨k, L, m, cs, l⟩ := o
  simp only at h1 h2 h3 ⊢
  rw [eS, eE]
  have k1 : ¬ k = 1 := h1
  have k2 : ¬ k = 2 := h2
  have k3 : ¬ k = 3 := h3
  clear eB eC eS eE hh
  go_enter Tryd.func5, Tryd.ntmps5
  go_wp2_with fail
  refine bodyPost_ret (v := .tuple #[tld none 0 0 none 0 0 0 0, .bool true]) (by simp [results, Tryd.results5, go_sem]) rfl ⟨none, 0, 0, none, 0, 0, rfl, fin.out _ ?_⟩
  exact bl_alloc (bl_alloc (bl_alloc (Below.refl _ _) _) _) _
set_option maxHeartbeats 3200000 in
set_option maxRecDepth 100000 in
theorem told_sum (o : Oq) (S : Nat → Prop) (hb : Nat) (lo : Option Addr) (lc : Nat) (co : Option Addr) (cc : Nat) (bo : Option Addr) (bc : Nat) (w : World) (h1 : o.k = 1) (hz : ∀ b, w.heap.size ≤ b → S b) (hh : Hi w S hb) (hm : Ow w S o lo co bo bc) (LD : Laid w) (hg : ¬ S 0) :
    Calls Tryd.prog 5 #[.pointer (some ⟨hb, 0, none⟩), ov o.k lo o.L.length lc o.m co o.cs.length cc bo o.l.length bc] w fun e w' => ∃ b bn bcp c cn cp, e = .returned (.tuple #[tld b bn bcp c cn cp (aS o : Nat) (aE o : Nat), .bool true]) ∧ To w w' S hb o b bn bcp c cn cp := by
  have eB : aB o = [] := by unfold aB; rw [if_neg (by omega)]
  have eC : aC o = [] := by unfold aC; rw [if_neg (by omega)]
  have eS : aS o = crc (cat o.L) := by unfold aS; rw [if_pos h1]
  have eE : aE o = 0 := by unfold aE; rw [if_neg (by omega), if_neg (by omega)]
  obtain ⟨vb, ve, vl, vc, le, gi, ci, fs, hf⟩ := hh
  have EB := hid1 eB
  have EC := hid1 eC
  have HF := hid1 hf
  have HZ := hid1 hz
  have HM := hid1 hm
  have HD := hid1 LD
  have HG := hid1 hg
  obtain ⟨s, es⟩ : ∃ s, aS o = s := ⟨_, rfl⟩
  have ES := hid1 (es.symm.trans eS)
  obtain ⟨J, eJ⟩ : ∃ J, o.L.length = J := ⟨_, rfl⟩
  have EJ := hid1 eJ
  have TN := hid1 (tq_new w o lo lc co cc bo bc)
  rw [es, eE, eJ, h1]
  rw [eJ, h1] at TN
  clear hf hz hm LD hg eB eC eS eE es eJ
  go_enter Tryd.func5, Tryd.ntmps5
  go_wp2_with fail
  refine gen_calls (fun W => Tq w W o lo lc co cc bo bc) TN.out ?_
  intro W hq
  have hz1 : ∀ b, W.heap.size ≤ b → Sx S w.heap.size b := fun b hb => ⟨HZ.out b (by have := hq.z; omega), by have := hq.z; omega⟩
  have hf1 : Hf W (Sx S w.heap.size) hb vb ve vl vc le gi ci fs := (HF.out.sub fun b h1 h2 => ⟨h1, .inl h2⟩).below hq.b
  have hm1 : Ow W (Sx S w.heap.size) o lo co bo bc := (HM.out.bp (T := fun _ => False) (BP.bel hq.b) fun _ h => h.elim).sub sx_of
  have LA := list_any (Sx S w.heap.size) hb vb ve vl vc le gi ci fs lo lc o.L W hm1.Ln hm1.Lm hz1 hf1 hm1.L
  rw [EJ.out] at LA
  refine LA.mono ?_
  rintro e W1 ⟨g, c, ve', le', gi', ci', pt, fs', rfl, hJ1, hc, hlz⟩
  obtain ⟨b1, eb1⟩ : ∃ x, w.heap.size + 1 = x := ⟨_, rfl⟩
  obtain ⟨b2, eb2⟩ : ∃ x, b1 + 1 = x := ⟨_, rfl⟩
  obtain ⟨n0, n1, n2⟩ := sx_no (S := S) (h := w.heap.size) (b1 := b1) (b2 := b2) eb1.symm (by omega)
  have hne : b1 ≠ b2 := by omega
  have w1b : w.heap.size ≤ b1 := by omega
  have w2b : w.heap.size ≤ b2 := by omega
  have hk := hq.k
  rw [eb1] at hk ⊢
  rw [eb2] at hk ⊢
  have hk1 := hk.bp hlz.bp n0 n1 n2
  have bp1 : BP S w W1 := ((BP.bel hq.b).trans hlz.bp fun _ _ h => h.1)
  have ld1 := HD.out.bp bp1 HG.out
  have SA := sum_any (some ⟨g, 0, none⟩) c o.L W1 ld1 (by have := hm1.Ln; omega) (fun l hl => by have := hm1.Lm l hl; omega) (hlz.bys (by rw [EJ.out]; omega) (fun l hl => by
    obtain ⟨j, hj⟩ := List.getElem?_of_mem hl
    obtain ⟨_, _, _, _, _, _, y, _⟩ := hm1.L j l hj
    exact y.byte))
  rw [EJ.out, ← ES.out] at SA
  have Hlz := hid1 hlz
  have HK1 := hid1 hk1
  have HB1 := hid1 bp1
  obtain ⟨C0, _, C2⟩ := hk1.cells
  have o1 := C0 1 (by omega)
  have t2 := C2 2 (by omega)
  have ft2 := hk1.t.frozen 2
  simp only [opf, tf, EJ.out] at o1 t2
  simp at o1 t2
  have hn02 : ¬ w.heap.size = b2 := by omega
  clear LA hz1 hf1 hm1 hk hq ld1 C0 C2 hk1 hlz bp1
  go_wp2_with fail
  refine SA.mono ?_
  rintro e Wx ⟨rfl, rfl⟩
  clear SA
  go_wp2_with fail
  have hk2 := (HK1.out.setT hne 2 (.int .u32 (s : Int))).congr (G := tf (.slice none 0 0) (.slice none 0 0) s 0) (fun i hi => by
    rcases (show i = 0 ∨ i = 1 ∨ i = 2 ∨ i = 3 by omega) with rfl | rfl | rfl | rfl <;> rfl)
  have bpT : BP (· = b2) Wx (Wx.setCell ⟨b2, 2, none⟩ (.int .u32 (s : Int))) := BP.self _ _ _ _
  have hT : ∀ b, Sx S w.heap.size b → b < Wx.heap.size → Sx S w.heap.size b ∧ b < Wx.heap.size := fun b h1 h2 => ⟨h1, h2⟩
  have hlz2 := Hlz.out.now (T := fun b => Sx S w.heap.size b ∧ b < Wx.heap.size) bpT (fun b e => by
    subst e
    exact ⟨n2, fun n F hr => row_ne hr HK1.out.t (by decide) rfl⟩) hT
  have bp2 : BP S w (Wx.setCell ⟨b2, 2, none⟩ (.int .u32 (s : Int))) := HB1.out.set (.inr w2b) _
  have hm3 := HM.out.bp bp2 fun _ h => h
  have KA := keptList_any _ hb g c vb ve' vc le' gi' ci' pt fs' lo lc o.L _ _ (by rw [EJ.out]; exact hJ1) hc hlz2 (hm3.L.sub fun b h => h.1.1)
  rw [EJ.out] at KA
  have zw := HB1.out.size
  have HK2 := hid1 hk2
  have HB2 := hid1 bp2
  clear hk2 bpT hT hlz2 hm3 bp2 HB1 HK1 Hlz o1 t2 ft2
  refine KA.mono ?_
  rintro e W3 ⟨rfl, ⟨fs3, hf3⟩, bp3⟩
  have hk3 := HK2.out.bp bp3 (fun h => n0 h.1) (fun h => n1 h.1) (fun h => n2 h.1)
  have HB3 := hid1 (HB2.out.trans bp3 fun b _ h => h.1.1)
  have HF3 := hid1 hf3
  have zz := bp3.size
  have ZZ : Hid (w.heap.size ≤ Wx.heap.size ∧ Wx.heap.size ≤ W3.heap.size) := hid1 ⟨zw, by simpa using zz⟩
  obtain ⟨_, C1, C2⟩ := hk3.cells
  have r0 := C1 0 (by omega)
  have r1 := C1 1 (by omega)
  have r2 := C1 2 (by omega)
  have r3 := C1 3 (by omega)
  have t0 := C2 0 (by omega)
  have t1 := C2 1 (by omega)
  have t2 := C2 2 (by omega)
  have t3 := C2 3 (by omega)
  have g0 := hk3.r.frozen 0
  have g1 := hk3.r.frozen 1
  have g2 := hk3.r.frozen 2
  have g3 := hk3.r.frozen 3
  simp [tf] at r0 r1 r2 r3 t0 t1 t2 t3
  clear KA C1 C2 hk3 HK2 HB2 zz bp3 hf3
  go_wp2_with fail
  have fin : ∀ X, BP (· = b1) W3 X → To w X S hb o none 0 0 none 0 0 := fun X hX => by
    have z1 := ZZ.out
    have z2 := hX.size
    refine ⟨⟨Wx.heap.size, [], _, z1.1, by omega, by rw [EB.out]; rfl, by rw [EC.out]; rfl, by rw [EB.out]; exact World.ownsRow_nil _ _ _ _, by rw [EC.out]; exact Ans.nil _ _, ⟨_, _, _, _, _, _, _, _, HF3.out.bp hX fun b h e => ?_⟩, fun b h => ⟨h.1.1, h.2⟩, rfl, fun g hg => by simp at hg⟩, HB3.out.trans hX fun b h e => ?_⟩
    · subst e; exact n1 h.1
    · subst e; omega
  refine bodyPost_ret (v := .tuple #[tld none 0 0 none 0 0 s 0, .bool true]) (by simp [results, Tryd.results5, go_sem, r0, r1, r2, r3]) rfl ⟨none, 0, 0, none, 0, 0, rfl, fin _ ?_⟩
  iterate 4 (refine BP.on1 ?_ _ _)
  exact BP.refl _ _
end Go.Proofs.YtbpglkhgggokcaaDoor
