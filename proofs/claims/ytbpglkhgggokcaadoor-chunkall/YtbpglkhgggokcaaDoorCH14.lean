/- CHUNKALL: told of Read, and of every operation. -/
import Derived.Test.YtbpglkhgggokcaaDoorCH13
namespace Go.Proofs.YtbpglkhgggokcaaDoor
open Go.RowKit

/-- Behind Read's call: the Hand filled, the answer laid. -/
structure Er (w wx : World) (S : Nat → Prop) (hb : Nat) (o : Oq) (lo : Option Addr) (lc : Nat) (co : Option Addr) (cc : Nat) (bo : Option Addr) (bc b1 b2 z g c : Nat) (ve vl vc : Value) (le : Nat) (gi ci : Nat → Nat) (fs : Nat → Nat → Value) (ao : Option Addr) (an ac : Nat) (gs : List Nat) : Prop where
  t : Hf wx (fun b => Sx S w.heap.size b ∧ b < z) hb (.slice (some ⟨g, 0, none⟩) c c) ve vl vc le gi ci fs
  x : wx.rowIs g 5 c (ff o.l)
  j : o.l.length + 3 ≤ c
  m : c ≤ maxLen
  k : Tk wx w.heap.size b1 b2 o lo lc co cc bo bc tzf (tf (.slice none 0 0) (.slice ao an ac) 0 (readE o.m o.l : Nat))
  n : an = (rdL o.m o.l).length
  a : Ans wx z (.slice ao an ac) (rdL o.m o.l) gs
  b : BP S w wx
  z : w.heap.size + 1 + 1 < z ∧ z ≤ wx.heap.size
theorem Er.make {w X W1 W2 : World} {S : Nat → Prop} {hb : Nat} {o : Oq} {lo : Option Addr} {lc : Nat} {co : Option Addr} {cc : Nat} {bo : Option Addr} {bc b1 b2 g c : Nat} {ve vl vc : Value} {le : Nat} {gi ci : Nat → Nat} {fs : Nat → Nat → Value} {ao : Option Addr} {an ac : Nat} {gs : List Nat}
    (e1 : b1 = w.heap.size + 1) (e2 : b2 = w.heap.size + 1 + 1) (ht : Hf W1 (Sx S w.heap.size) hb (.slice (some ⟨g, 0, none⟩) c c) ve vl vc le gi ci fs) (hx : W1.rowIs g 5 c (ff o.l)) (hbp : BP (Sx S w.heap.size) X W1) (hj : o.l.length + 3 ≤ c) (hm : c ≤ maxLen) (hX : Below w.heap.size w X) (hk : Tk X w.heap.size b1 b2 o lo lc co cc bo bc tzf tzf) (hn : an = (rdL o.m o.l).length) (ha : Ans W2 W1.heap.size (.slice ao an ac) (rdL o.m o.l) gs) (hb2 : Below W1.heap.size W1 W2) :
    Er w ((W2.setCell ⟨b2, 1, none⟩ (.slice ao an ac)).setCell ⟨b2, 3, none⟩ (.int .i64 (readE o.m o.l : Nat))) S hb o lo lc co cc bo bc b1 b2 W1.heap.size g c ve vl vc le gi ci fs ao an ac gs := by
  obtain ⟨n0, n1, n2⟩ := sx_no (S := S) (h := w.heap.size) e1 e2
  have hk1 := hk.bp hbp n0 n1 n2
  have hk2 := hk1.bp (S := fun _ => False) (BP.bel hb2) (fun h => h) (fun h => h) (fun h => h)
  have hne : b1 ≠ b2 := by omega
  have zb := hk1.t.lt
  have hu : BP (· = b2) W1 ((W2.setCell ⟨b2, 1, none⟩ (.slice ao an ac)).setCell ⟨b2, 3, none⟩ (.int .i64 (readE o.m o.l : Nat))) := ((BP.bel hb2 : BP (· = b2) W1 W2).on1 _ _).on1 _ _
  have hu2 : BP (· = b2) W2 ((W2.setCell ⟨b2, 1, none⟩ (.slice ao an ac)).setCell ⟨b2, 3, none⟩ (.int .i64 (readE o.m o.l : Nat))) := ((BP.refl _ _).on1 _ _).on1 _ _
  refine ⟨(ht.sub fun b h1 h2 => ⟨h1, h2⟩).bp hu fun b h e => n2 (e ▸ h.1), hu.row (fun e => n2 (e ▸ ht.q.s.2.1 g rfl)) hx, hj, hm, ((hk2.setT hne 1 _).setT hne 3 _).congr fun i hi => ?_, hn, ha.bp hu2 (fun b hb e => ?_) (fun b hb e => ?_), ?_, by omega, by have := hu.size; exact this⟩
  · rcases (show i = 0 ∨ i = 1 ∨ i = 2 ∨ i = 3 by omega) with rfl | rfl | rfl | rfl <;> rfl
  · have := (ha.own.lt b hb).1
    omega
  · have := (ha.lt b hb).1
    omega
  · exact ((BP.bel hX : BP S w X).trans hbp fun _ _ h => h.1).trans hu fun x hx e => by omega
set_option maxHeartbeats 3200000 in
set_option maxRecDepth 100000 in
theorem told_read (o : Oq) (S : Nat → Prop) (hb : Nat) (lo : Option Addr) (lc : Nat) (co : Option Addr) (cc : Nat) (bo : Option Addr) (bc : Nat) (w : World) (h1 : o.k = 3) (hz : ∀ b, w.heap.size ≤ b → S b) (hh : Hi w S hb) (hm : Ow w S o lo co bo bc) (LD : Laid w) (hg : ¬ S 0) :
    Calls Tryd.prog 5 #[.pointer (some ⟨hb, 0, none⟩), ov o.k lo o.L.length lc o.m co o.cs.length cc bo o.l.length bc] w fun e w' => ∃ b bn bcp c cn cp, e = .returned (.tuple #[tld b bn bcp c cn cp (aS o : Nat) (aE o : Nat), .bool true]) ∧ To w w' S hb o b bn bcp c cn cp := by
  have eB : aB o = [] := by unfold aB; rw [if_neg (by omega)]
  have eC : aC o = rdL o.m o.l := by unfold aC; rw [if_pos h1]
  have eS : aS o = 0 := by unfold aS; rw [if_neg (by omega)]
  have eE : aE o = readE o.m o.l := by unfold aE; rw [if_neg (by omega), if_pos h1]
  obtain ⟨vb, ve, vl, vc, le, gi, ci, fs, hf⟩ := hh
  have EB := hid1 eB
  have EC := hid1 eC
  have HF := hid1 hf
  have HZ := hid1 hz
  have HM := hid1 hm
  have HD := hid1 LD
  have HG := hid1 hg
  obtain ⟨E, eEE⟩ : ∃ s, readE o.m o.l = s := ⟨_, rfl⟩
  have EE := hid1 eEE
  obtain ⟨J, eJ⟩ : ∃ J, o.l.length = J := ⟨_, rfl⟩
  have EJ := hid1 eJ
  have TN := hid1 (tq_new w o lo lc co cc bo bc)
  rw [eS, eE, eEE, eJ, h1]
  rw [eJ, h1] at TN
  clear hf hz hm LD hg eB eC eS eE eEE eJ
  go_enter Tryd.func5, Tryd.ntmps5
  go_upto_region 12 with fail
  refine gen_world (fun W => Tq w W o lo lc co cc bo bc) TN.out ?_
  intro W hq
  have hz1 : ∀ b, W.heap.size ≤ b → Sx S w.heap.size b := fun b hb => ⟨HZ.out b (by have := hq.z; omega), by have := hq.z; omega⟩
  have hf1 : Hf W (Sx S w.heap.size) hb vb ve vl vc le gi ci fs := (HF.out.sub fun b h1 h2 => ⟨h1, .inl h2⟩).below hq.b
  have hm1 : Ow W (Sx S w.heap.size) o lo co bo bc := (HM.out.bp (T := fun _ => False) (BP.bel hq.b) fun _ h => h.elim).sub sx_of
  obtain ⟨b1, eb1⟩ : ∃ x, w.heap.size + 1 = x := ⟨_, rfl⟩
  obtain ⟨b2, eb2⟩ : ∃ x, b1 + 1 = x := ⟨_, rfl⟩
  have E1 := hid1 eb1.symm
  have E2 : Hid (b2 = w.heap.size + 1 + 1) := hid1 (by omega)
  obtain ⟨n0, n1, n2⟩ := sx_no (S := S) (h := w.heap.size) (b1 := b1) (b2 := b2) eb1.symm (by omega)
  have hne : b1 ≠ b2 := by omega
  have w1b : w.heap.size ≤ b1 := by omega
  have w2b : w.heap.size ≤ b2 := by omega
  have hk := hq.k
  rw [eb1] at hk ⊢
  rw [eb2] at hk ⊢
  have TA : Hid (∀ X, Below W.heap.size W X → Calls Tryd.prog 16 #[.pointer (some ⟨hb, 0, none⟩), .slice bo J bc] X fun e w' => ∃ g c, e = .returned (.slice (some ⟨g, 0, none⟩) J c) ∧ J + 3 ≤ c ∧ c ≤ maxLen ∧ Hf w' (Sx S w.heap.size) hb (.slice (some ⟨g, 0, none⟩) c c) ve vl vc le gi ci fs ∧ w'.rowIs g 5 c (ff o.l) ∧ BP (Sx S w.heap.size) X w') := hid1 fun X hX => by
    have hm2 := hm1.bp (T := fun _ => False) (BP.bel hX) fun _ h => h.elim
    have h := one_any (Sx S w.heap.size) hb vb ve vl vc le gi ci fs bo bc o.l X hm2.bn (fun b hb => hz1 b (by have := hX.size; omega)) (hf1.below hX) hm2.b
    rw [EJ.out] at h
    exact h
  have WA : Hid (∀ X W1 g c, Below W.heap.size W X → J + 3 ≤ c → c ≤ maxLen → W1.rowIs g 5 c (ff o.l) → BP (Sx S w.heap.size) X W1 → Calls Tryd.prog 9 #[.int .u32 o.m, .slice (some ⟨g, 0, none⟩) J c] W1 fun e w' => ∃ ao an ac gs, e = .returned (.tuple #[.slice ao an ac, .int .i64 (E : Nat)]) ∧ an = (rdL o.m o.l).length ∧ Ans w' W1.heap.size (.slice ao an ac) (rdL o.m o.l) gs ∧ Below W1.heap.size W1 w') := hid1 fun X W1 g c hX hJ hc hx hbp => by
    have h := read_tot o.m (some ⟨g, 0, none⟩) c o.l W1 (HD.out.bp ((BP.bel (bl_step hq.b hX) : BP S w X).trans hbp fun _ _ h => h.1) HG.out) (ff_by hx (by rw [EJ.out]; omega) hm1.b.byte) (by rw [EJ.out]; omega) (by unfold maxLen at hc; exact hc)
    rw [EJ.out, EE.out] at h
    exact h
  obtain ⟨C0, _, C2⟩ := hk.cells
  have o2 := C0 2 (by omega)
  have o4 := C0 4 (by omega)
  simp only [opf, EJ.out] at o2 o4
  simp at o2 o4
  have HK := hid1 hk
  have HQB := hid1 hq.b
  have hn02 : ¬ w.heap.size = b2 := by omega
  clear hz1 hf1 hm1 hq C0 C2 hk TN
  go_cut [] (fun wx => ∃ z g c ao an ac gs, Er w wx S hb o lo lc co cc bo bc b1 b2 z g c ve vl vc le gi ci fs ao an ac gs)
  case first =>
    go_region_with (first
      | (go_at_call 9; refine (WA.out X W1 g c hX hJ1 hc HX1.out HBP.out).mono ?_; rintro e W2 ⟨ao, an, ac, gs, rfl, hn, ha, hb2⟩; have r2 := keepr hb2 HK1.out.t; have t1 := r2.cell (i := 1) (by omega); have t3 := r2.cell (i := 3) (by omega); have ft1 := r2.frozen 1; have ft3 := r2.frozen 3; have HA := hid1 ha; have HN := hid1 hn; clear r2 ha hn)
      | (go_at_call 16; refine gen_calls (fun X => Below W.heap.size W X) (Below.drew (Below.refl _ _)) ?_; intro X hX; refine (TA.out X hX).mono ?_; rintro e W1 ⟨g, c, rfl, hJ1, hc, htz, hx1, hbp⟩; have HK1 := hid1 ((HK.out.bp (S := fun _ => False) (BP.bel hX) (fun h => h) (fun h => h) (fun h => h)).bp hbp n0 n1 n2); have p2 := hbp.cell n0 (keepc hX o2); have Htz := hid1 htz; have HX1 := hid1 hx1; have HBP := hid1 hbp; clear htz hx1 hbp))
    all_goals (refine meet_of (by assumption) ?_; go_meet; have hfin := Er.make E1.out E2.out Htz.out HX1.out HBP.out (by rw [EJ.out]; exact hJ1) hc (bl_step HQB.out hX) (HK.out.bp (S := fun _ => False) (BP.bel hX) (fun h => h) (fun h => h) (fun h => h)) HN.out HA.out hb2; rw [EE.out] at hfin; exact ⟨_, _, _, _, _, _, _, hfin⟩)
  case rest =>
    clear TA WA HK o2 o4 HQB HF
    obtain ⟨z, g, c, ao, an, ac, gs, hex⟩ := hcut
    have o4 := hex.k.op.cell (i := 4) (by omega)
    simp only [opf, EJ.out] at o4
    simp at o4
    have hb0 : wc.cell? ⟨hb, 0, none⟩ = some (.slice (some ⟨g, 0, none⟩) c c) := hex.t.q.h.cell (by omega)
    have AF : Hid (∀ X, Below wc.heap.size wc X → Calls Tryd.prog 17 #[.slice (some ⟨g, 0, none⟩) c c, .slice bo J bc] X fun e w' => e = .returned (.bool true) ∧ w'.rowIs g 5 c (fun _ => .int .u8 99) ∧ BP (· = g) X w') := hid1 fun X hX => by
      have hm3 := (HM.out.bp hex.b fun _ h => h).bp (T := fun _ => False) (BP.bel hX) fun _ h => h.elim
      have h := asFilled_any g c bo bc o.l X (by have := hex.m; unfold maxLen at this; omega) (by have := hex.j; omega) (keepr hX hex.x) hm3.b (fun p hp hl e => hm3.bs p hp hl (by rw [e]; exact (hex.t.q.s.2.1 g rfl).1.1))
      rw [EJ.out] at h
      exact h
    have HEX := hid1 hex
    clear hex
    go_upto_region 13 with fail
    refine still_tail 6 (by kernel_rfl) ?_
    simp only [List.take_succ_cons, List.take_zero, List.drop_succ_cons, List.drop_zero]
    repeat still_step
    refine wpStill_nil ?_
    go_upto_region 14 with (go_at_call 17; refine gen_calls (fun X => Below wc.heap.size wc X) (Below.drew (Below.refl _ _)) ?_; intro X hX; refine (AF.out X hX).mono ?_; rintro e W3 ⟨rfl, hrow3, hbut3⟩)
    have bp3 : BP (· = g) wc W3 := (BP.bel hX : BP (· = g) wc X).trans hbut3 fun _ _ h => h
    have hgS : Sx S w.heap.size g ∧ g < z := HEX.out.t.q.s.2.1 g rfl
    have hf3 := ((HEX.out.t.below hX).q.onB hbut3 hrow3)
    have hl3 := (HEX.out.t.below hX).l.bp hbut3 (fun g' e e2 => HEX.out.t.l.ne HEX.out.x (by decide) (e.trans (by rw [e2])))
    have hc3 := (HEX.out.t.below hX).c.bp hbut3 (fun g' e e2 => HEX.out.t.c.ne HEX.out.x (by decide) (e.trans (by rw [e2])))
    have HF3 := hid1 (show Hf W3 (fun b => Sx S w.heap.size b ∧ b < z) hb (.slice (some ⟨g, 0, none⟩) c c) ve vl vc le gi ci fs from ⟨hf3, hl3, hc3, HEX.out.t.nl, HEX.out.t.sl, HEX.out.t.sc⟩)
    have hk3 := HEX.out.k.bp bp3 (fun h => n0 (h ▸ hgS.1)) (fun h => n1 (h ▸ hgS.1)) (fun h => n2 (h ▸ hgS.1))
    have HB3 := hid1 (HEX.out.b.trans bp3 fun b _ h => by rw [h]; exact hgS.1.1)
    have HA3 := hid1 (HEX.out.a.bp bp3 (fun b hb h => by
      have := (HEX.out.a.own.lt b hb).1
      have := hgS.2
      omega) (fun b hb h => by
      have := (HEX.out.a.lt b hb).1
      have := hgS.2
      omega))
    have ZZ : Hid (w.heap.size ≤ z ∧ w.heap.size + 1 + 1 < z ∧ z ≤ W3.heap.size) := hid1 (by have := HEX.out.z; have := bp3.size; omega)
    have EN := hid1 HEX.out.n
    obtain ⟨_, C1, C2⟩ := hk3.cells
    have r0 := C1 0 (by omega)
    have r1 := C1 1 (by omega)
    have r2 := C1 2 (by omega)
    have r3 := C1 3 (by omega)
    have t0 := C2 0 (by omega)
    have t1 := C2 1 (by omega)
    have t2 := C2 2 (by omega)
    have t3 := C2 3 (by omega)
    have g0 := hk3.r.frozen 0
    have g1 := hk3.r.frozen 1
    have g2 := hk3.r.frozen 2
    have g3 := hk3.r.frozen 3
    simp [tf, EE.out] at r0 r1 r2 r3 t0 t1 t2 t3
    clear AF C1 C2 hk3 HEX bp3 hf3 hl3 hc3 hbut3 hrow3 hX hgS o4 hb0
    go_wp2_with fail
    have fin : ∀ X, BP (· = b1) W3 X → To w X S hb o none 0 0 ao an ac := fun X hX => by
      have z1 := ZZ.out
      have z2 := hX.size
      have z3 := E1.out
      refine ⟨⟨z, gs, _, z1.1, by omega, by rw [EB.out]; rfl, by rw [EC.out]; exact EN.out, by rw [EB.out]; exact World.ownsRow_nil _ _ _ _, (by
        rw [EC.out]
        refine HA3.out.bp hX (fun b hb e => ?_) (fun b hb e => ?_)
        · have := (HA3.out.own.lt b hb).1
          omega
        · have := (HA3.out.lt b hb).1
          omega), ⟨_, _, _, _, _, _, _, _, HF3.out.bp hX fun b h e => ?_⟩, fun b h => ⟨h.1.1, h.2⟩, rfl, fun g hg => by simp [Value.ownBlock]⟩, HB3.out.trans hX fun b h e => ?_⟩
      · subst e; exact n1 h.1
      · subst e; omega
    refine bodyPost_ret (v := .tuple #[tld none 0 0 ao an ac 0 E, .bool true]) (by simp [results, Tryd.results5, go_sem, r0, r1, r2, r3]) rfl ⟨none, 0, 0, ao, an, ac, rfl, fin _ ?_⟩
    iterate 4 (refine BP.on1 ?_ _ _)
    exact BP.refl _ _
/-- told of every operation. -/
theorem told_any (o : Oq) (S : Nat → Prop) (hb : Nat) (lo : Option Addr) (lc : Nat) (co : Option Addr) (cc : Nat) (bo : Option Addr) (bc : Nat) (w : World) (hz : ∀ b, w.heap.size ≤ b → S b) (hh : Hi w S hb) (hm : Ow w S o lo co bo bc) (LD : Laid w) (hg : ¬ S 0) :
    Calls Tryd.prog 5 #[.pointer (some ⟨hb, 0, none⟩), ov o.k lo o.L.length lc o.m co o.cs.length cc bo o.l.length bc] w fun e w' => ∃ b bn bcp c cn cp, e = .returned (.tuple #[tld b bn bcp c cn cp (aS o : Nat) (aE o : Nat), .bool true]) ∧ To w w' S hb o b bn bcp c cn cp := by
  by_cases k1 : o.k = 1
  · exact told_sum o S hb lo lc co cc bo bc w k1 hz hh hm LD hg
  · by_cases k2 : o.k = 2
    · exact told_write o S hb lo lc co cc bo bc w k2 hz hh hm LD hg
    · by_cases k3 : o.k = 3
      · exact told_read o S hb lo lc co cc bo bc w k3 hz hh hm LD hg
      · exact told_none o S hb lo lc co cc bo bc w k1 k2 k3 hh
end Go.Proofs.YtbpglkhgggokcaaDoor
