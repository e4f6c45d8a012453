/- CHUNKALL: told of Write. -/
import Derived.Test.YtbpglkhgggokcaaDoorCH12
namespace Go.Proofs.YtbpglkhgggokcaaDoor
open Go.RowKit

/-- Behind Write's call: the Hand filled, the answer laid. -/
structure Ex (w wx : World) (S : Nat → Prop) (hb : Nat) (o : Oq) (lo : Option Addr) (lc : Nat) (co : Option Addr) (cc : Nat) (bo : Option Addr) (bc b1 b2 z g c : Nat) (vb ve vl : Value) (le : Nat) (gi ci : Nat → Nat) (fs : Nat → Nat → Value) (ao : Option Addr) (an ac : Nat) : Prop where
  t : Tz wx wx (fun b => Sx S w.heap.size b ∧ b < z) hb g c o.cs vb ve vl le gi ci fs
  j : o.cs.length + 1 ≤ c
  m : c ≤ maxLen
  k : Tk wx w.heap.size b1 b2 o lo lc co cc bo bc tzf (tf (.slice ao an ac) (.slice none 0 0) 0 (wrE o.cs : Nat))
  n : an = (wrB o.m o.cs).length
  q : ac = an
  a : wx.ownsRow z 5 1 (.slice ao an ac) an (u8s (wrB o.m o.cs))
  b : BP S w wx
  z : w.heap.size + 1 + 1 < z ∧ z ≤ wx.heap.size
theorem Ex.make {w X W1 W2 : World} {S : Nat → Prop} {hb : Nat} {o : Oq} {lo : Option Addr} {lc : Nat} {co : Option Addr} {cc : Nat} {bo : Option Addr} {bc b1 b2 g c : Nat} {vb ve vl : Value} {le : Nat} {gi ci : Nat → Nat} {fs : Nat → Nat → Value} {ao : Option Addr} {an ac : Nat}
    (e1 : b1 = w.heap.size + 1) (e2 : b2 = w.heap.size + 1 + 1) (ht : Tz X W1 (Sx S w.heap.size) hb g c o.cs vb ve vl le gi ci fs) (hj : o.cs.length + 1 ≤ c) (hm : c ≤ maxLen) (hX : Below w.heap.size w X) (hk : Tk X w.heap.size b1 b2 o lo lc co cc bo bc tzf tzf) (hn : an = (wrB o.m o.cs).length) (hq : ac = an) (ha : W2.ownsRow W1.heap.size 5 1 (.slice ao an ac) an (u8s (wrB o.m o.cs))) (hb2 : Below W1.heap.size W1 W2) :
    Ex w ((W2.setCell ⟨b2, 0, none⟩ (.slice ao an ac)).setCell ⟨b2, 3, none⟩ (.int .i64 (wrE o.cs : Nat))) S hb o lo lc co cc bo bc b1 b2 W1.heap.size g c vb ve vl le gi ci fs ao an ac := by
  obtain ⟨n0, n1, n2⟩ := sx_no (S := S) (h := w.heap.size) e1 e2
  have hk1 := hk.bp ht.bp n0 n1 n2
  have hk2 := hk1.bp (S := fun _ => False) (BP.bel hb2) (fun h => h) (fun h => h) (fun h => h)
  have hne : b1 ≠ b2 := by omega
  have zb := hk1.t.lt
  have hu : BP (· = b2) W1 ((W2.setCell ⟨b2, 0, none⟩ (.slice ao an ac)).setCell ⟨b2, 3, none⟩ (.int .i64 (wrE o.cs : Nat))) := ((BP.bel hb2 : BP (· = b2) W1 W2).on1 _ _).on1 _ _
  have hu2 : BP (· = b2) W2 ((W2.setCell ⟨b2, 0, none⟩ (.slice ao an ac)).setCell ⟨b2, 3, none⟩ (.int .i64 (wrE o.cs : Nat))) := ((BP.refl _ _).on1 _ _).on1 _ _
  refine ⟨ht.now hu (fun b h e => n2 (e ▸ h)) fun b h1 h2 => ⟨h1, h2⟩, hj, hm, ((hk2.setT hne 0 _).setT hne 3 _).congr fun i hi => ?_, hn, hq, own_keep hu2 ha fun b hb e => ?_, ?_, by omega, by have := hu.size; exact this⟩
  · rcases (show i = 0 ∨ i = 1 ∨ i = 2 ∨ i = 3 by omega) with rfl | rfl | rfl | rfl <;> rfl
  · have := (ha.lt b hb).1
    omega
  · exact ((BP.bel hX : BP S w X).trans ht.bp fun _ _ h => h.1).trans hu fun x hx e => by omega
set_option maxHeartbeats 3200000 in
set_option maxRecDepth 100000 in
theorem told_write (o : Oq) (S : Nat → Prop) (hb : Nat) (lo : Option Addr) (lc : Nat) (co : Option Addr) (cc : Nat) (bo : Option Addr) (bc : Nat) (w : World) (h1 : o.k = 2) (hz : ∀ b, w.heap.size ≤ b → S b) (hh : Hi w S hb) (hm : Ow w S o lo co bo bc) (LD : Laid w) (hg : ¬ S 0) :
    Calls Tryd.prog 5 #[.pointer (some ⟨hb, 0, none⟩), ov o.k lo o.L.length lc o.m co o.cs.length cc bo o.l.length bc] w fun e w' => ∃ b bn bcp c cn cp, e = .returned (.tuple #[tld b bn bcp c cn cp (aS o : Nat) (aE o : Nat), .bool true]) ∧ To w w' S hb o b bn bcp c cn cp := by
  have eB : aB o = wrB o.m o.cs := by unfold aB; rw [if_pos h1]
  have eC : aC o = [] := by unfold aC; rw [if_neg (by omega)]
  have eS : aS o = 0 := by unfold aS; rw [if_neg (by omega)]
  have eE : aE o = wrE o.cs := by unfold aE; rw [if_pos h1]
  obtain ⟨vb, ve, vl, vc, le, gi, ci, fs, hf⟩ := hh
  have EB := hid1 eB
  have EC := hid1 eC
  have HF := hid1 hf
  have HZ := hid1 hz
  have HM := hid1 hm
  have HD := hid1 LD
  have HG := hid1 hg
  obtain ⟨E, eEE⟩ : ∃ s, wrE o.cs = s := ⟨_, rfl⟩
  have EE := hid1 eEE
  obtain ⟨J, eJ⟩ : ∃ J, o.cs.length = J := ⟨_, rfl⟩
  have EJ := hid1 eJ
  have TN := hid1 (tq_new w o lo lc co cc bo bc)
  rw [eS, eE, eEE, eJ, h1]
  rw [eJ, h1] at TN
  clear hf hz hm LD hg eB eC eS eE eEE eJ
  go_enter Tryd.func5, Tryd.ntmps5
  go_upto_region 8 with fail
  refine gen_world (fun W => Tq w W o lo lc co cc bo bc) TN.out ?_
  intro W hq
  have hz1 : ∀ b, W.heap.size ≤ b → Sx S w.heap.size b := fun b hb => ⟨HZ.out b (by have := hq.z; omega), by have := hq.z; omega⟩
  have hf1 : Hf W (Sx S w.heap.size) hb vb ve vl vc le gi ci fs := (HF.out.sub fun b h1 h2 => ⟨h1, .inl h2⟩).below hq.b
  have hm1 : Ow W (Sx S w.heap.size) o lo co bo bc := (HM.out.bp (T := fun _ => False) (BP.bel hq.b) fun _ h => h.elim).sub sx_of
  obtain ⟨b1, eb1⟩ : ∃ x, w.heap.size + 1 = x := ⟨_, rfl⟩
  obtain ⟨b2, eb2⟩ : ∃ x, b1 + 1 = x := ⟨_, rfl⟩
  have E1 := hid1 eb1.symm
  have E2 : Hid (b2 = w.heap.size + 1 + 1) := hid1 (by omega)
  obtain ⟨n0, n1, n2⟩ := sx_no (S := S) (h := w.heap.size) (b1 := b1) (b2 := b2) eb1.symm (by omega)
  have hne : b1 ≠ b2 := by omega
  have w1b : w.heap.size ≤ b1 := by omega
  have w2b : w.heap.size ≤ b2 := by omega
  have hk := hq.k
  rw [eb1] at hk ⊢
  rw [eb2] at hk ⊢
  have TA : Hid (∀ X, Below W.heap.size W X → Calls Tryd.prog 14 #[.pointer (some ⟨hb, 0, none⟩), .slice co J cc] X fun e w' => ∃ g c ve' le' gi' ci' fs', e = .returned (.slice (some ⟨g, 0, none⟩) J c) ∧ J + 1 ≤ c ∧ c ≤ maxLen ∧ Tz X w' (Sx S w.heap.size) hb g c o.cs vb ve' vl le' gi' ci' fs') := hid1 fun X hX => by
    have hm2 := hm1.bp (T := fun _ => False) (BP.bel hX) fun _ h => h.elim
    have h := those_any (Sx S w.heap.size) hb vb ve vl vc le gi ci fs co cc o.cs X hm2.cn hm2.cm (fun b hb => hz1 b (by have := hX.size; omega)) (hf1.below hX) hm2.c
    rw [EJ.out] at h
    exact h
  have WA : Hid (∀ X W1 g c ve' le' gi' ci' fs', Below W.heap.size W X → J + 1 ≤ c → Tz X W1 (Sx S w.heap.size) hb g c o.cs vb ve' vl le' gi' ci' fs' → Calls Tryd.prog 8 #[.int .u32 o.m, .slice (some ⟨g, 0, none⟩) J c] W1 fun e w' => ∃ ao an, e = .returned (.tuple #[.slice ao an an, .int .i64 (E : Nat)]) ∧ an = (wrB o.m o.cs).length ∧ w'.ownsRow W1.heap.size 5 1 (.slice ao an an) an (u8s (wrB o.m o.cs)) ∧ Below W1.heap.size W1 w') := hid1 fun X W1 g c ve' le' gi' ci' fs' hX hJ ht => by
    have h := write_tot o.m (some ⟨g, 0, none⟩) c o.cs W1 (HD.out.bp ((BP.bel (bl_step hq.b hX) : BP S w X).trans ht.bp fun _ _ h => h.1) HG.out) (by have := hm1.cn; omega) (ht.cs (by rw [EJ.out]; omega) hm1.cm (hm1.c.cs hm1.cm).ok)
    rw [EJ.out, EE.out] at h
    exact h
  obtain ⟨C0, _, C2⟩ := hk.cells
  have o2 := C0 2 (by omega)
  have o3 := C0 3 (by omega)
  simp only [opf, EJ.out] at o2 o3
  simp at o2 o3
  have HK := hid1 hk
  have HQB := hid1 hq.b
  have hn02 : ¬ w.heap.size = b2 := by omega
  clear hz1 hf1 hm1 hq C0 C2 hk TN
  go_cut [] (fun wx => ∃ z g c ve le gi ci fs ao an ac, Ex w wx S hb o lo lc co cc bo bc b1 b2 z g c vb ve vl le gi ci fs ao an ac)
  case first =>
    go_region_with (first
      | (go_at_call 8; refine (WA.out X W1 g c ve' le' gi' ci' fs' hX hJ1 Htz.out).mono ?_; rintro e W2 ⟨ao, an, rfl, hn, ha, hb2⟩; have r2 := keepr hb2 HK1.out.t; have t0 := r2.cell (i := 0) (by omega); have t3 := r2.cell (i := 3) (by omega); have ft0 := r2.frozen 0; have ft3 := r2.frozen 3; have HA := hid1 ha; have HN := hid1 hn; clear r2 ha hn)
      | (go_at_call 14; refine gen_calls (fun X => Below W.heap.size W X) (Below.drew (Below.refl _ _)) ?_; intro X hX; refine (TA.out X hX).mono ?_; rintro e W1 ⟨g, c, ve', le', gi', ci', fs', rfl, hJ1, hc, htz⟩; have HK1 := hid1 ((HK.out.bp (S := fun _ => False) (BP.bel hX) (fun h => h) (fun h => h) (fun h => h)).bp htz.bp n0 n1 n2); have p2 := htz.bp.cell n0 (keepc hX o2); have Htz := hid1 htz; clear htz))
    all_goals (refine meet_of (by assumption) ?_; go_meet; have hfin := Ex.make E1.out E2.out Htz.out (by rw [EJ.out]; exact hJ1) hc (bl_step HQB.out hX) (HK.out.bp (S := fun _ => False) (BP.bel hX) (fun h => h) (fun h => h) (fun h => h)) HN.out rfl HA.out hb2; rw [EE.out] at hfin; exact ⟨_, _, _, _, _, _, _, _, _, _, _, hfin⟩)
  case rest =>
    clear TA WA HK o2 o3 HQB HF
    obtain ⟨z, g, c, ve, le, gi, ci, fs, ao, an, ac, hex⟩ := hcut
    have o3 := hex.k.op.cell (i := 3) (by omega)
    simp only [opf, EJ.out] at o3
    simp at o3
    have hm3 := HM.out.bp hex.b fun _ h => h
    have KA := keptThose_any _ hb g c vb ve vl le gi ci fs co cc o.cs wc wc hex.j hex.m hex.t (hm3.c.sub fun b h => h.1.1)
    rw [EJ.out] at KA
    have HEX := hid1 hex
    clear hex hm3
    go_wp2_with fail
    refine KA.mono ?_
    rintro e W3 ⟨rfl, ⟨fs3, hf3⟩, bp3⟩
    have hk3 := HEX.out.k.bp bp3 (fun h => n0 h.1) (fun h => n1 h.1) (fun h => n2 h.1)
    have HB3 := hid1 (HEX.out.b.trans bp3 fun b _ h => h.1.1)
    have HF3 := hid1 hf3
    have HA3 := hid1 (own_keep bp3 HEX.out.a fun b hb h => by
      have := (HEX.out.a.lt b hb).1
      have := h.2
      omega)
    have ZZ : Hid (w.heap.size ≤ z ∧ w.heap.size + 1 + 1 < z ∧ z ≤ W3.heap.size) := hid1 (by have := HEX.out.z; have := bp3.size; omega)
    have EN := hid1 HEX.out.n
    have EQ := hid1 HEX.out.q
    obtain ⟨_, C1, C2⟩ := hk3.cells
    have r0 := C1 0 (by omega)
    have r1 := C1 1 (by omega)
    have r2 := C1 2 (by omega)
    have r3 := C1 3 (by omega)
    have t0 := C2 0 (by omega)
    have t1 := C2 1 (by omega)
    have t2 := C2 2 (by omega)
    have t3 := C2 3 (by omega)
    have g0 := hk3.r.frozen 0
    have g1 := hk3.r.frozen 1
    have g2 := hk3.r.frozen 2
    have g3 := hk3.r.frozen 3
    simp [tf, EE.out] at r0 r1 r2 r3 t0 t1 t2 t3
    clear KA C1 C2 hk3 HEX bp3 hf3 o3
    go_wp2_with fail
    have fin : ∀ X, BP (· = b1) W3 X → To w X S hb o ao an ac none 0 0 := fun X hX => by
      have z1 := ZZ.out
      have z2 := hX.size
      have z3 := E1.out
      refine ⟨⟨z, [], _, z1.1, by omega, by rw [EB.out]; exact EN.out, by rw [EC.out]; rfl, (by
        rw [EB.out]
        refine own_keep hX HA3.out fun b hb e => ?_
        have := (HA3.out.lt b hb).1
        omega), by rw [EC.out]; exact Ans.nil _ _, ⟨_, _, _, _, _, _, _, _, HF3.out.bp hX fun b h e => ?_⟩, fun b h => ⟨h.1.1, h.2⟩, EQ.out, fun g hg => by simp at hg⟩, HB3.out.trans hX fun b h e => ?_⟩
      · subst e; exact n1 h.1
      · subst e; omega
    refine bodyPost_ret (v := .tuple #[tld ao an ac none 0 0 0 E, .bool true]) (by simp [results, Tryd.results5, go_sem, r0, r1, r2, r3]) rfl ⟨ao, an, ac, none, 0, 0, rfl, fin _ ?_⟩
    iterate 4 (refine BP.on1 ?_ _ _)
    exact BP.refl _ _
end Go.Proofs.YtbpglkhgggokcaaDoor
