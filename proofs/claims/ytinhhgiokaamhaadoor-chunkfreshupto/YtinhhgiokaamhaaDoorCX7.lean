/- CHUNKFRESH: asked. -/
import Derived.Test.YtinhhgiokaamhaaDoorCX6
namespace Go.Proofs.YtinhhgiokaamhaaDoor
open Go.RowKit

theorem info_told : (Tryd.prog.info? 47).map (fun i => (i.zero, i.size, i.bytes)) = some (some (.agg #[.slice none 0 0, .slice none 0 0, .int .u32 0, .int .i64 0]), 4, 64) := by kernel_rfl
theorem und_tolds : Tryd.prog.underlying 61 = some (.slice 47) := by kernel_rfl
theorem cell_tf_new (w : World) (x y : Value) (s e : Int) (t : TypeId) : ∀ j u, (rowL (tf x y s e) 4)[j]? = some u → (w.alloc (.cells #[x, y, .int .u32 s, .int .i64 e] t)).cell? ((⟨w.heap.size, 0, none⟩ : Addr).add j) = some u := by
  intro j u hj
  obtain ⟨h1, rfl⟩ := rowL_get hj
  rcases (show j = 0 ∨ j = 1 ∨ j = 2 ∨ j = 3 by omega) with rfl | rfl | rfl | rfl <;> simp [Addr.add, go_sem, tf]
theorem one_tf (x y : Option Addr) (a b c d : Nat) (s e : Int) : ∀ v ∈ rowL (tf (.slice x a b) (.slice y c d) s e) 4, v.oneCell' = true := by
  intro v hv
  obtain ⟨j, hj⟩ := List.getElem?_of_mem hv
  obtain ⟨h1, rfl⟩ := rowL_get hj
  rcases (show j = 0 ∨ j = 1 ∨ j = 2 ∨ j = 3 by omega) with rfl | rfl | rfl | rfl <;> rfl
theorem by_ltc {W : World} {ao : Option Addr} {l : List Nat} (h : By W ao l) : ∀ p, ao = some p → l ≠ [] → p.block < W.heap.size := fun p hp hl => by
  obtain ⟨g, o, x, e, _, c, _⟩ := h.at (k := 0) (by rcases l with _ | _ <;> simp_all)
  rw [hp] at e
  injection e with e
  subst e
  exact lt_of_cell c
theorem cso_move {w w1 : World} {S S' T : Nat → Prop} {lo : Option Addr} {cs : List Ck} (h : CsO w S lo cs) (hu : BP T w w1) (h1 : ∀ z, ¬ S z → z < w.heap.size → ¬ T z) (h2 : ∀ z, ¬ S z → z < w.heap.size → S' z) : CsO w1 (fun z => ¬ S' z) lo cs := fun j c hj => by
  obtain ⟨gl, ol, ao, cp, e, k0, k1, y, ht, s1, s2⟩ := h j c hj
  have hl := lt_of_cell k0
  exact ⟨gl, ol, ao, cp, e, hu.cell (h1 gl s1 hl) k0, hu.cell (h1 gl s1 hl) k1, y.bp hu fun p hp hn => h1 _ (s2 p hp hn) (by_ltc y p hp hn), ht, fun hn => hn (h2 gl s1 hl), fun p hp hn hq => hq (h2 _ (s2 p hp hn) (by_ltc y p hp hn))⟩
section
variable {V F : World} {Q Q' : Nat → Prop} {qb z0 : Nat} {vg vx vg' vx' : Value} {mu : Int} {n : Nat} {a : Nat → Te} {b : Nat → Tw} {e : Te} {f : Tw}
theorem At.below' {w w1 : World} {a : Te} (h : At w a) (hu : Below w.heap.size w w1) : At w1 a := h.bp (T := fun _ => False) (BP.bel hu) fun _ _ h => h
/-- An answer more. -/
theorem Qk.push (h : Qk V Q qb vg vx mu n a b) (hQ : ∀ z, Q z → z < z0) (hQQ : ∀ z, Q z ∨ z0 ≤ z → Q' z) (hz : z0 ≤ V.heap.size) (hu : BP (fun z => z = qb ∨ vg.ownBlock = some z ∨ vx.ownBlock = some z) V F) (hr : F.rowIs qb 63 3 (bkf vg' vx' mu))
    (hg : Wt F vg' (n + 1) (fun i => tev (upd a n e i))) (hx : Wt F vx' (n + 1) (fun i => twv (upd a n e i) (upd b n f i))) (hg1 : ∀ g, vg'.ownBlock = some g → vg.ownBlock = some g ∨ V.heap.size ≤ g) (hx1 : ∀ g, vx'.ownBlock = some g → vx.ownBlock = some g ∨ V.heap.size ≤ g) (hs : ∀ g, vg'.ownBlock = some g → vx'.ownBlock ≠ some g)
    (ha : At V e) (hab : ∀ z, AbT e z → z0 ≤ z) (hb1 : By V f.b e.bs) (hb2 : ∀ p, f.b = some p → z0 ≤ p.block) (hb3 : CsO V (· < z0) f.c e.cs) : Qk F Q' qb vg' vx' mu (n + 1) (upd a n e) (upd b n f) := by
  have hT : ∀ z, (z = qb ∨ vg.ownBlock = some z ∨ vx.ownBlock = some z) → Q z := fun z hz => by
    rcases hz with rfl | hz | hz
    · exact h.s.1
    · exact h.s.2.1 z hz
    · exact h.s.2.2.1 z hz
  have hTt : ∀ z, (z = qb ∨ vg.ownBlock = some z ∨ vx.ownBlock = some z) → ∃ T k G, V.rowIs z T k G ∧ T ≠ 5 ∧ T ≠ 37 := fun z hz => by
    rcases hz with rfl | hz | hz
    · exact ⟨_, _, _, h.h, by decide, by decide⟩
    · obtain ⟨k, G, r⟩ := h.g.row hz
      exact ⟨_, k, G, r, by decide, by decide⟩
    · obtain ⟨k, G, r⟩ := h.x.row hz
      exact ⟨_, k, G, r, by decide, by decide⟩
  have hkeep : ∀ i, i < n → At F (a i) := fun i hi => (h.an i hi).bp hu fun z hz hq => by
    obtain ⟨T, k, G, r, t1, t2⟩ := hTt z hq
    rcases hz with e1 | e1 | e1
    · exact own_row_ne (h.an i hi).o r (Ne.symm t1) e1
    · exact own_row_ne (h.an i hi).k.own r (Ne.symm t2) e1
    · obtain ⟨j, hj⟩ := List.getElem?_of_mem e1
      have hjl : j < (a i).gs.length := by
        refine Classical.byContradiction fun hn => ?_
        rw [List.getElem?_eq_none (by omega)] at hj
        exact absurd hj (by simp)
      have hjc : j < (a i).cs.length := by rw [(h.an i hi).k.len]; exact hjl
      exact own_row_ne ((h.an i hi).k.body j _ z (List.getElem?_eq_getElem hjc) hj) r (Ne.symm t1) rfl
  have hW : ∀ z, Qw Q qb vg vx z → z < V.heap.size → Qw Q' qb vg' vx' z ∧ ¬ (z = qb ∨ vg.ownBlock = some z ∨ vx.ownBlock = some z) := fun z hz hl => by
    refine ⟨⟨hQQ z (.inl hz.1), hz.2.1, fun e1 => ?_, fun e1 => ?_⟩, fun h => ?_⟩
    · rcases hg1 z e1 with e2 | e2
      · exact hz.2.2.1 e2
      · omega
    · rcases hx1 z e1 with e2 | e2
      · exact hz.2.2.2 e2
      · omega
    · rcases h with h | h | h
      · exact hz.2.1 h
      · exact hz.2.2.1 h
      · exact hz.2.2.2 h
  have hN : ∀ z, z0 ≤ z → z < V.heap.size → Qw Q' qb vg' vx' z ∧ ¬ (z = qb ∨ vg.ownBlock = some z ∨ vx.ownBlock = some z) := fun z hz hl => by
    have hn : ¬ (z = qb ∨ vg.ownBlock = some z ∨ vx.ownBlock = some z) := fun h => by have := hQ z (hT z h); omega
    refine ⟨⟨hQQ z (.inr hz), fun e1 => hn (.inl e1), fun e1 => ?_, fun e1 => ?_⟩, hn⟩
    · rcases hg1 z e1 with e2 | e2
      · exact hn (.inr (.inl e2))
      · omega
    · rcases hx1 z e1 with e2 | e2
      · exact hn (.inr (.inr e2))
      · omega
  refine ⟨hr, hg, hx, fun i hi => ?_, fun i hi => ?_, fun i j hi hj hij z h1 h2 => ?_, hs, hQQ _ (.inl h.s.1), fun g e1 => ?_, fun g e1 => ?_, fun i hi z h1 => ?_⟩
  · by_cases e1 : i = n
    · subst e1
      rw [upd_same]
      exact ha.bp hu fun z h1 h2 => by have := hab z h1; have := hQ z (hT z h2); omega
    · rw [upd_other _ _ _ e1]; exact hkeep i (by omega)
  · by_cases e1 : i = n
    · subst e1
      rw [upd_same, upd_same]
      refine ⟨hb1.bp hu fun p hp hl => (hN p.block (hb2 p hp) (by_ltc hb1 p hp hl)).2, fun p hp hl => (hN p.block (hb2 p hp) (by_ltc hb1 p hp hl)).1, cso_move hb3 hu (fun z h1 h2 => (hN z (by omega) h2).2) fun z h1 h2 => (hN z (by omega) h2).1⟩
    · rw [upd_other _ _ _ e1, upd_other _ _ _ e1]
      obtain ⟨k1, k2, k3⟩ := h.wn i (by omega)
      exact ⟨k1.bp hu fun p hp hl => (hW p.block (k2 p hp hl) (by_ltc k1 p hp hl)).2, fun p hp hl => (hW p.block (k2 p hp hl) (by_ltc k1 p hp hl)).1, cso_move k3 hu (fun z h1 h2 => (hW z (Classical.not_not.1 h1) h2).2) fun z h1 h2 => (hW z (Classical.not_not.1 h1) h2).1⟩
  · by_cases e1 : i = n <;> by_cases e2 : j = n
    · omega
    · subst e1
      rw [upd_same] at h1
      rw [upd_other _ _ _ e2] at h2
      have := hab z h1
      have := hQ z (h.s.2.2.2 j (by omega) z h2)
      omega
    · subst e2
      rw [upd_same] at h2
      rw [upd_other _ _ _ e1] at h1
      have := hab z h2
      have := hQ z (h.s.2.2.2 i (by omega) z h1)
      omega
    · rw [upd_other _ _ _ e1] at h1
      rw [upd_other _ _ _ e2] at h2
      exact h.dj i j (by omega) (by omega) hij z h1 h2
  · rcases hg1 g e1 with e2 | e2
    · exact hQQ _ (.inl (h.s.2.1 g e2))
    · exact hQQ _ (.inr (by omega))
  · rcases hx1 g e1 with e2 | e2
    · exact hQQ _ (.inl (h.s.2.2.1 g e2))
    · exact hQQ _ (.inr (by omega))
  · by_cases e1 : i = n
    · subst e1
      rw [upd_same] at h1
      exact hQQ _ (.inr (hab z h1))
    · rw [upd_other _ _ _ e1] at h1
      exact hQQ _ (.inl (h.s.2.2.2 i (by omega) z h1))
end
theorem Qk.sub {w : World} {Q T : Nat → Prop} {qb : Nat} {vg vx : Value} {mu : Int} {n : Nat} {a : Nat → Te} {b : Nat → Tw} (h : Qk w Q qb vg vx mu n a b) (hT : ∀ x, Q x → x < w.heap.size → T x) : Qk w T qb vg vx mu n a b :=
  ⟨h.h, h.g, h.x, h.an, fun i hi => ⟨(h.wn i hi).1, fun p hp hl => ⟨hT _ ((h.wn i hi).2.1 p hp hl).1 (by_ltc (h.wn i hi).1 p hp hl), ((h.wn i hi).2.1 p hp hl).2⟩, cso_move (h.wn i hi).2.2 (BP.refl (fun _ => False) w) (fun _ _ _ h => h) fun x h1 h2 => ⟨hT x (Classical.not_not.1 h1).1 h2, (Classical.not_not.1 h1).2⟩⟩, h.dj, h.sp, hT _ h.s.1 h.h.lt, fun g e => hT _ (h.s.2.1 g e) (by obtain ⟨_, _, r⟩ := h.g.row e; exact r.lt), fun g e => hT _ (h.s.2.2.1 g e) (by obtain ⟨_, _, r⟩ := h.x.row e; exact r.lt), fun i hi x hx => hT _ (h.s.2.2.2 i hi x hx) ((h.an i hi).abl x hx)⟩
theorem BP.app {w0 w w' : World} {v : Value} (hg : w.grownBy w' v.ownBlock) (hw : Below w0.heap.size w0 w) : BP (fun x => v.ownBlock = some x) w0 w' := (BP.bel hw).trans (BP.grown hg) fun _ _ e => e.symm
theorem step_told {ops : Array Oper} {o : Oper} {a : Act} {w : World} {K : Act → World → Prop} {Q : Exit → Act → World → Prop} {E : Prop}
    (hg : o.guard = none) (s x : Operand) (hop : o.op = Op.call { callee := Callee.builtin Builtin.append, args := #[s, x], argTypes := #[61, 61] })
    (v : Value) (n : Nat) (xs : List Value) (hs : a.eval s = v) (hown : w.ownsRow 0 47 4 v n xs) (ad : Addr) (F : Nat → Value) (hx : a.eval x = .slice (some ad) 1 1) (hc : ∀ j u, (rowL F 4)[j]? = some u → w.cell? (ad.add j) = some u) (h1 : ∀ u ∈ rowL F 4, u.oneCell' = true) (hn : n ≤ 4000000001)
    (hK : ∀ v' w', w'.ownsRow 0 47 4 v' (n + 1) (xs ++ rowL F 4) → w.grownBy w' v.ownBlock → (v'.ownBlock = v.ownBlock ∨ v'.ownBlock = some w.heap.size) → K (a.put o.dst v') w') :
    if Region.wanted o (yielded ops a.tmps) = true then Oper.wp Tryd.prog o a w K Q else E := by
  obtain ⟨i0, hi, hz0, hz1, hz2⟩ := info_parts info_told
  exact step_append_own2 hg s x 61 hop 0 47 i0 (.agg #[.slice none 0 0, .slice none 0 0, .int .u32 0, .int .i64 0]) 4 64 und_tolds hi hz0 hz1 hz2 rfl (by decide) v n xs hs hown ad 1 1 (rowL F 4) hx (by simp [rowL]) hc h1 (by unfold maxLen; omega) (by omega) (Nat.zero_le _) hK
theorem Qk.over {w : World} {Q : Nat → Prop} {qb : Nat} {vg vx : Value} {mu : Int} {n : Nat} {a : Nat → Te} {b : Nat → Tw} (h : Qk w Q qb vg vx mu n a b) (mu' : Int) : Qk (w.setCell ⟨qb, 2, none⟩ (.int .i64 mu')) Q qb vg vx mu' n a b := by
  have hu : BP (· = qb) w (w.setCell ⟨qb, 2, none⟩ (.int .i64 mu')) := BP.self _ _ _ _
  refine ⟨(h.h.set 2 _).congr fun j hj => ?_, h.g.bp hu fun g e e2 => h.g.ne h.h (by decide) (e.trans (by rw [e2])), h.x.bp hu fun g e e2 => h.x.ne h.h (by decide) (e.trans (by rw [e2])), fun i hi => (h.an i hi).bp hu fun z hz e => ?_, fun i hi => ⟨(h.wn i hi).1.bp hu fun p hp hl e => ((h.wn i hi).2.1 p hp hl).2.1 e, (h.wn i hi).2.1, (h.wn i hi).2.2.bp hu fun z hz hq => hq.2.1 hz⟩, h.dj, h.sp, h.s⟩
  · rcases (show j = 0 ∨ j = 1 ∨ j = 2 by omega) with rfl | rfl | rfl <;> rfl
  · subst e
    rcases hz with e1 | e1 | e1
    · exact own_row_ne (h.an i hi).o h.h (by decide) e1
    · exact own_row_ne (h.an i hi).k.own h.h (by decide) e1
    · obtain ⟨j, hj⟩ := List.getElem?_of_mem e1
      have hjl : j < (a i).gs.length := by
        refine Classical.byContradiction fun hn => ?_
        rw [List.getElem?_eq_none (by omega)] at hj
        exact absurd hj (by simp)
      have hjc : j < (a i).cs.length := by rw [(h.an i hi).k.len]; exact hjl
      exact own_row_ne ((h.an i hi).k.body j _ z (List.getElem?_eq_getElem hjc) hj) h.h (by decide) rfl
set_option maxHeartbeats 3200000 in
set_option maxRecDepth 100000 in
theorem asked_any (S Q : Nat → Prop) (hb qb nq : Nat) (o : Oq) (lo : Option Addr) (lc : Nat) (co : Option Addr) (cc : Nat) (bo : Option Addr) (bc : Nat) (w : World) (LD : Laid w) (hgS : ¬ S 0) (hgQ : ¬ Q 0) (hh : Hi w S hb) (hq : Qi w Q qb nq) (hSQ : ∀ b, S b → ¬ Q b) (hSs : ∀ b, S b → b < w.heap.size) (hQs : ∀ b, Q b → b < w.heap.size) (hn : nq ≤ 4000000000) (hm : Ow w (fun b => S b ∨ Q b ∨ w.heap.size ≤ b) o lo co bo bc) :
    Calls Tryd.prog 21 #[.pointer (some ⟨qb, 0, none⟩), .pointer (some ⟨hb, 0, none⟩), ov o.k lo o.L.length lc o.m co o.cs.length cc bo o.l.length bc] w fun e w' => e = .returned (.bool true) ∧ (∃ S' Q' nq', nq' ≤ nq + 1 ∧ Hi w' S' hb ∧ Qi w' Q' qb nq' ∧ (∀ b, S' b → ¬ Q' b) ∧ (∀ b, S' b → b < w'.heap.size ∧ (S b ∨ w.heap.size ≤ b)) ∧ (∀ b, Q' b → b < w'.heap.size ∧ (Q b ∨ w.heap.size ≤ b))) ∧ BP (fun b => S b ∨ Q b) w w' := by
  have HH := hid1 hh
  have HQ := hid1 hq
  have HSQ := hid1 hSQ
  have HQS := hid1 hQs
  have HSS := hid1 hSs
  have HM := hid1 hm
  have HD := hid1 LD
  have HGS := hid1 hgS
  have HGQ := hid1 hgQ
  have hgp := LD.pos
  clear hh hq hSQ hSs hQs hm LD hgS hgQ
  go_enter Tryd.func21, Tryd.ntmps21
  go_upto_region 1 with fail
  refine gen_world (fun W => Below w.heap.size w W ∧ W.rowIs w.heap.size 51 5 (opf o.k lo o.L.length lc o.m co o.cs.length cc bo o.l.length bc) ∧ W.heap.size = w.heap.size + 1) ⟨bl_alloc (Below.refl _ _) _, op_new _ _ _ _ _ _ _ _ _ _ _ _ _, by simp⟩ ?_
  rintro W ⟨hW, rW, zW⟩
  have TA := told_any o (fun b => S b ∨ W.heap.size ≤ b) hb lo lc co cc bo bc W (fun b h => .inr h) ((HH.out.below hW).sub fun b h _ => .inl h) ((HM.out.bp (T := fun _ => False) (BP.bel hW) fun _ h => h.elim).sub fun b h => by
    rcases h with h | h
    · exact .inl h
    · exact .inr (.inr (by omega))) (HD.out.on hW) (fun h => by
    rcases h with h | h
    · exact HGS.out h
    · omega)
  obtain ⟨s, es⟩ : ∃ s, aS o = s := ⟨_, rfl⟩
  obtain ⟨E, eE⟩ : ∃ s, aE o = s := ⟨_, rfl⟩
  rw [es, eE] at TA
  have ES := hid1 es
  have EE := hid1 eE
  have HTA := hid1 TA
  have HW := hid1 hW
  have ZW := hid1 zW
  have HRW := hid1 rW
  have o0 : W.cell? ⟨w.heap.size, 0, none⟩ = some (.int .i64 o.k) := rW.cell (by omega)
  have o1 : W.cell? ⟨w.heap.size, 1, none⟩ = some (.slice lo o.L.length lc) := rW.cell (by omega)
  have o2 : W.cell? ⟨w.heap.size, 2, none⟩ = some (.int .u32 o.m) := rW.cell (by omega)
  have o3 : W.cell? ⟨w.heap.size, 3, none⟩ = some (.slice co o.cs.length cc) := rW.cell (by omega)
  have o4 : W.cell? ⟨w.heap.size, 4, none⟩ = some (.slice bo o.l.length bc) := rW.cell (by omega)
  clear TA es eE hW rW zW
  go_upto_region 2 with (go_at_call 16; refine HTA.out.mono ?_; rintro e W1 ⟨b, bn, bcp, c, cn, cp, rfl, hto⟩)
  refine gen_world (fun P => Below W1.heap.size W1 P ∧ P.rowIs W1.heap.size 47 4 (tf (.slice b bn bcp) (.slice c cn cp) s E)) ⟨bl_alloc (Below.refl _ _) _, tf_new _ _ _ _ _ _⟩ ?_
  rintro P ⟨hP, rP⟩
  have hbb : ∀ x, x < w.heap.size → (S x ∨ W.heap.size ≤ x) → S x ∨ Q x := fun x hx h => by
    rcases h with h | h
    · exact .inl h
    · have := HW.out.size; omega
  have bpP : BP (fun b => S b ∨ Q b) w P := ((BP.bel HW.out).trans hto.b fun x hx h => hbb x hx h).step hP
  have rOP := keepr hP (hto.b.row (fun h => by
    have h1 := ZW.out
    rcases h with h | h
    · have := HSS.out _ h; omega
    · omega) HRW.out)
  obtain ⟨z, gs, S', z1, z2, en, ec, hoB, hoC, hi', hS', hbcp, hne⟩ := hto.z
  have hbcp' : bn = bcp := hbcp.symm
  subst hbcp'
  have hqP : Qi P Q qb nq := ((HQ.out.below HW.out).bp hto.b fun x hx h => by
    rcases h with h | h
    · exact HSQ.out x h hx
    · have := HQS.out x hx; have := HW.out.size; omega).below hP
  have hiP := hi'.below hP
  have hAt : At P ⟨b, bn, c, cn, cp, gs, aB o, aC o, s, E⟩ := ⟨own_mono (own_keep (S := fun _ => False) (BP.bel hP) hoB fun _ _ h => h) (Nat.zero_le _), (hoC.keep hP).mono (Nat.zero_le _), by simp only; rw [en]; exact aB_len o, by simp only; rw [ec]; exact aC_len o, aC_body HM.out.bn, hne, aB_lt HM.out⟩
  have hAz : ∀ x, AbT ⟨b, bn, c, cn, cp, gs, aB o, aC o, s, E⟩ x → z ≤ x := fun x hx => by
    rcases hx with h | h | h
    · exact (hoB.lt x h).1
    · exact (hoC.own.lt x h).1
    · exact (hoC.lt x h).1
  have WA := wanted_any o (fun b => S b ∨ Q b ∨ w.heap.size ≤ b) lo lc co cc bo bc P (HM.out.bp bpP fun x h => by
    rcases h with h | h
    · exact .inl h
    · exact .inr (.inl h))
  rw [ES.out, EE.out] at WA
  have HWA := hid1 WA
  have HAT := hid1 hAt
  have HAZ := hid1 hAz
  have HIP := hid1 hiP
  have HQP := hid1 hqP
  have HBP := hid1 bpP
  have HS' := hid1 hS'
  have EN := hid1 en
  have EC := hid1 ec
  have hzz : w.heap.size + 1 ≤ z ∧ z ≤ P.heap.size := by have := ZW.out; have := hP.size; omega
  obtain ⟨T0, eT⟩ : ∃ x, W1.heap.size = x := ⟨_, rfl⟩
  rw [eT] at rP ⊢
  have hT0 : z ≤ T0 := by omega
  have HRP := hid1 rP
  have q0 : P.cell? ⟨w.heap.size, 0, none⟩ = some (.int .i64 o.k) := rOP.cell (by omega)
  have q1 : P.cell? ⟨w.heap.size, 1, none⟩ = some (.slice lo o.L.length lc) := rOP.cell (by omega)
  have q2 : P.cell? ⟨w.heap.size, 2, none⟩ = some (.int .u32 o.m) := rOP.cell (by omega)
  have q3 : P.cell? ⟨w.heap.size, 3, none⟩ = some (.slice co o.cs.length cc) := rOP.cell (by omega)
  have q4 : P.cell? ⟨w.heap.size, 4, none⟩ = some (.slice bo o.l.length bc) := rOP.cell (by omega)
  clear hto hP rP rOP hbb bpP hi' hS' hbcp hne hoB hoC hqP hiP hAt hAz WA en ec eT z1 z2 o0 o1 o2 o3 o4 HRW HTA
  go_upto_region 3 with (go_at_call 18; refine HWA.out.mono ?_; rintro e y1 ⟨b', bn', bc', c', cn', cc', rfl, en', ec', u1, u2, u3, u4, hb1⟩; have en2 : bn = bn' := EN.out.trans en'.symm; have ec2 : cn = cn' := EC.out.trans ec'.symm; subst en2 ec2; clear en' ec')
  refine gen_world (fun V => Below y1.heap.size y1 V ∧ V.rowIs y1.heap.size 47 4 (tf (.slice b' bn bc') (.slice c' cn cc') s E)) ⟨bl_alloc (Below.refl _ _) _, tf_new _ _ _ _ _ _⟩ ?_
  rintro V ⟨hV, rV⟩
  obtain ⟨X0, eX⟩ : ∃ x, y1.heap.size = x := ⟨_, rfl⟩
  rw [eX] at rV ⊢
  have hPV : Below P.heap.size P V := bl_step hb1 hV
  have rT := keepr hPV HRP.out
  have HRT := hid1 rT
  have HRX := hid1 rV
  have HPV := hid1 hPV
  have U1 := hid1 (u1.keep hV)
  have U2 := hid1 (u2.keep hV)
  have U3 := hid1 u3
  have U4 := hid1 (u4.bp (T := fun _ => False) (BP.bel hV) fun _ h => h.elim)
  have x0 : V.cell? ⟨X0, 0, none⟩ = some (.slice b' bn bc') := rV.cell (by omega)
  have x1 : V.cell? ⟨X0, 1, none⟩ = some (.slice c' cn cc') := rV.cell (by omega)
  have hbn := HAT.out.bn
  have hcn := HAT.out.cn
  simp only at hbn hcn
  have ib0 : (0 : Int) ≤ (bn : Int) := by omega
  have ib1 : (bn : Int) ≤ 16777216 := by omega
  have ic0 : (0 : Int) ≤ (cn : Int) := by omega
  have ic1 : (cn : Int) ≤ 1024 := by omega
  have hX0 : T0 < X0 := by have := HRP.out.lt; have := hb1.size; omega
  clear hV rV hPV rT u1 u2 u3 u4 hb1 eX HWA HRP q0 q1 q2 q3 q4
  go_wp2_with fail
  go_loopw [10, 11] (fun s10 s11 wx => ∃ (n : Int) (i : Nat), s10 = .int .i64 n ∧ i ≤ cn ∧ s11 = .int .i64 i ∧ wx = V) (fun _ s11 _ => cn - (intOf s11).toNat)
  case atStart => exact ⟨_, 0, rfl, Nat.zero_le _, rfl, rfl⟩
  case round =>
    obtain ⟨n2, i, rfl, hi, rfl, ewr⟩ := hrel
    subst ewr
    have ii0 : (0 : Int) ≤ (i : Int) := by omega
    by_cases hlt : i < cn
    · have ii : (i : Int) < (cn : Int) := by omega
      have hic : i < (aC o).length := by rw [← EC.out]; exact hlt
      obtain ⟨gl, ol, ao, cp', rfl, _, ck, _⟩ := U2.out.at hic
      have hbl := aC_body HM.out.bn _ (List.getElem_mem hic)
      obtain ⟨ln, eln⟩ : ∃ ln, (aC o)[i].2.length = ln := ⟨_, rfl⟩
      rw [eln] at ck hbl
      have il0 : (0 : Int) ≤ (ln : Int) := by omega
      have il1 : (ln : Int) ≤ 16777216 := by omega
      clear eln
      go_wp2_with fail
      exact ⟨⟨_, i + 1, rfl, by omega, by go_num, trivial⟩, by simp [intOf]; omega⟩
    · have e9 : cn = i := by omega
      subst e9
      clear hlt hi ii0
      obtain ⟨vg, vx, mu, qa, qc, hqk⟩ := HQP.out.below HPV.out
      have OA := hid1 (qover_any qb vg vx mu n2 wr hqk.h)
      have HQK := hid1 hqk
      clear hqk HQP
      go_upto_if 46 with (go_at_call 43; refine OA.out.mono ?_; rintro e w2' ⟨r, mu', rfl, rfl⟩)
      refine gen_world (fun w2 => Qk w2 Q qb vg vx mu' nq qa qc ∧ BP Q wr w2) ⟨HQK.out.over mu', (BP.refl Q wr).set (.inl HQK.out.s.1) _⟩ ?_
      rintro w2 ⟨hqk2, bpq⟩
      have HK2 := hid1 hqk2
      have HBQ := hid1 bpq
      have hQz : ∀ x, Q x → x < z := fun x h => by have := HQS.out x h; omega
      have HQZ := hid1 hQz
      have zP := HPV.out.size
      clear hqk2 bpq hQz OA HQK x0 x1
      go_cut [] (fun wx => ∃ Q' nq', nq' ≤ nq + 1 ∧ Qi wx Q' qb nq' ∧ (∀ x, Q' x → x < wx.heap.size ∧ (Q x ∨ z ≤ x)) ∧ BP Q wr wx)
      case first =>
        cases r with
        | true =>
          go_wp2_with fail
          go_meet
          exact ⟨Q, nq, by omega, ⟨_, _, _, _, _, HK2.out⟩, fun x h => ⟨by have := HQS.out x h; have := HBQ.out.size; omega, .inl h⟩, HBQ.out⟩
        | false =>
          obtain ⟨go, gc, evg⟩ := HK2.out.g.val
          subst evg
          obtain ⟨xo, xc, evx⟩ := HK2.out.x.val
          subst evx
          have kR := HBQ.out.row (fun h => by have := HQZ.out _ h; omega) HRT.out
          have kX := HBQ.out.row (fun h => by have := HQZ.out _ h; omega) HRX.out
          have t0 : w2.cell? ⟨T0, 0, none⟩ = some (.slice b bn bn) := kR.cell (by omega)
          have t1 : w2.cell? ⟨T0, 1, none⟩ = some (.slice c cn cp) := kR.cell (by omega)
          have t2 : w2.cell? ⟨T0, 2, none⟩ = some (.int .u32 s) := kR.cell (by omega)
          have t3 : w2.cell? ⟨T0, 3, none⟩ = some (.int .i64 E) := kR.cell (by omega)
          have q0 : w2.cell? ⟨qb, 0, none⟩ = some (.slice go nq gc) := HK2.out.h.cell (by omega)
          have hq2 := HK2.out.h.lt
          have hqn : qb ≠ w2.heap.size := by omega
          have hT2 := kR.lt
          have hTn : T0 ≠ w2.heap.size := by omega
          have OG := hid1 (fun X (hX : Below w2.heap.size w2 X) => own_keep (S := fun _ => False) (BP.bel hX) HK2.out.g.own fun _ _ h => h)
          have KX := hid1 kX
          have z2 := HBQ.out.size
          clear kR kX
          go_upto_region 9 with fail
          go_cut [] (fun wx => ∃ vg', wx.rowIs qb 63 3 (bkf vg' (.slice xo nq xc) mu') ∧ Wt wx vg' (nq + 1) (fun i => tev (upd qa nq ⟨b, bn, c, cn, cp, gs, aB o, aC o, s, E⟩ i)) ∧ (∀ g, vg'.ownBlock = some g → (Value.slice go nq gc).ownBlock = some g ∨ w2.heap.size ≤ g) ∧ BP (fun x => x = qb ∨ (Value.slice go nq gc).ownBlock = some x) w2 wx)
          case first =>
            go_region_law (first | (refine step_told rfl (.tmp 51) (.tmp 53) rfl (.slice go nq gc) nq (rowL (fun p => tev (qa (p / 4)) (p % 4)) (nq * 4)) (by go_simp) (OG.out _ (by repeat (first | (with_reducible exact Below.refl _ _) | (with_reducible assumption) | (with_reducible refine Below.drew ?_) | (with_reducible refine bl_alloc ?_ _) | (with_reducible refine bl_drewN ?_ _)))) ⟨w2.heap.size, 0, none⟩ (tf (.slice b bn bn) (.slice c cn cp) s E) (by go_simp) (cell_tf_new w2 _ _ _ _ _) (one_tf _ _ _ _ _ _ _ _) (by omega) ?_; intro v3 y3 hown3 hgrow3 hat3; have hy3 : BP (fun x => (Value.slice go nq gc).ownBlock = some x) w2 y3 := BP.app hgrow3 (by repeat (first | (with_reducible exact Below.refl _ _) | (with_reducible assumption) | (with_reducible refine Below.drew ?_) | (with_reducible refine bl_alloc ?_ _) | (with_reducible refine bl_drewN ?_ _))); obtain ⟨o3, n3, c3, rfl⟩ := own_is hown3; have p3 := hy3.row (fun e => HK2.out.g.ne HK2.out.h (by decide) e) HK2.out.h; have p30 := p3.cell (i := 0) (by omega); have p3f := p3.frozen 0; have HO3 := hid1 hown3; have HA3 := hid1 hat3; have HY3 := hid1 hy3; have P3 := hid1 p3; clear hown3 hgrow3 hat3 hy3 p3))
            all_goals
              refine meet_of (by assumption) ?_
              go_meet
              have hwt := wt_of (n := nq) (el := fun i => tev (qa i)) (el' := fun i => tev (upd qa nq ⟨b, bn, c, cn, cp, gs, aB o, aC o, s, E⟩ i)) HO3.out (fun i hi q => by rw [upd_other _ _ _ (by omega)]) (fun q hq => by rw [upd_same]; try rfl)
              refine ⟨_, (P3.out.set 0 _).congr fun j hj => ?_, hwt.bp (BP.self _ qb 0 _) fun g e e2 => hwt.ne P3.out (by decide) (e.trans (by rw [e2])), fun g e => ?_, (HY3.out.mono fun x _ h => .inr h).set (.inl (.inl rfl)) _⟩
            all_goals first
              | (rcases (show j = 0 ∨ j = 1 ∨ j = 2 by omega) with rfl | rfl | rfl <;> rfl)
              | (rcases HA3.out with h | h
                 · exact .inl (h.symm.trans e)
                 · rw [e] at h
                   injection h with h
                   exact .inr (by simp at h; omega))
          case rest =>
            obtain ⟨wu, rfl⟩ : ∃ x, x = wc := ⟨wc, rfl⟩
            obtain ⟨vg', rq, hwg, hgg, bp9⟩ := hcut
            have hQ9 : ∀ x, (x = qb ∨ (Value.slice go nq gc).ownBlock = some x) → Q x := fun x h => by
              rcases h with h | h
              · rw [h]; exact HK2.out.s.1
              · exact HK2.out.s.2.1 x h
            have kX := bp9.row (fun h => by have := HQZ.out _ (hQ9 _ h); omega) KX.out
            have v0 : wu.cell? ⟨X0, 0, none⟩ = some (.slice b' bn bc') := kX.cell (by omega)
            have v1 : wu.cell? ⟨X0, 1, none⟩ = some (.slice c' cn cc') := kX.cell (by omega)
            have v2 : wu.cell? ⟨X0, 2, none⟩ = some (.int .u32 s) := kX.cell (by omega)
            have v3 : wu.cell? ⟨X0, 3, none⟩ = some (.int .i64 E) := kX.cell (by omega)
            have r1 : wu.cell? ⟨qb, 1, none⟩ = some (.slice xo nq xc) := rq.cell (by omega)
            have hxw : Wt wu (.slice xo nq xc) nq (fun i => twv (qa i) (qc i)) := HK2.out.x.bp bp9 fun g e h => by
              rcases h with h | h
              · subst h; exact HK2.out.x.ne HK2.out.h (by decide) e
              · exact HK2.out.sp g h e
            have OX := hid1 (fun X (hX : Below wu.heap.size wu X) => own_keep (S := fun _ => False) (BP.bel hX) hxw.own fun _ _ h => h)
            have HXW := hid1 hxw
            have RQ := hid1 rq
            have HWG := hid1 hwg
            have HGG := hid1 hgg
            have BP9 := hid1 bp9
            have hqu := rq.lt
            have hqn2 : qb ≠ wu.heap.size := by omega
            have hXu := kX.lt
            have hXn : X0 ≠ wu.heap.size := by omega
            have z9 := bp9.size
            clear rq hwg hgg bp9 kX hxw t0 t1 t2 t3 q0 OG hQ9
            go_upto_region 10 with fail
            go_region_law (first | (refine step_told rfl (.tmp 61) (.tmp 63) rfl (.slice xo nq xc) nq (rowL (fun p => twv (qa (p / 4)) (qc (p / 4)) (p % 4)) (nq * 4)) (by go_simp) (OX.out _ (by repeat (first | (with_reducible exact Below.refl _ _) | (with_reducible assumption) | (with_reducible refine Below.drew ?_) | (with_reducible refine bl_alloc ?_ _) | (with_reducible refine bl_drewN ?_ _)))) ⟨wu.heap.size, 0, none⟩ (tf (.slice b' bn bc') (.slice c' cn cc') s E) (by go_simp) (cell_tf_new wu _ _ _ _ _) (one_tf _ _ _ _ _ _ _ _) (by omega) ?_; intro v3' y3 hown3 hgrow3 hat3; have hy3 : BP (fun x => (Value.slice xo nq xc).ownBlock = some x) wu y3 := BP.app hgrow3 (by repeat (first | (with_reducible exact Below.refl _ _) | (with_reducible assumption) | (with_reducible refine Below.drew ?_) | (with_reducible refine bl_alloc ?_ _) | (with_reducible refine bl_drewN ?_ _))); obtain ⟨o3, n3, c3, rfl⟩ := own_is hown3; have p3 := hy3.row (fun e => HXW.out.ne RQ.out (by decide) e) RQ.out; have p31 := p3.cell (i := 1) (by omega); have p3f := p3.frozen 1; have HO3 := hid1 hown3; have HA3 := hid1 hat3; have HY3 := hid1 hy3; have P3 := hid1 p3; clear hown3 hgrow3 hat3 hy3 p3))
            all_goals
              refine meet_of (by assumption) ?_
              go_meet
              have hwt := wt_of (n := nq) (el := fun i => twv (qa i) (qc i)) (el' := fun i => twv (upd qa nq ⟨b, bn, c, cn, cp, gs, aB o, aC o, s, E⟩ i) (upd qc nq ⟨b', bc', c', cc'⟩ i)) HO3.out (fun i hi q => by rw [upd_other _ _ _ (by omega), upd_other _ _ _ (by omega)]) (fun q hq => by rw [upd_same, upd_same]; try rfl)
              have hsx : ∀ g, (Value.slice xo nq xc).ownBlock = some g → g < w2.heap.size := fun g e => by
                obtain ⟨_, _, r⟩ := HK2.out.x.row e
                exact r.lt
              have hvg : ∀ g, vg'.ownBlock = some g → (Value.slice xo nq xc).ownBlock ≠ some g := fun g e e2 => by
                rcases HGG.out g e with h | h
                · exact HK2.out.sp g h e2
                · have := hsx g e2; omega
              have hvx : ∀ g, (Value.slice o3 n3 c3).ownBlock = some g → (Value.slice xo nq xc).ownBlock = some g ∨ wu.heap.size ≤ g := fun g e => by
                rcases HA3.out with h | h
                · exact .inl (h.symm.trans e)
                · rw [e] at h
                  injection h with h
                  exact .inr (by simp at h; omega)
              have hwg3 := HWG.out.bp HY3.out fun g e e2 => hvg g e e2
              have hpush := HK2.out.push (F := y3.setCell ⟨qb, 1, none⟩ (.slice o3 n3 c3)) (Q' := fun x => Q x ∨ z ≤ x) (e := ⟨b, bn, c, cn, cp, gs, aB o, aC o, s, E⟩) (f := ⟨b', bc', c', cc'⟩) (vg' := vg') (vx' := .slice o3 n3 c3) HQZ.out (fun _ h => h) (by omega)
                (((BP9.out.mono fun x _ h => by
                  rcases h with h | h
                  · exact .inl h
                  · exact .inr (.inl h)).trans HY3.out fun x _ h => .inr (.inr h)).set (.inl (.inl rfl)) _)
                ((P3.out.set 1 _).congr fun j hj => by rcases (show j = 0 ∨ j = 1 ∨ j = 2 by omega) with rfl | rfl | rfl <;> rfl)
                (hwg3.bp (BP.self _ qb 1 _) fun g e e2 => hwg3.ne P3.out (by decide) (e.trans (by rw [e2])))
                (hwt.bp (BP.self _ qb 1 _) fun g e e2 => hwt.ne P3.out (by decide) (e.trans (by rw [e2])))
                HGG.out (fun g e => (hvx g e).imp (fun h => h) fun h => by omega)
                (fun g e e2 => by
                  rcases hvx g e2 with h | h
                  · exact hvg g e h
                  · obtain ⟨_, _, r⟩ := HWG.out.row e
                    have := r.lt
                    omega)
                ((HAT.out.below' HPV.out).bp HBQ.out fun x hx h => by have := HAZ.out x hx; have := HQZ.out x h; omega)
                HAZ.out
                (U1.out.bp HBQ.out fun p hp _ h => by have := U3.out p hp; have := HQZ.out _ h; omega)
                (fun p hp => by have := U3.out p hp; omega)
                ((U4.out.bp HBQ.out fun x h => by have := HQZ.out x h; omega).sub0 fun x h => by omega)
              refine ⟨fun x => (Q x ∨ z ≤ x) ∧ x < (y3.setCell ⟨qb, 1, none⟩ (.slice o3 n3 c3)).heap.size, nq + 1, by omega, ⟨_, _, _, _, _, hpush.sub fun x h1 h2 => ⟨h1, h2⟩⟩, fun x h => ⟨h.2, h.1⟩, ((HBQ.out.trans BP9.out fun x _ h => ?_).trans HY3.out fun x _ h => HK2.out.s.2.2.1 x h).set (.inl HK2.out.s.1) _⟩
              rcases h with h | h
              · rw [h]; exact HK2.out.s.1
              · exact HK2.out.s.2.1 x h
      case rest =>
        obtain ⟨Q', nq', hnq, hqi, hQ', hbq⟩ := hcut
        have kR := hbq.row (fun h => by have := HQZ.out _ h; omega) HRT.out
        have kX := hbq.row (fun h => by have := HQZ.out _ h; omega) HRX.out
        have hAt := (HAT.out.below' HPV.out).bp hbq fun x hx h => by have := HAZ.out x hx; have := HQZ.out x h; omega
        have kB := U1.out.bp hbq fun p hp _ h => by have := U3.out p hp; have := HQZ.out _ h; omega
        have kC := (U4.out.bp hbq fun x h => by have := HQZ.out x h; omega).cs' (aC_body HM.out.bn)
        obtain ⟨en, ec, hy, hc⟩ := hAt.reads
        simp only at en ec hy hc
        have ET := hid1 (eqTold_n b b' bn bc' bn c c' cp cc' cn (aB o) (aC o) s E wc en ec (by have := aB_len o; omega) (by have := aC_len o; omega) hy kB hc kC)
        have t0 : wc.cell? ⟨T0, 0, none⟩ = some (.slice b bn bn) := kR.cell (by omega)
        have t1 : wc.cell? ⟨T0, 1, none⟩ = some (.slice c cn cp) := kR.cell (by omega)
        have t2 : wc.cell? ⟨T0, 2, none⟩ = some (.int .u32 s) := kR.cell (by omega)
        have t3 : wc.cell? ⟨T0, 3, none⟩ = some (.int .i64 E) := kR.cell (by omega)
        have v0 : wc.cell? ⟨X0, 0, none⟩ = some (.slice b' bn bc') := kX.cell (by omega)
        have v1 : wc.cell? ⟨X0, 1, none⟩ = some (.slice c' cn cc') := kX.cell (by omega)
        have v2 : wc.cell? ⟨X0, 2, none⟩ = some (.int .u32 s) := kX.cell (by omega)
        have v3 : wc.cell? ⟨X0, 3, none⟩ = some (.int .i64 E) := kX.cell (by omega)
        have HQI := hid1 hqi
        have HQ' := hid1 hQ'
        have HBW := hid1 hbq
        clear kR kX hAt kB kC en ec hy hc hqi hQ' hbq
        go_wp2_with fail
        refine ET.out.mono ?_
        rintro e w9 ⟨rfl, hb9⟩
        go_wp2_with fail
        go_ret
        have hiF : Hi w9 S' hb := ((HIP.out.below HPV.out).bp HBW.out fun x hx h => by
          have h1 := (HS'.out x hx).1
          rcases h1 with h1 | h1
          · exact HSQ.out x h1 h
          · have := HQS.out x h; have := HW.out.size; omega).below hb9
        refine ⟨rfl, ⟨S', Q', nq', hnq, hiF, HQI.out.below hb9, fun x h1 h2 => ?_, fun x h1 => ?_, fun x h1 => ?_⟩, ((HBP.out.step HPV.out).trans HBW.out fun x _ h => .inr h).step hb9⟩
        · have h3 := HS'.out x h1
          rcases (HQ'.out x h2).2 with h4 | h4
          · rcases h3.1 with h5 | h5
            · exact HSQ.out x h5 h4
            · have := HQS.out x h4; have := HW.out.size; omega
          · omega
        · have h3 := HS'.out x h1
          refine ⟨by have := HBW.out.size; have := hb9.size; omega, ?_⟩
          rcases h3.1 with h5 | h5
          · exact .inl h5
          · exact .inr (by have := HW.out.size; omega)
        · have h3 := HQ'.out x h1
          refine ⟨by have := hb9.size; omega, ?_⟩
          rcases h3.2 with h5 | h5
          · exact .inl h5
          · exact .inr (by omega)
end Go.Proofs.YtinhhgiokaamhaaDoor
