/- CHUNKFRESH: its walk. -/
import Derived.Test.YtinhhgiokaamhaaDoorCX9
namespace Go.Proofs.YtinhhgiokaamhaaDoor
open Go.RowKit

set_option maxHeartbeats 6400000 in
set_option maxRecDepth 100000 in
theorem chunkFresh_any (ao : Option Addr) (K cap : Nat) (w : World) (LD : Laid w) (hK : K ≤ 1048576) (h : Lop w ao K) :
    Calls Tryd.prog 8 #[.slice ao K cap] w fun e w' => e = .returned (.bool true) ∧ Below w.heap.size w w' := by
  have HL := hid1 h
  have HD := hid1 LD
  have hgp := LD.pos
  clear h LD
  have iK0 : (0 : Int) ≤ (K : Int) := by omega
  have iK1 : (K : Int) ≤ 1048576 := by omega
  go_enter Tryd.func8, Tryd.ntmps8
  go_upto_region 4 with (go_at_call 9; refine (begun_any _ HD.out).mono ?_; rintro e w1 ⟨rfl, hb1⟩)
  have zw1 := hb1.size
  refine gen_world (fun X => Hi X (· = w1.heap.size) w1.heap.size ∧ Below w.heap.size w X ∧ X.heap.size = w1.heap.size + 1) ⟨hi_new w1 _ rfl, bl_alloc hb1 _, by simp⟩ ?_
  rintro X ⟨hi0, hX, zX⟩
  obtain ⟨hb, ehb⟩ : ∃ x, w1.heap.size = x := ⟨_, rfl⟩
  rw [ehb] at hi0 zX zw1 ⊢
  have HI0 := hid1 hi0
  have HX := hid1 hX
  have ZX := hid1 zX
  clear hi0 hX zX hb1 ehb
  go_upto_region 5 with fail
  refine gen_world (fun Y => F1 w Y (· = hb) (· = X.heap.size) hb X.heap.size 0 0) ⟨HI0.out.below (bl_alloc (Below.refl _ _) _), bi_new X _ rfl, fun x h1 h2 => by have := ZX.out; omega, fun x h1 => by have := ZX.out; simp; omega, fun x h1 => by have := HX.out.size; simp; omega, ⟨rfl, rfl⟩, BP.bel (bl_alloc HX.out _)⟩ ?_
  intro Y hY
  obtain ⟨bb, ebb⟩ : ∃ x, X.heap.size = x := ⟨_, rfl⟩
  rw [ebb] at hY ⊢
  have HY := hid1 hY
  clear hY ebb HI0 HX ZX zw1
  go_wp2_with fail
  go_loopw [5] (fun s wr => ∃ (k ny nl : Nat) (S B : Nat → Prop), k ≤ K ∧ s = .int .i64 k ∧ ny ≤ 2050 * k ∧ nl ≤ 2 * k ∧ F1 w wr S B hb bb ny nl) (fun s _ => K - (intOf s).toNat)
  case atStart => exact ⟨0, 0, 0, _, _, Nat.zero_le _, rfl, by omega, by omega, HY.out⟩
  case round =>
    clear HY
    obtain ⟨k, ny, nl, S, B, hk, rfl, hny, hnl, hf⟩ := hrel
    have ik0 : (0 : Int) ≤ (k : Int) := by omega
    by_cases hlt : k < K
    · have ik : (k : Int) < (K : Int) := by omega
      obtain ⟨g, off, rfl, hgw, o, lo, lc, co, cc, bo, bc, hcs, how⟩ := HL.out k hlt
      have TA := hid1 (told_any o (fun x => S x ∨ wr.heap.size ≤ x) hb lo lc co cc bo bc wr (fun b hb => .inr hb) (hf.i.sub fun b h _ => .inl h) ((how.bp hf.p fun _ h => h).sub fun x h => by
        rcases h with h | h
        · exact (hf.sl x h).1
        · have := hf.p.size; omega) (HD.out.bp hf.p (by omega)) (fun h => by
        rcases h with h | h
        · have := (hf.sl _ h).1; omega
        · have := hf.p.size; omega))
      have WA := hid1 (fun X (hX : BP (w.heap.size ≤ ·) w X) => wanted_any o (w.heap.size ≤ ·) lo lc co cc bo bc X (how.bp hX fun _ h => h))
      have hcs' : ∀ X, BP (w.heap.size ≤ ·) w X → ∀ j, j < 5 → X.cell? ⟨g, off + k * 5 + j, none⟩ = some (opf o.k lo o.L.length lc o.m co o.cs.length cc bo o.l.length bc j) := fun X hX j hj => hX.cell (by omega) (hcs j hj)
      have HCS := hid1 (fun X hX => (⟨hcs' X hX 0 (by omega), hcs' X hX 1 (by omega), hcs' X hX 2 (by omega), hcs' X hX 3 (by omega), hcs' X hX 4 (by omega)⟩ : X.cell? ⟨g, off + k * 5, none⟩ = some (.int .i64 o.k) ∧ X.cell? ⟨g, off + k * 5 + 1, none⟩ = some (.slice lo o.L.length lc) ∧ X.cell? ⟨g, off + k * 5 + 2, none⟩ = some (.int .u32 o.m) ∧ X.cell? ⟨g, off + k * 5 + 3, none⟩ = some (.slice co o.cs.length cc) ∧ X.cell? ⟨g, off + k * 5 + 4, none⟩ = some (.slice bo o.l.length bc)))
      obtain ⟨c0, c1, c2, c3, c4⟩ := HCS.out wr hf.p
      have HOW := hid1 how
      have HF := hid1 hf
      clear hcs hcs' how hf
      obtain ⟨s, es⟩ : ∃ s, aS o = s := ⟨_, rfl⟩
      obtain ⟨E, eE⟩ : ∃ s, aE o = s := ⟨_, rfl⟩
      rw [es, eE] at TA WA
      clear es eE
      go_upto_region 9 with (go_at_call 16; refine TA.out.mono ?_; rintro e W1 ⟨b, bn, bcp, c, cn, cp, rfl, hto⟩)
      refine gen_world (fun P => Below W1.heap.size W1 P ∧ P.rowIs W1.heap.size 47 4 (tf (.slice b bn bcp) (.slice c cn cp) s E)) ⟨bl_alloc (Below.refl _ _) _, tf_new _ _ _ _ _ _⟩ ?_
      rintro P ⟨hP, rP⟩
      obtain ⟨T0, eT⟩ : ∃ x, W1.heap.size = x := ⟨_, rfl⟩
      rw [eT] at rP
      rw [eT]
      obtain ⟨ebn, S', gs, z, h2⟩ := HF.out.told (s := s) (E := E) HOW.out hto hP
      subst ebn
      obtain ⟨en, ec, hy, hc⟩ := h2.t.reads
      simp only at en ec hy hc
      have HRP := hid1 rP
      have HCP := hid1 (HCS.out P h2.f.p)
      have H2 := hid1 h2
      have HYY := hid1 hy
      have HCC := hid1 hc
      have EN := hid1 en
      have EC := hid1 ec
      have l1 : (aB o).length ≤ 9223372036854775807 := by have := aB_len o; omega
      have l2 : (aC o).length ≤ 9223372036854775807 := by have := aC_len o; omega
      clear TA c0 c1 c2 c3 c4 hto hP rP hy hc en ec HF eT h2
      go_cut [42] (fun s wx => s = .bool false ∧ Below P.heap.size P wx)
      case first =>
        go_region_held3 (fun X => (X.cell? ⟨T0, 0, none⟩ = some (.slice b bn bn) ∧ X.cell? ⟨T0, 1, none⟩ = some (.slice c cn cp) ∧ X.cell? ⟨T0, 2, none⟩ = some (.int .u32 s) ∧ X.cell? ⟨T0, 3, none⟩ = some (.int .i64 E)) ∧ X.cell? ⟨g, off + k * 5, none⟩ = some (.int .i64 o.k) ∧ X.cell? ⟨g, off + k * 5 + 1, none⟩ = some (.slice lo o.L.length lc) ∧ X.cell? ⟨g, off + k * 5 + 2, none⟩ = some (.int .u32 o.m) ∧ X.cell? ⟨g, off + k * 5 + 3, none⟩ = some (.slice co o.cs.length cc) ∧ X.cell? ⟨g, off + k * 5 + 4, none⟩ = some (.slice bo o.l.length bc)) (((try dsimp only); (with_reducible refine kp8 HRP.out HCP.out ?_); repeat (first | (with_reducible exact Below.refl _ _) | (with_reducible refine Below.drew ?_) | (with_reducible refine bl_drewN ?_ _) | (with_reducible refine bl_step ?_ (by assumption)))))
          (first
          | (go_at_call 17; refine (eqTold_n b b' bn bcp' bn c c' cp cp' cn (aB o) (aC o) s E y1 EN.out EC.out l1 l2 (HYY.out.keep by1) u1 (HCC.out.keep by1) u2).mono ?_; rintro e y2 ⟨rfl, hb2⟩)
          | (go_at_call 18; refine gen_calls (fun X => Below P.heap.size P X) (by repeat (first | (with_reducible exact Below.refl _ _) | (with_reducible refine Below.drew ?_) | (with_reducible refine bl_drewN ?_ _) | (with_reducible refine bl_step ?_ (by assumption)))) ?_; intro X hX; refine (WA.out X (H2.out.f.p.step hX)).mono ?_; rintro e y1 ⟨b', bn', bcp', c', cn', cp', rfl, en', ec', u1, u2, _, _, hb1⟩; have en2 : bn = bn' := EN.out.trans en'.symm; have ec2 : cn = cn' := EC.out.trans ec'.symm; subst en2 ec2; have by1 := bl_step hX hb1; clear en' ec'))
        all_goals (refine meet_of (by assumption) ?_; go_meet; exact ⟨rfl, bl_step by1 hb2⟩)
      case rest =>
        obtain ⟨rfl, hbP⟩ := hcut
        have h3 := H2.out.below hbP
        have rT := keepr hbP HRP.out
        have TK := hid1 (take_any B bb ny nl b bn (aB o) c cn cp (aC o) gs s E 0 wc h3.f.b (by omega) (by omega) h3.f.e.1 h3.f.e.2 h3.t.bn h3.t.cn h3.t.cb h3.t.o h3.t.k (fun x hx => ⟨fun h4 => by have := h3.z.1 x h4; have := h3.z.2.2.1 x hx; omega, (h3.f.bl x hx).2⟩) h3.t.ne)
        have t0 : wc.cell? ⟨T0, 0, none⟩ = some (.slice b bn bn) := rT.cell (by omega)
        have t1 : wc.cell? ⟨T0, 1, none⟩ = some (.slice c cn cp) := rT.cell (by omega)
        have t2 : wc.cell? ⟨T0, 2, none⟩ = some (.int .u32 s) := rT.cell (by omega)
        have t3 : wc.cell? ⟨T0, 3, none⟩ = some (.int .i64 E) := rT.cell (by omega)
        have H3 := hid1 h3
        clear h3 rT hbP H2 HRP HCP HYY HCC WA
        go_wp2_with fail
        refine TK.out.mono ?_
        rintro e w5 ⟨rfl, ⟨ny', nl', n1, n2, n3, n4, hb5⟩, bp5⟩
        obtain ⟨B', h6⟩ := H3.out.take hb5 bp5 ⟨n3, n4⟩
        have H6 := hid1 h6
        have WH := hid1 (whole_any B' bb ny' nl' w5 h6.b (by omega) (by omega))
        clear hb5 bp5 h6 TK H3 t0 t1 t2 t3
        by_cases h64 : k % 64 = 0
        · have i64 : (k : Int) % 64 = 0 := by omega
          go_wp2_with (go_at_call 20; refine WH.out.mono ?_; rintro e w6 ⟨rfl, hb6⟩)
          exact ⟨⟨k + 1, ny', nl', S', B', by omega, by go_num, by omega, by omega, H6.out.below hb6⟩, by simp [intOf]; omega⟩
        · have i64 : ¬ (k : Int) % 64 = 0 := by omega
          go_wp2_with fail
          exact ⟨⟨k + 1, ny', nl', S', B', by omega, by go_num, by omega, by omega, H6.out⟩, by simp [intOf]; omega⟩
    · have e9 : K = k := by omega
      subst e9
      have HF := hid1 hf
      clear hlt hk hf ik0
      go_upto_region 15 with fail
      refine gen_world (fun Y => F3 w Y S B (· = wr.heap.size) hb bb ny nl wr.heap.size 0) ⟨HF.out.below (bl_alloc (Below.refl _ _) _), qi_new wr _ rfl, fun x h1 h2 => by have := (HF.out.sl x h1).2; omega, fun x h1 h2 => by have := (HF.out.bl x h1).2; omega, fun x h1 => by have := HF.out.p.size; simp; omega⟩ ?_
      intro Y hY
      obtain ⟨qb, eqb⟩ : ∃ x, wr.heap.size = x := ⟨_, rfl⟩
      rw [eqb] at hY ⊢
      have HY := hid1 hY
      clear hY eqb HF
      go_wp2_with fail
      go_loopw [9] (fun s wx => ∃ (i nq : Nat) (S Q : Nat → Prop), i ≤ K ∧ s = .int .i64 i ∧ nq ≤ 2 * i ∧ F3 w wx S B Q hb bb ny nl qb nq) (fun s _ => K - (intOf s).toNat)
      case atStart => exact ⟨0, 0, S, _, Nat.zero_le _, rfl, by omega, HY.out⟩
      case round =>
        clear HY
        obtain ⟨i, nq, S, Q, hi, rfl, hnq, hf⟩ := hrel
        have ii0 : (0 : Int) ≤ (i : Int) := by omega
        by_cases hlt : i < K
        · have ii : (i : Int) < (K : Int) := by omega
          obtain ⟨g, off, rfl, hgw, o, lo, lc, co, cc, bo, bc, hcs, how⟩ := HL.out i hlt
          have AS := hid1 (fun (X : World) (S Q : Nat → Prop) (n : Nat) (hn : n ≤ 4000000000) (h : F3 w X S B Q hb bb ny nl qb n) => asked_any S Q hb qb n o lo lc co cc bo bc X (HD.out.bp h.f.p (by omega)) (fun h1 => by have := (h.f.sl _ h1).1; omega) (fun h1 => by have := (h.ql _ h1).1; omega) h.f.i h.q h.sq (fun x h1 => (h.f.sl x h1).2) (fun x h1 => (h.ql x h1).2) hn ((how.bp h.f.p fun _ h => h).sub fun x h1 => by
            rcases h1 with h1 | h1 | h1
            · exact (h.f.sl x h1).1
            · exact (h.ql x h1).1
            · have := h.f.p.size; omega))
          have hcs' : ∀ X, BP (w.heap.size ≤ ·) w X → ∀ j, j < 5 → X.cell? ⟨g, off + i * 5 + j, none⟩ = some (opf o.k lo o.L.length lc o.m co o.cs.length cc bo o.l.length bc j) := fun X hX j hj => hX.cell (by omega) (hcs j hj)
          have HCS := hid1 (fun X hX => (⟨hcs' X hX 0 (by omega), hcs' X hX 1 (by omega), hcs' X hX 2 (by omega), hcs' X hX 3 (by omega), hcs' X hX 4 (by omega)⟩ : X.cell? ⟨g, off + i * 5, none⟩ = some (.int .i64 o.k) ∧ X.cell? ⟨g, off + i * 5 + 1, none⟩ = some (.slice lo o.L.length lc) ∧ X.cell? ⟨g, off + i * 5 + 2, none⟩ = some (.int .u32 o.m) ∧ X.cell? ⟨g, off + i * 5 + 3, none⟩ = some (.slice co o.cs.length cc) ∧ X.cell? ⟨g, off + i * 5 + 4, none⟩ = some (.slice bo o.l.length bc)))
          obtain ⟨c0, c1, c2, c3, c4⟩ := HCS.out wr hf.f.p
          have HF := hid1 hf
          clear hcs hcs' how hf
          go_wp2_with fail
          refine (AS.out wr S Q nq (by omega) HF.out).mono ?_
          rintro e w1 ⟨rfl, ⟨S1, Q1, nq1, m1, a1, a2, a3, a4, a5⟩, a6⟩
          have hf1 := HF.out.asked a1 a2 a3 a4 a5 a6
          obtain ⟨d0, d1, d2, d3, d4⟩ := HCS.out w1 hf1.f.p
          have HF1 := hid1 hf1
          clear a1 a2 a3 a4 a5 a6 hf1 c0 c1 c2 c3 c4
          go_wp2_with fail
          refine (AS.out w1 S1 Q1 nq1 (by omega) HF1.out).mono ?_
          rintro e w2 ⟨rfl, ⟨S2, Q2, nq2, m2, a1, a2, a3, a4, a5⟩, a6⟩
          have hf2 := HF1.out.asked a1 a2 a3 a4 a5 a6
          have HF2 := hid1 hf2
          clear a1 a2 a3 a4 a5 a6 hf2 d0 d1 d2 d3 d4 AS HCS
          go_wp2_with fail
          exact ⟨⟨i + 1, nq2, S2, Q2, by omega, by go_num, by omega, HF2.out⟩, by simp [intOf]; omega⟩
        · have e9 : K = i := by omega
          subst e9
          have WH := hid1 (whole_any B bb ny nl wr hf.f.b (by omega) (by omega))
          have UN := hid1 (fun X (hX : Below wr.heap.size wr X) => untouched_any Q qb nq X (hf.q.below hX) (by omega))
          have HF := hid1 hf
          clear hf hlt hi
          go_wp2_with fail
          refine WH.out.mono ?_
          rintro e w1 ⟨rfl, hb1⟩
          go_wp2_with fail
          refine (UN.out w1 hb1).mono ?_
          rintro e w2 ⟨rfl, bp2⟩
          go_wp2_with fail
          go_ret
          have hp := (HF.out.f.p.step hb1).trans bp2 fun x _ h => (HF.out.ql x h).1
          exact ⟨rfl, hp.os, hp.tape, hp.output, hp.size, fun b hb => hp.block b hb (by omega)⟩
end Go.Proofs.YtinhhgiokaamhaaDoor
