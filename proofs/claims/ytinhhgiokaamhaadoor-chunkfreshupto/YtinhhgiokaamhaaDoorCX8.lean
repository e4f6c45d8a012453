/- CHUNKFRESH: untouched. -/
import Derived.Test.YtinhhgiokaamhaaDoorCX7
namespace Go.Proofs.YtinhhgiokaamhaaDoor
open Go.RowKit

theorem Wt.at {w : World} {v : Value} {n : Nat} {el : Nat → Nat → Value} (h : Wt w v n el) {i : Nat} (hi : i < n) : ∃ g cw, v = .slice (some ⟨g, 0, none⟩) n cw ∧ w.cell? ⟨g, i * 4, none⟩ = some (el i 0) ∧ w.cell? ⟨g, i * 4 + 1, none⟩ = some (el i 1) ∧ w.cell? ⟨g, i * 4 + 2, none⟩ = some (el i 2) ∧ w.cell? ⟨g, i * 4 + 3, none⟩ = some (el i 3) := by
  rcases h with ⟨_, e⟩ | ⟨g, cw, f, e, h1, _, r, hf⟩
  · omega
  · refine ⟨g, cw, e, ?_, ?_, ?_, ?_⟩
    · rw [r.cell (i := i * 4) (by omega), hf _ (by omega), show i * 4 / 4 = i by omega, show i * 4 % 4 = 0 by omega]
    · rw [r.cell (i := i * 4 + 1) (by omega), hf _ (by omega), show (i * 4 + 1) / 4 = i by omega, show (i * 4 + 1) % 4 = 1 by omega]
    · rw [r.cell (i := i * 4 + 2) (by omega), hf _ (by omega), show (i * 4 + 2) / 4 = i by omega, show (i * 4 + 2) % 4 = 2 by omega]
    · rw [r.cell (i := i * 4 + 3) (by omega), hf _ (by omega), show (i * 4 + 3) / 4 = i by omega, show (i * 4 + 3) % 4 = 3 by omega]
/-- The first k answers' blocks. -/
def Ak (a : Nat → Te) (k : Nat) : Nat → Prop := fun x => ∃ j, j < k ∧ AbT (a j) x
set_option maxHeartbeats 3200000 in
set_option maxRecDepth 100000 in
theorem untouched_any (Q : Nat → Prop) (qb n : Nat) (w : World) (hq : Qi w Q qb n) (hn : n ≤ 4000000) :
    Calls Tryd.prog 22 #[.pointer (some ⟨qb, 0, none⟩)] w fun e w' => e = .returned (.bool true) ∧ BP Q w w' := by
  obtain ⟨vg, vx, mu, a, b, hqk⟩ := hq
  obtain ⟨go, gc, evg⟩ := hqk.g.val
  subst evg
  obtain ⟨xo, xc, evx⟩ := hqk.x.val
  subst evx
  have HQ := hid1 hqk
  have c0 : w.cell? ⟨qb, 0, none⟩ = some (.slice go n gc) := hqk.h.cell (by omega)
  have c1 : w.cell? ⟨qb, 1, none⟩ = some (.slice xo n xc) := hqk.h.cell (by omega)
  have in0 : (0 : Int) ≤ (n : Int) := by omega
  have in1 : (n : Int) ≤ 4000000 := by omega
  clear hqk
  go_enter Tryd.func22, Tryd.ntmps22
  go_wp2_with fail
  go_loopw [3] (fun s wr => ∃ i : Nat, i ≤ n ∧ s = .int .i64 i ∧ Below w.heap.size w wr) (fun s _ => n - (intOf s).toNat)
  case atStart => exact ⟨0, Nat.zero_le _, rfl, Below.refl _ _⟩
  case round =>
    obtain ⟨i, hi1, rfl, hbl⟩ := hrel
    have ii0 : (0 : Int) ≤ (i : Int) := by omega
    have e0 := keepc hbl c0
    have e1 := keepc hbl c1
    by_cases hlt : i < n
    · have ii : (i : Int) < (n : Int) := by omega
      have hq1 := HQ.out.below hbl
      obtain ⟨gg, gcw, eg, g0, g1, g2, g3⟩ := hq1.g.at hlt
      obtain ⟨xg, xcw, ex, x0, x1, x2, x3⟩ := hq1.x.at hlt
      injection eg with eg1 eg2 eg3
      injection ex with ex1 ex2 ex3
      subst eg1 ex1
      clear eg2 eg3 ex2 ex3
      obtain ⟨en, ec, hy, hc⟩ := (hq1.an i hlt).reads
      obtain ⟨w1, _, w3⟩ := hq1.wn i hlt
      have ET := hid1 (fun X (hX : Below wr.heap.size wr X) => eqTold_n (a i).bo (b i).b (a i).bn (b i).bc (a i).bn (a i).co (b i).c (a i).cc (b i).cc (a i).cn (a i).bs (a i).cs (a i).s (a i).e X en ec (by have := (hq1.an i hlt).bn; omega) (by have := (hq1.an i hlt).cn; omega) (hy.keep hX) (w1.keep hX) (hc.keep hX) ((w3.cs' (hq1.an i hlt).cb).keep hX))
      generalize a i = ai at *
      generalize b i = bi at *
      obtain ⟨abo, abn, aco, acn, acc, ags, abs, acs, as_, ae⟩ := ai
      obtain ⟨bb', bbc, bcc, bccp⟩ := bi
      simp only [tev, twv, tf] at g0 g1 g2 g3 x0 x1 x2 x3
      simp at g0 g1 g2 g3 x0 x1 x2 x3
      simp only at ET
      clear hq1 en ec hy hc w1 w3
      go_upto_region 4 with fail
      refine still_tail 14 (by kernel_rfl) ?_
      simp only [List.take_succ_cons, List.take_zero, List.drop_succ_cons, List.drop_zero]
      repeat still_step
      refine wpStill_nil ?_
      go_wp2_with (go_at_call 17; refine (ET.out _ (Below.drew (Below.refl _ _))).mono ?_; rintro e y1 ⟨rfl, hb1⟩)
      exact ⟨⟨i + 1, by omega, by go_num, bl_step hbl (bl_step (Below.drew (Below.refl _ _)) hb1)⟩, by simp [intOf]; omega⟩
    · have e9 : n = i := by omega
      subst e9
      obtain ⟨U, rfl⟩ : ∃ U, U = wr := ⟨_, rfl⟩
      have hq1 := HQ.out.below hbl
      have HQ1 := hid1 hq1
      have HBL := hid1 hbl
      clear hlt hi1 ii0 hq1 hbl e1 c0 c1
      go_upto_region 7 with fail
      refine gen_world (fun Y => Below U.heap.size U Y ∧ Bi Y (fun x => (Ak a 0 x ∨ U.heap.size ≤ x) ∧ x < Y.heap.size) U.heap.size 0 0) ⟨bl_alloc (Below.refl _ _) _, bi_new _ _ ⟨.inr (Nat.le_refl _), by simp⟩⟩ ?_
      rintro Y ⟨hY, hbY⟩
      obtain ⟨bb, ebb⟩ : ∃ x, U.heap.size = x := ⟨_, rfl⟩
      have EBB := hid1 ebb
      rw [ebb] at hbY ⊢
      have HY := hid1 hY
      have HBY := hid1 hbY
      clear hY hbY e0 ebb
      go_wp2_with fail
      go_loopw [5] (fun s wx => ∃ k ny nl : Nat, k ≤ n ∧ s = .int .i64 k ∧ ny ≤ 2050 * k ∧ nl ≤ 2 * k ∧ ny % 2 = 0 ∧ nl % 2 = 0 ∧ Bi wx (fun x => (Ak a k x ∨ bb ≤ x) ∧ x < wx.heap.size) bb ny nl ∧ BP (Ak a k) U wx) (fun s _ => n - (intOf s).toNat)
      case atStart => exact ⟨0, 0, 0, Nat.zero_le _, rfl, by omega, by omega, rfl, rfl, HBY.out, BP.bel HY.out⟩
      case round =>
        clear HBY HY
        obtain ⟨k, ny, nl, hk, rfl, hny, hnl, hne, hle, hbi, hbp⟩ := hrel
        have ik0 : (0 : Int) ≤ (k : Int) := by omega
        have hAk : ∀ x, Ak a k x → ∃ j, j < n ∧ AbT (a j) x := fun x ⟨j, hj, h⟩ => ⟨j, by omega, h⟩
        have hnt : ∀ x, Ak a k x → ∀ T m G, U.rowIs x T m G → T = 5 ∨ T = 37 := fun x hx T m G r => by
          obtain ⟨j, hj, h⟩ := hAk x hx
          refine Classical.byContradiction fun hn => ?_
          have t1 : 5 ≠ T := fun e => hn (.inl e.symm)
          have t2 : 37 ≠ T := fun e => hn (.inr e.symm)
          rcases h with e1 | e1 | e1
          · exact own_row_ne (HQ1.out.an j hj).o r t1 e1
          · exact own_row_ne (HQ1.out.an j hj).k.own r t2 e1
          · obtain ⟨q, hq⟩ := List.getElem?_of_mem e1
            have hql : q < (a j).gs.length := by
              refine Classical.byContradiction fun hn => ?_
              rw [List.getElem?_eq_none (by omega)] at hq
              exact absurd hq (by simp)
            have hqc : q < (a j).cs.length := by rw [(HQ1.out.an j hj).k.len]; exact hql
            exact own_row_ne ((HQ1.out.an j hj).k.body q _ x (List.getElem?_eq_getElem hqc) hq) r t1 rfl
        have kq := hbp.row (fun h => by rcases hnt _ h _ _ _ HQ1.out.h with e | e <;> exact absurd e (by decide)) HQ1.out.h
        have e0 : wr.cell? ⟨qb, 0, none⟩ = some (.slice go n gc) := kq.cell (by omega)
        by_cases hkn : k < n
        · have ik : (k : Int) < (n : Int) := by omega
          have hgk : Wt wr (.slice go n gc) n (fun i => tev (a i)) := HQ1.out.g.bp hbp fun g e h => by
            obtain ⟨_, _, r⟩ := HQ1.out.g.row e
            rcases hnt _ h _ _ _ r with e | e <;> exact absurd e (by decide)
          obtain ⟨gg, gcw, eg, g0, g1, g2, g3⟩ := hgk.at hkn
          injection eg with eg1 eg2 eg3
          subst eg1
          clear eg2 eg3
          have hAt := (HQ1.out.an k hkn).bp hbp fun x h1 ⟨j, hj, h2⟩ => HQ1.out.dj k j hkn (by omega) (by omega) x h1 h2
          have TK := hid1 (take_any (fun x => (Ak a k x ∨ bb ≤ x) ∧ x < wr.heap.size) bb ny nl (a k).bo (a k).bn (a k).bs (a k).co (a k).cn (a k).cc (a k).cs (a k).gs (a k).s (a k).e 0 wr hbi (by omega) (by omega) hne hle hAt.bn hAt.cn hAt.cb hAt.o hAt.k (fun x h => ⟨fun h2 => by
            rcases h.1 with ⟨j, hj, h3⟩ | h3
            · exact HQ1.out.dj k j hkn (by omega) (by omega) x h2 h3
            · have := (HQ1.out.an k hkn).abl x h2
              have := EBB.out
              omega, h.2⟩) hAt.ne)
          have HAB := hid1 (show ∀ x, Ab (a k).bo (a k).bn (a k).co (a k).cn (a k).cc (a k).gs x → AbT (a k) x from fun _ h => h)
          have HBP := hid1 hbp
          simp only [tev, tf] at g0 g1 g2 g3
          simp at g0 g1 g2 g3
          obtain ⟨ak, eak⟩ : ∃ ak, a k = ak := ⟨_, rfl⟩
          rw [eak] at TK HAB g0 g1 g2 g3
          have EAK := hid1 eak
          clear eak hbi hbp hAt hgk kq hnt hAk
          go_wp2_with fail
          refine TK.out.mono ?_
          rintro e w5 ⟨rfl, ⟨ny', nl', h1, h2, h3, h4, hb5⟩, bp5⟩
          have z5 := bp5.size
          have zU := HBP.out.size
          have eU := EBB.out
          have hbN : Bi w5 (fun x => (Ak a (k + 1) x ∨ bb ≤ x) ∧ x < w5.heap.size) bb ny' nl' := hb5.sub fun x h hx => by
            refine ⟨?_, hx⟩
            rcases h with h | h | h
            · rcases h.1 with ⟨j, hj, h6⟩ | h6
              · exact .inl ⟨j, by omega, h6⟩
              · exact .inr h6
            · exact .inl ⟨k, by omega, by rw [EAK.out]; exact HAB.out x h⟩
            · exact .inr (by omega)
          have hbpN : BP (Ak a (k + 1)) U w5 := (HBP.out.mono fun x _ ⟨j, hj, h6⟩ => ⟨j, by omega, h6⟩).trans bp5 fun x hx h => by
            rcases h with h | h
            · rcases h.1 with ⟨j, hj, h6⟩ | h6
              · exact ⟨j, by omega, h6⟩
              · omega
            · exact ⟨k, by omega, by rw [EAK.out]; exact HAB.out x h⟩
          have HN1 := hid1 hbN
          have HN2 := hid1 hbpN
          clear hb5 bp5 hbN hbpN TK HAB HBP g0 g1 g2 g3 e0
          go_wp2_with fail
          exact ⟨⟨k + 1, ny', nl', by omega, by go_num, by omega, by omega, h3, h4, HN1.out, HN2.out⟩, by simp [intOf]; omega⟩
        · have e9 : n = k := by omega
          subst e9
          have WH := hid1 (whole_any _ bb ny nl wr hbi (by omega) (by omega))
          have HBP := hid1 hbp
          clear hbi hbp hkn hk hnt hAk kq
          go_wp2_with fail
          refine WH.out.mono ?_
          rintro e w6 ⟨rfl, hb6⟩
          go_wp2_with fail
          go_ret
          exact ⟨rfl, (((BP.bel HBL.out : BP Q w U).trans HBP.out fun x _ ⟨j, hj, h⟩ => HQ.out.s.2.2.2 j hj x h)).step hb6⟩
end Go.Proofs.YtinhhgiokaamhaaDoor
