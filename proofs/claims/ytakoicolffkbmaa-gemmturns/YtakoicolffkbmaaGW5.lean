/- PACKAGE gemm: Strip. -/
import Derived.Test.YtakoicolffkbmaaGW4
import Derived.WalkLawsBesides
import Derived.Deep.DeepCutAuto
namespace Go.Proofs.Ytakoicolffkbmaa
open Go.RowKit

/-- As far as it is reckoned: the rows ahead of i whole, row i as R says. -/
def rg (F : Nat → Nat → Int) (i : Nat) (R : Nat → Int) : Nat → Nat → Int := fun i' j' => if i' < i then F i' j' else if i' = i then R j' else 0
/-- Row i: the columns ahead of j up to t, the others up to f. -/
def rr (S : Nat → Nat → Int) (f t j : Nat) : Nat → Int := fun j' => if j' < j then S j' t else S j' f
theorem rg_set (F : Nat → Nat → Int) (S : Nat → Nat → Int) (i f t j : Nat) : (fun i' j' => if i' = i ∧ j' = j then S j t else rg F i (rr S f t j) i' j') = rg F i (rr S f t (j + 1)) := by
  funext i' j'
  unfold rg rr
  by_cases h : i' = i ∧ j' = j
  · rw [if_pos h, if_neg (by omega), if_pos h.1, if_pos (by omega), h.2]
  · rw [if_neg h]
    by_cases h2 : i' < i
    · rw [if_pos h2, if_pos h2]
    · rw [if_neg h2, if_neg h2]
      by_cases h3 : i' = i
      · rw [if_pos h3, if_pos h3]
        by_cases h4 : j' < j
        · rw [if_pos h4, if_pos (by omega)]
        · rw [if_neg h4, if_neg (by omega)]
      · rw [if_neg h3, if_neg h3]
theorem rg_start (F S : Nat → Nat → Int) (i : Nat) (hS : ∀ j, S j 0 = 0) : pg F i 0 = rg F i (fun j => S j 0) := by
  funext i' j'
  unfold pg rg
  by_cases h : i' < i
  · rw [if_pos (.inl h), if_pos h]
  · rw [if_neg (by omega), if_neg h]
    by_cases h2 : i' = i
    · rw [if_pos h2]; exact (hS j').symm
    · rw [if_neg h2]
theorem strip_bad (l m : List (Bt × Bt)) (a b : Option Addr) (ca cb : Nat) (t : Int) (w : World) (h1 : Lq w a l) (h2 : Lq w b m) (hl : l.length ≤ 1099511627776) (hm : m.length ≤ 1099511627776) (hE : gE l m ≠ 0) (ht : 1 ≤ t ∧ t ≤ 4096) :
    Calls Try.prog 11 #[.slice a l.length ca, .slice b m.length cb, .int .i64 t] w fun e w' => e = .returned (.tuple #[.slice none 0 0, .int .i64 (gE l m)]) ∧ Below w.heap.size w w' := by
  have C1 := hid1 (gfault_any l m a b ca cb w h1 h2 (by omega) (by omega))
  have C0 := hid1 (within_any t w)
  rw [decide_eq_true ht] at C0
  generalize gE l m = q at *
  generalize l.length = N at *
  generalize m.length = M at *
  clear h1 h2
  go_enter Try.func11, Try.ntmps11
  go_wp2_with fail
  refine C0.out.mono ?_
  rintro e w1 ⟨rfl, rfl⟩
  go_wp2_with fail
  refine C1.out.mono ?_
  rintro e w2 ⟨rfl, hb⟩
  go_wp2_with fail
  go_ret2
  exact ⟨rfl, hb⟩
theorem strip_arg (N M : Nat) (a b : Option Addr) (ca cb : Nat) (t : Int) (w : World) (ht : ¬ (1 ≤ t ∧ t ≤ 4096)) :
    Calls Try.prog 11 #[.slice a N ca, .slice b M cb, .int .i64 t] w fun e w' => e = .returned (.tuple #[.slice none 0 0, .int .i64 1]) ∧ w' = w := by
  have C0 := hid1 (within_any t w)
  rw [decide_eq_false ht] at C0
  clear ht
  go_enter Try.func11, Try.ntmps11
  go_wp2_with fail
  refine C0.out.mono ?_
  rintro e w1 ⟨rfl, rfl⟩
  go_wp2_with fail
  go_ret2
  exact ⟨rfl, rfl⟩
set_option maxHeartbeats 1600000 in
set_option maxRecDepth 100000 in
theorem strip_ok (l m : List (Bt × Bt)) (a b : Option Addr) (ca cb p : Nat) (w : World) (h1 : Lq w a l) (h2 : Lq w b m) (hl : l.length ≤ 1099511627776) (hm : m.length ≤ 1099511627776) (hE : gE l m = 0) (hp1 : 1 ≤ p) (hp2 : p ≤ 4096) :
    Calls Try.prog 11 #[.slice a l.length ca, .slice b m.length cb, .int .i64 p] w fun e w' => ∃ G bb, e = .returned (.tuple #[.slice (some ⟨G, 0, none⟩) l.length l.length, .int .i64 0]) ∧ Gr w' w.heap.size G bb l.length m.length (sg l m) ∧ Below w.heap.size w w' := by
  have C1 := hid1 (gfault_any l m a b ca cb w h1 h2 (by omega) (by omega))
  have C0 := hid1 (within_any p w)
  rw [decide_eq_true (by omega)] at C0
  obtain ⟨n, hn, A1, A2, _⟩ := gE_zero hE
  rw [hE] at C1
  have hb := nw_bd hn
  have L1 := hid1 h1
  have L2 := hid1 h2
  have HF : Hid (∀ i j (hi : i < l.length) (hj : j < m.length), sg l m i j = sq l[i].1 l[i].2 m[j].1 m[j].2 (nw n) ∧ l[i].1.m = nw n ∧ m[j].1.m = nw n ∧ m[j].2.m = nw n) := fun i j hi hj => by
    have x1 := A1 l[i] (List.getElem_mem hi)
    have x2 := A2 m[j] (List.getElem_mem hj)
    exact ⟨by rw [sg_at hi hj, x1.2.2.2.1], x1.2.2.1, x2.2.2.1, x2.2.2.2.1⟩
  have HM : Hid (∀ i (hi : i < l.length), l[i].2.m = nw n) := fun i hi => (A1 l[i] (List.getElem_mem hi)).2.2.2.1
  generalize sg l m = F at *
  generalize nw n = L at *
  obtain ⟨N, eN⟩ : ∃ N, l.length = N := ⟨_, rfl⟩
  obtain ⟨M, eM⟩ : ∃ M, m.length = M := ⟨_, rfl⟩
  have EN := hid1 eN
  have EM := hid1 eM
  rw [eN] at C1 hl
  rw [eM] at C1 hm
  rw [eN, eM]
  clear h1 h2 hE A1 A2 eN eM
  go_enter Try.func11, Try.ntmps11
  go_wp2_with fail
  refine C0.out.mono ?_
  rintro e w0 ⟨rfl, rfl⟩
  go_wp2_with fail
  refine C1.out.mono ?_
  rintro e w1 ⟨rfl, B1⟩
  clear C1
  go_wp2_with fail
  refine (zeros_any N M (by omega) (.inr (by omega)) w1).mono ?_
  rintro e w2 ⟨G, bb, rfl, hgr, hb2⟩
  have z1 := B1.size
  replace B1 := bl_step B1 hb2
  have hgr0 : Gr w2 w0.heap.size G bb N M (pg F 0 0) := ⟨hgr.out, fun i hi => (hgr.row i hi).congr (fun j _ => by simp [pg]), ⟨Nat.le_trans z1 hgr.low.1, fun i hi => Nat.le_trans z1 (hgr.low.2 i hi)⟩, hgr.apart⟩
  clear hgr hb2
  have HG0 := hid1 hgr0
  clear hgr0
  go_wp2_with fail
  go_loopw [32] (fun x wr => ∃ i : Nat, i ≤ N ∧ x = .int .i64 i ∧ Gr wr w0.heap.size G bb N M (pg F i 0) ∧ Below w0.heap.size w0 wr) (fun x _ => N - (intOf x).toNat)
  case atStart => exact ⟨0, Nat.zero_le _, rfl, HG0.out, B1⟩
  case round =>
    clear HG0 B1
    obtain ⟨i, hi, rfl, hgr, B1⟩ := hrel
    have HG := hid1 hgr
    clear hgr
    by_cases hlt : i < N
    · have hil : i < l.length := by rw [EN.out]; exact hlt
      obtain ⟨⟨g1, o1, rfl, c0, c1, c2, c3⟩, _, _⟩ := L1.out.below B1 i hil
      obtain ⟨_, hA, hB⟩ := L1.out i hil
      have ii : (i : Int) < (N : Int) := by omega
      have ii0 : (0 : Int) ≤ (i : Int) := by omega
      have HF1 : Hid (∀ j (hj : j < m.length), F i j = sq l[i].1 l[i].2 m[j].1 m[j].2 L ∧ l[i].1.m = L ∧ m[j].1.m = L ∧ m[j].2.m = L) := fun j hj => HF.out i j hil hj
      have eB := HM.out i hil
      generalize l[i] = ab at *
      obtain ⟨A, B⟩ := ab
      dsimp only at c0 c1 c2 c3 hA hB HF1 eB
      subst eB
      have HA := hid1 hA
      have HB := hid1 hB
      clear hA hB
      go_wp2_with fail
      refine gen_anyg (fun X => Below wr.heap.size wr X ∧ X.rowIs wr.heap.size 28 4 (qf A B)) ⟨bl_alloc (Below.refl _ _) _, q_new wr A B _⟩ ?_
      rintro X ⟨B2, r1⟩
      clear c0 c1 c2 c3
      obtain ⟨rb, erb⟩ : ∃ rb, wr.heap.size = rb := ⟨_, rfl⟩
      rw [erb] at r1
      rw [erb]
      have R1 := hid1 r1
      obtain ⟨S, hS⟩ : ∃ S : Nat → Nat → Int, S = fun j k => sq A B (m.getD j z0).1 (m.getD j z0).2 k := ⟨_, rfl⟩
      have S0 : ∀ j, S j 0 = 0 := fun j => by rw [hS]; rfl
      have HS : Hid (∀ j (hj : j < m.length) k, S j k = sq A B m[j].1 m[j].2 k) := fun j hj k => by rw [hS]; simp [List.getD, hj]
      have HG2 := hid1 (HG.out.below B2)
      rw [rg_start F S i S0] at HG2
      have BX := hid1 (bl_step B1 B2)
      clear erb r1 HG B1 B2 HF HM L1 hS S0
      go_loopw [12] (fun x wy => ∃ f : Nat, f ≤ B.m + 4096 ∧ x = .int .i64 f ∧ Gr wy w0.heap.size G bb N M (rg F i (fun j => S j (min f B.m))) ∧ wy.rowIs rb 28 4 (qf A B) ∧ Below w0.heap.size w0 wy) (fun x _ => B.m + 4096 - (intOf x).toNat)
      case atStart => exact ⟨0, Nat.zero_le _, rfl, HG2.out.congr fun i' j' _ _ => by rw [Nat.zero_min], R1.out, BX.out⟩
      case round =>
        clear HG2 R1 BX
        rename World => V
        obtain ⟨f, hf, rfl, hgr, r1, B1⟩ := hrel
        have c3 := q3 r1
        have HG := hid1 hgr
        have R1 := hid1 r1
        have BX := hid1 B1
        clear hgr r1
        by_cases hfl : f < B.m
        · have fl : (f : Int) < (B.m : Int) := by omega
          obtain ⟨t, et⟩ : ∃ t, min (f + p) B.m = t := ⟨_, rfl⟩
          have ht1 : f ≤ t := by omega
          have ht2 : t ≤ B.m := by omega
          have HT := hid1 et
          clear et
          go_upto_region 13 with fail
          go_cut [13] (fun s wx => s = .int .i64 t ∧ wx = V)
          case first =>
            have := HT.out
            go_wp2_with fail
            all_goals (go_meet; exact ⟨by congr 1; omega, rfl⟩)
          case rest =>
            obtain ⟨rfl, rfl⟩ := hcut
            have HG3 : Hid (Gr wc w0.heap.size G bb N M (rg F i (rr S f t 0))) := HG.out.congr fun i' j' _ _ => by
              have e0 : rr S f t 0 = fun j => S j f := by funext j; simp [rr]
              rw [Nat.min_eq_left (by omega), e0]
            clear HG c3 B1
            go_wp2_with fail
            go_loopw [56] (fun x wy => ∃ j : Nat, j ≤ M ∧ x = .int .i64 j ∧ Gr wy w0.heap.size G bb N M (rg F i (rr S f t j)) ∧ wy.rowIs rb 28 4 (qf A B) ∧ Below w0.heap.size w0 wy) (fun x _ => M - (intOf x).toNat)
            case atStart => exact ⟨0, Nat.zero_le _, rfl, HG3.out, R1.out, BX.out⟩
            case round =>
              clear HG3 R1 BX
              rename World => V
              obtain ⟨j, hj, rfl, hgr, r1, B1⟩ := hrel
              have HG := hid1 hgr
              have R1 := hid1 r1
              clear hgr r1
              by_cases hjl : j < M
              · have hjm : j < m.length := by rw [EM.out]; exact hjl
                obtain ⟨⟨g2, o2, rfl, c0, c1, c2, c3⟩, _, _⟩ := L2.out.below B1 j hjm
                obtain ⟨_, hC, hD⟩ := L2.out j hjm
                obtain ⟨_, ea, ec, ed⟩ := HF1.out j hjm
                have HSj : Hid (∀ k, S j k = sq A B m[j].1 m[j].2 k) := HS.out j hjm
                generalize m[j] = cd at *
                obtain ⟨C, D⟩ := cd
                dsimp only at c0 c1 c2 c3 hC hD ec ed HSj
                have HC := hid1 hC
                have HD := hid1 hD
                have jj : (j : Int) < (M : Int) := by omega
                have jj0 : (0 : Int) ≤ (j : Int) := by omega
                have EA := hid1 ea
                have EC := hid1 ec
                have ED := hid1 ed
                have x1 := sq_bd A B C D f
                have x2 := sq_bd A B C D t
                obtain ⟨xf, exf⟩ : ∃ xf, S j f = xf := ⟨_, rfl⟩
                obtain ⟨xt, ext⟩ : ∃ xt, S j t = xt := ⟨_, rfl⟩
                rw [← HSj.out, exf] at x1
                rw [← HSj.out, ext] at x2
                have XF := hid1 exf
                have XT := hid1 ext
                clear hC hD ea ec ed exf ext
                have CS : Hid (∀ Y : World, Below w0.heap.size w0 Y → Calls Try.prog 30 #[rwv A B, rwv C D, .int .i64 f, .int .i64 t, kfn] Y fun e w' => e = .returned (.int .i64 (xt - xf)) ∧ Below Y.heap.size Y w') := fun Y hY => by
                  have h := gsum_any A B C D f t B.m Y (HA.out.below hY) (HB.out.below hY) (HC.out.below hY) (HD.out.below hY) EA.out rfl EC.out ED.out hb ht1 ht2
                  rw [← HSj.out, ← HSj.out, XF.out, XT.out] at h
                  exact h
                clear HSj EA EC ED HC HD
                go_wp2_with fail
                refine gen_anyg (fun X => Below V.heap.size V X ∧ X.rowIs V.heap.size 28 4 (qf C D)) ⟨bl_alloc (Below.refl _ _) _, q_new V C D _⟩ ?_
                rintro Y ⟨B2, r2⟩
                clear c0 c1 c2 c3
                obtain ⟨kb, ekb⟩ : ∃ kb, V.heap.size = kb := ⟨_, rfl⟩
                rw [ekb] at r2
                rw [ekb]
                have r1 := keepr B2 R1.out
                have hg := HG.out.below B2
                have BY := bl_step B1 B2
                clear R1 HG B1 B2 ekb
                have cO := hg.out.cell hlt
                have HK : Hid (∀ X, Below Y.heap.size Y X → _) := fun X hX => kpG cO r1 r2 hX
                have hG := hid1 hg
                have n1 := row_ne (hg.row i hlt) r1 (by decide)
                have n2 := row_ne (hg.row i hlt) r2 (by decide)
                have n0 := (hg.apart i hlt).1
                have BYh := hid1 BY
                have R1 := hid1 r1
                have lowB := hid1 (hG.out.low.2 i hlt)
                have cS := (hg.row i hlt).cell hjl
                have fS := (hg.row i hlt).frozen j
                have eR : rg F i (rr S f t j) i j = xf := by unfold rg rr; rw [if_neg (by omega), if_pos rfl, if_neg (by omega), XF.out]
                rw [eR] at cS
                have ER := hid1 eR
                have a0 := q0 r1
                have a1 := q1 r1
                have a2 := q2 r1
                have a3 := q3 r1
                have b0 := q0 r2
                have b1 := q1 r2
                have b2 := q2 r2
                have b3 := q3 r2
                clear hg BY r1 r2 eR
                go_region_with (go_at_call 30; refine gen_calls (fun Z => Below Y.heap.size Y Z) (by repeat (first | (with_reducible exact Below.refl _ _) | (with_reducible assumption) | (with_reducible refine Below.drew ?_))) ?_; intro Z hZ; refine (CS.out Z (bl_step BYh.out hZ)).mono ?_; rintro e y1 ⟨rfl, hy1⟩; have hYy := bl_step hZ hy1; obtain ⟨k0, ⟨k1, k2, k3, k4⟩, k5, k6, k7, k8⟩ := HK.out y1 hYy; have cS1 := keepc hYy cS; have fS1 := ((hG.out.below hYy).row i hlt).frozen j)
                all_goals
                  have GF : Hid (Gr (y1.setCell ⟨bb i, j, none⟩ (.int .i64 xt)) w0.heap.size G bb N M (rg F i (rr S f t (j + 1)))) := by
                    have h := (hG.out.below hYy).set hlt j xt
                    rw [← XT.out, rg_set] at h
                    rw [← XT.out]
                    exact h
                  have RF := hid1 ((keepr hYy R1.out).setOther (a := ⟨bb i, j, none⟩) (Ne.symm n1) (.int .i64 xt))
                  have BF := hid1 (bl_set (b := bb i) (o := j) (bl_step BYh.out hYy) lowB.out (.int .i64 xt))
                  have ex : xf + (xt - xf) = xt := by omega
                  (try rw [ex])
                  clear cS cS1 fS fS1 hy1 hYy hZ CS HK hG R1 BYh k0 k1 k2 k3 k4 k5 k6 k7 k8
                  go_wp2_with fail
                  exact ⟨⟨j + 1, by omega, by go_num, GF.out, RF.out, BF.out⟩, by simp [intOf]; omega⟩
              · have hjN : j = M := by omega
                subst hjN
                have HR : Hid (Gr V w0.heap.size G bb N j (rg F i (fun q => S q (min (f + p) B.m)))) := HG.out.congr fun i' j' _ h => by
                  unfold rg rr
                  by_cases e : i' < i
                  · rw [if_pos e, if_pos e]
                  · rw [if_neg e, if_neg e]
                    by_cases e2 : i' = i
                    · rw [if_pos e2, if_pos e2, if_pos h, HT.out]
                    · rw [if_neg e2, if_neg e2]
                clear HG
                go_wp2_with fail
                exact ⟨⟨f + p, by omega, by go_num, HR.out, R1.out, B1⟩, by simp [intOf]; omega⟩
        · have fl : (B.m : Int) ≤ (f : Int) := by omega
          have HR : Hid (Gr V w0.heap.size G bb N M (pg F (i + 1) 0)) := HG.out.congr fun i' j' _ h => by
            unfold pg rg
            by_cases e : i' < i
            · rw [if_pos e, if_pos (by omega)]
            · rw [if_neg e]
              by_cases e2 : i' = i
              · have hj : j' < m.length := by rw [EM.out]; exact h
                rw [if_pos e2, if_pos (by omega), e2, (HF1.out j' hj).1]
                dsimp only
                rw [HS.out j' hj, Nat.min_eq_right (by omega)]
              · rw [if_neg e2, if_neg (by omega)]
          clear hfl
          go_wp2_with fail
          exact ⟨⟨i + 1, by omega, by go_num, HR.out, BX.out⟩, by simp [intOf]; omega⟩
    · have hkN : i = N := by omega
      subst hkN
      have HR : Hid (Gr wr w0.heap.size G bb i M F) := HG.out.congr fun i' j' h _ => by simp [pg, h]
      go_wp2_with fail
      go_ret2
      exact ⟨G, bb, rfl, HR.out, B1⟩
end Go.Proofs.Ytakoicolffkbmaa
