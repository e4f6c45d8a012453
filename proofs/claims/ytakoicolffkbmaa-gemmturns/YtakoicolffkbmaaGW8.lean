/- PACKAGE gemm: Block. -/
import Derived.Test.YtakoicolffkbmaaGW7
import Derived.Test.YtakoicolffkbmaaGW5
namespace Go.Proofs.Ytakoicolffkbmaa
open Go.RowKit

/-- As far as it is reckoned: the rows ahead of t; of the rows ahead of b the columns ahead of l; of those ahead of i the columns ahead of r. -/
def bg (F : Nat → Nat → Int) (t b l i r : Nat) : Nat → Nat → Int := fun i' j' => if i' < t ∨ (i' < b ∧ j' < l) ∨ (i' < i ∧ j' < r) then F i' j' else 0
theorem bg_same {F : Nat → Nat → Int} {t b l i r t' b' l' i' r' N M : Nat} (h : ∀ x y, x < N → y < M → ((x < t ∨ (x < b ∧ y < l) ∨ (x < i ∧ y < r)) ↔ (x < t' ∨ (x < b' ∧ y < l') ∨ (x < i' ∧ y < r')))) : ∀ x y, x < N → y < M → bg F t b l i r x y = bg F t' b' l' i' r' x y := fun x y hx hy => by
  unfold bg
  by_cases h1 : x < t ∨ (x < b ∧ y < l) ∨ (x < i ∧ y < r)
  · rw [if_pos h1, if_pos ((h x y hx hy).1 h1)]
  · rw [if_neg h1, if_neg (fun h2 => h1 ((h x y hx hy).2 h2))]
theorem block_bad (l m : List (Bt × Bt)) (a b : Option Addr) (ca cb : Nat) (p q : Int) (w : World) (h1 : Lq w a l) (h2 : Lq w b m) (hl : l.length ≤ 1099511627776) (hm : m.length ≤ 1099511627776) (hE : gE l m ≠ 0) (hp : 1 ≤ p ∧ p ≤ 4096) (hq : 1 ≤ q ∧ q ≤ 4096) :
    Calls Try.prog 10 #[.slice a l.length ca, .slice b m.length cb, .int .i64 p, .int .i64 q] w fun e w' => e = .returned (.tuple #[.slice none 0 0, .int .i64 (gE l m)]) ∧ Below w.heap.size w w' := by
  have C1 := hid1 (gfault_any l m a b ca cb w h1 h2 (by omega) (by omega))
  have C0 := hid1 (within_any p w)
  have C2 := hid1 (within_any q w)
  rw [decide_eq_true hp] at C0
  rw [decide_eq_true hq] at C2
  generalize gE l m = e at *
  generalize l.length = N at *
  generalize m.length = M at *
  clear h1 h2
  go_enter Try.func10, Try.ntmps10
  go_wp2_with fail
  refine C0.out.mono ?_
  rintro e w1 ⟨rfl, rfl⟩
  go_wp2_with fail
  refine C2.out.mono ?_
  rintro e w1 ⟨rfl, rfl⟩
  go_wp2_with fail
  refine C1.out.mono ?_
  rintro e w2 ⟨rfl, hb⟩
  go_wp2_with fail
  go_ret2
  exact ⟨rfl, hb⟩
theorem block_arg (N M : Nat) (a b : Option Addr) (ca cb : Nat) (p q : Int) (w : World) (ht : ¬ ((1 ≤ p ∧ p ≤ 4096) ∧ (1 ≤ q ∧ q ≤ 4096))) :
    Calls Try.prog 10 #[.slice a N ca, .slice b M cb, .int .i64 p, .int .i64 q] w fun e w' => e = .returned (.tuple #[.slice none 0 0, .int .i64 1]) ∧ w' = w := by
  have C0 := hid1 (within_any p w)
  have C2 := hid1 (within_any q w)
  by_cases hp : 1 ≤ p ∧ p ≤ 4096
  · rw [decide_eq_true hp] at C0
    rw [decide_eq_false (fun h => ht ⟨hp, h⟩)] at C2
    clear ht hp
    go_enter Try.func10, Try.ntmps10
    go_wp2_with fail
    refine C0.out.mono ?_
    rintro e w1 ⟨rfl, rfl⟩
    go_wp2_with fail
    refine C2.out.mono ?_
    rintro e w1 ⟨rfl, rfl⟩
    go_wp2_with fail
    go_ret2
    exact ⟨rfl, rfl⟩
  · rw [decide_eq_false hp] at C0
    clear ht hp
    go_enter Try.func10, Try.ntmps10
    go_wp2_with fail
    refine C0.out.mono ?_
    rintro e w1 ⟨rfl, rfl⟩
    go_wp2_with fail
    go_ret2
    exact ⟨rfl, rfl⟩
set_option maxHeartbeats 1600000 in
set_option maxRecDepth 100000 in
theorem block_ok (l m : List (Bt × Bt)) (a b : Option Addr) (ca cb p q : Nat) (w : World) (h1 : Lq w a l) (h2 : Lq w b m) (hl : l.length ≤ 1099511627776) (hm : m.length ≤ 1099511627776) (hcb : m.length ≤ cb) (hE : gE l m = 0) (hp1 : 1 ≤ p) (hp2 : p ≤ 4096) (hq1 : 1 ≤ q) (hq2 : q ≤ 4096) :
    Calls Try.prog 10 #[.slice a l.length ca, .slice b m.length cb, .int .i64 p, .int .i64 q] w fun e w' => ∃ G bb, e = .returned (.tuple #[.slice (some ⟨G, 0, none⟩) l.length l.length, .int .i64 0]) ∧ Gr w' w.heap.size G bb l.length m.length (sg l m) ∧ Below w.heap.size w w' := by
  have C1 := hid1 (gfault_any l m a b ca cb w h1 h2 (by omega) (by omega))
  have C0 := hid1 (within_any p w)
  have C2 := hid1 (within_any q w)
  rw [decide_eq_true (by omega)] at C0
  rw [decide_eq_true (by omega)] at C2
  obtain ⟨n, hn, A1, A2, hNM⟩ := gE_zero hE
  rw [hE] at C1
  have hb := nw_bd hn
  have L1 := hid1 h1
  have L2 := hid1 h2
  have HF : Hid (∀ i j (hi : i < l.length) (hj : j < m.length), sg l m i j = sq l[i].1 l[i].2 m[j].1 m[j].2 (nw n) ∧ m[j].1.m = nw n ∧ m[j].2.m = nw n) := fun i j hi hj => by
    have x1 := A1 l[i] (List.getElem_mem hi)
    have x2 := A2 m[j] (List.getElem_mem hj)
    exact ⟨by rw [sg_at hi hj, x1.2.2.2.1], x2.2.2.1, x2.2.2.2.1⟩
  have HM : Hid (∀ i (hi : i < l.length), l[i].1.m = nw n ∧ l[i].2.m = nw n) := fun i hi => ⟨(A1 l[i] (List.getElem_mem hi)).2.2.1, (A1 l[i] (List.getElem_mem hi)).2.2.2.1⟩
  generalize sg l m = F at *
  generalize nw n = L at *
  obtain ⟨N, eN⟩ : ∃ N, l.length = N := ⟨_, rfl⟩
  obtain ⟨M, eM⟩ : ∃ M, m.length = M := ⟨_, rfl⟩
  have EN := hid1 eN
  have EM := hid1 eM
  rw [eN] at C1 hl hNM
  rw [eM] at C1 hm hNM hcb
  rw [eN, eM]
  clear h1 h2 hE A1 A2 eN eM
  have HNM := hid1 hNM
  clear hNM
  go_enter Try.func10, Try.ntmps10
  go_wp2_with fail
  refine C0.out.mono ?_
  rintro e w0 ⟨rfl, rfl⟩
  go_wp2_with fail
  refine C2.out.mono ?_
  rintro e w0 ⟨rfl, rfl⟩
  go_wp2_with fail
  refine C1.out.mono ?_
  rintro e w1 ⟨rfl, B1⟩
  clear C0 C1 C2
  go_wp2_with fail
  refine (zeros_any N M (by omega) (.inr (by omega)) w1).mono ?_
  rintro e w2 ⟨G, bb, rfl, hgr, hb2⟩
  have z1 := B1.size
  replace B1 := bl_step B1 hb2
  have hgr0 : Gr w2 w0.heap.size G bb N M (bg F 0 0 0 0 0) := ⟨hgr.out, fun i hi => (hgr.row i hi).congr (fun j _ => by simp [bg]), ⟨Nat.le_trans z1 hgr.low.1, fun i hi => Nat.le_trans z1 (hgr.low.2 i hi)⟩, hgr.apart⟩
  clear hgr hb2 z1
  have HG0 := hid1 hgr0
  clear hgr0
  go_wp2_with fail
  go_loopw [12] (fun x wr => ∃ t : Nat, t ≤ N + 4096 ∧ x = .int .i64 t ∧ Gr wr w0.heap.size G bb N M (bg F t 0 0 0 0) ∧ Below w0.heap.size w0 wr) (fun x _ => N + 4096 - (intOf x).toNat)
  case atStart => exact ⟨0, Nat.zero_le _, rfl, HG0.out, B1⟩
  case round =>
    clear HG0 B1
    obtain ⟨t, ht, rfl, hgr, B1⟩ := hrel
    have HG := hid1 hgr
    have BX := hid1 B1
    clear hgr B1
    by_cases hlt : t < N
    · have it : (t : Int) < (N : Int) := by omega
      obtain ⟨bt, ebt⟩ : ∃ bt, min (t + p) N = bt := ⟨_, rfl⟩
      have hbt1 : t < bt := by omega
      have hbt2 : bt ≤ N := by omega
      have HBT := hid1 ebt
      have hM : M ≤ 16777216 := by
        have h := HNM.out
        have h2 : 1 * M ≤ N * M := Nat.mul_le_mul_right _ (by omega)
        omega
      clear ebt
      go_upto_region 10 with fail
      go_cut [13] (fun s wx => s = .int .i64 bt ∧ wx = wr)
      case first =>
        have := HBT.out
        go_wp2_with fail
        all_goals (go_meet; exact ⟨by congr 1; omega, rfl⟩)
      case rest =>
        obtain ⟨rfl, rfl⟩ := hcut
        have HG1 : Hid (Gr wc w0.heap.size G bb N M (bg F t bt 0 0 0)) := HG.out.congr (bg_same fun x y _ _ => by omega)
        clear HG
        go_wp2_with fail
        go_loopw [14] (fun x wy => ∃ lf : Nat, lf ≤ M + 4096 ∧ x = .int .i64 lf ∧ Gr wy w0.heap.size G bb N M (bg F t bt lf 0 0) ∧ Below w0.heap.size w0 wy) (fun x _ => M + 4096 - (intOf x).toNat)
        case atStart => exact ⟨0, Nat.zero_le _, rfl, HG1.out, BX.out⟩
        case round =>
          clear HG1 BX
          rename World => V
          obtain ⟨lf, hlf, rfl, hgr, B1⟩ := hrel
          have HG := hid1 hgr
          have BX := hid1 B1
          clear hgr B1
          by_cases hll : lf < M
          · have il : (lf : Int) < (M : Int) := by omega
            obtain ⟨rt, ert⟩ : ∃ rt, min (lf + q) M = rt := ⟨_, rfl⟩
            have hrt1 : lf < rt := by omega
            have hrt2 : rt ≤ M := by omega
            have HRT := hid1 ert
            clear ert
            go_upto_region 14 with fail
            go_cut [15] (fun s wx => s = .int .i64 rt ∧ wx = V)
            case first =>
              have := HRT.out
              go_wp2_with fail
              all_goals (go_meet; exact ⟨by congr 1; omega, rfl⟩)
            case rest =>
              obtain ⟨rfl, rfl⟩ := hcut
              have HG1 : Hid (Gr wc w0.heap.size G bb N M (bg F t bt lf t rt)) := HG.out.congr (bg_same fun x y _ _ => by omega)
              clear HG
              go_wp2_with fail
              go_loopw [16] (fun x wy => ∃ i : Nat, t ≤ i ∧ i ≤ bt ∧ x = .int .i64 i ∧ Gr wy w0.heap.size G bb N M (bg F t bt lf i rt) ∧ Below w0.heap.size w0 wy) (fun x _ => bt - (intOf x).toNat)
              case atStart => exact ⟨t, Nat.le_refl _, by omega, rfl, HG1.out, BX.out⟩
              case round =>
                clear HG1 BX
                rename World => V
                obtain ⟨i, hti, hi, rfl, hgr, B1⟩ := hrel
                by_cases hib : i < bt
                · have hiN : i < N := by omega
                  have hil : i < l.length := by rw [EN.out]; exact hiN
                  have hlm : lf < m.length := by rw [EM.out]; exact hll
                  obtain ⟨⟨g1, o1, rfl, c0, c1, c2, c3⟩, _, _⟩ := L1.out.below B1 i hil
                  obtain ⟨⟨g2, o2, rfl, _⟩, _, _⟩ := L2.out lf hlm
                  obtain ⟨_, hA, hB⟩ := L1.out i hil
                  obtain ⟨eA, eB⟩ := HM.out i hil
                  have HFi : Hid (∀ j (hj : j < m.length), F i j = sq l[i].1 l[i].2 m[j].1 m[j].2 L ∧ m[j].1.m = L ∧ m[j].2.m = L) := fun j hj => HF.out i j hil hj
                  generalize l[i] = ab at *
                  obtain ⟨A, B⟩ := ab
                  dsimp only at c0 c1 c2 c3 hA hB eA eB HFi
                  have cO := hgr.out.cell hiN
                  have HA := hid1 hA
                  have HB := hid1 hB
                  have EA := hid1 eA
                  have EB := hid1 eB
                  have HG := hid1 hgr
                  have BX := hid1 B1
                  have CA : Hid (∀ X : World, Below V.heap.size V X → Calls Try.prog 33 #[.slice (some ⟨bb i, lf, none⟩) (rt - lf) (M - lf), rwv A B, .slice (some ⟨g2, o2 + lf * 4, none⟩) (rt - lf) (cb - lf), kfn] X fun e w' => e = .returned (.tuple #[]) ∧ Gr w' w0.heap.size G bb N M (bg F t bt lf (i + 1) rt) ∧ Below w0.heap.size w0 w') := fun X hX => by
                    have hg := HG.out.below hX
                    have hBX := bl_step BX.out hX
                    have h := along_any A B (fun k => m.getD (lf + k) z0) (rt - lf) L (bb i) lf (M - lf) g2 (o2 + lf * 4) (cb - lf) M (bg F t bt lf i rt i) w0 X hBX (hg.low.2 i hiN) HA.out HB.out (fun k hk => by
                      have hkm : lf + k < m.length := by rw [EM.out]; omega
                      obtain ⟨⟨g3, o3, e3, hcq⟩, r1, r2⟩ := L2.out (lf + k) hkm
                      cases e3
                      obtain ⟨_, e1, e2⟩ := HFi.out (lf + k) hkm
                      have eg : m.getD (lf + k) z0 = m[lf + k] := by simp [List.getD, hkm]
                      rw [eg, show o2 + lf * 4 + k * 4 = o2 + (lf + k) * 4 by omega]
                      exact ⟨hcq, r1, r2, e1, e2⟩) EA.out EB.out hb (hg.row i hiN) (by omega) (by omega) (by omega) (by omega)
                    refine h.mono ?_
                    rintro e w' ⟨rfl, hrow, hbut⟩
                    refine ⟨rfl, ?_, hbut.below (hg.low.2 i hiN) hBX.size hBX⟩
                    unfold ag at hrow
                    refine (hg.but hiN hbut hrow).congr fun i' j' hi' hj' => ?_
                    by_cases e : i' = i
                    · subst e
                      rw [if_pos rfl]
                      unfold bg
                      by_cases e2 : lf ≤ j' ∧ j' < lf + (rt - lf)
                      · have hjm : j' < m.length := by rw [EM.out]; exact hj'
                        have eg : m.getD (lf + (j' - lf)) z0 = m[j'] := by rw [show lf + (j' - lf) = j' by omega]; simp [List.getD, hjm]
                        rw [if_pos e2, if_pos (by omega)]
                        dsimp only
                        rw [eg]
                        exact (HFi.out j' hjm).1.symm
                      · rw [if_neg e2]
                        by_cases e3 : i' < t ∨ (i' < bt ∧ j' < lf) ∨ (i' < i' ∧ j' < rt)
                        · rw [if_pos e3, if_pos (by omega)]
                        · rw [if_neg e3, if_neg (by omega)]
                    · rw [if_neg e]
                      unfold bg
                      by_cases e3 : i' < t ∨ (i' < bt ∧ j' < lf) ∨ (i' < i ∧ j' < rt)
                      · rw [if_pos e3, if_pos (by omega)]
                      · rw [if_neg e3, if_neg (by omega)]
                  clear hgr B1 hA hB eA eB HA HB EA EB HG
                  have ii : (i : Int) < (bt : Int) := by omega
                  have iN : (i : Int) < (N : Int) := by omega
                  have ii0 : (0 : Int) ≤ (i : Int) := by omega
                  have jl0 : (0 : Int) ≤ (lf : Int) := by omega
                  have jr0 : (0 : Int) ≤ (rt : Int) := by omega
                  have jlr : (lf : Int) ≤ (rt : Int) := by omega
                  have jrM : (rt : Int) ≤ (M : Int) := by omega
                  have jrc : (rt : Int) ≤ (cb : Int) := by omega
                  have nd1 : ¬ M = lf := by omega
                  have nd2 : ¬ cb = lf := by omega
                  go_wp2_with fail
                  refine still_tail 15 (by decide +kernel) ?_
                  simp only [List.take_succ_cons, List.take_zero, List.drop_succ_cons, List.drop_zero]
                  repeat still_step
                  refine wpStill_nil ?_
                  go_wp2_with (go_at_call 33; refine gen_calls (fun X => Below V.heap.size V X) (Below.drew (Below.refl _ _)) ?_; intro X hX; refine (CA.out X hX).mono ?_; rintro e w1 ⟨rfl, hgr1, hB1⟩)
                  exact ⟨⟨i + 1, by omega, by omega, by go_num, hgr1, hB1⟩, by simp [intOf]; omega⟩
                · have hib' : i = bt := by omega
                  subst hib'
                  have HR : Hid (Gr V w0.heap.size G bb N M (bg F t i (lf + q) 0 0)) := hgr.congr (bg_same fun x y _ _ => by have := HRT.out; omega)
                  have BX := hid1 B1
                  clear hgr B1
                  go_wp2_with fail
                  exact ⟨⟨lf + q, by omega, by go_num, HR.out, BX.out⟩, by simp [intOf]; omega⟩
          · have il : (M : Int) ≤ (lf : Int) := by omega
            have HR : Hid (Gr V w0.heap.size G bb N M (bg F (t + p) 0 0 0 0)) := HG.out.congr (bg_same fun x y _ _ => by have := HBT.out; omega)
            clear HG
            go_wp2_with fail
            exact ⟨⟨t + p, by omega, by go_num, HR.out, BX.out⟩, by simp [intOf]; omega⟩
    · have it : (N : Int) ≤ (t : Int) := by omega
      have HR : Hid (Gr wr w0.heap.size G bb N M F) := HG.out.congr fun i' j' h _ => by unfold bg; rw [if_pos (by omega)]
      go_wp2_with fail
      go_ret2
      exact ⟨G, bb, rfl, HR.out, BX.out⟩
end Go.Proofs.Ytakoicolffkbmaa
