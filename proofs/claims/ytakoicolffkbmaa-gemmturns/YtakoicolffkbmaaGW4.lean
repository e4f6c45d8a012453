/- PACKAGE gemm: Plain. -/
import Derived.Test.YtakoicolffkbmaaGW3
import Derived.Deep.RegionHeld3
namespace Go.Proofs.Ytakoicolffkbmaa
open Go.RowKit

abbrev z0 : Bt × Bt := (⟨0, none, 0, 0, 0⟩, ⟨0, none, 0, 0, 0⟩)
/-- The sum of row i with column j. -/
def sg (l m : List (Bt × Bt)) (i j : Nat) : Int := sq (l.getD i z0).1 (l.getD i z0).2 (m.getD j z0).1 (m.getD j z0).2 (l.getD i z0).2.m
theorem sg_at {l m : List (Bt × Bt)} {i j : Nat} (hi : i < l.length) (hj : j < m.length) : sg l m i j = sq l[i].1 l[i].2 m[j].1 m[j].2 l[i].2.m := by
  unfold sg; simp [List.getD, hi, hj]
/-- Rows that may be, of n bits each. -/
def Al (n : Nat) (l : List (Bt × Bt)) : Prop := ∀ x, x ∈ l → x.1.n = n ∧ x.2.n = n ∧ x.1.m = nw n ∧ x.2.m = nw n ∧ x.1.N < 2 ^ n ∧ x.2.N < 2 ^ n
theorem al_of {n : Int} {l : List (Bt × Bt)} (h : od n l = 0) {k : Nat} (hn : n = k) : Al k l := fun x hx => by
  obtain ⟨h1, h2⟩ := od_zero h x hx
  obtain ⟨q, e1, e2, _, e4, e5, e6, e7, _⟩ := dck_zero h1
  have : q = k := by omega
  subst this
  exact ⟨e1, e2, e4, e5, e6, e7⟩
theorem gE_zero {l m : List (Bt × Bt)} (h : gE l m = 0) : ∃ n : Nat, n ≤ 16777216 ∧ Al n l ∧ Al n m ∧ l.length * m.length ≤ 16777216 := by
  unfold gE at h
  by_cases h1 : 16777216 < l.length * m.length
  · rw [if_pos h1] at h; omega
  rw [if_neg h1] at h
  by_cases h2 : od (fiL l m) l = 0
  · rw [if_pos h2] at h
    have key : ∃ n : Nat, n ≤ 16777216 ∧ fiL l m = n := by
      cases l with
      | cons x l =>
        obtain ⟨h3, _⟩ := od_zero h2 x (by simp)
        obtain ⟨q, _, e2, e3, _⟩ := dck_zero h3
        exact ⟨q, e3, e2⟩
      | nil =>
        cases m with
        | cons x m =>
          obtain ⟨h3, _⟩ := od_zero h x (by simp)
          obtain ⟨q, _, e2, e3, _⟩ := dck_zero h3
          exact ⟨q, e3, e2⟩
        | nil => exact ⟨0, by omega, rfl⟩
    obtain ⟨n, hn, e⟩ := key
    exact ⟨n, hn, al_of h2 e, al_of h e, by omega⟩
  · rw [if_neg h2] at h; exact absurd h h2

/-- As far as it is reckoned: the rows ahead of i, of row i the columns ahead of j. -/
def pg (F : Nat → Nat → Int) (i j : Nat) : Nat → Nat → Int := fun i' j' => if i' < i ∨ (i' = i ∧ j' < j) then F i' j' else 0
theorem pg_step (F : Nat → Nat → Int) (i j : Nat) : (fun i' j' => if i' = i ∧ j' = j then F i j else pg F i j i' j') = pg F i (j + 1) := by
  funext i' j'
  unfold pg
  by_cases h : i' = i ∧ j' = j
  · rw [if_pos h, if_pos (by omega), h.1, h.2]
  · rw [if_neg h]
    by_cases h2 : i' < i ∨ (i' = i ∧ j' < j)
    · rw [if_pos h2, if_pos (by omega)]
    · rw [if_neg h2, if_neg (by omega)]
theorem kpG {W X : World} {G i rb cb : Nat} {v : Value} {A B C D : Bt} (h0 : W.cell? ⟨G, i, none⟩ = some v) (h1 : W.rowIs rb 28 4 (qf A B)) (h2 : W.rowIs cb 28 4 (qf C D)) (hb : Below W.heap.size W X) :
    X.cell? ⟨G, i, none⟩ = some v ∧ (X.cell? ⟨rb, 0, none⟩ = some (.int .i64 A.n) ∧ X.cell? ⟨rb, 1, none⟩ = some (.slice A.ao A.m A.cap) ∧ X.cell? ⟨rb, 2, none⟩ = some (.int .i64 B.n) ∧ X.cell? ⟨rb, 3, none⟩ = some (.slice B.ao B.m B.cap)) ∧ X.cell? ⟨cb, 0, none⟩ = some (.int .i64 C.n) ∧ X.cell? ⟨cb, 1, none⟩ = some (.slice C.ao C.m C.cap) ∧ X.cell? ⟨cb, 2, none⟩ = some (.int .i64 D.n) ∧ X.cell? ⟨cb, 3, none⟩ = some (.slice D.ao D.m D.cap) :=
  have r1 := keepr hb h1
  have r2 := keepr hb h2
  ⟨keepc hb h0, ⟨q0 r1, q1 r1, q2 r1, q3 r1⟩, q0 r2, q1 r2, q2 r2, q3 r2⟩
theorem plain_bad (l m : List (Bt × Bt)) (a b : Option Addr) (ca cb : Nat) (w : World) (h1 : Lq w a l) (h2 : Lq w b m) (hl : l.length ≤ 1099511627776) (hm : m.length ≤ 1099511627776) (hE : gE l m ≠ 0) :
    Calls Try.prog 9 #[.slice a l.length ca, .slice b m.length cb] w fun e w' => e = .returned (.tuple #[.slice none 0 0, .int .i64 (gE l m)]) ∧ Below w.heap.size w w' := by
  have C1 := hid1 (gfault_any l m a b ca cb w h1 h2 (by omega) (by omega))
  generalize gE l m = q at *
  generalize l.length = N at *
  generalize m.length = M at *
  clear h1 h2
  go_enter Try.func9, Try.ntmps9
  go_wp2_with fail
  refine C1.out.mono ?_
  rintro e w1 ⟨rfl, hb⟩
  go_wp2_with fail
  go_ret2
  exact ⟨rfl, hb⟩
set_option maxHeartbeats 1600000 in
set_option maxRecDepth 100000 in
theorem plain_ok (l m : List (Bt × Bt)) (a b : Option Addr) (ca cb : Nat) (w : World) (h1 : Lq w a l) (h2 : Lq w b m) (hl : l.length ≤ 1099511627776) (hm : m.length ≤ 1099511627776) (hE : gE l m = 0) :
    Calls Try.prog 9 #[.slice a l.length ca, .slice b m.length cb] w fun e w' => ∃ G bb, e = .returned (.tuple #[.slice (some ⟨G, 0, none⟩) l.length l.length, .int .i64 0]) ∧ Gr w' w.heap.size G bb l.length m.length (sg l m) ∧ Below w.heap.size w w' := by
  have C1 := hid1 (gfault_any l m a b ca cb w h1 h2 (by omega) (by omega))
  obtain ⟨n, hn, A1, A2, _⟩ := gE_zero hE
  rw [hE] at C1
  have hb := nw_bd hn
  have L1 := hid1 h1
  have L2 := hid1 h2
  have HF : Hid (∀ i j (hi : i < l.length) (hj : j < m.length), sg l m i j = sq l[i].1 l[i].2 m[j].1 m[j].2 (nw n) ∧ l[i].1.m = nw n ∧ l[i].2.m = nw n ∧ m[j].1.m = nw n ∧ m[j].2.m = nw n) := fun i j hi hj => by
    have x1 := A1 l[i] (List.getElem_mem hi)
    have x2 := A2 m[j] (List.getElem_mem hj)
    exact ⟨by rw [sg_at hi hj, x1.2.2.2.1], x1.2.2.1, x1.2.2.2.1, x2.2.2.1, x2.2.2.2.1⟩
  generalize sg l m = F at *
  obtain ⟨N, eN⟩ : ∃ N, l.length = N := ⟨_, rfl⟩
  obtain ⟨M, eM⟩ : ∃ M, m.length = M := ⟨_, rfl⟩
  have EN := hid1 eN
  have EM := hid1 eM
  rw [eN] at C1 hl
  rw [eM] at C1 hm
  rw [eN, eM]
  clear h1 h2 hE A1 A2 eN eM
  go_enter Try.func9, Try.ntmps9
  go_wp2_with fail
  refine C1.out.mono ?_
  rintro e w1 ⟨rfl, B1⟩
  clear C1
  go_wp2_with fail
  refine (zeros_any N M (by omega) (.inr (by omega)) w1).mono ?_
  rintro e w2 ⟨G, bb, rfl, hgr, hb2⟩
  have z1 := B1.size
  replace B1 := bl_step B1 hb2
  have hgr0 : Gr w2 w.heap.size G bb N M (pg F 0 0) := ⟨hgr.out, fun i hi => (hgr.row i hi).congr (fun j _ => by simp [pg]), ⟨Nat.le_trans z1 hgr.low.1, fun i hi => Nat.le_trans z1 (hgr.low.2 i hi)⟩, hgr.apart⟩
  clear hgr hb2
  have HG0 := hid1 hgr0
  clear hgr0
  go_wp2_with fail
  go_loopw [25] (fun x wr => ∃ i : Nat, i ≤ N ∧ x = .int .i64 i ∧ Gr wr w.heap.size G bb N M (pg F i 0) ∧ Below w.heap.size w wr) (fun x _ => N - (intOf x).toNat)
  case atStart => exact ⟨0, Nat.zero_le _, rfl, HG0.out, B1⟩
  case round =>
    clear HG0 B1
    obtain ⟨i, hi, rfl, hgr, B1⟩ := hrel
    have HG := hid1 hgr
    clear hgr
    by_cases hlt : i < N
    · have hil : i < l.length := by rw [EN.out]; exact hlt
      obtain ⟨⟨g1, o1, rfl, c0, c1, c2, c3⟩, _, _⟩ := L1.out.below B1 i hil
      obtain ⟨_, hA, hB⟩ := L1.out i hil
      have ii : (i : Int) < (N : Int) := by omega
      have ii0 : (0 : Int) ≤ (i : Int) := by omega
      have HF1 : Hid (∀ j (hj : j < m.length), F i j = sq l[i].1 l[i].2 m[j].1 m[j].2 (nw n) ∧ l[i].1.m = nw n ∧ l[i].2.m = nw n ∧ m[j].1.m = nw n ∧ m[j].2.m = nw n) := fun j hj => HF.out i j hil hj
      generalize l[i] = ab at *
      obtain ⟨A, B⟩ := ab
      dsimp only at c0 c1 c2 c3 hA hB HF1
      have HA := hid1 hA
      have HB := hid1 hB
      clear hA hB
      go_wp2_with fail
      refine gen_anyg (fun X => Below wr.heap.size wr X ∧ X.rowIs wr.heap.size 28 4 (qf A B)) ⟨bl_alloc (Below.refl _ _) _, q_new wr A B _⟩ ?_
      rintro X ⟨B2, r1⟩
      clear c0 c1 c2 c3
      obtain ⟨rb, erb⟩ : ∃ rb, wr.heap.size = rb := ⟨_, rfl⟩
      rw [erb] at r1
      rw [erb]
      have R1 := hid1 r1
      have HG2 := hid1 (HG.out.below B2)
      have BX := hid1 (bl_step B1 B2)
      have hrbM : w.heap.size ≤ rb := by rw [← erb]; exact B1.size
      clear erb r1 HG B1 B2 HF L1
      go_loopw [32] (fun x wy => ∃ j : Nat, j ≤ M ∧ x = .int .i64 j ∧ Gr wy w.heap.size G bb N M (pg F i j) ∧ wy.rowIs rb 28 4 (qf A B) ∧ Below w.heap.size w wy) (fun x _ => M - (intOf x).toNat)
      case atStart => exact ⟨0, Nat.zero_le _, rfl, HG2.out, R1.out, BX.out⟩
      case round =>
        clear HG2 R1 BX
        rename World => V
        obtain ⟨j, hj, rfl, hgr, r1, B1⟩ := hrel
        have HG := hid1 hgr
        have R1 := hid1 r1
        clear hgr r1
        by_cases hjl : j < M
        · have hjm : j < m.length := by rw [EM.out]; exact hjl
          obtain ⟨⟨g2, o2, rfl, c0, c1, c2, c3⟩, _, _⟩ := L2.out.below B1 j hjm
          obtain ⟨_, hC, hD⟩ := L2.out j hjm
          obtain ⟨HE, ea, eb, ec, ed⟩ := HF1.out j hjm
          generalize m[j] = cd at *
          obtain ⟨C, D⟩ := cd
          dsimp only at c0 c1 c2 c3 hC hD HE ec ed
          have HC := hid1 hC
          have HD := hid1 hD
          have jj : (j : Int) < (M : Int) := by omega
          have jj0 : (0 : Int) ≤ (j : Int) := by omega
          have HEh := hid1 HE
          have EA := hid1 ea
          have EB := hid1 eb
          have EC := hid1 ec
          have ED := hid1 ed
          clear hC hD HE ea eb ec ed
          have CS : Hid (∀ Y : World, Below w.heap.size w Y → Calls Try.prog 30 #[rwv A B, rwv C D, .int .i64 0, .int .i64 B.m, kfn] Y fun e w' => e = .returned (.int .i64 (F i j)) ∧ Below Y.heap.size Y w') := fun Y hY => by
            have h := gsum_any A B C D 0 (nw n) (nw n) Y (HA.out.below hY) (HB.out.below hY) (HC.out.below hY) (HD.out.below hY) EA.out EB.out EC.out ED.out hb (Nat.zero_le _) (Nat.le_refl _)
            rw [sq_zero, Int.sub_zero, ← HEh.out] at h
            rw [EB.out]
            exact h
          clear HEh EA EB EC ED HC HD
          go_wp2_with fail
          refine gen_anyg (fun X => Below V.heap.size V X ∧ X.rowIs V.heap.size 28 4 (qf C D)) ⟨bl_alloc (Below.refl _ _) _, q_new V C D _⟩ ?_
          rintro Y ⟨B2, r2⟩
          clear c0 c1 c2 c3
          obtain ⟨kb, ekb⟩ : ∃ kb, V.heap.size = kb := ⟨_, rfl⟩
          rw [ekb] at r2
          rw [ekb]
          have r1 := keepr B2 R1.out
          have hg := HG.out.below B2
          have BY := bl_step B1 B2
          clear R1 HG B1 B2 ekb
          have cO := hg.out.cell hlt
          have HK : Hid (∀ X, Below Y.heap.size Y X → _) := fun X hX => kpG cO r1 r2 hX
          have hG := hid1 hg
          have n1 := row_ne (hg.row i hlt) r1 (by decide)
          have n2 := row_ne (hg.row i hlt) r2 (by decide)
          have n0 := (hg.apart i hlt).1
          have BYh := hid1 BY
          have R1 := hid1 r1
          clear hg BY r1 r2 cO
          obtain ⟨fij, efij⟩ : ∃ fij, F i j = fij := ⟨_, rfl⟩
          rw [efij] at CS
          have EF := hid1 efij
          have lowB := hid1 (hG.out.low.2 i hlt)
          clear efij
          go_region_held3 (fun Y => Y.cell? ⟨G, i, none⟩ = some (.slice (some ⟨bb i, 0, none⟩) M M) ∧ (Y.cell? ⟨rb, 0, none⟩ = some (.int .i64 A.n) ∧ Y.cell? ⟨rb, 1, none⟩ = some (.slice A.ao A.m A.cap) ∧ Y.cell? ⟨rb, 2, none⟩ = some (.int .i64 B.n) ∧ Y.cell? ⟨rb, 3, none⟩ = some (.slice B.ao B.m B.cap)) ∧ Y.cell? ⟨kb, 0, none⟩ = some (.int .i64 C.n) ∧ Y.cell? ⟨kb, 1, none⟩ = some (.slice C.ao C.m C.cap) ∧ Y.cell? ⟨kb, 2, none⟩ = some (.int .i64 D.n) ∧ Y.cell? ⟨kb, 3, none⟩ = some (.slice D.ao D.m D.cap))
            (((try dsimp only); first | (refine HK.out _ ?_; (repeat (first | (with_reducible exact Below.refl _ _) | (with_reducible assumption) | (with_reducible refine Below.drew ?_))); done) | (simp [go_sem, *]; done)))
            ((go_at_call 30; refine gen_calls (fun Z => Below Y.heap.size Y Z) (by repeat (first | (with_reducible exact Below.refl _ _) | (with_reducible assumption) | (with_reducible refine Below.drew ?_))) ?_; intro Z hZ; refine (CS.out Z (bl_step BYh.out hZ)).mono ?_; rintro e y1 ⟨rfl, hy1⟩; have hYy := bl_step hZ hy1; have HS := HK.out y1 hYy; have g3 := (hG.out.below hYy).row i hlt; have cS := g3.cell hjl; have fS := g3.frozen j; clear g3))
          have GF : Hid (Gr (y1.setCell ⟨bb i, j, none⟩ (.int .i64 fij)) w.heap.size G bb N M (pg F i (j + 1))) := by
            have h := (hG.out.below hYy).set hlt j fij
            rw [← EF.out, pg_step] at h
            rw [← EF.out]
            exact h
          have RF := hid1 ((keepr hYy R1.out).setOther (a := ⟨bb i, j, none⟩) (Ne.symm n1) (.int .i64 fij))
          have BF := hid1 (bl_set (b := bb i) (o := j) (bl_step BYh.out hYy) lowB.out (.int .i64 fij))
          clear HS cS fS hy1 hYy hZ CS HK EF hG R1 BYh
          go_wp2_with fail
          exact ⟨⟨j + 1, by omega, by go_num, GF.out, RF.out, BF.out⟩, by simp [intOf]; omega⟩
        · have hjN : j = M := by omega
          subst hjN
          have HR : Hid (Gr V w.heap.size G bb N j (pg F (i + 1) 0)) := HG.out.congr fun i' j' _ h => by
            unfold pg
            by_cases e : i' < i ∨ (i' = i ∧ j' < j)
            · rw [if_pos e, if_pos (by omega)]
            · rw [if_neg e, if_neg (by omega)]
          go_wp2_with fail
          exact ⟨⟨i + 1, by omega, by go_num, HR.out, B1⟩, by simp [intOf]; omega⟩
    · have hkN : i = N := by omega
      subst hkN
      have HR : Hid (Gr wr w.heap.size G bb i M F) := HG.out.congr fun i' j' h _ => by simp [pg, h]
      go_wp2_with fail
      go_ret2
      exact ⟨G, bb, rfl, HR.out, B1⟩
end Go.Proofs.Ytakoicolffkbmaa
