/- Join. -/
import Derived.Test.YtncmcldiodpnpaaBW15
namespace Go.Proofs.Ytncmcldiodpnpaa
open Go.RowKit

/-- A list of rows in memory. -/
structure Js (w : World) (gl J : Nat) (n N : Nat → Nat) (ad : Nat → Option Addr) (cp : Nat → Nat) : Prop where
  len : ∀ j, j < J → w.cell? ⟨gl, j * 2, none⟩ = some (.int .i64 (n j : Nat))
  ws : ∀ j, j < J → w.cell? ⟨gl, j * 2 + 1, none⟩ = some (.slice (ad j) (nw (n j)) (cp j))
  rd : ∀ j, j < J → Rd w (ad j) (nw (n j)) (N j)
  lt : ∀ j, j < J → N j < 2 ^ n j
  le : ∀ j, j < J → n j ≤ 16777216
theorem Js.below {w w' : World} {gl J : Nat} {n N : Nat → Nat} {ad : Nat → Option Addr} {cp : Nat → Nat} (h : Js w gl J n N ad cp) (hb : Below w.heap.size w w') : Js w' gl J n N ad cp :=
  ⟨fun j hj => keepc hb (h.len j hj), fun j hj => keepc hb (h.ws j hj), fun j hj => (h.rd j hj).below hb, h.lt, h.le⟩
theorem split64 (p : Nat) : p = 64 * (p / 64) + p % 64 := by omega

set_option maxHeartbeats 3200000 in
set_option maxRecDepth 100000 in
theorem join_any (J gl cl : Nat) (n N : Nat → Nat) (ad : Nat → Option Addr) (cp : Nat → Nat) (w : World) (hJ : J ≤ 1048576) (h : Js w gl J n N ad cp) (hT : off n J ≤ 16777216) :
    Calls Try.prog 23 #[.slice (some ⟨gl, 0, none⟩) J cl] w fun e w' => ∃ g, e = .returned (.tuple #[rv (off n J) (some ⟨g, 0, none⟩) (nw (off n J)) (nw (off n J)), .int .i64 0]) ∧ w.heap.size ≤ g ∧ w'.rowIs g 75 (nw (off n J)) (wf (jn n N J)) ∧ Below w.heap.size w w' := by
  have HJ := hid1 h
  have HT := hid1 (fun j (hj : j ≤ J) => Nat.le_trans (off_mono n hj) hT)
  clear h
  go_enter Try.func23, Try.ntmps23
  go_wp2_with fail
  go_loopw [4, 14] (fun s i wr => ∃ k : Nat, k ≤ J ∧ i = .int .i64 k ∧ s = .int .i64 (off n k : Nat) ∧ wr.rowIs w.heap.size 26 2 (sf 0 none 0 0) ∧ Below w.heap.size w wr) (fun _ i _ => J - (intOf i).toNat)
  case atStart => exact ⟨0, Nat.zero_le _, rfl, rfl, row_new _ _ _ _ _ _, bl_alloc (Below.refl _ _) _⟩
  case round =>
    obtain ⟨k, hk, rfl, rfl, r2, hnx⟩ := hrel
    have ik0 : (0 : Int) ≤ (k : Int) := by omega
    by_cases hlt : k < J
    · have ik : (k : Int) < (J : Int) := by omega
      have JS := HJ.out.below hnx
      have c0 := JS.len k hlt
      have c1 := JS.ws k hlt
      have rd := JS.rd k hlt
      have hNk := JS.lt k hlt
      have hnk := JS.le k hlt
      have HS : Hid (off n (k + 1) = off n k + n k) := rfl
      have ho := HT.out k (by omega)
      have ho1 := HT.out (k + 1) (by omega)
      rw [HS.out] at ho1
      have l2 := r2.lt
      have RD := hid1 rd
      have CK := hid1 (chk_ok hnk hNk)
      clear JS rd
      generalize hnn : n k = nk at *
      generalize off n k = ok at *
      generalize N k = Nk at *
      generalize ad k = adk at *
      generalize cp k = cpk at *
      clear hnn hNk
      have io0 : (0 : Int) ≤ (ok : Int) := by omega
      have io1 : (ok : Int) ≤ 16777216 := by omega
      have in0 : (0 : Int) ≤ (nk : Int) := by omega
      have in1 : (nk : Int) ≤ 16777216 := by omega
      go_wp2_with fail
      refine gen_calls (fun W => Below w.heap.size w W ∧ W.rowIs w.heap.size 26 2 (sf 0 none 0 0) ∧ W.rowIs wr.heap.size 26 2 (sf nk adk (nw nk) cpk) ∧ Rd W adk (nw nk) Nk)
        ⟨bl_alloc hnx _, r2.alloc _, row_new _ _ _ _ _ _, RD.out.below (bl_alloc (Below.refl _ _) _)⟩ ?_
      clear hnx r2 c0 c1 l2 RD
      rintro W ⟨hnx, r2, r6, rd⟩
      have hbn := nw_bd hnk
      refine (check_any nk adk (nw nk) cpk Nk W (by omega) rd).mono ?_
      rintro e w1 ⟨rfl, hb1⟩
      rw [CK.out]
      replace hnx := bl_step hnx hb1
      replace r2 := keepr hb1 r2
      replace r6 := keepr hb1 r6
      have c60 := sf_len r6
      have H2 := hid1 r2
      clear hb1 r2 r6 rd
      go_wp2_with fail
      exact ⟨⟨k + 1, by omega, by go_num, by rw [HS.out]; go_num, H2.out, hnx⟩, by simp [intOf]; omega⟩
    · have hkN : k = J := by omega
      subst hkN
      have iT : (off n k : Int) ≤ 16777216 := by have := HT.out k (Nat.le_refl _); omega
      have l2 := r2.lt
      go_wp2_with fail
      refine (blank_any (off n k) hT _).mono ?_
      rintro e w1 ⟨g, rfl, hg, hrow, hb1⟩
      have B1 := bl_step hnx hb1
      replace r2 := keepr hb1 r2
      have zg : w.heap.size < g := by omega
      clear hb1 hnx l2
      have l2 := r2.lt
      go_wp2_with fail
      go_loopw [9, 36] (fun s i wr => ∃ j : Nat, j ≤ k ∧ i = .int .i64 j ∧ s = .int .i64 (off n j : Nat) ∧ wr.rowIs w.heap.size 26 2 (sf 0 none 0 0) ∧ wr.rowIs w1.heap.size 26 2 (sf (off n k) (some ⟨g, 0, none⟩) (nw (off n k)) (nw (off n k))) ∧ wr.rowIs g 75 (nw (off n k)) (wf (jn n N j)) ∧ Below w.heap.size w wr) (fun _ i _ => k - (intOf i).toNat)
      case atStart => exact ⟨0, Nat.zero_le _, rfl, rfl, r2.alloc _, row_new _ _ _ _ _ _, hrow.alloc _, bl_alloc B1 _⟩
      case round =>
        clear hrow r2 B1 l2
        obtain ⟨j, hj, rfl, rfl, r2, r8, hrow, hnx⟩ := hrel
        have ij0 : (0 : Int) ≤ (j : Int) := by omega
        by_cases hlt : j < k
        · have ij : (j : Int) < (k : Int) := by omega
          have JS := HJ.out.below hnx
          have c0 := JS.len j hlt
          have c1 := JS.ws j hlt
          have rd := JS.rd j hlt
          have hNj := JS.lt j hlt
          have hnj := JS.le j hlt
          have HS : Hid (off n (j + 1) = off n j + n j) := rfl
          have HSj : Hid (jn n N (j + 1) = jn n N j ||| N j * 2 ^ off n j) := rfl
          have ho := HT.out j (by omega)
          have ho1 := off_mono n (show j + 1 ≤ k by omega)
          rw [HS.out] at ho1
          have RD := hid1 rd
          have HNE : Hid (∀ g', ad j = some ⟨g', 0, none⟩ → 0 < nw (n j) → g' ≠ g) := fun g' e hpos => by
            obtain ⟨g2, e2, hc⟩ := (HJ.out.rd j hlt).2 hpos
            rw [e] at e2
            have e3 : g' = g2 := by injection e2 with e2; injection e2
            have := lt_of_cell (hc 0 hpos)
            omega
          have l2 := r2.lt
          have l8 := r8.lt
          have c81 := sf_ws r8
          clear JS rd
          generalize n j = nj at *
          generalize off n j = oj at *
          generalize N j = Nj at *
          generalize ad j = adj at *
          generalize cp j = cpj at *
          generalize hT' : off n k = T at *
          have io0 : (0 : Int) ≤ (oj : Int) := by omega
          have io1 : (oj : Int) ≤ 16777216 := by omega
          have in0 : (0 : Int) ≤ (nj : Int) := by omega
          have in1 : (nj : Int) ≤ 16777216 := by omega
          go_wp2_with fail
          refine gen_calls (fun W => Below w.heap.size w W ∧ W.rowIs w.heap.size 26 2 (sf 0 none 0 0) ∧ W.rowIs w1.heap.size 26 2 (sf T (some ⟨g, 0, none⟩) (nw T) (nw T)) ∧ W.rowIs g 75 (nw T) (wf (jn n N j)) ∧ W.rowIs wr.heap.size 26 2 (sf nj adj (nw nj) cpj) ∧ Rd W adj (nw nj) Nj)
            ⟨bl_alloc hnx _, r2.alloc _, r8.alloc _, hrow.alloc _, row_new _ _ _ _ _ _, RD.out.below (bl_alloc (Below.refl _ _) _)⟩ ?_
          clear hnx r2 r8 hrow c0 c1 l2 l8 c81 RD
          rintro W ⟨hnx, r2, r8, hrow, r11, rd⟩
          refine (lay_at (jn n N j) Nj g oj nj T (nw T) cpj adj W ho1 hT hrow hNj rd HNE.out).mono ?_
          rintro e w2 ⟨rfl, hrow2, but⟩
          have hs0 := hnx.size
          replace r2 := but.row (row_ne r2 hrow (by decide)) r2
          replace r8 := but.row (row_ne r8 hrow (by decide)) r8
          replace r11 := but.row (row_ne r11 hrow (by decide)) r11
          replace hnx := but.below (B := w.heap.size) (by omega) (by omega) hnx
          have c110 := sf_len r11
          have H2 := hid1 r2
          have H8 := hid1 r8
          have HH := hid1 hrow2
          clear hrow hrow2 r2 r8 r11 rd but
          go_wp2_with fail
          exact ⟨⟨j + 1, by omega, by go_num, by rw [HS.out]; go_num, H2.out, H8.out, by rw [HSj.out]; exact HH.out, hnx⟩, by simp [intOf]; omega⟩
        · have hjk : j = k := by omega
          subst hjk
          have c80 := sf_len r8
          have c81 := sf_ws r8
          have c20 := sf_len r2
          have c21 := sf_ws r2
          have f0 := r2.frozen 0
          have f1 := r2.frozen 1
          have hne := row_ne hrow r2 (by decide)
          have HH := hid1 hrow
          clear hrow r2 r8
          go_wp2_with fail
          exact bodyPost_ret (v := .tuple #[rv (off n j) (some ⟨g, 0, none⟩) (nw (off n j)) (nw (off n j)), .int .i64 0]) (by simp [results, Try.results23, go_sem, c20, c21]) rfl ⟨g, rfl, by omega, (HH.out.setOther (a := ⟨w.heap.size, 0, none⟩) hne _).setOther (a := ⟨w.heap.size, 1, none⟩) hne _, bl_set (bl_set hnx (by omega) _) (by omega) _⟩
def two {α : Type} (a b : α) : Nat → α := fun j => if j = 0 then a else b
theorem join_two (c d X Y gl cl : Nat) (xo yo : Option Addr) (cx cy : Nat) (w : World) (hX : X < 2 ^ c) (hY : Y < 2 ^ d) (hT : c + d ≤ 16777216)
    (c0 : w.cell? ⟨gl, 0, none⟩ = some (.int .i64 c)) (c1 : w.cell? ⟨gl, 1, none⟩ = some (.slice xo (nw c) cx)) (c2 : w.cell? ⟨gl, 2, none⟩ = some (.int .i64 d)) (c3 : w.cell? ⟨gl, 3, none⟩ = some (.slice yo (nw d) cy))
    (rx : Rd w xo (nw c) X) (ry : Rd w yo (nw d) Y) :
    Calls Try.prog 23 #[.slice (some ⟨gl, 0, none⟩) 2 cl] w fun e w' => ∃ g, e = .returned (.tuple #[rv (c + d : Nat) (some ⟨g, 0, none⟩) (nw (c + d)) (nw (c + d)), .int .i64 0]) ∧ w.heap.size ≤ g ∧ w'.rowIs g 75 (nw (c + d)) (wf (X ||| Y * 2 ^ c)) ∧ Below w.heap.size w w' := by
  have e1 : off (two c d) 2 = c + d := by simp [off, two]
  have e2 : jn (two c d) (two X Y) 2 = X ||| Y * 2 ^ c := by simp [jn, off, two]
  have h := join_any 2 gl cl (two c d) (two X Y) (two xo yo) (two cx cy) w (by omega)
    ⟨fun j hj => by
        rcases (show j = 0 ∨ j = 1 by omega) with rfl | rfl
        · exact c0
        · exact c2,
     fun j hj => by
        rcases (show j = 0 ∨ j = 1 by omega) with rfl | rfl
        · exact c1
        · exact c3,
     fun j hj => by
        rcases (show j = 0 ∨ j = 1 by omega) with rfl | rfl
        · exact rx
        · exact ry,
     fun j hj => by
        rcases (show j = 0 ∨ j = 1 by omega) with rfl | rfl
        · exact hX
        · exact hY,
     fun j hj => by
        rcases (show j = 0 ∨ j = 1 by omega) with rfl | rfl
        · show c ≤ _; omega
        · show d ≤ _; omega⟩ (by rw [e1]; exact hT)
  rw [e1, e2] at h
  exact h
end Go.Proofs.Ytncmcldiodpnpaa
