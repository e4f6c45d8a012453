/- RankCounts: the walk. -/
import Derived.Test.YtfdkjckoelmgeaaDoorRC2
import Derived.Test.YtfdkjckoelmgeaaDoorRF2
import Derived.Deep.RegionLaw
namespace Go.Proofs.YtfdkjckoelmgeaaDoor
open Go.RowKit Go.Sort

theorem kmeet_of {J K : Act → World → Prop} {Q : Exit → Act → World → Prop} {a : Act} {w : World} (hK : ∀ a' w', Met J a' w' → K a' w') (h : Met J a w) : Exit.then K Q Exit.normal a w := hK _ _ h
/-- The answers that are counted. -/
def pL (k : Nat) (f g : Nat → Nat) (n : Nat) : List (Nat × Nat) := (List.range n).map fun i => (f i % k, g i % k)
theorem pL_len (k : Nat) (f g : Nat → Nat) (n : Nat) : (pL k f g n).length = n := by simp [pL]
theorem pL_in {k : Nat} (hk : 1 ≤ k) (f g : Nat → Nat) (n : Nat) : ∀ p ∈ pL k f g n, p.1 < k ∧ p.2 < k := fun p hp => by
  simp only [pL, List.mem_map] at hp
  obtain ⟨i, _, rfl⟩ := hp
  exact ⟨Nat.mod_lt _ hk, Nat.mod_lt _ hk⟩
theorem pL_at {k : Nat} {f g : Nat → Nat} {n i : Nat} (h : i < n) : (pL k f g n)[i]? = some (f i % k, g i % k) := by simp [pL, h]
theorem pL_take {k : Nat} {f g : Nat → Nat} {n i : Nat} (h : i < n) : (pL k f g n).take (i + 1) = (pL k f g n).take i ++ [(f i % k, g i % k)] := by
  rw [List.take_add_one, pL_at h]; rfl
theorem pL_back {k : Nat} {f g : Nat → Nat} {n i j : Nat} (h : i < n) (hj : j + i + 1 = n) : (pL k f g n).reverse.take (i + 1) = (pL k f g n).reverse.take i ++ [(f j % k, g j % k)] := by
  rw [List.take_add_one, List.getElem?_reverse (by rw [pL_len]; exact h), pL_len, show n - 1 - i = j by omega, pL_at (by omega)]; rfl
theorem take_in {k n : Nat} {f g : Nat → Nat} (hk : 1 ≤ k) (i : Nat) : ∀ p ∈ (pL k f g n).take i, p.1 < k ∧ p.2 < k := fun p hp => pL_in hk f g n p (List.mem_of_mem_take hp)
theorem back_in {k n : Nat} {f g : Nat → Nat} (hk : 1 ≤ k) (i : Nat) : ∀ p ∈ (pL k f g n).reverse.take i, p.1 < k ∧ p.2 < k := fun p hp => pL_in hk f g n p (List.mem_reverse.1 (List.mem_of_mem_take hp))
/-- A score of few answers: what each call tells. -/
theorem few {k : Nat} (h1 : 1 ≤ k) (h2 : k ≤ 256) {P : List (Nat × Nat)} (hp : ∀ p ∈ P, p.1 < k ∧ p.2 < k) (hl : P.length ≤ 1000) {x y : Nat} (hx : x < k) (hy : y < k) :
    cE (adL (t0 k) P) = 0 ∧ cV (adL (t0 k) P) = P.length ∧ rV (adL (t0 k) P) = dgP P ∧ aE (adL (t0 k) P) x y = 0 := by
  obtain ⟨a1, a2⟩ := cnt_adL h1 h2 hp hl
  obtain ⟨b1, b2⟩ := cnt_cE a1
  have sc := (t0_sc k).adL hp
  refine ⟨b1, b2, a2, ?_⟩
  rw [aE_yes a1 (by rw [sc.len]; omega) (by rw [sc.len]; omega), if_neg (by omega)]
set_option maxHeartbeats 8000000 in
set_option maxRecDepth 100000 in
theorem rankCounts_any (x0 : Int) (ao1 : Option Addr) (m1 c1 : Nat) (ao2 : Option Addr) (m2 c2 : Nat) (x3 : Int) (f1 f2 : Nat → Nat) (hm1 : m1 ≤ 9223372036854775807) (hm2 : m2 ≤ 9223372036854775807) (h3 : -9223372036854775808 ≤ x3 ∧ x3 ≤ 9223372036854775807) (w : World) (L : LaidP w)
    (h1 : By8 w ao1 m1 f1) (h2 : By8 w ao2 m2 f2) :
    Calls Tryd.prog 5 #[.int .i64 x0, .slice ao1 m1 c1, .slice ao2 m2 c2, .int .i64 x3] w fun e w' => e = .returned (.bool true) ∧ Below w.heap.size w w' := by
  have HL := hid1 L
  have H1 := hid1 h1
  have H2 := hid1 h2
  clear L h1 h2
  have HB := fun X hX => begun_any X hX
  go_enter Tryd.func5, Tryd.ntmps5
  go_upto_region 3 with (go_at_call 8; refine (HB _ HL.out).mono ?_; rintro e w1 ⟨rfl, hb1⟩)
  go_cut [43] from 38 to 43 (fun s wx => s = .bool (decide (x0 < 1 ∨ 12 < x0)) ∧ w1 = wx)
  case first =>
    by_cases d1 : x0 < 1
    · go_wp2_with fail
      go_meet
      exact ⟨by simp [d1], rfl⟩
    · by_cases d2 : 12 < x0
      · go_wp2_with fail
        go_meet
        exact ⟨by simp [d2], rfl⟩
      · go_wp2_with fail
        go_meet
        exact ⟨by simp [d1, d2], rfl⟩
  case rest =>
    obtain ⟨rfl, rfl⟩ := hcut
    go_upto_if 43 with fail
    go_cut [0] (fun s wx => (∃ k : Nat, 1 ≤ k ∧ k ≤ 12 ∧ s = .int .i64 (k : Int)) ∧ w1 = wx)
    case first =>
      by_cases c : x0 < 1 ∨ 12 < x0
      · go_wp2_with fail
        go_meet
        exact ⟨⟨3, by omega, by omega, rfl⟩, rfl⟩
      · obtain ⟨k, rfl⟩ := Int.eq_ofNat_of_zero_le (show 0 ≤ x0 by omega)
        go_wp2_with fail
        go_meet
        exact ⟨⟨k, by omega, by omega, rfl⟩, rfl⟩
    case rest =>
      obtain ⟨⟨k, k1, k12, rfl⟩, rfl⟩ := hcut
      go_upto_region 6 with (go_at_call 12; refine (new_ok k k1 (by omega) _).mono ?_; rintro e w2 ⟨G, b, K, rfl, tb, hb2⟩)
      have X0 : Bx w (w2.alloc (.cells #[.slice (some ⟨G, 0, none⟩) k k] 36)) w2.heap.size G b K k (t0 k) := Bx.new (bl_step hb1 hb2) tb hb1.size (t0_sc k)
      have l0 : w.heap.size ≤ w2.heap.size := (bl_step hb1 hb2).size
      refine gen_world (fun X => Bx w X w2.heap.size G b K k (t0 k)) X0 ?_
      clear X0 tb hb2 hb1
      generalize w2.heap.size = p at *
      intro X1 S1
      go_upto_region 7 with (go_at_call 12; refine (new_ok k k1 (by omega) _).mono ?_; rintro e w3 ⟨G2, b2, K2, rfl, tb, hb3⟩)
      have X2 : Two w (w3.alloc (.cells #[.slice (some ⟨G2, 0, none⟩) k k] 36)) p w3.heap.size k (t0 k) (t0 k) := by
        have B3 := bl_step S1.bel hb3
        refine ⟨?_, l0, B3.size, ⟨G, b, K, (S1.step hb3).step (bl_alloc (Below.refl _ _) _)⟩, G2, b2, K2, Bx.new B3 tb S1.bel.size (t0_sc k)⟩
        have := (keepr hb3 S1.box).lt
        omega
      refine gen_world (fun X => Two w X p w3.heap.size k (t0 k) (t0 k)) X2 ?_
      clear X2 tb hb3 S1 l0
      generalize w3.heap.size = q at *
      intro X2 S2
      have HS2 := hid1 S2
      clear S2
      go_upto_if 65 with fail
      go_cut [13] from 65 to 67 (fun s wx => (∃ n : Nat, n ≤ m1 ∧ n ≤ m2 ∧ s = .int .i64 (n : Int)) ∧ X2 = wx)
      case first =>
        by_cases c : m2 < m1
        · have ci : (m2 : Int) < (m1 : Int) := by omega
          go_wp2_with fail
          go_meet
          exact ⟨⟨m2, by omega, by omega, rfl⟩, rfl⟩
        · have ci : ¬ (m2 : Int) < (m1 : Int) := by omega
          go_wp2_with fail
          go_meet
          exact ⟨⟨m1, by omega, by omega, rfl⟩, rfl⟩
      case rest =>
        obtain ⟨⟨n0, n1, n2, rfl⟩, rfl⟩ := hcut
        go_upto_if 69 with fail
        go_cut [13] from 69 to 69 (fun s wx => (∃ n : Nat, n ≤ m1 ∧ n ≤ m2 ∧ n ≤ 100 ∧ s = .int .i64 (n : Int)) ∧ X2 = wx)
        case first =>
          by_cases c : 100 < n0
          · have ci : (100 : Int) < (n0 : Int) := by omega
            go_wp2_with fail
            go_meet
            exact ⟨⟨100, by omega, by omega, by omega, rfl⟩, rfl⟩
          · have ci : ¬ (100 : Int) < (n0 : Int) := by omega
            go_wp2_with fail
            go_meet
            exact ⟨⟨n0, by omega, by omega, by omega, rfl⟩, rfl⟩
        case rest =>
          obtain ⟨⟨n, n1, n2, n100, rfl⟩, rfl⟩ := hcut
          refine kgo (by assumption) ?_
          go_upto_region 15 with fail
          go_wp2_with fail
          go_loopw [14, 15] (fun x y wr => ∃ i : Nat, i ≤ n ∧ x = .int .i64 (dgP ((pL k f1 f2 n).take i)) ∧ y = .int .i64 (i : Int) ∧ Hid (Two w wr p q k (adL (t0 k) ((pL k f1 f2 n).take i)) (adL (t0 k) ((pL k f1 f2 n).reverse.take i)))) (fun _ y _ => n - (intOf y).toNat)
          case atStart => exact ⟨0, Nat.zero_le _, rfl, rfl, by simpa [adL] using HS2⟩
          case round =>
            clear HS2
            obtain ⟨i, hi, rfl, rfl, HS⟩ := hrel
            by_cases hlt : i < n
            · have ik : (i : Int) < (n : Int) := by omega
              have ik0 : (0 : Int) ≤ (i : Int) := by omega
              obtain ⟨j, hj⟩ : ∃ j, j + i + 1 = n := ⟨n - 1 - i, by omega⟩
              obtain ⟨u1, g1, o1, rfl, c1⟩ := H1.out i (by omega)
              obtain ⟨u2, g2, o2, rfl, c2⟩ := H2.out i (by omega)
              obtain ⟨u3, g3, o3, e3, c3⟩ := H1.out j (by omega)
              cases e3
              obtain ⟨u4, g4, o4, e4, c4⟩ := H2.out j (by omega)
              cases e4
              have HP1 := hid1 (pL_take (k := k) (f := f1) (g := f2) hlt)
              have HP2 := hid1 (pL_back (k := k) (f := f1) (g := f2) hlt hj)
              generalize f1 i = v1 at *
              generalize f2 i = v2 at *
              generalize f1 j = v3 at *
              generalize f2 j = v4 at *
              have FW := few k1 (by omega) (take_in (f := f1) (g := f2) (n := n) k1 i) (by rw [List.length_take, pL_len]; omega) (x := v1 % k) (y := v2 % k) (Nat.mod_lt _ k1) (Nat.mod_lt _ k1)
              have FB := few k1 (by omega) (back_in (f := f1) (g := f2) (n := n) k1 i) (by rw [List.length_take, List.length_reverse, pL_len]; omega) (x := v3 % k) (y := v4 % k) (Nat.mod_lt _ k1) (Nat.mod_lt _ k1)
              have hlen : (((pL k f1 f2 n).take i).length : Int) = (i : Int) := by rw [List.length_take, pL_len]; omega
              rw [hlen] at FW
              have hdg := dgP_le ((pL k f1 f2 n).take i)
              rw [hlen] at hdg
              have HD := hid1 (dgP_snoc ((pL k f1 f2 n).take i) (v1 % k, v2 % k))
              rw [← HP1.out] at HD
              have HA1 : Hid (adL (t0 k) ((pL k f1 f2 n).take (i + 1)) = ad (adL (t0 k) ((pL k f1 f2 n).take i)) (v1 % k) (v2 % k)) := by show _ = _; rw [HP1.out, adL_snoc]
              have HA2 : Hid (adL (t0 k) ((pL k f1 f2 n).reverse.take (i + 1)) = ad (adL (t0 k) ((pL k f1 f2 n).reverse.take i)) (v3 % k) (v4 % k)) := by show _ = _; rw [HP2.out, adL_snoc]
              clear HP1 HP2 hlen
              generalize dgP ((pL k f1 f2 n).take i) = D at *
              generalize adL (t0 k) ((pL k f1 f2 n).take i) = A at *
              generalize adL (t0 k) ((pL k f1 f2 n).reverse.take i) = B at *
              obtain ⟨x, ex⟩ : ∃ x, v1 % k = x := ⟨_, rfl⟩
              obtain ⟨y, ey⟩ : ∃ y, v2 % k = y := ⟨_, rfl⟩
              obtain ⟨x', ex'⟩ : ∃ x', v3 % k = x' := ⟨_, rfl⟩
              obtain ⟨y', ey'⟩ : ∃ y', v4 % k = y' := ⟨_, rfl⟩
              have nz1 : ¬ (k : Int) = 0 := by omega
              have nz2 : ¬ k = 0 := by omega
              have xk : x < k := by rw [← ex]; exact Nat.mod_lt _ k1
              have yk : y < k := by rw [← ey]; exact Nat.mod_lt _ k1
              have xk' : x' < k := by rw [← ex']; exact Nat.mod_lt _ k1
              have yk' : y' < k := by rw [← ey']; exact Nat.mod_lt _ k1
              have r1 : (v1 : Int).tmod (k : Int) = (x : Int) := by rw [← ex]; rfl
              have r2 : (v2 : Int).tmod (k : Int) = (y : Int) := by rw [← ey]; rfl
              have r3 : (v3 : Int).tmod (k : Int) = (x' : Int) := by rw [← ex']; rfl
              have r4 : (v4 : Int).tmod (k : Int) = (y' : Int) := by rw [← ey']; rfl
              have s1 : (v1 : Int) % (k : Int) = (x : Int) := by rw [← ex]; omega
              have s2 : (v2 : Int) % (k : Int) = (y : Int) := by rw [← ey]; omega
              have s3 : (v3 : Int) % (k : Int) = (x' : Int) := by rw [← ex']; omega
              have s4 : (v4 : Int) % (k : Int) = (y' : Int) := by rw [← ey']; omega
              have t1 : IntKind.i64.wrap (v1 : Int) = (v1 : Int) := by rw [IntKind.wrap_i64]; omega
              have t2 : IntKind.i64.wrap (v2 : Int) = (v2 : Int) := by rw [IntKind.wrap_i64]; omega
              have t3 : IntKind.i64.wrap (v3 : Int) = (v3 : Int) := by rw [IntKind.wrap_i64]; omega
              have t4 : IntKind.i64.wrap (v4 : Int) = (v4 : Int) := by rw [IntKind.wrap_i64]; omega
              have z1 : IntKind.i64.wrap (x : Int) = (x : Int) := by rw [IntKind.wrap_i64]; omega
              have z2 : IntKind.i64.wrap (y : Int) = (y : Int) := by rw [IntKind.wrap_i64]; omega
              have z3 : IntKind.i64.wrap (x' : Int) = (x' : Int) := by rw [IntKind.wrap_i64]; omega
              have z4 : IntKind.i64.wrap (y' : Int) = (y' : Int) := by rw [IntKind.wrap_i64]; omega
              rw [ex, ey] at FW HD HA1
              rw [ex', ey'] at FB HA2
              clear ex ey ex' ey'
              obtain ⟨e1, e2, e3, e4⟩ := FW
              obtain ⟨_, _, _, e5⟩ := FB
              have hjn : j < n := by omega
              obtain ⟨hpq, lp, lq, ⟨G, b, K, SA⟩, G', b', K', SB⟩ := HS.out
              have c5 := keepc SA.bel c1
              have c6 := keepc SA.bel c2
              have CR := hid1 (bx_right SA (by omega))
              have CA := hid1 (bx_add SA (show k ≤ 256 by omega) e4)
              rw [e1, e2, e3] at CR
              have d0 := SA.box.cell (i := 0) (by omega)
              have HSA := hid1 SA
              have HSB := hid1 SB
              clear SA SB e1 e2 e3 e4 HS
              go_upto_region 21 with (go_at_call 14; refine (CR.out _ (Below.refl _ _)).mono ?_; rintro e w4 ⟨rfl, hb4⟩; have a0 := keepc hb4 d0)
              go_upto_region 22 with (go_at_call 13; refine (CA.out _ hb4).mono ?_; rintro e w5 ⟨G5, b5, K5, rfl, tb5, hb5⟩; have B5 := bl_step hb4 hb5; have a1 := keepc B5 d0)
              have S5 : Bx w (w5.alloc (.cells #[.slice (some ⟨G5, 0, none⟩) k k] 36)) w5.heap.size G5 b5 K5 k (ad A x y) := Bx.new (bl_step HSA.out.bel B5) tb5 (bl_step HSA.out.bel hb4).size (HSA.out.sc.st2 xk _ _)
              have HN5 : Hid (p < w5.heap.size) := by have := HSA.out.box.lt; have := B5.size; show _ < _; omega
              have B5' := bl_alloc B5 (.cells #[.slice (some ⟨G5, 0, none⟩) k k] 36)
              generalize w5.heap.size = p5 at *
              refine gen_world (fun X => Hid (Bx w X p5 G5 b5 K5 k (ad A x y)) ∧ Below wr.heap.size wr X) ⟨S5, B5'⟩ ?_
              clear S5 B5' B5 hb5 tb5 a1 a0 hb4 CA
              rintro X6 ⟨S6, B6⟩
              have a2 := keepc B6 d0
              go_upto_region 23 with (go_at_call 14; refine (CR.out _ B6).mono ?_; rintro e w7 ⟨rfl, hb7⟩; have B7 := bl_step B6 hb7)
              have S7 := hid1 (S6.out.step hb7)
              have a3 := S7.out.box.cell (i := 0) (by omega)
              clear a2 B6 S6 hb7 CR d0
              go_upto_if 140 with fail
              go_cut [14] from 140 to 142 (fun s wx => s = .int .i64 (dgP ((pL k f1 f2 n).take (i + 1))) ∧ w7 = wx)
              case first =>
                by_cases hxy : x = y
                · have hxi : (x : Int) = (y : Int) := by omega
                  have hw : IntKind.i64.wrap (D + 1) = D + 1 := by rw [IntKind.wrap_i64]; omega
                  go_wp2_with fail
                  go_meet
                  exact ⟨by rw [HD.out, if_pos hxy], rfl⟩
                · have hxi : ¬ (x : Int) = (y : Int) := by omega
                  go_wp2_with fail
                  go_meet
                  exact ⟨by rw [HD.out, if_neg hxy]; simp, rfl⟩
              case rest =>
                obtain ⟨rfl, rfl⟩ := hcut
                have rp := keepr B7 HSA.out.box
                have fp := rp.frozen 0
                have lpp := rp.lt
                have Y1 : Bx w (w7.setCell ⟨p, 0, none⟩ (.slice (some ⟨G5, 0, none⟩) k k)) p G5 b5 K5 k (ad A x y) := Bx.put S7.out.bel lp rp S7.out.tb (Nat.le_refl _) S7.out.sc
                have Y2 : Bx w (w7.setCell ⟨p, 0, none⟩ (.slice (some ⟨G5, 0, none⟩) k k)) q G' b' K' k B := Bx.keep (HSB.out.step B7) rp lp (fun e => hpq e.symm) _
                have cp := rp.cell (i := 0) (by omega)
                go_upto_region 28 with fail
                refine gen_world (fun X => Hid (Bx w X p G5 b5 K5 k (ad A x y)) ∧ Hid (Bx w X q G' b' K' k B)) ⟨Y1, Y2⟩ ?_
                clear Y1 Y2 rp fp lpp cp S7 a3 B7 HSA HSB
                rintro X8 ⟨S8, V8⟩
                have hw1 : IntKind.i64.wrap ((n : Int) - 1) = (n : Int) - 1 := by rw [IntKind.wrap_i64]; omega
                have hw2 : IntKind.i64.wrap ((n : Int) - 1 - (i : Int)) = (j : Int) := by rw [IntKind.wrap_i64]; omega
                have c7 := keepc V8.out.bel c3
                have c8 := keepc V8.out.bel c4
                have d1 := V8.out.box.cell (i := 0) (by omega)
                have ij : (j : Int) < (m1 : Int) := by omega
                have ij2 : (j : Int) < (m2 : Int) := by omega
                have ij0 : (0 : Int) ≤ (j : Int) := by omega
                have CB := hid1 (bx_add V8.out (show k ≤ 256 by omega) e5)
                have rq := V8.out.box
                have fq := rq.frozen 0
                have lqq := rq.lt
                have HBB := hid1 (fun (Y : World) (G9 : Nat) (b9 K9 : Nat → Nat) (hb : Below X8.heap.size X8 Y) (ht : Tb Y X8.heap.size G9 b9 K9 (ad B x' y')) => (⟨hpq, lp, lq, ⟨G5, b5, K5, (S8.out.step hb).keep (keepr hb rq) lq hpq (.slice (some ⟨G9, 0, none⟩) k k)⟩, G9, b9, K9, Bx.put (bl_step V8.out.bel hb) lq (keepr hb rq) ht V8.out.bel.size (V8.out.sc.st2 xk' _ _)⟩ : Two w (Y.setCell ⟨q, 0, none⟩ (.slice (some ⟨G9, 0, none⟩) k k)) p q k (ad A x y) (ad B x' y')))
                have CB2 : Hid (∀ Z, Qt X8 Z → Calls Tryd.prog 13 #[tbv (some ⟨G', 0, none⟩) k k, .int .i64 (x' : Int), .int .i64 (y' : Int)] Z fun e w' => ∃ G b K, e = .returned (.tuple #[tbv (some ⟨G, 0, none⟩) k k, .int .i64 0]) ∧ Hid (Tb w' X8.heap.size G b K (ad B x' y')) ∧ Below X8.heap.size X8 w') := fun Z hZ => by
                  have hBZ := hZ.below (Below.refl _ X8)
                  refine (CB.out Z hBZ).mono ?_
                  rintro e w' ⟨G, b, K, rfl, h1, h2⟩
                  exact ⟨G, b, K, rfl, Tz.mono h1 hBZ.size, bl_step hBZ h2⟩
                clear rq CB S8 V8 HL HB
                go_upto_region 29 with fail
                go_cut [22] from 148 to 166 (fun s wx => s = .int .i64 0 ∧ Hid (Two w wx p q k (ad A x y) (ad B x' y')))
                case first =>
                  go_region_law ((go_simp; go_at_call 13; refine (CB2.out _ ⟨_, rfl⟩).mono ?_; rintro e Z ⟨G9, b9, K9, rfl, ht, hb⟩; have cq := keepc hb d1; have fq2 : Z.frozen? ⟨q, 0, none⟩ = false := (hb.frozen (p := ⟨q, 0, none⟩) lqq).trans fq; have lq2 : q < Z.heap.size := Nat.lt_of_lt_of_le lqq hb.size))
                  all_goals (refine kmeet_of (by assumption) ?_; go_meet; exact ⟨rfl, HBB.out _ _ _ _ hb ht.out⟩)
                case rest =>
                  obtain ⟨rfl, HT2⟩ := hcut
                  rename_i X9
                  clear HBB CB2 d1 fq lqq c7 c8
                  go_upto_region 17 with fail
                  go_wp2_with fail
                  refine ⟨⟨i + 1, by omega, rfl, by go_num, ?_⟩, by simp [intOf]; omega⟩
                  show Two _ _ _ _ _ _ _
                  rw [HA1.out, HA2.out]
                  exact HT2.out
            · have hkN : i = n := by omega
              subst hkN
              have hA : (pL k f1 f2 i).take i = pL k f1 f2 i := List.take_of_length_le (by rw [pL_len]; exact Nat.le_refl _)
              have hR : (pL k f1 f2 i).reverse.take i = (pL k f1 f2 i).reverse := List.take_of_length_le (by rw [List.length_reverse, pL_len]; exact Nat.le_refl _)
              rw [hA, hR, adL_rev (pL_in k1 f1 f2 i)] at HS
              rw [hA]
              obtain ⟨e1, e2, e3, _⟩ := few k1 (by omega) (pL_in k1 f1 f2 i) (by rw [pL_len]; omega) (x := 0) (y := 0) (by omega) (by omega)
              rw [pL_len] at e2
              have hno : ∀ r t : Int, (¬ (0 ≤ r ∧ r < (k : Int)) ∨ ¬ (0 ≤ t ∧ t < (k : Int))) → aE (adL (t0 k) (pL k f1 f2 i)) r t = 1 := fun r t h => by
                unfold aE
                rw [if_neg]
                rw [((t0_sc k).adL (pL_in k1 f1 f2 i)).len]
                rintro ⟨_, h1, h2⟩
                rcases h with h | h
                · exact h h1
                · exact h h2
              generalize dgP (pL k f1 f2 i) = D at *
              generalize adL (t0 k) (pL k f1 f2 i) = A at *
              obtain ⟨hpq, lp, lq, ⟨G, b, K, SA⟩, G', b', K', SB⟩ := HS.out
              have CR := hid1 (bx_right SA (by omega))
              have CS := hid1 (bx_show SA (by omega) HL.out)
              have CT := hid1 (bx_show SB (by omega) HL.out)
              have CA := fun r t h => hid1 (bx_bad SA (show k ≤ 256 by omega) (hno r t h) (by decide))
              have CE : Hid (∀ Y, Below wr.heap.size wr Y → Calls Tryd.prog 16 #[tbv (some ⟨G, 0, none⟩) k k, tbv (some ⟨G', 0, none⟩) k k] Y fun e w' => e = .returned (.bool true) ∧ Below Y.heap.size Y w') := fun Y hY => by
                have := eqs_any (some ⟨G, 0, none⟩) (some ⟨G', 0, none⟩) A A k k Y (by rw [SA.sc.len]; omega) (fun r hr => by have := SA.sc.rows r hr; rw [SA.sc.len] at this; omega) (SA.tn.below hY) (SB.tn.below hY)
                rw [decide_eq_true rfl, SA.sc.len] at this
                exact this
              rw [e1, e2, e3] at CR
              rw [e1] at CS CT
              have d0 := SA.box.cell (i := 0) (by omega)
              have d1 := SB.box.cell (i := 0) (by omega)
              have HW := hid1 SA.bel
              clear SA SB HS hA hR e1 e2 e3 hno
              go_upto_region 33 with (go_at_call 14; refine (CR.out _ (Below.refl _ _)).mono ?_; rintro e w4 ⟨rfl, hb4⟩; have a0 := keepc hb4 d0)
              go_upto_region 34 with (go_at_call 15; refine (CS.out _ hb4).mono ?_; rintro e w5 ⟨rfl, hb5⟩; have B5 := bl_step hb4 hb5; have a1 := keepc B5 d1)
              go_upto_region 35 with (go_at_call 15; refine (CT.out _ B5).mono ?_; rintro e w6 ⟨rfl, hb6⟩; have B6 := bl_step B5 hb6; have a2 := keepc B6 d0)
              go_upto_region 36 with (go_at_call 13; refine ((CA k 0 (.inl (by omega))).out _ B6).mono ?_; rintro e w7 ⟨rfl, hb7⟩; have B7 := bl_step B6 hb7)
              refine gen_world (fun X => Below wr.heap.size wr X) (bl_alloc B7 _) ?_
              clear a0 a1 a2 hb4 hb5 B5 hb6 B6 hb7 B7
              intro X8 B8
              go_cut [197] from 191 to 197 (fun s wx => s = .bool (decide (0 ≤ x3 ∧ x3 < (k : Int))) ∧ X8 = wx)
              case first =>
                by_cases c1 : 0 ≤ x3
                · by_cases c2 : x3 < (k : Int)
                  · go_wp2_with fail
                    go_meet
                    exact ⟨congrArg Value.bool (decide_eq_true (⟨c1, c2⟩ : 0 ≤ x3 ∧ x3 < (k : Int))).symm, rfl⟩
                  · go_wp2_with fail
                    go_meet
                    exact ⟨congrArg Value.bool (decide_eq_false (show ¬ (0 ≤ x3 ∧ x3 < (k : Int)) by omega)).symm, rfl⟩
                · go_wp2_with fail
                  go_meet
                  exact ⟨congrArg Value.bool (decide_eq_false (show ¬ (0 ≤ x3 ∧ x3 < (k : Int)) by omega)).symm, rfl⟩
              case rest =>
                obtain ⟨rfl, rfl⟩ := hcut
                go_upto_if 197 with fail
                go_cut [3] from 197 to 199 (fun s wx => (∃ y : Int, ¬ (0 ≤ y ∧ y < (k : Int)) ∧ s = .int .i64 y) ∧ X8 = wx)
                case first =>
                  by_cases c : 0 ≤ x3 ∧ x3 < (k : Int)
                  · have hw : IntKind.i64.wrap (-1 - x3) = -1 - x3 := by rw [IntKind.wrap_i64]; omega
                    go_wp2_with fail
                    go_meet
                    exact ⟨⟨-1 - x3, by omega, rfl⟩, rfl⟩
                  · go_wp2_with fail
                    go_meet
                    exact ⟨⟨x3, c, rfl⟩, rfl⟩
                case rest =>
                  obtain ⟨⟨y, hy, rfl⟩, rfl⟩ := hcut
                  have a3 := keepc B8 d0
                  have CY := CA 0 y (.inr hy)
                  clear CA
                  refine kgo (by assumption) ?_
                  go_upto_region 39 with (go_at_call 13; refine (CY.out _ B8).mono ?_; rintro e w9 ⟨rfl, hb9⟩; have B9 := bl_step B8 hb9)
                  refine gen_world (fun X => Below wr.heap.size wr X) (bl_alloc B9 _) ?_
                  clear a3 hb9 B9 B8
                  intro X9 B9
                  have a4 := keepc B9 d0
                  have a5 := keepc B9 d1
                  clear d0 d1
                  go_wp2_with (go_at_call 16; refine (CE.out _ B9).mono ?_; rintro e w10 ⟨rfl, hb10⟩; have a6 := keepc hb10 a4)
                  go_ret
                  exact ⟨rfl, bl_step (bl_step HW.out B9) hb10⟩
end Go.Proofs.YtfdkjckoelmgeaaDoor
