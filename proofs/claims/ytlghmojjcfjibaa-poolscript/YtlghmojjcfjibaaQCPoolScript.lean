import Derived.Test.YtlghmojjcfjibaaQBPoolScript
import Derived.Test.YtlghmojjcfjibaaQAPoolScript
import Derived.Test.YtlghmojjcfjibaaSW8
/- THE DOCUMENT'S OWN Bit. -/
namespace Go.Proofs.Ytlghmojjcfjibaa
open Go.RowKit Go.Shelf

theorem bit_at (N j r : Nat) (hr : r < 64) : (wd N j &&& 2 ^ r = 0) ↔ N.testBit (64 * j + r) = false := by
  have h := wd_bit N j r
  simp only [hr, decide_true, Bool.true_and] at h
  rw [← h]
  constructor
  · intro e
    have := congrArg (fun x => Nat.testBit x r) e
    simpa [Nat.testBit_and, Nat.testBit_two_pow_self] using this
  · intro e
    refine Nat.eq_of_testBit_eq fun i => ?_
    rw [Nat.testBit_and, Nat.testBit_two_pow]
    by_cases hi : r = i
    · subst hi; simp [e]
    · simp [hi]
set_option maxHeartbeats 1600000 in
set_option maxRecDepth 100000 in
theorem bit_any (H V C g o m cap N y x k : Nat) (w : World) (hV : V ≤ 4096) (hC : C ≤ 4096) (hy : y < 4096) (hx : x ≤ 4096) (hk : k < C) (hM : (y * V + x) * nw C + nw C ≤ m) (hM2 : m ≤ 1073741824) (rd : Wr w (some ⟨g, o, none⟩) m N) :
    Calls Try.prog 60 #[cuv H V C (some ⟨g, o, none⟩) m cap, .int .i64 y, .int .i64 x, .int .i64 k] w fun e w' => e = .returned (.bool (N.testBit (bp V C y x k))) ∧ Below w.heap.size w w' := by
  have HD := hid1 (deep_any C (by omega))
  have hd64 : nw C ≤ 64 := by unfold nw; omega
  have hkd : k / 64 < nw C := by unfold nw; omega
  have hbp : bp V C y x k = 64 * ((y * V + x) * nw C + k / 64) + k % 64 := by unfold bp; omega
  have b1 : y * V ≤ 4096 * 4096 := Nat.mul_le_mul (by omega) hV
  have b2 : (y * V + x) * nw C ≤ (4096 * 4096 + 4096) * 64 := Nat.mul_le_mul (by omega) hd64
  rw [hbp]
  clear hbp
  obtain ⟨d, hd⟩ : ∃ d, nw C = d := ⟨_, rfl⟩
  rw [hd] at HD hd64 hkd hM b2 ⊢
  clear hd
  obtain ⟨u, hu⟩ : ∃ u, y * V = u := ⟨_, rfl⟩
  have p1 : (y : Int) * (V : Int) = (u : Nat) := by rw [← hu]; push_cast; rfl
  rw [hu] at b1 b2 hM ⊢
  clear hu
  obtain ⟨v, hv⟩ : ∃ v, (u + x) * d = v := ⟨_, rfl⟩
  have p2 : ((u : Int) + (x : Int)) * (d : Int) = (v : Nat) := by rw [← hv]; push_cast; rfl
  rw [hv] at b2 hM ⊢
  clear hv
  obtain ⟨q, hq⟩ : ∃ q, k / 64 = q := ⟨_, rfl⟩
  obtain ⟨r, hr⟩ : ∃ r, k % 64 = r := ⟨_, rfl⟩
  rw [hq] at hkd ⊢
  rw [hr]
  have eq : (k : Int) / 64 = (q : Int) := by omega
  have eq' : (k : Int).tdiv 64 = (q : Int) := by rw [Int.tdiv_eq_ediv_of_nonneg (by omega)]; exact eq
  have er : (k : Int) % 64 = (r : Int) := by omega
  have er' : (k : Int).tmod 64 = (r : Int) := by rw [Int.tmod_eq_emod_of_nonneg (by omega)]; exact er
  have ir0 : (0 : Int) ≤ (r : Int) := by omega
  have ir1 : (r : Int) ≤ 63 := by omega
  have w1 : IntKind.i64.wrap (u : Int) = (u : Int) := by rw [IntKind.wrap_i64]; omega
  have w2 : IntKind.i64.wrap ((u : Int) + (x : Int)) = (u : Int) + (x : Int) := by rw [IntKind.wrap_i64]; omega
  have w3 : IntKind.i64.wrap (v : Int) = (v : Int) := by rw [IntKind.wrap_i64]; omega
  have w4 : IntKind.i64.wrap (q : Int) = (q : Int) := by rw [IntKind.wrap_i64]; omega
  have w5 : IntKind.i64.wrap ((v : Int) + (q : Int)) = ((v + q : Nat) : Int) := by rw [IntKind.wrap_i64]; omega
  have w5' : (v : Int) + (q : Int) = ((v + q : Nat) : Int) := by omega
  obtain ⟨g', o', e, c8⟩ := rd.2 (v + q) (by omega)
  cases e
  unfold wf at c8
  have HB := hid1 (bit_at N (v + q) r (by omega))
  have H64 : (2 : Nat) ^ r < 18446744073709551616 := by rw [two64]; exact Nat.pow_lt_pow_right (by decide) (by omega)
  have hE : IntKind.u64.wrap (2 ^ r) = ((2 ^ r : Nat) : Int) := by
    rw [show ((2 : Int) ^ r) = ((2 ^ r : Nat) : Int) by simp, IntKind.wrap_u64]
    generalize 2 ^ r = y at *; omega
  have HA : bits .and .u64 (wd N (v + q) : Nat) (IntKind.u64.wrap (2 ^ r)) = ((wd N (v + q) &&& 2 ^ r : Nat) : Int) := by rw [hE]; exact and_u64 _ _ (wd_lt _ _) H64
  obtain ⟨z, hz⟩ : ∃ z, wd N (v + q) &&& 2 ^ r = z := ⟨_, rfl⟩
  rw [hz] at HA HB
  clear hE H64 hz
  generalize N.testBit (64 * (v + q) + r) = bb at *
  generalize wd N (v + q) = xx at *
  generalize hpp : v + q = p at *
  have ip0 : (0 : Int) ≤ (p : Int) := by omega
  have ip1 : (p : Int) < (m : Int) := by omega
  have lg := lt_of_cell c8
  clear hq hr hpp rd
  go_enter Try.func60, Try.ntmps60
  go_wp2_with fail
  have c8' : (w.alloc (.cells #[.int .i64 H, .int .i64 V, .int .i64 C, .slice (some ⟨g, o, none⟩) m cap] 26)).cell? ⟨g, o + p, none⟩ = some (.int .u64 xx) := keepc (bl_alloc (Below.refl _ _) _) c8
  go_quiet ((go_at_call 65; exact Calls.quiet_of_same (HD.out _)))
  go_wp2_with fail
  go_ret
  refine ⟨?_, bl_drewN (bl_alloc (Below.refl _ _) _) _⟩
  have hb : ((z : Int) != 0) = bb := by
    cases bb
    · have : z = 0 := HB.out.2 rfl
      subst this; rfl
    · have : ¬ z = 0 := fun h => by have := HB.out.1 h; cases this
      simp [this]
  show Ending.returned (.bool ((z : Int) != 0)) = _
  rw [hb]
end Go.Proofs.Ytlghmojjcfjibaa
/- THE DOCUMENT'S OWN pooled. -/
namespace Go.Proofs.Ytlghmojjcfjibaa
open Go.RowKit Go.Shelf

theorem sum4 {t l b q : Int} (ht : 0 ≤ t ∧ t ≤ 14) (hl : 0 ≤ l ∧ l ≤ 14) (hb : 0 ≤ b ∧ b ≤ 14) (hq : 0 ≤ q ∧ q ≤ 14) : IntKind.i64.wrap (t + l) = t + l ∧ IntKind.i64.wrap (t + l + b) = t + l + b ∧ IntKind.i64.wrap (t + l + b + q) = t + l + b + q := by
  rw [IntKind.wrap_i64, IntKind.wrap_i64, IntKind.wrap_i64]
  omega
set_option maxHeartbeats 3200000 in
set_option maxRecDepth 100000 in
theorem rpooled_bad (al : Bool) (h v c : Int) (ao : Option Addr) (m cap N : Nat) (r s sy sx t l b q : Int) (w : World) (rd : Wr w ao m N) (hE : poE h v c m N r s sy sx t l b q ≠ 0) :
    Calls Try.prog 48 #[cuv h v c ao m cap, Sg.win r s sy sx t l b q, .bool al] w fun e w' => e = .returned (.tuple #[cuv 0 0 0 none 0 0, .int .i64 (poE h v c m N r s sy sx t l b q)]) ∧ Below w.heap.size w w' := by
  have HC := hid1 (fun W r' => rccheck_any h v c ao m cap N W r')
  have HW := hid1 (fun W => Sg.rwindow_any r s sy sx t l b q W)
  have HS := hid1 (fun W => Sg.rslide_any h v c r s sy sx t l b q c W)
  have RD := hid1 rd
  clear rd
  have HST := hid1 (pooled_start w h v c ao m cap r s sy sx t l b q)
  obtain ⟨EE, hEE⟩ : ∃ EE, poE h v c m N r s sy sx t l b q = EE := ⟨_, rfl⟩
  rw [hEE] at hE ⊢
  have HEE := hid1 hEE
  clear hEE
  go_enter Try.func48, Try.ntmps48
  go_wp2_with fail
  refine gen_calls (fun W => W.heap.size = w.heap.size + 3 ∧ Below w.heap.size w W ∧ W.rowIs w.heap.size 26 4 (cf h v c ao m cap) ∧ Sg.Wn W (w.heap.size + 1) 0 r s sy sx t l b q ∧ W.rowIs (w.heap.size + 2) 26 4 (cf 0 0 0 none 0 0)) (by obtain ⟨X, rfl, z⟩ := HST.out; exact z) ?_
  rintro W ⟨z0, B0, b0, b1, b2⟩
  by_cases k1 : cuk h v c m N = 0
  · rw [k1] at HC
    refine (HC.out W (RD.out.below B0)).mono ?_
    rintro e w1 ⟨rfl, hb⟩
    replace b0 := keepr hb b0
    replace b1 := b1.keep hb
    replace b2 := keepr hb b2
    have B1 := bl_step B0 hb
    clear hb B0
    have b1' := b1
    obtain ⟨n0, n1, n2, n3, n4, n5, n6, n7⟩ := b1'
    simp only [Nat.zero_add] at n1 n2 n3 n4 n5 n6 n7
    go_wp2_with fail
    by_cases k2 : Sg.WOk r s sy sx t l b q
    · have e2 : Sg.wiE r s sy sx t l b q = 0 := by unfold Sg.wiE; rw [if_pos k2]
      rw [e2] at HW
      obtain ⟨⟨_, _, ht, hb0⟩, ⟨_, _, hl, hq0⟩⟩ := id k2
      obtain ⟨g1, g2, g3⟩ := sum4 ht hl hb0 hq0
      refine (HW.out w1).mono ?_
      rintro e w2 ⟨rfl, hb⟩
      replace b0 := keepr hb b0
      replace b1 := b1.keep hb
      replace b2 := keepr hb b2
      have B2 := bl_step B1 hb
      clear hb B1 n0 n1 n2 n3 n4 n5 n6 n7
      have b1' := b1
      obtain ⟨n0, n1, n2, n3, n4, n5, n6, n7⟩ := b1'
      simp only [Nat.zero_add] at n1 n2 n3 n4 n5 n6 n7
      by_cases k3 : 0 < t ∨ 0 < l ∨ 0 < b ∨ 0 < q
      · have ea : EE = 56 := by
          rw [← HEE.out]; unfold poE; rw [if_neg (fun x => x k1), if_pos (.inr k3)]
        subst ea
        have s4 : ¬ t + l + b + q = 0 := by omega
        have f0 := b2.frozen 0
        have f1 := b2.frozen 1
        have f2 := b2.frozen 2
        have f3 := b2.frozen 3
        have d0 := cf0 b2
        have d1 := cf1 b2
        have d2 := cf2 b2
        have d3 := cf3 b2
        go_wp2_with fail
        have u := cf_set b2 0 0 0 none 0 0
        have u0 := cf0 u
        have u1 := cf1 u
        have u2 := cf2 u
        have u3 := cf3 u
        exact bodyPost_ret (v := .tuple #[cuv 0 0 0 none 0 0, .int .i64 56]) (by simp [results, Try.results48, go_sem, u0, u1, u2, u3]) rfl ⟨rfl, bl_set (bl_set (bl_set (bl_set B2 (by omega) _) (by omega) _) (by omega) _) (by omega) _⟩
      · have ea : Sg.slE h v c r s sy sx t l b q c = EE := by
          rw [← HEE.out]; unfold poE; rw [if_neg (fun x => x k1), if_neg (fun x => x.elim (fun x => x k2) k3)]
        have eb : Sg.slV h v c r s sy sx t l b q c = Sg.sle 0 0 0 EE := by unfold Sg.slV; rw [ea, if_neg hE]
        rw [eb] at HS
        obtain rfl : t = 0 := by omega
        obtain rfl : l = 0 := by omega
        obtain rfl : b = 0 := by omega
        obtain rfl : q = 0 := by omega
        clear ea eb g1 g2 g3
        have c0 := cf0 b0
        have c1 := cf1 b0
        have c2 := cf2 b0
        go_wp2_with fail
        refine (HS.out w2).mono ?_
        rintro e w3 ⟨rfl, hb⟩
        replace b2 := keepr hb b2
        have B3 := bl_step B2 hb
        have z3 := hb.size
        clear hb B2 n0 n1 n2 n3 n4 n5 n6 n7 c0 c1 c2 b0 b1
        have f0 := b2.frozen 0
        have f1 := b2.frozen 1
        have f2 := b2.frozen 2
        have f3 := b2.frozen 3
        have d0 := cf0 b2
        have d1 := cf1 b2
        have d2 := cf2 b2
        have d3 := cf3 b2
        have l2 := b2.lt
        go_wp2_with fail
        have u := (cf_set b2 0 0 0 none 0 0).alloc (.cells #[.int .i64 0, .int .i64 0, .int .i64 0] 23)
        have u0 := cf0 u
        have u1 := cf1 u
        have u2 := cf2 u
        have u3 := cf3 u
        exact bodyPost_ret (v := .tuple #[cuv 0 0 0 none 0 0, .int .i64 EE]) (by simp [results, Try.results48, go_sem, u0, u1, u2, u3]) rfl ⟨rfl, bl_alloc (bl_set (bl_set (bl_set (bl_set B3 (by omega) _) (by omega) _) (by omega) _) (by omega) _) _⟩
    · have e2 : Sg.wiE r s sy sx t l b q = 56 := by unfold Sg.wiE; rw [if_neg k2]
      rw [e2] at HW
      have ea : EE = 56 := by
        rw [← HEE.out]; unfold poE; rw [if_neg (fun x => x k1), if_pos (.inl k2)]
      subst ea
      refine (HW.out w1).mono ?_
      rintro e w2 ⟨rfl, hb⟩
      replace b2 := keepr hb b2
      have B2 := bl_step B1 hb
      clear hb B1 n0 n1 n2 n3 n4 n5 n6 n7 b0 b1
      have f0 := b2.frozen 0
      have f1 := b2.frozen 1
      have f2 := b2.frozen 2
      have f3 := b2.frozen 3
      have d0 := cf0 b2
      have d1 := cf1 b2
      have d2 := cf2 b2
      have d3 := cf3 b2
      go_wp2_with fail
      have u := cf_set b2 0 0 0 none 0 0
      have u0 := cf0 u
      have u1 := cf1 u
      have u2 := cf2 u
      have u3 := cf3 u
      exact bodyPost_ret (v := .tuple #[cuv 0 0 0 none 0 0, .int .i64 56]) (by simp [results, Try.results48, go_sem, u0, u1, u2, u3]) rfl ⟨rfl, bl_set (bl_set (bl_set (bl_set B2 (by omega) _) (by omega) _) (by omega) _) (by omega) _⟩
  · have ea : EE = cuk h v c m N := by
      rw [← HEE.out]; unfold poE; rw [if_pos k1]
    rw [← ea] at HC
    refine (HC.out W (RD.out.below B0)).mono ?_
    rintro e w1 ⟨rfl, hb⟩
    replace b2 := keepr hb b2
    have B1 := bl_step B0 hb
    clear hb B0 b0 b1
    have f0 := b2.frozen 0
    have f1 := b2.frozen 1
    have f2 := b2.frozen 2
    have f3 := b2.frozen 3
    have d0 := cf0 b2
    have d1 := cf1 b2
    have d2 := cf2 b2
    have d3 := cf3 b2
    clear ea k1
    go_wp2_with fail
    have u := cf_set b2 0 0 0 none 0 0
    have u0 := cf0 u
    have u1 := cf1 u
    have u2 := cf2 u
    have u3 := cf3 u
    exact bodyPost_ret (v := .tuple #[cuv 0 0 0 none 0 0, .int .i64 EE]) (by simp [results, Try.results48, go_sem, u0, u1, u2, u3]) rfl ⟨rfl, bl_set (bl_set (bl_set (bl_set B1 (by omega) _) (by omega) _) (by omega) _) (by omega) _⟩
end Go.Proofs.Ytlghmojjcfjibaa
/- THE DOCUMENT'S OWN pooled: what is right. -/
namespace Go.Proofs.Ytlghmojjcfjibaa
open Go.RowKit Go.Shelf

structure Pq (w W : World) (H V C R S y x OH OW g o m cap bS bC G M X : Nat) : Prop where
  cu : W.rowIs w.heap.size 26 4 (cf H V C (some ⟨g, o, none⟩) m cap)
  wi : Sg.Wn W (w.heap.size + 1) 0 R S y x 0 0 0 0
  re : W.rowIs (w.heap.size + 2) 26 4 (cf 0 0 0 none 0 0)
  sh : W.rowIs bS 23 3 (hf OH OW C)
  ou : W.rowIs bC 26 4 (cf OH OW C (some ⟨G, 0, none⟩) M M)
  row : W.rowIs G 66 M (wf X)
  be : Below w.heap.size w W
theorem Pq.keep {w W W' : World} {H V C R S y x OH OW g o m cap bS bC G M X : Nat} (h : Pq w W H V C R S y x OH OW g o m cap bS bC G M X) (hb : Below W.heap.size W W') : Pq w W' H V C R S y x OH OW g o m cap bS bC G M X :=
  ⟨keepr hb h.cu, h.wi.keep hb, keepr hb h.re, keepr hb h.sh, keepr hb h.ou, keepr hb h.row, bl_step h.be hb⟩
theorem Pq.put {w W W' : World} {H V C R S y x OH OW g o m cap bS bC G M X Y : Nat} (h : Pq w W H V C R S y x OH OW g o m cap bS bC G M X) (hG : w.heap.size + 2 < G) (h1 : bS ≠ G) (h2 : bC ≠ G) (hr : W'.rowIs G 66 M (wf Y)) (hb : But G W W') : Pq w W' H V C R S y x OH OW g o m cap bS bC G M Y :=
  ⟨hb.row (by omega) h.cu, Wn.butU h.wi hb (by omega), hb.row (by omega) h.re, hb.row h1 h.sh, hb.row h2 h.ou, hr, hb.below (by omega) h.be.size h.be⟩
theorem kpR {W X : World} {b : Nat} {v0 v1 v2 v3 v4 v5 v6 v7 : Value} (h : (W.cell? ⟨b, 0, none⟩ = some v0 ∧ W.cell? ⟨b, 1, none⟩ = some v1 ∧ W.cell? ⟨b, 2, none⟩ = some v2 ∧ W.cell? ⟨b, 3, none⟩ = some v3) ∧ W.cell? ⟨b + 1, 0, none⟩ = some v4 ∧ W.cell? ⟨b + 1, 1, none⟩ = some v5 ∧ W.cell? ⟨b + 1, 2, none⟩ = some v6 ∧ W.cell? ⟨b + 1, 3, none⟩ = some v7) (hb : Below W.heap.size W X) :
    (X.cell? ⟨b, 0, none⟩ = some v0 ∧ X.cell? ⟨b, 1, none⟩ = some v1 ∧ X.cell? ⟨b, 2, none⟩ = some v2 ∧ X.cell? ⟨b, 3, none⟩ = some v3) ∧ X.cell? ⟨b + 1, 0, none⟩ = some v4 ∧ X.cell? ⟨b + 1, 1, none⟩ = some v5 ∧ X.cell? ⟨b + 1, 2, none⟩ = some v6 ∧ X.cell? ⟨b + 1, 3, none⟩ = some v7 := by
  obtain ⟨⟨a0, a1, a2, a3⟩, b0, b1, b2, b3⟩ := h
  exact ⟨⟨keepc hb a0, keepc hb a1, keepc hb a2, keepc hb a3⟩, keepc hb b0, keepc hb b1, keepc hb b2, keepc hb b3⟩
set_option maxHeartbeats 6400000 in
set_option maxRecDepth 100000 in
theorem rpooled_ok (al : Bool) (H V C R S y x g o m cap N OH OW M : Nat) (w : World) (pg : Pg H V C R S y x m N) (eH : oS H R y = OH) (eW : oS V S x = OW) (eM : OH * OW * nw C = M) (rd : Wr w (some ⟨g, o, none⟩) m N) :
    Calls Try.prog 48 #[cuv H V C (some ⟨g, o, none⟩) m cap, Sg.win R S y x 0 0 0 0, .bool al] w fun e w' => ∃ G, e = .returned (.tuple #[cuv OH OW C (some ⟨G, 0, none⟩) M M, .int .i64 0]) ∧ w.heap.size ≤ G ∧ w'.rowIs G 66 M (wf (poN al N V (nw C) R S y x OW (OH * OW))) ∧ Below w.heap.size w w' := by
  have qb := pg.qb
  have HC := hid1 (fun W r' => rccheck_any H V C (some ⟨g, o, none⟩) m cap N W r')
  rw [cuk_of pg.ck pg.hm pg.pk] at HC
  have HW := hid1 (fun W => Sg.rwindow_any R S y x 0 0 0 0 W)
  rw [show Sg.wiE R S y x 0 0 0 0 = 0 by unfold Sg.wiE; rw [if_pos (wok_of pg.hR pg.hS pg.hy pg.hx)]] at HW
  have HS := hid1 (fun W => Sg.rslide_any H V C R S y x 0 0 0 0 C W)
  have hsE : Sg.slE H V C R S y x 0 0 0 0 C = 0 := by rw [sl_of pg.ck pg.hC pg.hR pg.hS pg.hy pg.hx, if_pos ⟨pg.fH, pg.fV⟩]
  rw [show Sg.slV H V C R S y x 0 0 0 0 C = Sg.sle OH OW C 0 by unfold Sg.slV; rw [if_pos hsE, stN_fit pg.fH, stN_fit pg.fV, eH, eW]] at HS
  have hck := pg.chk
  rw [eH, eW] at hck
  have hpok := pg.pok (al := al)
  rw [eH, eW] at hpok
  have fy : ∀ p, p < OH → p * y + R ≤ H := fun _ h => oS_fit pg.fH (by rw [eH]; exact h)
  have fx : ∀ p, p < OW → p * x + S ≤ V := fun _ h => oS_fit pg.fV (by rw [eW]; exact h)
  have hOH : OH ≤ 4096 := by rw [← eH]; exact Nat.le_trans (oS_le pg.fH pg.hR.1) pg.hH.2
  have hOW : OW ≤ 4096 := by rw [← eW]; exact Nat.le_trans (oS_le pg.fV pg.hS.1) pg.hV.2
  have hbM : M ≤ 1073741824 := by rw [← eM]; exact (wo_bd hOH hOW pg.hC.2).2
  have HEm := hid1 (fun W => rempty_any OH OW C W hck M eM hbM)
  have HBit := hid1 (fun yy xx k W hy hx hk hM r' => bit_any H V C g o m cap N yy xx k W pg.hV.2 pg.hC.2 hy hx hk hM qb.le r')
  have HPut := hid1 (fun G N yy xx k W hy hx hk hM row => put_any OH OW C G M N yy xx k W hOW pg.hC.2 hy hx hk hM hbM row)
  have HEB := hid1 (fun j hj => eb_po (al := al) (N := N) (V := V) (C := C) (R := R) (S := S) (y := y) (x := x) (OH := OH) (OW := OW) (j := j) pg.hC.1 pg.hR.1 pg.hS.1 fx hj)
  have HSC := hid1 (fun j => se_ct (al := al) (N := N) (V := V) (d := nw C) (R := R) (S := S) (y := y) (x := x) (OW := OW) (C := C) (j := j) pg.hR.1 pg.hS.1)
  have hXlt := poN_lt al N V (nw C) R S y x OW (OH * OW)
  obtain ⟨X, hX⟩ : ∃ X, poN al N V (nw C) R S y x OW (OH * OW) = X := ⟨_, rfl⟩
  rw [hX] at hpok HEB hXlt ⊢
  clear hX
  have HALL := hid1 (qn_all (vU X C (OH * OW * C)) (C := C) (n := OH * OW) pg.hC.1)
  rw [vU_pack hXlt hpok] at HALL
  obtain ⟨l, hl⟩ : ∃ l, vU X C (OH * OW * C) = l := ⟨_, rfl⟩
  have HPL := hid1 (fun j (hj : j < OH * OW * C) => show 0 < ia l j ↔ eb X C j = true by rw [← hl, vU_at hj]; exact uv_pos X C j)
  rw [hl] at HALL
  clear hl
  have hC := pg.hC
  have hR := pg.hR
  have hS := pg.hS
  have hH := pg.hH
  have hV := pg.hV
  have HJ : ∀ yy xx q, yy < OH → xx < OW → q < C → (yy * OW + xx) * C + q < OH * OW * C := fun yy xx q hy hx hq => by
    have h1 : (yy + 1) * OW ≤ OH * OW := Nat.mul_le_mul_right _ hy
    rw [Nat.succ_mul] at h1
    have h2 : (yy * OW + xx + 1) * C ≤ OH * OW * C := Nat.mul_le_mul_right _ (by omega)
    rw [Nat.succ_mul] at h2
    omega
  have HI : ∀ yy xx, yy < OH → xx < OW → (yy * OW + xx) * nw C + nw C ≤ M := fun yy xx hy hx => by
    have h1 : (yy + 1) * OW ≤ OH * OW := Nat.mul_le_mul_right _ hy
    rw [Nat.succ_mul] at h1
    rw [← eM, ← Nat.succ_mul]
    exact Nat.mul_le_mul_right _ (by omega)
  have HIm : ∀ yy xx, yy < H → xx < V → (yy * V + xx) * nw C + nw C ≤ m := fun yy xx hy hx => by
    have h1 : (yy + 1) * V ≤ H * V := Nat.mul_le_mul_right _ hy
    rw [Nat.succ_mul] at h1
    rw [pg.hm, ← Nat.succ_mul]
    exact Nat.mul_le_mul_right _ (by omega)
  have HQ : Hid (∀ yy xx q, q < C → qn l C ((yy * OW + xx) * C + q + 1) = qn l C ((yy * OW + xx) * C + q) ||| (if 0 < ia l ((yy * OW + xx) * C + q) then 2 ^ bp OW C yy xx q else 0)) := hid1 fun yy xx q hq => by
    show qn l C _ ||| _ = _
    have e1 : ((yy * OW + xx) * C + q) / C = yy * OW + xx := (at_div hq).1
    have e2 : ((yy * OW + xx) * C + q) % C = q := (at_div hq).2
    rw [e1, e2]; rfl
  have RD := hid1 rd
  have HJ' := hid1 HJ
  have HI' := hid1 HI
  have HIm' := hid1 HIm
  have FY := hid1 fy
  have FX := hid1 fx
  clear rd pg qb hsE hck hpok eH eW eM hXlt HJ HI HIm fy fx
  have HST := hid1 (pooled_start w H V C (some ⟨g, o, none⟩) m cap R S y x 0 0 0 0)
  obtain ⟨RS, hRS⟩ : ∃ z, R * S = z := ⟨_, rfl⟩
  have iRS : (R : Int) * (S : Int) = (RS : Nat) := by rw [← hRS]; push_cast; rfl
  have bRS : RS ≤ 225 := by rw [← hRS]; exact Nat.mul_le_mul hR.2 hS.2
  have wRS : IntKind.i64.wrap (RS : Int) = (RS : Int) := by rw [IntKind.wrap_i64]; omega
  have HRS := hid1 hRS
  clear hRS
  go_enter Try.func48, Try.ntmps48
  go_wp2_with fail
  refine gen_calls (fun W => W.heap.size = w.heap.size + 3 ∧ Below w.heap.size w W ∧ W.rowIs w.heap.size 26 4 (cf H V C (some ⟨g, o, none⟩) m cap) ∧ Sg.Wn W (w.heap.size + 1) 0 R S y x 0 0 0 0 ∧ W.rowIs (w.heap.size + 2) 26 4 (cf 0 0 0 none 0 0)) (by obtain ⟨X, rfl, z⟩ := HST.out; exact z) ?_
  rintro W ⟨z0, B0, b0, b1, b2⟩
  refine (HC.out W (RD.out.below B0)).mono ?_
  rintro e w1 ⟨rfl, hb⟩
  replace b0 := keepr hb b0
  replace b1 := b1.keep hb
  replace b2 := keepr hb b2
  have B1 := bl_step B0 hb
  have z1 := hb.size
  clear hb B0 HC HST
  have b1' := b1
  obtain ⟨n0, n1, n2, n3, n4, n5, n6, n7⟩ := b1'
  simp only [Nat.zero_add] at n1 n2 n3 n4 n5 n6 n7
  go_wp2_with fail
  refine (HW.out w1).mono ?_
  rintro e w2 ⟨rfl, hb⟩
  replace b0 := keepr hb b0
  replace b1 := b1.keep hb
  replace b2 := keepr hb b2
  have B2 := bl_step B1 hb
  have z2 := hb.size
  clear hb B1 n0 n1 n2 n3 n4 n5 n6 n7 HW
  have b1' := b1
  obtain ⟨n0, n1, n2, n3, n4, n5, n6, n7⟩ := b1'
  simp only [Nat.zero_add] at n1 n2 n3 n4 n5 n6 n7
  have c0 := cf0 b0
  have c1 := cf1 b0
  have c2 := cf2 b0
  go_wp2_with fail
  refine (HS.out w2).mono ?_
  rintro e w3 ⟨rfl, hb⟩
  replace b0 := keepr hb b0
  replace b1 := b1.keep hb
  replace b2 := keepr hb b2
  have B3 := bl_step B2 hb
  have z3 := hb.size
  clear hb B2 n0 n1 n2 n3 n4 n5 n6 n7 HS c0 c1 c2
  go_wp2_with fail
  refine gen_calls (fun W => W.heap.size = w3.heap.size + 1 ∧ W.rowIs w.heap.size 26 4 (cf H V C (some ⟨g, o, none⟩) m cap) ∧ Sg.Wn W (w.heap.size + 1) 0 R S y x 0 0 0 0 ∧ W.rowIs (w.heap.size + 2) 26 4 (cf 0 0 0 none 0 0) ∧ W.rowIs w3.heap.size 23 3 (hf OH OW C) ∧ Below w.heap.size w W) ⟨by simp, b0.alloc _, b1.keep (bl_alloc (Below.refl _ _) _), b2.alloc _, hf_new _ _ _ _ _, bl_alloc B3 _⟩ ?_
  clear b0 b1 b2 B3
  rintro W4 ⟨z4, b0, b1, b2, b3, B4⟩
  refine (HEm.out W4).mono ?_
  rintro e w4 ⟨G, rfl, hG, row, hb⟩
  have PM : Pq w (w4.alloc (.cells #[.int .i64 OH, .int .i64 OW, .int .i64 C, .slice (some ⟨G, 0, none⟩) M M] 26)) H V C R S y x OH OW g o m cap w3.heap.size w4.heap.size G M (qn l C 0) :=
    ⟨(keepr hb b0).alloc _, (b1.keep hb).keep (bl_alloc (Below.refl _ _) _), (keepr hb b2).alloc _, (keepr hb b3).alloc _, cu_new _ _ _ _ _ _ _ _, row.alloc _, bl_alloc (bl_step B4 hb) _⟩
  obtain ⟨bC, ebC⟩ : ∃ bC, w4.heap.size = bC := ⟨_, rfl⟩
  obtain ⟨bS, ebS⟩ : ∃ bS, w3.heap.size = bS := ⟨_, rfl⟩
  have lG := row.lt
  have hGb : w.heap.size + 2 < G := by omega
  have hbS : bS ≠ G := by omega
  have hbC : bC ≠ G := by omega
  have HPM := hid1 PM
  rw [ebC, ebS] at HPM
  clear PM b0 b1 b2 b3 B4 row hb HEm
  go_wp2_with fail
  go_loopw [11] (fun s11 wr => ∃ yy i : Nat, yy ≤ OH ∧ i = yy * OW * C ∧ s11 = .int .i64 yy ∧ Pq w wr H V C R S y x OH OW g o m cap bS bC G M (qn l C i)) (fun s11 _ => OH - (intOf s11).toNat)
  case atStart => exact ⟨0, 0, Nat.zero_le _, by simp, rfl, HPM.out⟩
  case round =>
    clear HPM
    obtain ⟨yy, i, hy, hi, rfl, PM⟩ := hrel
    have e0 := hf0 PM.sh
    by_cases hyl : yy < OH
    · have iy : (yy : Int) < (OH : Int) := by omega
      have HP1 := hid1 PM
      have HI1 := hid1 hi
      clear PM hi
      go_wp2_with fail
      go_loopw [12] (fun s12 wr => ∃ xx i : Nat, xx ≤ OW ∧ i = (yy * OW + xx) * C ∧ s12 = .int .i64 xx ∧ Pq w wr H V C R S y x OH OW g o m cap bS bC G M (qn l C i)) (fun s12 _ => OW - (intOf s12).toNat)
      case atStart => exact ⟨0, i, Nat.zero_le _, by rw [HI1.out]; rfl, rfl, HP1.out⟩
      case round =>
        clear HP1 HI1 e0
        obtain ⟨xx, i, hx, hi, rfl, PM⟩ := hrel
        have e1 := hf1 PM.sh
        by_cases hxl : xx < OW
        · have ix : (xx : Int) < (OW : Int) := by omega
          have HP1 := hid1 PM
          have HI1 := hid1 hi
          clear PM hi
          go_wp2_with fail
          go_loopw [13] (fun s13 wr => ∃ q i : Nat, q ≤ C ∧ i = (yy * OW + xx) * C + q ∧ s13 = .int .i64 q ∧ Pq w wr H V C R S y x OH OW g o m cap bS bC G M (qn l C i)) (fun s13 _ => C - (intOf s13).toNat)
          case atStart => exact ⟨0, i, Nat.zero_le _, by rw [HI1.out]; rfl, rfl, HP1.out⟩
          case round =>
            clear HP1 HI1 e1
            obtain ⟨q, i, hq, hi, rfl, PM⟩ := hrel
            have e2 := hf2 PM.sh
            by_cases hql : q < C
            · have iq : (q : Int) < (C : Int) := by omega
              have hiT : i < OH * OW * C := by rw [hi]; exact HJ'.out yy xx q hyl hxl hql
              have HQ1 := hid1 (HQ.out yy xx q hql)
              rw [← hi] at HQ1
              have hdC : i / C = yy * OW + xx := by rw [hi]; exact (at_div hql).1
              have hmC : i % C = q := by rw [hi]; exact (at_div hql).2
              have hse : (0 < ia l i) ↔ (ct (fun z => pbt N V (nw C) (yy * y + z / S) (xx * x + z % S) q) RS = RS ∨ (al = false ∧ 0 < ct (fun z => pbt N V (nw C) (yy * y + z / S) (xx * x + z % S) q) RS)) := by
                have h1 := HSC.out i
                rw [hdC, hmC, (at_div hxl).1, (at_div hxl).2, HRS.out] at h1
                rw [HPL.out i hiT, HEB.out i hiT]
                exact h1
              have HSE := hid1 hse
              have HP1 := hid1 PM
              have HI1 := hid1 hi
              have FY1 := FY.out yy hyl
              have FX1 := FX.out xx hxl
              clear PM hi hse hdC hmC
              obtain ⟨f, hf⟩ : ∃ f : Nat → Bool, (fun z => pbt N V (nw C) (yy * y + z / S) (xx * x + z % S) q) = f := ⟨_, rfl⟩
              rw [hf] at HSE
              have HF := hid1 (fun z => congrFun hf z)
              clear hf
              go_wp2_with fail
              go_loopw [14, 15] (fun s14 s15 wr => ∃ z : Nat, z ≤ RS ∧ s15 = .int .i64 z ∧ s14 = .int .i64 (ct f z : Nat) ∧ Pq w wr H V C R S y x OH OW g o m cap bS bC G M (qn l C i)) (fun _ s15 _ => RS - (intOf s15).toNat)
              case atStart => exact ⟨0, Nat.zero_le _, rfl, rfl, HP1.out⟩
              case round =>
                clear HP1
                obtain ⟨z, hz, rfl, rfl, PM⟩ := hrel
                have PM' := PM.wi
                obtain ⟨n0, n1, n2, n3, -⟩ := PM'
                simp only [Nat.zero_add] at n1 n2 n3
                by_cases hzl : z < RS
                · have iz : (z : Int) < (RS : Int) := by omega
                  have hS0 : 0 < S := hS.1
                  obtain ⟨u1, hu1⟩ : ∃ k, yy * y = k := ⟨_, rfl⟩
                  obtain ⟨u2, hu2⟩ : ∃ k, xx * x = k := ⟨_, rfl⟩
                  obtain ⟨qa, hqa⟩ : ∃ k, z / S = k := ⟨_, rfl⟩
                  obtain ⟨qb, hqb⟩ : ∃ k, z % S = k := ⟨_, rfl⟩
                  obtain ⟨y1, hy1⟩ : ∃ k, u1 + qa = k := ⟨_, rfl⟩
                  obtain ⟨x1, hx1⟩ : ∃ k, u2 + qb = k := ⟨_, rfl⟩
                  have hqaR : qa < R := by rw [← hqa]; exact Nat.div_lt_of_lt_mul (by rw [Nat.mul_comm, HRS.out]; exact hzl)
                  have hqbS : qb < S := by rw [← hqb]; exact Nat.mod_lt _ hS0
                  rw [hu1] at FY1
                  rw [hu2] at FX1
                  have hy1H : y1 < H := by omega
                  have hx1V : x1 < V := by omega
                  have hval : N.testBit (bp V C y1 x1 q) = f z := by
                    rw [← HF.out z, hu1, hu2, hqa, hqb, hy1, hx1]; rfl
                  have iu1 : (yy : Int) * (y : Int) = (u1 : Nat) := by rw [← hu1]; push_cast; rfl
                  have iu2 : (xx : Int) * (x : Int) = (u2 : Nat) := by rw [← hu2]; push_cast; rfl
                  have iqa : (z : Int) / (S : Int) = (qa : Nat) := by rw [← hqa]; push_cast; rfl
                  have iqa' : (z : Int).tdiv (S : Int) = (qa : Nat) := by rw [Int.tdiv_eq_ediv_of_nonneg (by omega)]; exact iqa
                  have iqb : (z : Int) % (S : Int) = (qb : Nat) := by rw [← hqb]; push_cast; rfl
                  have iqb' : (z : Int).tmod (S : Int) = (qb : Nat) := by rw [Int.tmod_eq_emod_of_nonneg (by omega)]; exact iqb
                  have iy1 : (u1 : Int) + (qa : Int) = (y1 : Nat) := by omega
                  have ix1 : (u2 : Int) + (qb : Int) = (x1 : Nat) := by omega
                  have wu1 : IntKind.i64.wrap (u1 : Int) = (u1 : Int) := by rw [IntKind.wrap_i64]; omega
                  have wu2 : IntKind.i64.wrap (u2 : Int) = (u2 : Int) := by rw [IntKind.wrap_i64]; omega
                  have wqa : IntKind.i64.wrap (qa : Int) = (qa : Int) := by rw [IntKind.wrap_i64]; omega
                  have wqb : IntKind.i64.wrap (qb : Int) = (qb : Int) := by rw [IntKind.wrap_i64]; omega
                  have wy1 : IntKind.i64.wrap (y1 : Int) = (y1 : Int) := by rw [IntKind.wrap_i64]; omega
                  have wx1 : IntKind.i64.wrap (x1 : Int) = (x1 : Int) := by rw [IntKind.wrap_i64]; omega
                  have iS0 : ¬ (S : Int) = 0 := by omega
                  have iS1 : ¬ S = 0 := by omega
                  have iS2 : (0 : Int) < (S : Int) := by omega
                  have hcz := ct_le f z
                  have hct : ct f (z + 1) = ct f z + (if f z = true then 1 else 0) := rfl
                  have HB1 := hid1 (fun W r' => HBit.out y1 x1 q W (by omega) (by omega) hql (HIm'.out y1 x1 hy1H hx1V) r')
                  obtain ⟨bv, hbv⟩ : ∃ bv, f z = bv := ⟨_, rfl⟩
                  rw [hval, hbv] at HB1
                  rw [hbv] at hct
                  have c0 := cf0 PM.cu
                  have c1 := cf1 PM.cu
                  have c2 := cf2 PM.cu
                  have c3 := cf3 PM.cu
                  have HC8 := hid1 (And.intro (And.intro c0 (And.intro c1 (And.intro c2 c3))) (And.intro n0 (And.intro n1 (And.intro n2 n3))))
                  have HP1 := hid1 PM
                  have RD1 := hid1 (RD.out.below PM.be)
                  clear PM hval hu1 hu2 hqa hqb hy1 hx1
                  go_upto_region 23 with fail
                  clear c0 c1 c2 c3 n0 n1 n2 n3
                  go_region_held3 (fun X => (X.cell? ⟨w.heap.size, 0, none⟩ = some (.int .i64 H) ∧ X.cell? ⟨w.heap.size, 1, none⟩ = some (.int .i64 V) ∧ X.cell? ⟨w.heap.size, 2, none⟩ = some (.int .i64 C) ∧ X.cell? ⟨w.heap.size, 3, none⟩ = some (.slice (some ⟨g, o, none⟩) m cap)) ∧ X.cell? ⟨w.heap.size + 1, 0, none⟩ = some (.int .i64 R) ∧ X.cell? ⟨w.heap.size + 1, 1, none⟩ = some (.int .i64 S) ∧ X.cell? ⟨w.heap.size + 1, 2, none⟩ = some (.int .i64 y) ∧ X.cell? ⟨w.heap.size + 1, 3, none⟩ = some (.int .i64 x))
                    (((try dsimp only); (with_reducible refine kpR (W := wr) HC8.out ?_); repeat (first | (with_reducible exact Below.refl _ _) | (with_reducible assumption) | (with_reducible refine Below.drew ?_))))
                    ((go_at_call 60; refine (HB1.out _ (RD1.out.below (Below.refl _ _).drew)).mono ?_; rintro e w5 ⟨rfl, hb⟩; have bb1 : Below wr.heap.size wr w5 := bl_step (Below.refl _ _).drew hb; clear hb))
                  have HP2 := hid1 (HP1.out.keep bb1)
                  clear bb1 HP1 HC8
                  clear hbv
                  cases bv
                  · rw [if_neg (by decide)] at hct
                    go_wp2_with fail
                    exact ⟨⟨z + 1, by omega, by go_num, by rw [hct]; rfl, HP2.out⟩, by simp [intOf]; omega⟩
                  · rw [if_pos rfl] at hct
                    go_wp2_with fail
                    exact ⟨⟨z + 1, by omega, by go_num, by rw [hct]; go_num, HP2.out⟩, by simp [intOf]; omega⟩
                · obtain rfl : z = RS := by omega
                  have hcz := ct_le f z
                  generalize ct f z = cn at *
                  have HP1 := hid1 PM
                  clear PM
                  obtain ⟨pv, hpv⟩ : ∃ pv : Bool, decide (0 < ia l i) = pv := ⟨_, rfl⟩
                  have hpv' : pv = true ↔ (cn = z ∨ (al = false ∧ 0 < cn)) := by
                    rw [← hpv, decide_eq_true_iff]; exact HSE.out
                  go_upto_region 25 with fail
                  go_cut [120] from 106 to 120 (fun s120 wx => s120 = .bool pv ∧ wx = wr)
                  case first =>
                    by_cases h1 : cn = z
                    · have : pv = true := hpv'.2 (.inl h1)
                      subst this h1
                      cases al
                      · go_wp2_with fail
                        all_goals (go_meet; exact ⟨rfl, rfl⟩)
                      · go_wp2_with fail
                        all_goals (go_meet; exact ⟨rfl, rfl⟩)
                    · have h1' : ¬ (cn : Int) = (z : Int) := by omega
                      cases al
                      · by_cases h2 : 0 < cn
                        · have : pv = true := hpv'.2 (.inr ⟨rfl, h2⟩)
                          subst this
                          have h2' : (0 : Int) < (cn : Int) := by omega
                          go_wp2_with fail
                          all_goals (go_meet; exact ⟨rfl, rfl⟩)
                        · have : pv = false := by
                            cases pv
                            · rfl
                            · rcases hpv'.1 rfl with h | h
                              · exact absurd h h1
                              · exact absurd h.2 h2
                          subst this
                          obtain rfl : cn = 0 := by omega
                          go_wp2_with fail
                          all_goals (go_meet; exact ⟨congrArg Value.bool (by simp; omega), rfl⟩)
                      · have : pv = false := by
                          cases pv
                          · rfl
                          · rcases hpv'.1 rfl with h | h
                            · exact absurd h h1
                            · cases h.1
                        subst this
                        go_wp2_with fail
                        all_goals (go_meet; exact ⟨congrArg Value.bool (by simp; omega), rfl⟩)
                  case rest =>
                    clear hpv' HSE HF hcz FY1 FX1
                    have d0 := cf0 HP1.out.ou
                    have d1 := cf1 HP1.out.ou
                    have d2 := cf2 HP1.out.ou
                    have d3 := cf3 HP1.out.ou
                    obtain ⟨rfl, rfl⟩ := hcut
                    cases pv
                    · have hp : ¬ 0 < ia l i := of_decide_eq_false hpv
                      have HQ2 := hid1 HQ1.out
                      rw [if_neg hp, Nat.or_zero] at HQ2
                      clear hpv hp
                      go_wp2_with fail
                      exact ⟨⟨q + 1, i + 1, by omega, by have := HI1.out; omega, by go_num, by rw [HQ2.out]; exact HP1.out⟩, by simp [intOf]; omega⟩
                    · have hp : 0 < ia l i := of_decide_eq_true hpv
                      have HQ2 := hid1 HQ1.out
                      rw [if_pos hp] at HQ2
                      clear hpv hp
                      go_wp2_with fail
                      refine (HPut.out G (qn l C i) yy xx q _ (by omega) (by omega) hql (HI'.out yy xx hyl hxl) HP1.out.row).mono ?_
                      rintro e w6 ⟨rfl, hrow, hbut⟩
                      have PM2 := hid1 (HP1.out.put hGb hbS hbC (by rw [← HQ2.out] at hrow; exact hrow) hbut)
                      clear hrow hbut d0 d1 d2 d3
                      go_wp2_with fail
                      exact ⟨⟨q + 1, i + 1, by omega, by have := HI1.out; omega, by go_num, PM2.out⟩, by simp [intOf]; omega⟩
            · have hqC : q = C := by omega
              subst hqC
              have HP1 := hid1 PM
              have HI1 := hid1 hi
              clear PM hi
              go_wp2_with fail
              exact ⟨⟨xx + 1, i, by omega, by rw [HI1.out, ← Nat.add_assoc, Nat.succ_mul], by go_num, HP1.out⟩, by simp [intOf]; omega⟩
        · have hxV : xx = OW := by omega
          subst hxV
          have HP1 := hid1 PM
          have HI1 := hid1 hi
          clear PM hi
          go_wp2_with fail
          exact ⟨⟨yy + 1, i, by omega, by rw [HI1.out, Nat.succ_mul], by go_num, HP1.out⟩, by simp [intOf]; omega⟩
    · have hyH : yy = OH := by omega
      subst hyH
      have d0 := cf0 PM.ou
      have d1 := cf1 PM.ou
      have d2 := cf2 PM.ou
      have d3 := cf3 PM.ou
      have s0 := cf0 PM.re
      have s1 := cf1 PM.re
      have s2 := cf2 PM.re
      have s3 := cf3 PM.re
      have f0 := PM.re.frozen 0
      have f1 := PM.re.frozen 1
      have f2 := PM.re.frozen 2
      have f3 := PM.re.frozen 3
      have HP1 := hid1 PM
      have HI1 := hid1 hi
      clear PM hi
      clear HPut HI' HJ' HQ HBit
      go_wp2_with fail
      have hfin : qn l C i = X := by rw [← HALL.out, HI1.out]
      have P4 := HP1.out.row
      rw [hfin] at P4
      obtain ⟨q1, _, qr, qB⟩ := pool_end (h := yy) (v := OW) (c := C) HP1.out.re P4 (Nat.le_refl G) (And.intro (Nat.le_add_right _ _) hGb) HP1.out.be
      have u0 := cf0 q1
      have u1 := cf1 q1
      have u2 := cf2 q1
      have u3 := cf3 q1
      exact bodyPost_ret (v := .tuple #[cuv yy OW C (some ⟨G, 0, none⟩) M M, .int .i64 0]) (by simp [results, Try.results48, go_sem, u0, u1, u2, u3]) rfl ⟨G, rfl, by omega, qr, qB⟩
end Go.Proofs.Ytlghmojjcfjibaa
