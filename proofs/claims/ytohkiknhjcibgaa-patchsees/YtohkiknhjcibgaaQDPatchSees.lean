import Derived.Test.YtohkiknhjcibgaaEW6
import Derived.Test.YtohkiknhjcibgaaQCPatchSees
import Derived.Test.YtohkiknhjcibgaaQBPatchSees
import Derived.Deep.MidRow
import Derived.Test.YtohkiknhjcibgaaEW8
import Derived.Test.YtohkiknhjcibgaaQAPatchSees
/- PACKAGE patch: See refuses. -/
namespace Go.Proofs.Ytohkiknhjcibgaa
open Go.RowKit Go.Shelf
attribute [local go_sem] Oper.semAt_some

set_option maxHeartbeats 1600000 in
set_option maxRecDepth 100000 in
theorem see_bad (h v c : Int) (ao : Option Addr) (m cap N : Nat) (r s sy sx t l b q bd E : Int) (w : World) (rd : Wr w ao m N) (hE : E ≠ 0)
    (HO0 : ∀ W, Wr W ao m N → Calls Try.prog 14 #[cuv h v c ao m cap, Sg.win r s sy sx t l b q, .int .i64 bd] W fun e w' => e = .returned (Sg.sle 0 0 0 E) ∧ Below W.heap.size W w') :
    Calls Try.prog 6 #[cuv h v c ao m cap, Sg.win r s sy sx t l b q, .int .i64 bd] w fun e w' => e = .returned (.tuple #[.slice none 0 0, Sg.shp 0 0 0, .int .i64 E]) ∧ Below w.heap.size w w' := by
  have HO := hid1 HO0
  have RD := hid1 rd
  have hE1 : decide (E = 0) = false := by simpa using hE
  have hE2 : (E != 0) = true := by simpa using hE
  clear HO0 rd
  go_enter Try.func6, Try.ntmps6
  go_wp2_with fail
  refine gen_calls (fun W => W.heap.size = w.heap.size + 3 ∧ Below w.heap.size w W ∧ W.rowIs w.heap.size 31 4 (cf h v c ao m cap) ∧ Sg.Wn W (w.heap.size + 1) 0 r s sy sx t l b q ∧ W.rowIs (w.heap.size + 2) 29 3 (hf 0 0 0)) (by obtain ⟨X, rfl, z⟩ := out_start w h v c ao m cap r s sy sx t l b q; exact z) ?_
  rintro W ⟨z0, B0, b0, b1, b2⟩
  refine (HO.out W (RD.out.below B0)).mono ?_
  rintro e w1 ⟨rfl, hb⟩
  have z1 := hb.size
  replace b2 := keepr hb b2
  have B1 := bl_step B0 hb
  clear hb B0 HO b0 b1
  have b2' : w1.rowIs (w.heap.size + 1 + 1) 29 3 (hf 0 0 0) := b2
  have d0 := hf0 b2'
  have d1 := hf1 b2'
  have d2 := hf2 b2'
  have f0 := b2'.frozen 0
  have f1 := b2'.frozen 1
  have f2 := b2'.frozen 2
  have l2 : w.heap.size + 1 + 1 < w1.heap.size := b2'.lt
  clear b2 b2'
  go_wp2_with fail
  exact bodyPost_ret (v := .tuple #[.slice none 0 0, Sg.shp 0 0 0, .int .i64 E]) (by simp [results, Try.results6, go_sem, d0, d1, d2, l2]) rfl ⟨rfl, bl_alloc (bl_set (bl_set (bl_set B1 (by omega) _) (by omega) _) (by omega) _) _⟩
end Go.Proofs.Ytohkiknhjcibgaa
/- heddleref13: See refuses. -/
namespace Go.Proofs.Ytohkiknhjcibgaa
open Go.RowKit Go.Shelf

/-- What See refuses, 0 if nothing. -/
def seE (h v c : Int) (m N : Nat) (r s sy sx t l b q bd : Int) : Int :=
  if cuk h v c m N ≠ 0 then cuk h v c m N else if Sg.wiE r s sy sx t l b q ≠ 0 ∨ bd < -1 ∨ 1 < bd then 56 else if Sg.slE h v c r s sy sx t l b q 1 ≠ 0 then Sg.slE h v c r s sy sx t l b q 1
  else if 4194304 < Sg.stN h t b r sy * Sg.stN v l q s sx * r * s * (nw c.toNat : Nat) then 31 else 0
/-- What is so if it refuses nothing. -/
structure Good (h v c : Int) (m N : Nat) (r s sy sx t l b q bd : Int) (H V C R S SY SX T L B Q A D : Nat) : Prop where
  eh : h = H
  ev : v = V
  ec : c = C
  er : r = R
  es : s = S
  ey : sy = SY
  ex : sx = SX
  et : t = T
  el : l = L
  eb : b = B
  eq : q = Q
  hH : 1 ≤ H ∧ H ≤ 4096
  hV : 1 ≤ V ∧ V ≤ 4096
  hC : 1 ≤ C ∧ C ≤ 4096
  hR : 1 ≤ R ∧ R ≤ 15
  hS : 1 ≤ S ∧ S ≤ 15
  hY : 1 ≤ SY ∧ SY ≤ 15
  hX : 1 ≤ SX ∧ SX ≤ 15
  hT : T ≤ 14
  hL : L ≤ 14
  hA : 1 ≤ A ∧ A ≤ 4096
  hD : 1 ≤ D ∧ D ≤ 4096
  k0 : Sg.chk H V C = 0
  k1 : cuk H V C m N = 0
  hm : m = H * V * nw C
  hN : Pok (H * V) C N
  k2 : Sg.wiE R S SY SX T L B Q = 0
  k3 : -1 ≤ bd ∧ bd ≤ 1
  k4 : Sg.slV H V C R S SY SX T L B Q 1 = Sg.sle A D 1 0
  k5 : A * D * R * S * nw C ≤ 4194304
theorem seE_good {h v c : Int} {m N : Nat} {r s sy sx t l b q bd : Int} (k : seE h v c m N r s sy sx t l b q bd = 0) : ∃ H V C R S SY SX T L B Q A D : Nat, Good h v c m N r s sy sx t l b q bd H V C R S SY SX T L B Q A D := by
  unfold seE at k
  by_cases k1 : cuk h v c m N = 0
  · rw [if_neg (fun h => h k1)] at k
    by_cases k2 : Sg.wiE r s sy sx t l b q ≠ 0 ∨ bd < -1 ∨ 1 < bd
    · rw [if_pos k2] at k; omega
    · rw [if_neg k2] at k
      by_cases k4 : Sg.slE h v c r s sy sx t l b q 1 = 0
      · rw [if_neg (fun h => h k4)] at k
        have kw : Sg.wiE r s sy sx t l b q = 0 := by
          by_cases h1 : Sg.wiE r s sy sx t l b q = 0
          · exact h1
          · exact absurd (.inl h1) k2
        have kb : -1 ≤ bd ∧ bd ≤ 1 := by
          constructor
          · by_cases h1 : bd < -1
            · exact absurd (.inr (.inl h1)) k2
            · omega
          · by_cases h1 : 1 < bd
            · exact absurd (.inr (.inr h1)) k2
            · omega
        obtain ⟨H, V, C, rfl, rfl, rfl, hH, hV, hC, _, k0, hm, hN⟩ := cuk_zeroP k1
        have hW : Sg.WOk r s sy sx t l b q := by
          have := kw
          unfold Sg.wiE at this
          by_cases h1 : Sg.WOk r s sy sx t l b q
          · exact h1
          · rw [if_neg h1] at this; omega
        obtain ⟨⟨⟨_, _⟩, ⟨_, _⟩, ⟨_, _⟩, _, _⟩, ⟨_, _⟩, ⟨_, _⟩, ⟨_, _⟩, _, _⟩ := id hW
        have e : Sg.chk (Sg.stN H t b r sy) (Sg.stN V l q s sx) 1 = 0 := by
          have k' := k4
          unfold Sg.slE at k'
          rw [if_neg (fun h => h k0), if_neg (by omega), if_neg (fun h => h hW)] at k'
          by_cases h3 : Sg.mn2 (Sg.stN H t b r sy) (Sg.stN V l q s sx) = 0
          · rw [if_pos h3] at k'; omega
          · rw [if_neg h3] at k'; exact k'
        obtain ⟨A, D, _, eA, eD, _, hA, hD, _⟩ := chk_nat e
        rw [eA, eD, Int.toNat_natCast] at k
        obtain ⟨R, rfl⟩ : ∃ R : Nat, r = R := ⟨r.toNat, by omega⟩
        obtain ⟨S, rfl⟩ : ∃ R : Nat, s = R := ⟨s.toNat, by omega⟩
        obtain ⟨SY, rfl⟩ : ∃ R : Nat, sy = R := ⟨sy.toNat, by omega⟩
        obtain ⟨SX, rfl⟩ : ∃ R : Nat, sx = R := ⟨sx.toNat, by omega⟩
        obtain ⟨T, rfl⟩ : ∃ R : Nat, t = R := ⟨t.toNat, by omega⟩
        obtain ⟨L, rfl⟩ : ∃ R : Nat, l = R := ⟨l.toNat, by omega⟩
        obtain ⟨B, rfl⟩ : ∃ R : Nat, b = R := ⟨b.toNat, by omega⟩
        obtain ⟨Q, rfl⟩ : ∃ R : Nat, q = R := ⟨q.toNat, by omega⟩
        have k5 : A * D * R * S * nw C ≤ 4194304 := by
          by_cases h5 : 4194304 < (A : Int) * (D : Int) * (R : Int) * (S : Int) * ((nw C : Nat) : Int)
          · rw [if_pos h5] at k; omega
          · rw [← Int.natCast_mul, ← Int.natCast_mul, ← Int.natCast_mul, ← Int.natCast_mul] at h5; omega
        exact ⟨H, V, C, R, S, SY, SX, T, L, B, Q, A, D, rfl, rfl, rfl, rfl, rfl, rfl, rfl, rfl, rfl, rfl, rfl, hH, hV, hC, by omega, by omega, by omega, by omega, by omega, by omega, hA, hD, k0, k1, hm, hN, kw, kb, by unfold Sg.slV; rw [if_pos k4, eA, eD], k5⟩
      · rw [if_pos k4] at k; exact absurd k k4
  · rw [if_pos k1] at k; exact absurd k k1
theorem slv_ok {h v c r s sy sx t l b q A B : Int} (k : Sg.slV h v c r s sy sx t l b q 1 = Sg.sle A B 1 0) : Sg.slE h v c r s sy sx t l b q 1 = 0 ∧ Sg.stN h t b r sy = A ∧ Sg.stN v l q s sx = B := by
  unfold Sg.slV at k
  by_cases h1 : Sg.slE h v c r s sy sx t l b q 1 = 0
  · rw [if_pos h1] at k
    injection k with k
    simp at k
    exact ⟨h1, k.1, k.2⟩
  · rw [if_neg h1] at k
    injection k with k
    simp at k
/-- The program refuses. -/
theorem psee_bad (h v c : Int) (ao : Option Addr) (m cap N : Nat) (r s sy sx t l b q bd : Int) (w : World) (hmc : m ≤ cap) (hcap : cap ≤ 9223372036854775807) (rd : Wr w ao m N) (hE : seE h v c m N r s sy sx t l b q bd ≠ 0) :
    Calls Try.prog 6 #[cuv h v c ao m cap, Sg.win r s sy sx t l b q, .int .i64 bd] w fun e w' => e = .returned (.tuple #[.slice none 0 0, Sg.shp 0 0 0, .int .i64 (seE h v c m N r s sy sx t l b q bd)]) ∧ Below w.heap.size w w' := by
  refine see_bad h v c ao m cap N r s sy sx t l b q bd _ w rd hE fun W rd' => ?_
  refine outline_any h v c ao m cap N r s sy sx t l b q bd W hmc hcap rd' _ (fun k => ?_) (fun k1 k2 => ?_) (fun k1 k2 k3 => ?_) (fun E k1 k2 k3 k4 k5 => ?_) (fun H V C R S A B k1 k2 k3 k4 e1 e2 e3 e4 e5 k5 => ?_) (fun H V C R S A B k1 k2 k3 k4 e1 e2 e3 e4 e5 k5 => ?_)
  · unfold seE; rw [if_pos k]
  · unfold seE; rw [if_neg (fun h => h k1), if_pos (.inl k2)]
    congr 2
    unfold Sg.wiE at k2 ⊢
    by_cases h1 : Sg.WOk r s sy sx t l b q
    · rw [if_pos h1] at k2; exact absurd rfl k2
    · rw [if_neg h1]
  · unfold seE; rw [if_neg (fun h => h k1), if_pos (.inr k3)]
  · have hs : Sg.slE h v c r s sy sx t l b q 1 = E := by
      unfold Sg.slV at k4
      by_cases h1 : Sg.slE h v c r s sy sx t l b q 1 = 0
      · rw [if_pos h1] at k4
        injection k4 with k4
        have e0 : (0 : Int) = E := by
          have := congrArg (fun a : Array Value => a[1]?) k4
          simpa using this
        exact absurd e0.symm k5
      · rw [if_neg h1] at k4
        injection k4 with k4
        simp at k4
        exact k4
    unfold seE
    rw [if_neg (fun h => h k1), if_neg (by rintro (h | h | h); exact h k2; omega; omega), hs, if_pos k5]
  · subst e1 e2 e3 e4 e5
    obtain ⟨h1, h2, h3⟩ := slv_ok k4
    unfold seE
    rw [if_neg (fun h => h k1), if_neg (by rintro (h | h | h); exact h k2; omega; omega), if_neg (fun h => h h1), h2, h3, Int.toNat_natCast, if_pos]
    rw [← Int.natCast_mul, ← Int.natCast_mul, ← Int.natCast_mul, ← Int.natCast_mul]
    omega
  · subst e1 e2 e3 e4 e5
    obtain ⟨h1, h2, h3⟩ := slv_ok k4
    refine absurd ?_ hE
    unfold seE
    rw [if_neg (fun h => h k1), if_neg (by rintro (h | h | h); exact h k2; omega; omega), if_neg (fun h => h h1), h2, h3, Int.toNat_natCast, if_neg]
    rw [← Int.natCast_mul, ← Int.natCast_mul, ← Int.natCast_mul, ← Int.natCast_mul]
    omega
end Go.Proofs.Ytohkiknhjcibgaa
/- heddleref13: the document's See refuses. -/
namespace Go.Proofs.Ytohkiknhjcibgaa
open Go.RowKit Go.Shelf

theorem sh_hf {W : World} {b : Nat} {h v c : Int} (r : W.rowIs b 29 3 (hf h v c)) : Sg.Sh W b 0 h v c := ⟨hf0 r, hf1 r, hf2 r⟩
set_option maxHeartbeats 3200000 in
set_option maxRecDepth 100000 in
theorem rsee_bad (h v c : Int) (ao : Option Addr) (m cap N : Nat) (r s sy sx t l b q bd : Int) (w : World) (hmc : m ≤ cap) (hcap : cap ≤ 9223372036854775807) (rd : Wr w ao m N) (hE : seE h v c m N r s sy sx t l b q bd ≠ 0) :
    Calls Try.prog 7 #[cuv h v c ao m cap, Sg.win r s sy sx t l b q, .int .i64 bd] w fun e w' => e = .returned (.tuple #[.slice none 0 0, Sg.shp 0 0 0, .int .i64 (seE h v c m N r s sy sx t l b q bd)]) ∧ Below w.heap.size w w' := by
  have HC := hid1 (fun W r' => rcube_any h v c ao m cap N W hmc hcap r')
  have HW := hid1 (fun W => rwin_any r s sy sx t l b q W)
  have HS := hid1 (fun W k0 kw => rslide13_any h v c r s sy sx t l b q W k0 kw)
  have RD := hid1 rd
  have HSE := hid1 hE
  obtain ⟨E, eE⟩ : ∃ E, seE h v c m N r s sy sx t l b q bd = E := ⟨_, rfl⟩
  have EE := hid1 eE
  rw [eE] at HSE ⊢
  clear rd hE eE
  go_enter Try.func7, Try.ntmps7
  go_wp2_with fail
  refine gen_calls (fun W => W.heap.size = w.heap.size + 3 ∧ Below w.heap.size w W ∧ W.rowIs w.heap.size 31 4 (cf h v c ao m cap) ∧ Sg.Wn W (w.heap.size + 1) 0 r s sy sx t l b q ∧ W.rowIs (w.heap.size + 1 + 1) 29 3 (hf 0 0 0)) (by obtain ⟨X, rfl, z⟩ := out_start w h v c ao m cap r s sy sx t l b q; exact z) ?_
  rintro W ⟨z0, B0, b0, b1, b2⟩
  refine (HC.out W (RD.out.below B0)).mono ?_
  rintro e w1 ⟨rfl, hb⟩
  have z1 := hb.size
  replace b0 := keepr hb b0
  replace b1 := b1.keep hb
  replace b2 := keepr hb b2
  have B1 := bl_step B0 hb
  clear hb B0 HC
  have d0 := hf0 b2
  have d1 := hf1 b2
  have d2 := hf2 b2
  have f0 := b2.frozen 0
  have f1 := b2.frozen 1
  have f2 := b2.frozen 2
  have l2 : w.heap.size + 1 + 1 < w1.heap.size := b2.lt
  by_cases k1 : cuk h v c m N = 0
  · rw [k1]
    obtain ⟨x0, x1, x2, x3, x4, x5, x6, x7⟩ := id b1
    clear d0 d1 d2 f0 f1 f2
    go_wp2_with fail
    refine (HW.out w1).mono ?_
    rintro e w2 ⟨rfl, hb⟩
    have z2 := hb.size
    replace b0 := keepr hb b0
    replace b1 := b1.keep hb
    replace b2 := keepr hb b2
    have B2 := bl_step B1 hb
    clear hb B1 HW x0 x1 x2 x3 x4 x5 x6 x7 l2
    have d0 := hf0 b2
    have d1 := hf1 b2
    have d2 := hf2 b2
    have f0 := b2.frozen 0
    have f1 := b2.frozen 1
    have f2 := b2.frozen 2
    have l2 : w.heap.size + 1 + 1 < w2.heap.size := b2.lt
    by_cases k2 : Sg.wiE r s sy sx t l b q ≠ 0 ∨ bd < -1 ∨ 1 < bd
    · have e56 : E = 56 := by rw [← EE.out]; unfold seE; rw [if_neg (fun h => h k1), if_pos k2]
      subst e56
      have key : (∃ t : decide (Sg.wiE r s sy sx t l b q = 0) = false, True) ∨ (∃ t : decide (Sg.wiE r s sy sx t l b q = 0) = true, ∃ t2 : bd < -1, True) ∨ (∃ t : decide (Sg.wiE r s sy sx t l b q = 0) = true, ∃ t2 : ¬ bd < -1, ∃ t3 : decide (bd < -1) = false, ∃ t4 : 1 < bd, True) := by
        by_cases a1 : Sg.wiE r s sy sx t l b q = 0
        · by_cases a2 : bd < -1
          · exact .inr (.inl ⟨decide_eq_true a1, a2, trivial⟩)
          · have a3 : 1 < bd := by
              rcases k2 with h1 | h1 | h1
              · exact absurd a1 h1
              · exact absurd h1 a2
              · exact h1
            exact .inr (.inr ⟨decide_eq_true a1, a2, decide_eq_false a2, a3, trivial⟩)
        · exact .inl ⟨decide_eq_false a1, trivial⟩
      clear k2
      generalize decide (Sg.wiE r s sy sx t l b q = 0) = ww at *
      rcases key with ⟨t1, _⟩ | ⟨t1, t2, _⟩ | ⟨t1, t2, t3, t4, _⟩
      all_goals
        subst t1
        go_wp2_with fail
        exact bodyPost_ret (v := .tuple #[.slice none 0 0, Sg.shp 0 0 0, .int .i64 56]) (by simp [results, Try.results7, go_sem, d0, d1, d2]) rfl ⟨rfl, bl_set (bl_set (bl_set B2 (by omega) _) (by omega) _) (by omega) _⟩
    · have kw : Sg.wiE r s sy sx t l b q = 0 := by
        by_cases h1 : Sg.wiE r s sy sx t l b q = 0
        · exact h1
        · exact absurd (.inl h1) k2
      have kb1 : ¬ bd < -1 := fun h1 => k2 (.inr (.inl h1))
      have kb2 : ¬ 1 < bd := fun h1 => k2 (.inr (.inr h1))
      have kb1' : decide (bd < -1) = false := decide_eq_false kb1
      have kb2' : decide (1 < bd) = false := decide_eq_false kb2
      obtain ⟨H, V, C, rfl, rfl, rfl, hH, hV, hC, _, k0, hm, hN⟩ := cuk_zeroP k1
      have HS2 := hid1 (fun W => HS.out W k0 kw)
      have HP := hid1 (rplaces_any C (by omega))
      rw [decide_eq_true kw]
      have c0 := cf0 b0
      have c1 := cf1 b0
      have c2 := cf2 b0
      have c3 := cf3 b0
      obtain ⟨x0, x1, x2, x3, x4, x5, x6, x7⟩ := id b1
      simp only [Nat.zero_add] at x1 x2 x3 x4 x5 x6 x7
      clear HS d0 d1 d2 f0 f1 f2
      have hEE : ∀ e, Sg.slE H V C r s sy sx t l b q 1 = e → (if e ≠ 0 then e else if 4194304 < Sg.stN H t b r sy * Sg.stN V l q s sx * r * s * ((nw C : Nat) : Int) then 31 else 0) = E := fun e h => by
        have h2 := EE.out
        unfold seE at h2
        rw [if_neg (fun h => h k1), if_neg k2, Int.toNat_natCast, h] at h2
        exact h2
      by_cases k4 : Sg.slE H V C r s sy sx t l b q 1 = 0
      · have e2 := hEE 0 k4
        rw [if_neg (by simp)] at e2
        have k5 : 4194304 < Sg.stN H t b r sy * Sg.stN V l q s sx * r * s * ((nw C : Nat) : Int) := by
          by_cases h5 : 4194304 < Sg.stN H t b r sy * Sg.stN V l q s sx * r * s * ((nw C : Nat) : Int)
          · exact h5
          · rw [if_neg h5] at e2; exact absurd e2.symm HSE.out
        rw [if_pos k5] at e2
        subst e2
        obtain ⟨A, D, hA, hD, eV⟩ := sl_nat k4
        obtain ⟨_, eA, eD⟩ := slv_ok eV
        obtain ⟨R, S, rfl, rfl, hR, hS⟩ := wok_nat kw
        rw [eV] at HS2
        rw [eA, eD] at k5
        have hnw : nw C ≤ 64 := by unfold nw; omega
        have p1 : A * D ≤ 4096 * 4096 := Nat.mul_le_mul hA hD
        obtain ⟨q1, eq1⟩ : ∃ q, A * D = q := ⟨_, rfl⟩
        rw [eq1] at p1
        have p2 : q1 * R ≤ 4096 * 4096 * 15 := Nat.mul_le_mul p1 hR
        obtain ⟨q2, eq2⟩ : ∃ q, q1 * R = q := ⟨_, rfl⟩
        rw [eq2] at p2
        have p3 : q2 * S ≤ 4096 * 4096 * 15 * 15 := Nat.mul_le_mul p2 hS
        obtain ⟨q3, eq3⟩ : ∃ q, q2 * S = q := ⟨_, rfl⟩
        rw [eq3] at p3
        have p4 : q3 * nw C ≤ 4096 * 4096 * 15 * 15 * 64 := Nat.mul_le_mul p3 hnw
        obtain ⟨q4, eq4⟩ : ∃ q, q3 * nw C = q := ⟨_, rfl⟩
        rw [eq4] at p4
        have k6 : (4194304 : Int) < (q4 : Int) := by
          rw [← Int.natCast_mul, eq1, ← Int.natCast_mul, eq2, ← Int.natCast_mul, eq3, ← Int.natCast_mul, eq4] at k5
          exact k5
        have y1 : IntKind.i64.wrap ((A : Int) * (D : Int)) = (q1 : Int) := by rw [← Int.natCast_mul, eq1, IntKind.wrap_i64]; omega
        have y2 : IntKind.i64.wrap ((q1 : Int) * (R : Int)) = (q2 : Int) := by rw [← Int.natCast_mul, eq2, IntKind.wrap_i64]; omega
        have y3 : IntKind.i64.wrap ((q2 : Int) * (S : Int)) = (q3 : Int) := by rw [← Int.natCast_mul, eq3, IntKind.wrap_i64]; omega
        have y4 : IntKind.i64.wrap ((q3 : Int) * (nw C : Int)) = (q4 : Int) := by rw [← Int.natCast_mul, eq4, IntKind.wrap_i64]; omega
        clear eV hEE k4 k2 k5 eq1 eq2 eq3 eq4
        go_wp2_with (go_at_call 20 ; refine (HS2.out _).mono ?_ ; rintro e w3 ⟨rfl, hb3⟩ ; have q2 := keepr hb3 b2 ; have d0 := hf0 q2 ; have d1 := hf1 q2 ; have d2 := hf2 q2 ; have f0 := q2.frozen 0 ; have f1 := q2.frozen 1 ; have f2 := q2.frozen 2 ; have l3 := q2.lt ; have B3 := bl_step B2 hb3; have g0 := keepr hb3 b0; have g2 := cf2 g0; have h1 := b1.keep hb3; have h10 := h1.1; have h11 := h1.2.1; simp only [Nat.zero_add] at h11; have l1 := lt_of_cell h11; have l0 := g0.lt; clear c0 c1 c2 c3 x0 x1 x2 x3 x4 x5 x6 x7)
        refine gen_world (fun Y => Below w.heap.size w Y ∧ Y.cell? ⟨w.heap.size, 2, none⟩ = some (.int .i64 C) ∧ Y.cell? ⟨w.heap.size + 1, 0, none⟩ = some (.int .i64 R) ∧ Y.cell? ⟨w.heap.size + 1, 1, none⟩ = some (.int .i64 S) ∧ Y.rowIs w3.heap.size 29 3 (hf A D 1) ∧ Y.rowIs (w.heap.size + 1 + 1) 29 3 (hf 0 0 0)) ⟨bl_alloc B3 _, keepc (bl_alloc (Below.refl _ _) _) g2, keepc (bl_alloc (Below.refl _ _) _) h10, keepc (bl_alloc (Below.refl _ _) _) h11, hf_new _ _ _ _ _, q2.alloc _⟩ ?_
        rintro Y ⟨BY, g2, h10, h11, n0, q2⟩
        clear d0 d1 d2 f0 f1 f2 B3 h1 hb3 g0
        have n1 := hf0 n0
        have n2 := hf1 n0
        have d0 := hf0 q2
        have d1 := hf1 q2
        have d2 := hf2 q2
        have f0 := q2.frozen 0
        have f1 := q2.frozen 1
        have f2 := q2.frozen 2
        have l3 := q2.lt
        go_quiet ((go_at_call 21; exact Calls.quiet_of_same (HP.out _)))
        go_wp2_with fail
        exact bodyPost_ret (v := .tuple #[.slice none 0 0, Sg.shp 0 0 0, .int .i64 31]) (by simp [results, Try.results7, go_sem, d0, d1, d2]) rfl ⟨rfl, bl_set (bl_set (bl_set (bl_drewN BY _) (by omega) _) (by omega) _) (by omega) _⟩
      · have eE := hEE _ rfl
        rw [if_pos k4] at eE
        have eV : Sg.slV H V C r s sy sx t l b q 1 = Sg.sle 0 0 0 E := by unfold Sg.slV; rw [if_neg k4, eE]
        rw [eV] at HS2
        clear eV hEE eE k4 k2
        have hE' : (E != 0) = true := by simpa using HSE.out
        go_wp2_with (go_at_call 20; refine (HS2.out _).mono ?_; rintro e w3 ⟨rfl, hb3⟩; have q2 := keepr hb3 b2; have d0 := hf0 q2; have d1 := hf1 q2; have d2 := hf2 q2; have f0 := q2.frozen 0; have f1 := q2.frozen 1; have f2 := q2.frozen 2; have l3 := q2.lt; have B3 := bl_step B2 hb3)
        exact bodyPost_ret (v := .tuple #[.slice none 0 0, Sg.shp 0 0 0, .int .i64 E]) (by simp [results, Try.results7, go_sem, d0, d1, d2, l3]) rfl ⟨rfl, bl_alloc (bl_set (bl_set (bl_set B3 (by omega) _) (by omega) _) (by omega) _) _⟩
  · have eE : E = cuk h v c m N := by rw [← EE.out]; unfold seE; rw [if_pos k1]
    have k1' : (cuk h v c m N != 0) = true := by simpa using k1
    clear HW HS
    go_wp2_with fail
    exact bodyPost_ret (v := .tuple #[.slice none 0 0, Sg.shp 0 0 0, .int .i64 (cuk h v c m N)]) (by simp [results, Try.results7, go_sem, d0, d1, d2]) rfl ⟨by rw [eE], bl_set (bl_set (bl_set B1 (by omega) _) (by omega) _) (by omega) _⟩
end Go.Proofs.Ytohkiknhjcibgaa
/- heddlelaw13: within. -/
namespace Go.Proofs.Ytohkiknhjcibgaa
open Go.RowKit Go.Shelf

/-- A number turned into lo to hi. -/
def wi (n lo hi : Int) : Int := lo + n % (hi - lo + 1)
theorem wi_bd {n lo hi : Int} (h : lo ≤ hi) : lo ≤ wi n lo hi ∧ wi n lo hi ≤ hi := by
  unfold wi
  have h1 := Int.emod_nonneg n (show hi - lo + 1 ≠ 0 by omega)
  have h2 := Int.emod_lt_of_pos n (show 0 < hi - lo + 1 by omega)
  omega
end Go.Proofs.Ytohkiknhjcibgaa
/- heddlelaw13: a Case's fourteen cells; what made makes. -/
namespace Go.Proofs.Ytohkiknhjcibgaa
open Go.RowKit Go.Shelf

structure Ks where
  H : Int
  V : Int
  C : Int
  vv : Value
  r : Int
  s : Int
  sy : Int
  sx : Int
  t : Int
  l : Int
  b : Int
  q : Int
  bd : Int
  wv : Value
def Ks.f (v : Ks) : Nat → Value := fun k => match k with
  | 0 => .int .i64 v.H | 1 => .int .i64 v.V | 2 => .int .i64 v.C | 3 => v.vv
  | 4 => .int .i64 v.r | 5 => .int .i64 v.s | 6 => .int .i64 v.sy | 7 => .int .i64 v.sx | 8 => .int .i64 v.t | 9 => .int .i64 v.l | 10 => .int .i64 v.b | 11 => .int .i64 v.q
  | 12 => .int .i64 v.bd | _ => v.wv
def Ks.ls (v : Ks) : List Value := [.int .i64 v.H, .int .i64 v.V, .int .i64 v.C, v.vv, .int .i64 v.r, .int .i64 v.s, .int .i64 v.sy, .int .i64 v.sx, .int .i64 v.t, .int .i64 v.l, .int .i64 v.b, .int .i64 v.q, .int .i64 v.bd, v.wv]
theorem Ks.ls_len (v : Ks) : v.ls.length = 14 := rfl
theorem Ks.ls_at (v : Ks) : ∀ j, j < 14 → v.ls[j]? = some (v.f j) := fun j hj => by
  rcases j with _ | _ | _ | _ | _ | _ | _ | _ | _ | _ | _ | _ | _ | _ | j
  all_goals first | rfl | omega
theorem Ks.ls_one (v : Ks) (h1 : v.vv.oneCell' = true) (h2 : v.wv.oneCell' = true) : v.ls.toArray.all (·.oneCell') = true := all_oneCell_toArray (by
  intro u hu
  simp only [Ks.ls, List.mem_cons, List.not_mem_nil, or_false] at hu
  rcases hu with rfl | rfl | rfl | rfl | rfl | rfl | rfl | rfl | rfl | rfl | rfl | rfl | rfl | rfl
  all_goals first | rfl | exact h1 | exact h2)
/-- A window's eight cells. -/
def wiI (r s sy sx t l b q : Int) : Nat → Value := fun k => match k with
  | 0 => .int .i64 r | 1 => .int .i64 s | 2 => .int .i64 sy | 3 => .int .i64 sx | 4 => .int .i64 t | 5 => .int .i64 l | 6 => .int .i64 b | _ => .int .i64 q
theorem wiI_new (w : World) (r s sy sx t l b q : Int) : (w.alloc (.cells #[.int .i64 r, .int .i64 s, .int .i64 sy, .int .i64 sx, .int .i64 t, .int .i64 l, .int .i64 b, .int .i64 q] 37)).rowIs w.heap.size 37 8 (wiI r s sy sx t l b q) :=
  World.rowIs_alloc w _ _ _ (fun i hi => by
    rcases i with _ | _ | _ | _ | _ | _ | _ | _ | i
    all_goals first | rfl | (simp at hi; omega))
/-- The values of a list that begins anew where it ends: pluses and minuses. -/
def vlM (l : List Int) (N : Nat) : List Int := (List.range N).map fun (i : Nat) => if 0 < l.length ∧ 0 < ia l ((i + i / l.length) % l.length) then 1 else -1
/-- .. and weights. -/
def wtM (l : List Int) (N : Nat) : List Int := (List.range N).map fun (i : Nat) => if 0 < l.length then (ia l ((i + i / l.length) % l.length)).tmod 2 else 1
theorem vlM_len (l : List Int) (N : Nat) : (vlM l N).length = N := by simp [vlM]
theorem wtM_len (l : List Int) (N : Nat) : (wtM l N).length = N := by simp [wtM]
theorem vlM_snoc (l : List Int) (N : Nat) : vlM l (N + 1) = vlM l N ++ [if 0 < l.length ∧ 0 < ia l ((N + N / l.length) % l.length) then 1 else -1] := by simp [vlM, List.range_succ]
theorem wtM_snoc (l : List Int) (N : Nat) : wtM l (N + 1) = wtM l N ++ [if 0 < l.length then (ia l ((N + N / l.length) % l.length)).tmod 2 else 1] := by simp [wtM, List.range_succ]
theorem vlM_at (l : List Int) {N k : Nat} (h : k < N) : ia (vlM l N) k = if 0 < l.length ∧ 0 < ia l ((k + k / l.length) % l.length) then 1 else -1 := by
  have e : (vlM l N)[k]? = some (if 0 < l.length ∧ 0 < ia l ((k + k / l.length) % l.length) then 1 else -1) := by simp [vlM, h]
  unfold ia at e ⊢
  rw [List.getD_eq_getElem?_getD, e]
  rfl
theorem wtM_at (l : List Int) {N k : Nat} (h : k < N) : ia (wtM l N) k = if 0 < l.length then (ia l ((k + k / l.length) % l.length)).tmod 2 else 1 := by simp [ia, wtM, List.getD, h]
/-- The Case that made makes. -/
def ksM (h v c r s sy sx t l b q bd : Int) (vv wv : Value) : Ks :=
  let H := wi h 1 6
  let V := wi v 1 6
  let T := wi t 0 3
  let L := wi l 0 3
  let B := wi b 0 3
  let Q := wi q 0 3
  ⟨H, V, wi c 1 70, vv, wi r 1 (H + T + B), wi s 1 (V + L + Q), wi sy 1 4, wi sx 1 4, T, L, B, Q, wi bd (-1) 1, wv⟩
end Go.Proofs.Ytohkiknhjcibgaa
/- heddlelaw13: made. -/
namespace Go.Proofs.Ytohkiknhjcibgaa
open Go.RowKit Go.Shelf

theorem info_winE : (Try.prog.info? 37).map (·.size) = some 8 := by kernel_rfl
theorem gen_listE {P : Program} {ops : Array Oper} {Q : Exit → Act → World → Prop} {rest : List Oper} {a : Act} {W : World} (p : World → Prop) (hp : p W) (h : ∀ W', p W' → wpList P ops Q rest a W') : wpList P ops Q rest a W := h W hp
/-- Which place of a list that begins anew where it ends. -/
def rp (n i : Nat) : Nat := (i + i / n) % n
theorem rp_lt {n i : Nat} (h : 0 < n) : rp n i < n := Nat.mod_lt _ h
theorem vl_end {W : World} {lv : List Int} {n i b : Nat} {y : Int} {v2 : Value} (hn : lv.length = n) (ho : W.ownsRow (b + 1) 50 1 v2 (i + 1) (i8s (vlM lv i ++ [y]))) (hy : (if 0 < n ∧ 0 < ia lv (rp n i) then (1 : Int) else -1) = y) : (W.setCell ⟨b, 3, none⟩ v2).ownsRow (b + 1) 50 1 v2 (i + 1) (i8s (vlM lv (i + 1))) := by
  rw [vlM_snoc, hn]
  unfold rp at hy
  rw [hy]
  exact ownsRow_setCell_below ho (by show b < b + 1; omega) _
theorem app_one8a {ops : Array Oper} {rest : List Oper} {o : Oper} {a : Act} {Q : Exit → Act → World → Prop} {w : World} (hgd : o.guard = none) (s x : Operand)
    (ho : o.op = .call { callee := .builtin .append, args := #[s, x], argTypes := #[69, 69] }) (base : Nat) (v : Value) (l : List Int) (n : Nat) (hs : a.eval s = v) (hown : w.ownsRow base 50 1 v n (i8s l))
    (y : Int) (hx : a.eval x = .slice (some ⟨w.heap.size, 0, none⟩) 1 1) (hM : n ≤ 140737488351252) (hb : base ≤ w.heap.size)
    (h : ∀ v' w', w'.ownsRow base 50 1 v' (n + 1) (i8s (l ++ [y])) → (w.alloc (.cells #[.int .i8 y] 50)).grownBy w' v.ownBlock → (v'.ownBlock = v.ownBlock ∨ v'.ownBlock = some (w.heap.size + 1)) → wpList Try.prog ops Q rest (a.put o.dst v') w') : wpList Try.prog ops Q (o :: rest) a (w.alloc (.cells #[.int .i8 y] 50)) := by
  obtain ⟨i0, hi, hz0, hz1, hz2⟩ := info_parts info_i8
  refine wpList_append_own_at _ hgd s x _ ho base 50 i0 (.int .i8 0) 1 1 und_i8s hi hz0 hz1 hz2 rfl (by decide) v n (i8s l) hs (hown.alloc _) ⟨w.heap.size, 0, none⟩ 1 1 [.int .i8 y] hx rfl
    (fun j u hu => ?_) (fun u hu => by simp at hu; subst hu; rfl) (by unfold maxLen; omega) (by omega) (by simp; omega) ?_
  · rcases j with _ | j
    · simp at hu; subst hu; simp [Addr.add, go_sem]
    · simp at hu
  · intro v' w' h1 h2 _ h3
    exact h v' w' (by rw [i8s_snoc]; exact h1) h2 (by simpa using h3)
/-- Two lists, apart: one grows. -/
theorem apart_grow {W W2 : World} {base n : Nat} {u x x' : Value} {xs : List Value} {ob : Obj} (hu : W.ownsRow base 50 1 u n xs) (hne : u.ownBlock = none ∨ u.ownBlock ≠ x.ownBlock) (gr : (W.alloc ob).grownBy W2 x.ownBlock) (at' : x'.ownBlock = x.ownBlock ∨ x'.ownBlock = some (W.heap.size + 1)) :
    W2.ownsRow base 50 1 u n xs ∧ (u.ownBlock = none ∨ u.ownBlock ≠ x'.ownBlock) := by
  refine ⟨own_kept2 hu hne gr, ?_⟩
  rcases hne with h | h
  · exact .inl h
  · rcases at' with e | e
    · rw [e]; exact .inr h
    · right
      rw [e]
      intro e2
      have := (hu.lt _ e2).2
      omega
theorem wt_end {W : World} {lw : List Int} {n i b : Nat} {y : Int} {v2 : Value} (hn : lw.length = n) (ho : W.ownsRow (b + 1) 50 1 v2 (i + 1) (i8s (wtM lw i ++ [y]))) (hy : (if 0 < n then (ia lw (rp n i)).tmod 2 else (1 : Int)) = y) : (W.setCell ⟨b, 13, none⟩ v2).ownsRow (b + 1) 50 1 v2 (i + 1) (i8s (wtM lw (i + 1))) := by
  rw [wtM_snoc, hn]
  unfold rp at hy
  rw [hy]
  exact ownsRow_setCell_below ho (by show b < b + 1; omega) _
theorem own_butE {w w' : World} {base g : Nat} {e : TypeId} {size n : Nat} {v : Value} {xs : List Value} (h : w.ownsRow base e size v n xs) (hb : But g w w') (hg : g < base) : w'.ownsRow base e size v n xs := by
  refine h.kept (row := some g) ⟨hb.os, hb.tape, hb.output, hb.size, fun k hk hn => hb.block k hk (fun e => hn (by rw [e]))⟩ ?_
  cases e1 : v.ownBlock with
  | none => simp
  | some k => right; intro e2; have := (h.lt k e1).1; injection e2 with e2; omega
theorem alloc_at {w : World} {o : Obj} {t n k : Nat} {f : Nat → Value} (h : (w.alloc o).rowIs w.heap.size t n f) (e : w.heap.size = k) : (w.alloc o).rowIs k t n f := e ▸ h
end Go.Proofs.Ytohkiknhjcibgaa
/- heddlelaw13's cases: what See, Pack answer of them. -/
namespace Go.Proofs.Ytohkiknhjcibgaa
open Go.RowKit Go.Shelf

/-- A case's numbers. -/
structure Cn (H V C R S sy sx T L B Q : Nat) : Prop where
  hH : 1 ≤ H ∧ H ≤ 6
  hV : 1 ≤ V ∧ V ≤ 6
  hC : 1 ≤ C ∧ C ≤ 70
  hR : 1 ≤ R ∧ R ≤ H + T + B
  hS : 1 ≤ S ∧ S ≤ V + L + Q
  hsy : 1 ≤ sy ∧ sy ≤ 4
  hsx : 1 ≤ sx ∧ sx ≤ 4
  hT : T ≤ 3
  hL : L ≤ 3
  hB : B ≤ 3
  hQ : Q ≤ 3
/-- How many places a window gives. -/
def oA (H T B R sy : Nat) : Nat := (T + H + B - R) / sy + 1
theorem oA_bd {H T B R sy : Nat} (h1 : H ≤ 6) (h2 : T ≤ 3) (h3 : B ≤ 3) (hR : 1 ≤ R) : 1 ≤ oA H T B R sy ∧ oA H T B R sy ≤ 12 := by
  unfold oA
  obtain ⟨x, ex⟩ : ∃ x, (T + H + B - R) / sy = x := ⟨_, rfl⟩
  have : x ≤ T + H + B - R := by rw [← ex]; exact Nat.div_le_self _ _
  rw [ex]
  omega
theorem oA_st {H T B R sy : Nat} (hR : R ≤ H + T + B) : Sg.stN H T B R sy = (oA H T B R sy : Nat) := by
  unfold Sg.stN oA
  rw [if_neg (by omega)]
  have e : ((T : Int) + (H : Int) + (B : Int) - (R : Int)) = ((T + H + B - R : Nat) : Int) := by omega
  rw [e]
  push_cast
  rfl
theorem chk_small {a b c : Nat} (ha : 1 ≤ a ∧ a ≤ 12) (hb : 1 ≤ b ∧ b ≤ 12) (hc : 1 ≤ c ∧ c ≤ 70) : Sg.chk a b c = 0 := by
  unfold Sg.chk
  have h1 : a * b ≤ 12 * 12 := Nat.mul_le_mul ha.2 hb.2
  have h2 : a * b * c ≤ 12 * 12 * 70 := Nat.mul_le_mul h1 hc.2
  have h3 : ((a : Int) * b * c) = ((a * b * c : Nat) : Int) := by push_cast; rfl
  rw [if_pos (by unfold Sg.Sides; omega), h3, if_neg (by omega)]
theorem Cn.wok {H V C R S sy sx T L B Q : Nat} (h : Cn H V C R S sy sx T L B Q) : Sg.wiE R S sy sx T L B Q = 0 := by
  obtain ⟨⟨_, _⟩, ⟨_, _⟩, _, ⟨_, _⟩, ⟨_, _⟩, ⟨_, _⟩, ⟨_, _⟩, _, _, _, _⟩ := h
  unfold Sg.wiE
  rw [if_pos (by unfold Sg.WOk Sg.SideOk; omega)]
theorem Cn.slv {H V C R S sy sx T L B Q : Nat} (h : Cn H V C R S sy sx T L B Q) : Sg.slV H V C R S sy sx T L B Q 1 = Sg.sle (oA H T B R sy : Nat) (oA V L Q S sx : Nat) 1 0 := by
  have a1 := oA_bd (sy := sy) h.hH.2 h.hT h.hB h.hR.1
  have a2 := oA_bd (sy := sx) h.hV.2 h.hL h.hQ h.hS.1
  have e1 := oA_st (sy := sy) h.hR.2
  have e2 := oA_st (sy := sx) h.hS.2
  have k1 : Sg.chk H V C = 0 := chk_small ⟨h.hH.1, by have := h.hH.2; omega⟩ ⟨h.hV.1, by have := h.hV.2; omega⟩ h.hC
  have k2 : Sg.chk (oA H T B R sy : Nat) (oA V L Q S sx : Nat) (1 : Nat) = 0 := chk_small a1 a2 ⟨by omega, by omega⟩
  have hw : Sg.WOk R S sy sx T L B Q := by
    have := h.wok
    unfold Sg.wiE at this
    by_cases hh : Sg.WOk R S sy sx T L B Q
    · exact hh
    · rw [if_neg hh] at this; omega
  have hE : Sg.slE H V C R S sy sx T L B Q 1 = 0 := by
    unfold Sg.slE
    rw [if_neg (by rw [k1]; simp), if_neg (by omega), if_neg (by simpa using hw), e1, e2, if_neg (by unfold Sg.mn2; split <;> omega)]
    exact k2
  unfold Sg.slV
  rw [if_pos hE, e1, e2]
/-- A list of patches in memory. -/
def Prw (W : World) (gL P M : Nat) (S1 S2 : Nat → Nat) : Prop := ∀ p, p < P → ∃ A1 K1 A2 K2, (W.cell? ⟨gL, p * 4, none⟩ = some (.int .i64 (64 * M : Nat)) ∧ W.cell? ⟨gL, p * 4 + 1, none⟩ = some (.slice (some ⟨A1, 0, none⟩) M K1) ∧ W.cell? ⟨gL, p * 4 + 2, none⟩ = some (.int .i64 (64 * M : Nat)) ∧ W.cell? ⟨gL, p * 4 + 3, none⟩ = some (.slice (some ⟨A2, 0, none⟩) M K2)) ∧ Wr W (some ⟨A1, 0, none⟩) M (S1 p) ∧ Wr W (some ⟨A2, 0, none⟩) M (S2 p)
theorem Prw.below {W X : World} {gL P M : Nat} {S1 S2 : Nat → Nat} (h : Prw W gL P M S1 S2) (hb : Below W.heap.size W X) : Prw X gL P M S1 S2 := fun p hp => by
  obtain ⟨A1, K1, A2, K2, ⟨c0, c1, c2, c3⟩, w1, w2⟩ := h p hp
  exact ⟨A1, K1, A2, K2, ⟨keepc hb c0, keepc hb c1, keepc hb c2, keepc hb c3⟩, w1.below hb, w2.below hb⟩
theorem Sr.prw {W : World} {z P M : Nat} {u : Value} {L : List (Bt × Bt)} {S1 S2 : Nat → Nat} (sr : Sr W z u L (List.range P) M S1 S2) (hP : 0 < P) : ∃ gL cap, u = .slice (some ⟨gL, 0, none⟩) P cap ∧ Prw W gL P M S1 S2 := by
  have hn : L.length = P := by rw [sr.n]; simp
  have ho := sr.o
  rw [hn] at ho
  rcases own_formsE ho with ⟨_, h0⟩ | ⟨gL, cap, rfl, _, _, _⟩
  · omega
  · refine ⟨gL, cap, rfl, fun p hp => ?_⟩
    obtain ⟨A1, K1, A2, K2, eL, _, _, o1, o2⟩ := sr.r p (by omega) (by simpa using hp)
    have e0 : (List.range P)[p]'(by simpa using hp) = p := by simp
    rw [e0] at eL o1 o2
    obtain ⟨h0, h1, h2, h3⟩ := rcs_at L p (by omega)
    rw [eL] at h0 h1 h2 h3
    exact ⟨A1, K1, A2, K2, ⟨own_atE ho h0, own_atE ho h1, own_atE ho h2, own_atE ho h3⟩, o1.wr, o2.wr⟩
/-- A case's tensor as words. -/
def cNE (l : List Int) (C P : Nat) : Nat := js (64 * nw C) (sp l C) P
theorem cNE_cuk {l : List Int} {H V C : Nat} (k : Sg.chk H V C = 0) : cuk H V C (H * V * nw C) (cNE l C (H * V)) = 0 := by
  unfold cuk
  rw [if_pos k]
  simp only [Int.toNat_natCast]
  have hp : Pok (H * V) C (cNE l C (H * V)) := fun i hi => by
    unfold cNE
    rw [js_pl (fun i _ => sp_words l C i) hi]
    exact sp_lt l C i
  rw [if_pos trivial, if_pos hp]
theorem seeC {H V C R S sy sx T L B Q : Nat} (h : Cn H V C R S sy sx T L B Q) (l : List Int) (g : Nat) (bd : Int) (hbd : -1 ≤ bd ∧ bd ≤ 1) (m A Bq P M N : Nat) (hm : H * V * nw C = m) (hA : oA H T B R sy = A) (hB : oA V L Q S sx = Bq) (hP : A * Bq = P) (hM : R * S * nw C = M) (hN : cNE l C (H * V) = N) (xs xm : Nat) (hxs : xs = if 0 < bd then ful C else 0) (hxm : xm = if bd = 0 then 0 else ful C) (w : World) (rd : Wr w (some ⟨g, 0, none⟩) m N) :
    Calls Try.prog 6 #[cuv H V C (some ⟨g, 0, none⟩) m m, Sg.win R S sy sx T L B Q, .int .i64 bd] w fun e w' => ∃ gL cap, e = .returned (.tuple #[.slice (some ⟨gL, 0, none⟩) P cap, Sg.shp A Bq 1, .int .i64 0]) ∧ Prw w' gL P M (seS H V C N S R sy sx T L Bq xs) (seM H V C S R sy sx T L Bq xm) ∧ Below w.heap.size w w' := by
  have a1 := oA_bd (sy := sy) h.hH.2 h.hT h.hB h.hR.1
  have a2 := oA_bd (sy := sx) h.hV.2 h.hL h.hQ h.hS.1
  rw [hA] at a1
  rw [hB] at a2
  have k1 : Sg.chk H V C = 0 := chk_small ⟨h.hH.1, by have := h.hH.2; omega⟩ ⟨h.hV.1, by have := h.hV.2; omega⟩ h.hC
  have kc := cNE_cuk (l := l) k1
  rw [hm, hN] at kc
  have ks := h.slv
  rw [hA, hB] at ks
  have hnw : nw C ≤ 2 := by have := h.hC.2; unfold nw; omega
  obtain ⟨⟨_, _⟩, ⟨_, _⟩, ⟨_, _⟩, ⟨_, _⟩, ⟨_, _⟩, ⟨_, _⟩, ⟨_, _⟩, _, _, _, _⟩ := id h
  have q1 : A * Bq ≤ 12 * 12 := Nat.mul_le_mul a1.2 a2.2
  have q2 : A * Bq * R ≤ 12 * 12 * 12 := Nat.mul_le_mul q1 (by omega)
  have q3 : A * Bq * R * S ≤ 12 * 12 * 12 * 12 := Nat.mul_le_mul q2 (by omega)
  have q4 : A * Bq * R * S * nw C ≤ 12 * 12 * 12 * 12 * 2 := Nat.mul_le_mul q3 hnw
  have m1 : H * V ≤ 6 * 6 := Nat.mul_le_mul (by omega) (by omega)
  have m2 : H * V * nw C ≤ 6 * 6 * 2 := Nat.mul_le_mul m1 hnw
  have hP0 : 0 < P := by rw [← hP]; exact Nat.mul_pos (by omega) (by omega)
  refine (see_ok H V C g 0 m m R S sy sx T L B Q A Bq N xs xm M P bd w (Nat.le_refl _) (by omega) rd (by omega) (by omega) (by omega) (by omega) (by omega) (by omega) (by omega) (by omega) (by omega) (by omega) (by omega) kc hm.symm h.wok hbd ks (by omega) hM hP hxs hxm).mono ?_
  rintro e w' ⟨u, Lr, rfl, sr, hb⟩
  obtain ⟨gL, cap, rfl, hp⟩ := sr.prw hP0
  exact ⟨gL, cap, rfl, hp, hb⟩
end Go.Proofs.Ytohkiknhjcibgaa
/- heddleref13: the document's See answers. -/
namespace Go.Proofs.Ytohkiknhjcibgaa
open Go.RowKit Go.Shelf

/-- Rows so far: their words in own memory. -/
structure Ps (base : Nat) (W : World) (u : Value) (l : List (Bt × Bt)) (M : Nat) (S1 S2 : Nat → Nat) : Prop where
  o : W.ownsRow base 46 4 u l.length (rcs l)
  r : ∀ i (h : i < l.length), ∃ A1 K1 A2 K2, l[i] = (bk M A1 K1 (S1 i), bk M A2 K2 (S2 i)) ∧ W.ownsRow base 41 1 (.slice (some ⟨A1, 0, none⟩) M K1) M (wl (S1 i) M) ∧ W.ownsRow base 41 1 (.slice (some ⟨A2, 0, none⟩) M K2) M (wl (S2 i) M)
theorem Ps.below {base : Nat} {W X : World} {u : Value} {l : List (Bt × Bt)} {M : Nat} {S1 S2 : Nat → Nat} (h : Ps base W u l M S1 S2) (hb : Below W.heap.size W X) : Ps base X u l M S1 S2 :=
  ⟨own_keep h.o hb, fun i hi => by obtain ⟨A1, K1, A2, K2, e, o1, o2⟩ := h.r i hi; exact ⟨A1, K1, A2, K2, e, own_keep o1 hb, own_keep o2 hb⟩⟩
theorem Ps.set {base : Nat} {W : World} {u : Value} {l : List (Bt × Bt)} {M : Nat} {S1 S2 : Nat → Nat} (h : Ps base W u l M S1 S2) {a : Addr} (ha : a.block < base) (v : Value) : Ps base (W.setCell a v) u l M S1 S2 :=
  ⟨ownsRow_setCell_below h.o ha _, fun i hi => by obtain ⟨A1, K1, A2, K2, e, o1, o2⟩ := h.r i hi; exact ⟨A1, K1, A2, K2, e, ownsRow_setCell_below o1 ha _, ownsRow_setCell_below o2 ha _⟩⟩
theorem Ps.push {base : Nat} {X Y : World} {u u' : Value} {l : List (Bt × Bt)} {M A1 K1 A2 K2 : Nat} {S1 S2 : Nat → Nat} {ob : Obj} (h : Ps base X u l M S1 S2)
    (o1 : X.ownsRow base 41 1 (.slice (some ⟨A1, 0, none⟩) M K1) M (wl (S1 l.length) M)) (o2 : X.ownsRow base 41 1 (.slice (some ⟨A2, 0, none⟩) M K2) M (wl (S2 l.length) M))
    (ow : Y.ownsRow base 46 4 u' (l ++ [(bk M A1 K1 (S1 l.length), bk M A2 K2 (S2 l.length))]).length (rcs (l ++ [(bk M A1 K1 (S1 l.length), bk M A2 K2 (S2 l.length))]))) (gr : (X.alloc ob).grownBy Y u.ownBlock) :
    Ps base Y u' (l ++ [(bk M A1 K1 (S1 l.length), bk M A2 K2 (S2 l.length))]) M S1 S2 := by
  refine ⟨ow, fun i hi => ?_⟩
  have kp : ∀ {v : Value} {n : Nat} {xs : List Value}, X.ownsRow base 41 1 v n xs → Y.ownsRow base 41 1 v n xs := fun o => own_kept2 o (own_ne2 o h.o (by decide)) gr
  by_cases hil : i < l.length
  · obtain ⟨B1, L1, B2, L2, e, q1, q2⟩ := h.r i hil
    rw [List.getElem_append_left hil]
    exact ⟨B1, L1, B2, L2, e, kp q1, kp q2⟩
  · obtain rfl : i = l.length := by simp at hi; omega
    rw [List.getElem_append_right (Nat.le_refl _)]
    simp only [Nat.sub_self, List.getElem_cons_zero]
    exact ⟨A1, K1, A2, K2, rfl, kp o1, kp o2⟩
theorem Ps.prw {base : Nat} {W : World} {P M : Nat} {u : Value} {l : List (Bt × Bt)} {S1 S2 : Nat → Nat} (h : Ps base W u l M S1 S2) (hl : l.length = P) (hP : 0 < P) (hM : 0 < M) (b1 : ∀ i, i < P → S1 i < 2 ^ (64 * M)) (b2 : ∀ i, i < P → S2 i < 2 ^ (64 * M)) : ∃ gL cap, u = .slice (some ⟨gL, 0, none⟩) P cap ∧ Prw W gL P M S1 S2 := by
  have ho := h.o
  rw [hl] at ho
  rcases own_formsE ho with ⟨_, h0⟩ | ⟨gL, cap, rfl, _, _, _⟩
  · omega
  · refine ⟨gL, cap, rfl, fun p hp => ?_⟩
    obtain ⟨A1, K1, A2, K2, eL, o1, o2⟩ := h.r p (by omega)
    obtain ⟨h0, h1, h2, h3⟩ := rcs_at l p (by omega)
    rw [eL] at h0 h1 h2 h3
    exact ⟨A1, K1, A2, K2, ⟨own_atE ho h0, own_atE ho h1, own_atE ho h2, own_atE ho h3⟩, (Ow.own o1 hM (b1 p hp)).wr, (Ow.own o2 hM (b2 p hp)).wr⟩
theorem own_some {W : World} {base n c : Nat} {e : TypeId} {size : Nat} {bo : Option Addr} {xs : List Value} (h : W.ownsRow base e size (.slice bo n c) n xs) (h0 : 0 < n) : ∃ A1, bo = some ⟨A1, 0, none⟩ := by
  rcases own_formsE h with ⟨_, h1⟩ | ⟨g, cap, e1, _⟩
  · omega
  · injection e1 with e1; exact ⟨g, e1⟩
theorem nw_mul64 (M : Nat) : nw (64 * M) = M := by unfold nw; omega
set_option maxHeartbeats 3200000 in
set_option maxRecDepth 100000 in
theorem rsee_ok (H V C g o m cap N R S SY SX T L B Q A D M P xs xm : Nat) (bd : Int) (w : World) (hmc : m ≤ cap) (hcap : cap ≤ 9223372036854775807) (rd : Wr w (some ⟨g, o, none⟩) m N) (G : Good H V C m N R S SY SX T L B Q bd H V C R S SY SX T L B Q A D) (hM : R * S * nw C = M) (hP : A * D = P) (hxs : xs = if 0 < bd then ful C else 0) (hxm : xm = if bd = 0 then 0 else ful C) :
    Calls Try.prog 7 #[cuv H V C (some ⟨g, o, none⟩) m cap, Sg.win R S SY SX T L B Q, .int .i64 bd] w fun e w' => ∃ gL c, e = .returned (.tuple #[.slice (some ⟨gL, 0, none⟩) P c, Sg.shp A D 1, .int .i64 0]) ∧ Prw w' gL P M (seS H V C N S R SY SX T L D xs) (seM H V C S R SY SX T L D xm) ∧ Below w.heap.size w w' := by
  obtain ⟨-, -, -, -, -, -, -, -, -, -, -, hH, hV, hC, hR, hS, hY, hX, hT, hL, hA, hD, k0, k1, hm, hN, k2, k3, k4, k5⟩ := G
  have HC := hid1 (fun W r' => rcube_any H V C (some ⟨g, o, none⟩) m cap N W hmc hcap r')
  have HW := hid1 (fun W => rwin_any R S SY SX T L B Q W)
  have HS := hid1 (fun W => rslide13_any H V C R S SY SX T L B Q W k0 k2)
  have HP := hid1 (rplaces_any C (by omega))
  have HSN := hid1 (fun y x W hy hx r' => rseen_any H V C g o m cap N R S SY SX T L B Q y x bd W hmc hcap hH.2 hV.2 hC hm hR.2 hS.2 hY.2 hX.2 hT hL hy hx r')
  rw [k1] at HC
  rw [k2, decide_eq_true (show (0 : Int) = 0 from rfl)] at HW
  rw [k4] at HS
  have RD := hid1 rd
  have hnw : nw C ≤ 64 := by unfold nw; omega
  have hnw1 : 1 ≤ nw C := by unfold nw; omega
  have hRS1 : 1 ≤ R * S := Nat.mul_pos (by omega) (by omega)
  have hM1 : 0 < M := by rw [← hM]; exact Nat.mul_pos (by omega) (by omega)
  have hPM : P * M ≤ 4194304 := by
    rw [← hP, ← hM, ← Nat.mul_assoc, ← Nat.mul_assoc]; exact k5
  have hP1 : 0 < P := by rw [← hP]; exact Nat.mul_pos (by omega) (by omega)
  have hMb : M ≤ 15 * 15 * 64 := by rw [← hM]; exact Nat.mul_le_mul (Nat.mul_le_mul hR.2 hS.2) hnw
  have hPb : P ≤ 4194304 := Nat.le_trans (Nat.le_mul_of_pos_right P hM1) hPM
  have hn64 : R * S * (64 * nw C) = 64 * M := by rw [Nat.mul_left_comm, hM]
  have HLY := hid1 (fun v ao ca W ll => rlay_any (R * S) C (64 * M) v ao ca W hC hn64 (by omega) ll)
  rw [nw_mul64] at HLY
  obtain ⟨S1, eS1⟩ : ∃ f, seS H V C N S R SY SX T L D xs = f := ⟨_, rfl⟩
  obtain ⟨S2, eS2⟩ : ∃ f, seM H V C S R SY SX T L D xm = f := ⟨_, rfl⟩
  rw [eS1, eS2]
  have HS12 : Hid (∀ y x : Nat, x < D → bn (layS C (64 * nw C) (vS H V C N bd ((y : Int) * SY - T) ((x : Int) * SX - L) S)) (64 * M) = S1 (y * D + x) ∧ bn (layM C (64 * nw C) (vS H V C N bd ((y : Int) * SY - T) ((x : Int) * SX - L) S)) (64 * M) = S2 (y * D + x)) := hid1 fun y x hx => by
    have hD0 : 0 < D := by omega
    have e1 : (y * D + x) / D = y := by rw [Nat.mul_comm, Nat.mul_add_div hD0, Nat.div_eq_of_lt hx, Nat.add_zero]
    have e2 : (y * D + x) % D = x := by rw [Nat.mul_comm, Nat.mul_add_mod, Nat.mod_eq_of_lt hx]
    rw [← eS1, ← eS2]
    unfold seS seM
    rw [e1, e2]
    exact ⟨seenS hC.1 hN hn64 hxs, seenM hC.1 hn64 hxm⟩
  have HB1 : Hid (∀ i, S1 i < 2 ^ (64 * M)) := hid1 fun i => by
    rw [← eS1, ← hM]
    unfold seS
    refine js_bound fun p _ => ?_
    unfold plP
    split
    · exact pl_lt _ _ _
    · rw [hxs]; split; exact ful_words C; exact Nat.two_pow_pos _
  have HB2 : Hid (∀ i, S2 i < 2 ^ (64 * M)) := hid1 fun i => by
    rw [← eS2, ← hM]
    unfold seM
    refine js_bound fun p _ => ?_
    unfold mkP
    split
    · exact ful_words C
    · rw [hxm]; split; exact Nat.two_pow_pos _; exact ful_words C
  have kb1' : decide (bd < -1) = false := decide_eq_false (by omega)
  have kb2' : decide (1 < bd) = false := decide_eq_false (by omega)
  obtain ⟨q1, eq1⟩ : ∃ q, A * D = q := ⟨_, rfl⟩
  obtain ⟨q2, eq2⟩ : ∃ q, q1 * R = q := ⟨_, rfl⟩
  obtain ⟨q3, eq3⟩ : ∃ q, q2 * S = q := ⟨_, rfl⟩
  obtain ⟨q4, eq4⟩ : ∃ q, q3 * nw C = q := ⟨_, rfl⟩
  have k5' := k5
  rw [eq1, eq2, eq3, eq4] at k5'
  have u3 : q3 ≤ q4 := by rw [← eq4]; exact Nat.le_mul_of_pos_right _ (by omega)
  have u2 : q2 ≤ q3 := by rw [← eq3]; exact Nat.le_mul_of_pos_right _ (by omega)
  have u1 : q1 ≤ q2 := by rw [← eq2]; exact Nat.le_mul_of_pos_right _ (by omega)
  have k6 : ¬ (4194304 : Int) < (q4 : Int) := by omega
  have y1 : IntKind.i64.wrap ((A : Int) * (D : Int)) = (q1 : Int) := by rw [← Int.natCast_mul, eq1, IntKind.wrap_i64]; omega
  have y2 : IntKind.i64.wrap ((q1 : Int) * (R : Int)) = (q2 : Int) := by rw [← Int.natCast_mul, eq2, IntKind.wrap_i64]; omega
  have y3 : IntKind.i64.wrap ((q2 : Int) * (S : Int)) = (q3 : Int) := by rw [← Int.natCast_mul, eq3, IntKind.wrap_i64]; omega
  have y4 : IntKind.i64.wrap ((q3 : Int) * (nw C : Int)) = (q4 : Int) := by rw [← Int.natCast_mul, eq4, IntKind.wrap_i64]; omega
  have HPD := hid1 hP
  clear rd k1 k2 k3 k4 k5 k5' eq1 eq2 eq3 eq4 hm hN hM hP hxs hxm eS1 eS2 k0 hPM
  go_enter Try.func7, Try.ntmps7
  go_wp2_with fail
  refine gen_calls (fun W => W.heap.size = w.heap.size + 3 ∧ Below w.heap.size w W ∧ W.rowIs w.heap.size 31 4 (cf H V C (some ⟨g, o, none⟩) m cap) ∧ Sg.Wn W (w.heap.size + 1) 0 R S SY SX T L B Q ∧ W.rowIs (w.heap.size + 1 + 1) 29 3 (hf 0 0 0)) (by obtain ⟨X, rfl, z⟩ := out_start w H V C (some ⟨g, o, none⟩) m cap R S SY SX T L B Q; exact z) ?_
  rintro W ⟨z0, B0, b0, b1, b2⟩
  refine (HC.out W (RD.out.below B0)).mono ?_
  rintro e w1 ⟨rfl, hb⟩
  replace b0 := keepr hb b0
  replace b1 := b1.keep hb
  replace b2 := keepr hb b2
  have B1 := bl_step B0 hb
  clear hb B0 HC z0
  obtain ⟨x0, x1, x2, x3, x4, x5, x6, x7⟩ := id b1
  go_wp2_with fail
  refine (HW.out w1).mono ?_
  rintro e w2 ⟨rfl, hb⟩
  replace b0 := keepr hb b0
  replace b1 := b1.keep hb
  replace b2 := keepr hb b2
  have B2 := bl_step B1 hb
  clear hb B1 HW x0 x1 x2 x3 x4 x5 x6 x7
  have c0 := cf0 b0
  have c1 := cf1 b0
  have c2 := cf2 b0
  have c3 := cf3 b0
  obtain ⟨x0, x1, x2, x3, x4, x5, x6, x7⟩ := id b1
  simp only [Nat.zero_add] at x1 x2 x3 x4 x5 x6 x7
  go_wp2_with (go_at_call 20 ; refine (HS.out _).mono ?_ ; rintro e w3 ⟨rfl, hb3⟩ ; clear c0 c1 c2 c3 x0 x1 x2 x3 x4 x5 x6 x7)
  refine gen_world (fun Y => Below w.heap.size w Y ∧ Y.rowIs w.heap.size 31 4 (cf H V C (some ⟨g, o, none⟩) m cap) ∧ Sg.Wn Y (w.heap.size + 1) 0 R S SY SX T L B Q ∧ Y.rowIs w3.heap.size 29 3 (hf A D 1) ∧ Y.rowIs (w.heap.size + 1 + 1) 29 3 (hf 0 0 0)) ⟨bl_alloc (bl_step B2 hb3) _, (keepr hb3 b0).alloc _, (b1.keep hb3).keep (bl_alloc (Below.refl _ _) _), hf_new _ _ _ _ _, (keepr hb3 b2).alloc _⟩ ?_
  rintro Y ⟨BY, b0', b1', n0, b2'⟩
  have hsz : w.heap.size + 3 ≤ w3.heap.size := by have := (keepr hb3 b2).lt; omega
  clear b0 b1 b2 hb3 B2
  obtain ⟨bO, ebO⟩ : ∃ b, w3.heap.size = b := ⟨_, rfl⟩
  rw [ebO] at n0 hsz ⊢
  clear ebO
  have n1 := hf0 n0
  have n2 := hf1 n0
  have g2 := cf2 b0'
  have h10 := b1'.1
  have h11 := b1'.2.1
  simp only [Nat.zero_add] at h11
  go_quiet ((go_at_call 21; exact Calls.quiet_of_same (HP.out _)))
  clear n1 n2 g2 h10 h11 y1 y2 y3 y4
  refine Sg.gen_then (fun Z => Below w.heap.size w Z ∧ Z.rowIs w.heap.size 31 4 (cf H V C (some ⟨g, o, none⟩) m cap) ∧ Sg.Wn Z (w.heap.size + 1) 0 R S SY SX T L B Q ∧ Z.rowIs bO 29 3 (hf A D 1) ∧ Z.rowIs (w.heap.size + 1 + 1) 29 3 (hf 0 0 0)) ⟨bl_drewN BY _, b0', b1', n0, b2'⟩ ?_
  clear b0' b1' n0 b2' BY
  rintro Z ⟨BZ, b0, b1, n0, b2⟩
  have RZ := hid1 (RD.out.below BZ)
  have hszZ : bO < Z.heap.size := n0.lt
  have HC0 := hid1 b0
  have HW0 := hid1 b1
  have HN0 := hid1 n0
  have HS0 := hid1 b2
  clear b0 b1 n0 b2
  go_wp2_with fail
  go_loopw [12, 13] (fun s12 s13 wr => ∃ (u : Value) (l : List (Bt × Bt)) (y : Nat), y ≤ A ∧ s12 = u ∧ s13 = .int .i64 y ∧ l.length = y * D ∧ Ps Z.heap.size wr u l M S1 S2 ∧ Below Z.heap.size Z wr) (fun _ s13 _ => A - (intOf s13).toNat)
  case atStart => exact ⟨_, [], 0, Nat.zero_le _, rfl, rfl, by simp, ⟨World.ownsRow_nil _ _ _ _, fun p hp => absurd hp (by simp)⟩, Below.refl _ _⟩
  case round =>
    obtain ⟨u, l, y, hy, e1, rfl, hll, ps, BR⟩ := hrel
    replace e1 := e1.symm
    subst e1
    have iy0 : (0 : Int) ≤ (y : Int) := by omega
    have n0 := keepr BR HN0.out
    have n1 := hf0 n0
    by_cases hyA : y < A
    · have iy1 : (y : Int) < (A : Int) := by omega
      have HPS := hid1 ps
      have HLL := hid1 hll
      clear ps hll n0
      go_wp2_with fail
      go_loopw [12, 14] (fun s12 s14 wx => ∃ (u : Value) (l : List (Bt × Bt)) (x : Nat), x ≤ D ∧ s12 = u ∧ s14 = .int .i64 x ∧ l.length = y * D + x ∧ Ps Z.heap.size wx u l M S1 S2 ∧ Below Z.heap.size Z wx) (fun _ s14 _ => D - (intOf s14).toNat)
      case atStart => exact ⟨_, l, 0, Nat.zero_le _, rfl, rfl, HLL.out, HPS.out, BR⟩
      case round =>
        clear HPS HLL n1 BR
        rename World => wx
        obtain ⟨u, l, x, hx, e1, rfl, hll, ps, BX⟩ := hrel
        replace e1 := e1.symm
        subst e1
        have ix0 : (0 : Int) ≤ (x : Int) := by omega
        have n0 := keepr BX HN0.out
        have n2 := hf1 n0
        have HPS := hid1 ps
        have HLL := hid1 hll
        clear ps hll n0
        by_cases hxD : x < D
        · have ix1 : (x : Int) < (D : Int) := by omega
          have c0 := keepr BX HC0.out
          have e0 := cf0 c0
          have e1 := cf1 c0
          have e2 := cf2 c0
          have e3 := cf3 c0
          obtain ⟨x0, x1, x2, x3, x4, x5, x6, x7⟩ := HW0.out.keep BX
          simp only [Nat.zero_add] at x1 x2 x3 x4 x5 x6 x7
          have SN := hid1 (HSN.out y x wx (by omega) (by omega) (RZ.out.below BX))
          have EQ := hid1 (HS12.out y x hxD)
          have hlb : l.length ≤ 16777216 := by
            rw [HLL.out]
            have h1 := HPD.out
            have h2 := Nat.mul_le_mul_right D (show y + 1 ≤ A from hyA)
            rw [Nat.succ_mul] at h2
            omega
          obtain ⟨v, ev⟩ : ∃ v, vS H V C N bd ((y : Int) * SY - T) ((x : Int) * SX - L) S = v := ⟨_, rfl⟩
          rw [ev] at SN EQ
          have SX0 := BX.size
          clear ev c0
          go_wp2_with (first | (go_at_call 23; refine SN.out.mono ?_; rintro e z1 ⟨ao, ca, rfl, ll1, hb1⟩; have LL1 := hid1 ll1; have HB := hid1 hb1; clear ll1 hb1) | (go_at_call 22; refine (HLY.out v ao ca z1 LL1.out).mono ?_; rintro e z2 ⟨bo1, k1, bo2, k2, rfl, ow1, ow2, hb2⟩; obtain ⟨A1, rfl⟩ : ∃ A1, bo1 = some ⟨A1, 0, none⟩ := own_some ow1 hM1; obtain ⟨A2, rfl⟩ : ∃ A2, bo2 = some ⟨A2, 0, none⟩ := own_some ow2 hM1; have OW1 := hid1 ow1; have OW2 := hid1 ow2; have HB2' := hid1 hb2; clear ow1 ow2 hb2) | (at_builtin; refine appRE rfl _ _ rfl Z.heap.size u l (by go_simp) ((HPS.out.below HB.out).below HB2'.out).o (bk M A1 k1 (S1 l.length), bk M A2 k2 (S2 l.length)) (by go_simp) hlb (by have := HB.out.size; have := HB2'.out.size; omega) ?_; intro v1 y1 ow3 gr3))
          have B2 := bl_step (bl_step BX HB.out) HB2'.out
          have PS2 := (HPS.out.below HB.out).below HB2'.out
          have sz1 := HB.out.size
          have q1 := OW1.out
          have q2 := OW2.out
          rw [EQ.out.1, ← HLL.out] at q1
          rw [EQ.out.2, ← HLL.out] at q2
          exact ⟨⟨v1, _, x + 1, by omega, rfl, by go_num, by rw [List.length_append, HLL.out]; rfl, PS2.push (own_mono q1 (by omega)) (own_mono q2 (by omega)) ow3 gr3, (B2.alloc B2.size _).grown gr3 (by have := B2.size; simp; omega) (fun q hq => (PS2.o.lt q hq).1)⟩, by simp [intOf]; omega⟩
        · have hxD' : x = D := by omega
          subst hxD'
          have ix1 : ¬ (x : Int) < (x : Int) := by omega
          go_wp2_with fail
          exact ⟨⟨u, l, y + 1, by omega, rfl, by go_num, by rw [Nat.succ_mul]; exact HLL.out, HPS.out, BX⟩, by simp [intOf]; omega⟩
    · have hyA' : y = A := by omega
      subst hyA'
      have iy1 : ¬ (y : Int) < (y : Int) := by omega
      have PS := hid1 ps
      have HLL := hid1 hll
      have n1 := hf0 n0
      have n2 := hf1 n0
      have n3 := hf2 n0
      have q2 := keepr BR HS0.out
      have d0 := hf0 q2
      have d1 := hf1 q2
      have d2 := hf2 q2
      have f0 := q2.frozen 0
      have f1 := q2.frozen 1
      have f2 := q2.frozen 2
      have l3 := q2.lt
      have QS := hid1 q2
      have BF := bl_step BZ BR
      have ne1 : ¬ bO = w.heap.size + 1 + 1 := by omega
      have ne2 : ¬ w.heap.size + 1 + 1 = bO := by omega
      clear ps q2 n0 hll
      go_upto_region 20 with fail
      go_region
      have lt2 : w.heap.size + 1 + 1 < Z.heap.size := by omega
      have RS := hf_set QS.out (y : Int) D 1
      refine Sg.gen_then (fun X => Below w.heap.size w X ∧ X.rowIs (w.heap.size + 1 + 1) 29 3 (hf y D 1) ∧ Ps Z.heap.size X u l M S1 S2) ⟨Below.drew (bl_set (bl_set (bl_set BF (by omega) _) (by omega) _) (by omega) _), RS, ⟨(((PS.out.set (a := ⟨w.heap.size + 1 + 1, 0, none⟩) lt2 _).set (a := ⟨w.heap.size + 1 + 1, 1, none⟩) lt2 _).set (a := ⟨w.heap.size + 1 + 1, 2, none⟩) lt2 _).o, (((PS.out.set (a := ⟨w.heap.size + 1 + 1, 0, none⟩) lt2 _).set (a := ⟨w.heap.size + 1 + 1, 1, none⟩) lt2 _).set (a := ⟨w.heap.size + 1 + 1, 2, none⟩) lt2 _).r⟩⟩ ?_
      clear RS n1 n2 n3 d0 d1 d2 f0 f1 f2 BF PS
      rintro X ⟨BX, rX, psX⟩
      obtain ⟨gL, cL, rfl, prw⟩ := psX.prw (by rw [HLL.out]; exact HPD.out) hP1 hM1 (fun i _ => HB1.out i) (fun i _ => HB2.out i)
      have PR := hid1 prw
      have d0 := hf0 rX
      have d1 := hf1 rX
      have d2 := hf2 rX
      clear psX prw rX
      go_wp2_with fail
      exact bodyPost_ret (v := .tuple #[.slice (some ⟨gL, 0, none⟩) P cL, Sg.shp y D 1, .int .i64 0]) (by simp [results, Try.results7, go_sem, d0, d1, d2]) rfl ⟨gL, ⟨cL, rfl⟩, PR.out, BX⟩
end Go.Proofs.Ytohkiknhjcibgaa
/- heddlelaw13: sameRows of what is alike; both Sees as one. -/
namespace Go.Proofs.Ytohkiknhjcibgaa
open Go.RowKit Go.Shelf

/-- A list of rows that was answered. -/
def LR (W : World) (u : Value) (P M : Nat) (S1 S2 : Nat → Nat) : Prop := (P = 0 ∧ u = .slice none 0 0) ∨ (0 < P ∧ ∃ gL cap, u = .slice (some ⟨gL, 0, none⟩) P cap ∧ Prw W gL P M S1 S2)
theorem LR.below {W X : World} {u : Value} {P M : Nat} {S1 S2 : Nat → Nat} (h : LR W u P M S1 S2) (hb : Below W.heap.size W X) : LR X u P M S1 S2 := by
  rcases h with h | ⟨h0, gL, cap, e, p⟩
  · exact .inl h
  · exact .inr ⟨h0, gL, cap, e, p.below hb⟩
theorem LR.form {W : World} {u : Value} {P M : Nat} {S1 S2 : Nat → Nat} (h : LR W u P M S1 S2) : ∃ ao cap, u = .slice ao P cap ∧ ∀ p, p < P → ∃ gL A1 K1 A2 K2, ao = some ⟨gL, 0, none⟩ ∧ (W.cell? ⟨gL, p * 4, none⟩ = some (.int .i64 (64 * M : Nat)) ∧ W.cell? ⟨gL, p * 4 + 1, none⟩ = some (.slice (some ⟨A1, 0, none⟩) M K1) ∧ W.cell? ⟨gL, p * 4 + 2, none⟩ = some (.int .i64 (64 * M : Nat)) ∧ W.cell? ⟨gL, p * 4 + 3, none⟩ = some (.slice (some ⟨A2, 0, none⟩) M K2)) ∧ Wr W (some ⟨A1, 0, none⟩) M (S1 p) ∧ Wr W (some ⟨A2, 0, none⟩) M (S2 p) := by
  rcases h with ⟨rfl, rfl⟩ | ⟨h0, gL, cap, rfl, p⟩
  · exact ⟨none, 0, rfl, fun p hp => absurd hp (by omega)⟩
  · exact ⟨_, cap, rfl, fun k hk => by obtain ⟨A1, K1, A2, K2, c, w1, w2⟩ := p k hk; exact ⟨gL, A1, K1, A2, K2, rfl, c, w1, w2⟩⟩
set_option maxHeartbeats 1600000 in
set_option maxRecDepth 100000 in
theorem prows_same (P M : Nat) (S1 S2 : Nat → Nat) (u1 u2 : Value) (w : World) (hP : P ≤ 4194304) (hM : M ≤ 4194304) (h1 : LR w u1 P M S1 S2) (h2 : LR w u2 P M S1 S2) :
    Calls Try.prog 8 #[u1, u2] w fun e w' => e = .returned (.bool true) ∧ Below w.heap.size w w' := by
  have H1 := hid1 h1
  have H2 := hid1 h2
  obtain ⟨ao, ca, rfl, q1⟩ := h1.form
  obtain ⟨bo, cb, rfl, q2⟩ := h2.form
  have HS := hid1 (fun (A1 K1 A2 K2 B1 L1 B2 L2 p : Nat) W r1 r2 r3 r4 => prow_same ⟨(64 * M : Nat), some ⟨A1, 0, none⟩, M, K1, 0⟩ ⟨(64 * M : Nat), some ⟨A2, 0, none⟩, M, K2, 0⟩ ⟨(64 * M : Nat), some ⟨B1, 0, none⟩, M, L1, 0⟩ ⟨(64 * M : Nat), some ⟨B2, 0, none⟩, M, L2, 0⟩ W (by show M ≤ _; omega) (by show M ≤ _; omega) rfl rfl rfl rfl (S1 p) (S2 p) r1 r2 r3 r4)
  have Q1 := hid1 q1
  have Q2 := hid1 q2
  clear h1 h2 q1 q2 H1 H2
  go_enter Try.func8, Try.ntmps8
  go_wp2_with fail
  go_loopw [5] (fun i wr => ∃ k : Nat, k ≤ P ∧ i = .int .i64 k ∧ Below w.heap.size w wr) (fun i _ => P - (intOf i).toNat)
  case atStart => exact ⟨0, Nat.zero_le _, rfl, Below.refl _ _⟩
  case round =>
    obtain ⟨k, hk, rfl, hnx⟩ := hrel
    have ik0 : (0 : Int) ≤ (k : Int) := by omega
    by_cases hlt : k < P
    · have ik : (k : Int) < (P : Int) := by omega
      obtain ⟨gA, A1, K1, A2, K2, rfl, ⟨a0, a1, a2, a3⟩, r1, r2⟩ := Q1.out k hlt
      obtain ⟨gB, B1, L1, B2, L2, rfl, ⟨b0, b1, b2, b3⟩, r3, r4⟩ := Q2.out k hlt
      replace a0 := keepc hnx a0
      replace a1 := keepc hnx a1
      replace a2 := keepc hnx a2
      replace a3 := keepc hnx a3
      replace b0 := keepc hnx b0
      replace b1 := keepc hnx b1
      replace b2 := keepc hnx b2
      replace b3 := keepc hnx b3
      have HC := hid1 (HS.out A1 K1 A2 K2 B1 L1 B2 L2 k wr.drew (r1.below hnx.drew) (r2.below hnx.drew) (r3.below hnx.drew) (r4.below hnx.drew))
      have wk4 : IntKind.i64.wrap (k : Int) = (k : Int) := by rw [IntKind.wrap_i64]; omega
      clear r1 r2 r3 r4
      go_upto_region 6 with fail
      refine still_tail 8 (by kernel_rfl) ?_
      simp only [List.take_succ_cons, List.take_zero, List.drop_succ_cons, List.drop_zero]
      repeat still_step
      refine wpStill_nil ?_
      go_wp2_with (go_at_call 11; refine HC.out.mono ?_; rintro e w2 ⟨rfl, hb2⟩)
      exact ⟨⟨k + 1, by omega, by go_num, bl_step hnx.drew hb2⟩, by simp [intOf]; omega⟩
    · have hkN : k = P := by omega
      subst hkN
      go_wp2_with fail
      go_ret
      exact ⟨rfl, hnx⟩
/-- Both Sees as one: what they answer hangs on what is asked alone. -/
theorem see_both (h v c : Int) (m N : Nat) (r s sy sx t l b q bd : Int) : ∃ (a1 a2 a3 E : Int) (P M : Nat) (S1 S2 : Nat → Nat), (P ≤ 4194304 ∧ M ≤ 4194304) ∧
    (∀ ao cap (w : World), m ≤ cap → cap ≤ 9223372036854775807 → Wr w ao m N → Calls Try.prog 6 #[cuv h v c ao m cap, Sg.win r s sy sx t l b q, .int .i64 bd] w fun e w' => ∃ u, e = .returned (.tuple #[u, Sg.shp a1 a2 a3, .int .i64 E]) ∧ LR w' u P M S1 S2 ∧ Below w.heap.size w w') ∧
    (∀ ao cap (w : World), m ≤ cap → cap ≤ 9223372036854775807 → Wr w ao m N → Calls Try.prog 7 #[cuv h v c ao m cap, Sg.win r s sy sx t l b q, .int .i64 bd] w fun e w' => ∃ u, e = .returned (.tuple #[u, Sg.shp a1 a2 a3, .int .i64 E]) ∧ LR w' u P M S1 S2 ∧ Below w.heap.size w w') := by
  by_cases hE : seE h v c m N r s sy sx t l b q bd = 0
  · obtain ⟨H, V, C, R, S, SY, SX, T, L, B, Q, A, D, G⟩ := seE_good hE
    obtain ⟨rfl, rfl, rfl, rfl, rfl, rfl, rfl, rfl, rfl, rfl, rfl, hH, hV, hC, hR, hS, hY, hX, hT, hL, hA, hD, k0, k1, hm, hN, k2, k3, k4, k5⟩ := id G
    have hnw1 : 1 ≤ nw C := by unfold nw; omega
    have hM1 : 0 < R * S * nw C := Nat.mul_pos (Nat.mul_pos (by omega) (by omega)) (by omega)
    have hP1 : 0 < A * D := Nat.mul_pos (by omega) (by omega)
    have hPM : A * D * (R * S * nw C) ≤ 4194304 := by rw [← Nat.mul_assoc, ← Nat.mul_assoc]; exact k5
    have hm0 : 0 < m := by
      rw [hm]
      exact Nat.mul_pos (Nat.mul_pos (by omega) (by omega)) (by omega)
    refine ⟨A, D, 1, 0, A * D, R * S * nw C, seS H V C N S R SY SX T L D (if 0 < bd then ful C else 0), seM H V C S R SY SX T L D (if bd = 0 then 0 else ful C), ⟨Nat.le_trans (Nat.le_mul_of_pos_right _ hM1) hPM, Nat.le_trans (Nat.le_mul_of_pos_left _ hP1) hPM⟩, fun ao cap w hmc hcap rd => ?_, fun ao cap w hmc hcap rd => ?_⟩
    · obtain ⟨g, o, rfl, _⟩ := rd.2 0 hm0
      refine (see_ok H V C g o m cap R S SY SX T L B Q A D N (if 0 < bd then ful C else 0) (if bd = 0 then 0 else ful C) _ _ bd w hmc hcap rd hH hV hC hR hS hY.2 hX.2 hT hL hA hD k1 hm k2 k3 k4 k5 rfl rfl rfl rfl).mono ?_
      rintro e w' ⟨u, Lr, rfl, sr, hb⟩
      obtain ⟨gL, cp, rfl, hp⟩ := sr.prw hP1
      exact ⟨_, rfl, .inr ⟨hP1, gL, cp, rfl, hp⟩, hb⟩
    · obtain ⟨g, o, rfl, _⟩ := rd.2 0 hm0
      refine (rsee_ok H V C g o m cap N R S SY SX T L B Q A D _ _ (if 0 < bd then ful C else 0) (if bd = 0 then 0 else ful C) bd w hmc hcap rd G rfl rfl rfl rfl).mono ?_
      rintro e w' ⟨gL, cp, rfl, hp, hb⟩
      exact ⟨_, rfl, .inr ⟨hP1, gL, cp, rfl, hp⟩, hb⟩
  · refine ⟨0, 0, 0, seE h v c m N r s sy sx t l b q bd, 0, 0, fun _ => 0, fun _ => 0, ⟨by omega, by omega⟩, fun ao cap w hmc hcap rd => ?_, fun ao cap w hmc hcap rd => ?_⟩
    · exact (psee_bad h v c ao m cap N r s sy sx t l b q bd w hmc hcap rd hE).mono fun e w' ⟨h1, h2⟩ => ⟨_, h1, .inl ⟨rfl, rfl⟩, h2⟩
    · exact (rsee_bad h v c ao m cap N r s sy sx t l b q bd w hmc hcap rd hE).mono fun e w' ⟨h1, h2⟩ => ⟨_, h1, .inl ⟨rfl, rfl⟩, h2⟩
end Go.Proofs.Ytohkiknhjcibgaa
/- PatchSees: its walk. -/
namespace Go.Proofs.Ytohkiknhjcibgaa
open Go.RowKit Go.Shelf

/-- A list of cubes that came in. -/
def LqE (W : World) (ao : Option Addr) (m : Nat) : Prop := ∀ j, j < m → ∃ (g o : Nat) (h v c : Int) (xo : Option Addr) (n xc N : Nat), ao = some ⟨g, o, none⟩ ∧ (W.cell? ⟨g, o + j * 4, none⟩ = some (.int .i64 h) ∧ W.cell? ⟨g, o + j * 4 + 1, none⟩ = some (.int .i64 v) ∧ W.cell? ⟨g, o + j * 4 + 2, none⟩ = some (.int .i64 c) ∧ W.cell? ⟨g, o + j * 4 + 3, none⟩ = some (.slice xo n xc)) ∧ Wr W xo n N ∧ (xo = none → xc = 0) ∧ n ≤ 17592186043904 ∧ n ≤ xc ∧ xc ≤ 9223372036854775807
/-- A list of windows that came in. -/
def LwE (W : World) (ao : Option Addr) (m : Nat) : Prop := ∀ j, j < m → ∃ (g o : Nat) (r s sy sx t l b q : Int), ao = some ⟨g, o, none⟩ ∧ Sg.Wn W g (o + j * 8) r s sy sx t l b q
/-- A list of numbers that came in. -/
def LnE (W : World) (ao : Option Addr) (m : Nat) : Prop := ∀ j, j < m → ∃ (g o : Nat) (x : Int), ao = some ⟨g, o, none⟩ ∧ W.cell? ⟨g, o + j, none⟩ = some (.int .i64 x)
theorem cell_but {W X : World} {g b o : Nat} {v : Value} (hb : But g W X) (h : W.cell? ⟨b, o, none⟩ = some v) (hne : b ≠ g) : X.cell? ⟨b, o, none⟩ = some v := by
  have e := hb.block b (lt_of_cell h) hne
  simpa [World.cell?, e] using h
theorem Wr.butS {W X : World} {bS G m N : Nat} {x y z : Int} (h : Wr W (some ⟨G, 0, none⟩) m N) (r : W.rowIs bS 29 3 (hf x y z)) (hb : But bS W X) : Wr X (some ⟨G, 0, none⟩) m N := by
  refine ⟨h.1, fun k hk => ?_⟩
  obtain ⟨g, o, e, c⟩ := h.2 k hk
  refine ⟨g, o, e, cell_but hb c ?_⟩
  intro e2
  obtain ⟨g0, o0, e0, c0⟩ := h.2 0 (by omega)
  cases e
  cases e0
  have := hf0 r
  rw [← e2] at this
  rw [Nat.add_zero, this] at c0
  unfold wf at c0
  injection c0 with c0
  injection c0 with c0
  cases c0
theorem LR.butS {W X : World} {bS P M : Nat} {S1 S2 : Nat → Nat} {u : Value} {x y z : Int} (h : LR W u P M S1 S2) (r : W.rowIs bS 29 3 (hf x y z)) (hb : But bS W X) : LR X u P M S1 S2 := by
  rcases h with h | ⟨h0, gL, cap, e, p⟩
  · exact .inl h
  · refine .inr ⟨h0, gL, cap, e, fun k hk => ?_⟩
    have ne : gL ≠ bS := by
      intro e2
      obtain ⟨_, _, _, _, ⟨_, c1, _⟩, _⟩ := p 0 h0
      have := hf1 r
      rw [← e2] at this
      rw [show 0 * 4 + 1 = 1 from rfl, this] at c1
      injection c1 with c1
      cases c1
    obtain ⟨A1, K1, A2, K2, ⟨c0, c1, c2, c3⟩, w1, w2⟩ := p k hk
    exact ⟨A1, K1, A2, K2, ⟨cell_but hb c0 ne, cell_but hb c1 ne, cell_but hb c2 ne, cell_but hb c3 ne⟩, w1.butS r hb, w2.butS r hb⟩
theorem dr_row {W : World} {b t n : Nat} {f : Nat → Value} (h : W.rowIs b t n f) : W.drew.rowIs b t n f := h
theorem room_wr {W : World} {G K n N : Nat} (h : Ow W G K (n + 20) (rmN N n 20)) (hN : N < 2 ^ (64 * n)) : Wr W (some ⟨G, 0, none⟩) n N := by
  refine ⟨hN, fun k hk => ?_⟩
  obtain ⟨g, o, e, c⟩ := h.wr.2 k (by omega)
  refine ⟨g, o, e, ?_⟩
  rw [c]
  unfold wf
  rw [rmN_wd hN 20 (by omega), if_pos hk]
set_option maxHeartbeats 3200000 in
set_option maxRecDepth 100000 in
theorem patchSees_any (ao : Option Addr) (L ca : Nat) (bo : Option Addr) (L2 cb : Nat) (co : Option Addr) (L3 cc : Nat) (w : World) (hL : L ≤ 9223372036854775807) (hL2 : L2 ≤ 9223372036854775807) (ra : LqE w ao L) (rb : LwE w bo L2) (rc : LnE w co L3) :
    Calls Try.prog 3 #[.slice ao L ca, .slice bo L2 cb, .slice co L3 cc] w fun e w' => e = .returned (.bool true) ∧ Below w.heap.size w w' := by
  have RA := hid1 ra
  have RB := hid1 rb
  have RC := hid1 rc
  clear ra rb rc
  go_enter Try.func3, Try.ntmps3
  go_wp2_with fail
  refine (pbegun_any w).mono ?_
  rintro e w1 ⟨rfl, B1⟩
  go_wp2_with fail
  go_loopw [8] (fun s8 wr => ∃ i : Nat, i ≤ L ∧ s8 = .int .i64 i ∧ Below w.heap.size w wr) (fun s8 _ => L - (intOf s8).toNat)
  case atStart => exact ⟨0, Nat.zero_le _, rfl, B1⟩
  case round =>
    clear B1
    obtain ⟨i, hi, rfl, BB⟩ := hrel
    have ii0 : (0 : Int) ≤ (i : Int) := by omega
    by_cases hiL : i < L
    · have ii1 : (i : Int) < (L : Int) := by omega
      go_wp2_with fail
      go_loopw [9] (fun s9 wz => ∃ k : Nat, (k ≤ L2 ∧ k ≤ L3) ∧ s9 = .int .i64 k ∧ Below w.heap.size w wz) (fun s9 _ => L2 - (intOf s9).toNat)
      case atStart => exact ⟨0, ⟨Nat.zero_le _, Nat.zero_le _⟩, rfl, BB⟩
      case round =>
        clear BB
        rename World => wz
        obtain ⟨k, ⟨hk2, hk3⟩, rfl, BB⟩ := hrel
        have ik0 : (0 : Int) ≤ (k : Int) := by omega
        by_cases hk : k < L2 ∧ k < L3
        · obtain ⟨hkL2, hkL3⟩ := hk
          have ik1 : (k : Int) < (L2 : Int) := by omega
          have ik2 : (k : Int) < (L3 : Int) := by omega
          obtain ⟨gc, oc, h, v, c, xo, n, xc, N, rfl, ⟨c0, c1, c2, c3⟩, wr0, hx0, hn, hnx, hxc⟩ := RA.out i hiL
          obtain ⟨gw, ow, r, s, sy, sx, t, l, b, q, rfl, W0⟩ := RB.out k hkL2
          obtain ⟨gb, ob, bd, rfl, d0⟩ := RC.out k hkL3
          obtain ⟨a1, a2, a3, E, P, M, S1, S2, ⟨hP, hM⟩, SE, RE⟩ := see_both h v c n N r s sy sx t l b q bd
          have HSE := hid1 SE
          have HRE := hid1 RE
          have HWR := hid1 wr0
          have HW0 := hid1 W0
          have HC0 := hid1 (And.intro c0 (And.intro c1 (And.intro c2 c3)))
          have HD0 := hid1 d0
          clear SE RE wr0 W0 d0
          replace c0 := keepc BB c0
          replace c1 := keepc BB c1
          replace c2 := keepc BB c2
          replace c3 := keepc BB c3
          go_upto_region 11 with (go_at_call 5; refine (roomyE_any n N xo xc _ hn hx0 (HWR.out.below BB)).mono ?_; rintro e wa ⟨G, K, rfl, hG, ow1, hb1⟩; have HB1 := hid1 hb1; have HOW := hid1 ow1; clear hb1 ow1)
          have BA := bl_step BB HB1.out
          replace c0 := keepc HB1.out c0
          replace c1 := keepc HB1.out c1
          replace c2 := keepc HB1.out c2
          replace c3 := keepc HB1.out c3
          have hK := HOW.out.2.1
          have hK2 := HOW.out.2.2.1
          have j1 : (0 : Int) ≤ (n : Int) := by omega
          have j2 : (n : Int) ≤ ((n + 20 : Nat) : Int) := by omega
          have j3 : ((n + 20 : Nat) : Int) ≤ (K : Int) := by omega
          have j4 : (n : Int) ≤ (n : Int) + 20 := by omega
          have j5 : (n : Int) + 20 ≤ (K : Int) := by omega
          have gl := lt_of_cell c0
          go_region
          refine Sg.gen_then (fun Y => Below w.heap.size w Y ∧ Y.rowIs wa.heap.size 31 4 (cf h v c (some ⟨G, 0, none⟩) n (n + 20)) ∧ Ow Y G K (n + 20) (rmN N n 20)) ⟨Below.drew (bl_alloc BA _), cu_new wa _ _ _ _ _ _ _, HOW.out.below (Below.drew (bl_alloc (Below.refl _ _) _))⟩ ?_
          rintro Y ⟨BY, rM, owY⟩
          obtain ⟨bM, ebM⟩ : ∃ b, wa.heap.size = b := ⟨_, rfl⟩
          rw [ebM] at rM gl ⊢
          have RM := hid1 rM
          have OWY := hid1 owY
          have WRY := hid1 (room_wr owY HWR.out.1)
          clear ebM rM owY c0 c1 c2 c3 BA HB1 HOW gl j1 j2 j3 j4 j5
          have KP12 : Hid (∀ Y2, Below Y.heap.size Y Y2 → (Y2.cell? ⟨bM, 0, none⟩ = some (.int .i64 h) ∧ Y2.cell? ⟨bM, 1, none⟩ = some (.int .i64 v) ∧ Y2.cell? ⟨bM, 2, none⟩ = some (.int .i64 c) ∧ Y2.cell? ⟨bM, 3, none⟩ = some (.slice (some ⟨G, 0, none⟩) n (n + 20))) ∧ (Y2.cell? ⟨gw, ow + k * 8, none⟩ = some (.int .i64 r) ∧ Y2.cell? ⟨gw, ow + k * 8 + 1, none⟩ = some (.int .i64 s) ∧ Y2.cell? ⟨gw, ow + k * 8 + 2, none⟩ = some (.int .i64 sy) ∧ Y2.cell? ⟨gw, ow + k * 8 + 3, none⟩ = some (.int .i64 sx) ∧ Y2.cell? ⟨gw, ow + k * 8 + 4, none⟩ = some (.int .i64 t) ∧ Y2.cell? ⟨gw, ow + k * 8 + 5, none⟩ = some (.int .i64 l) ∧ Y2.cell? ⟨gw, ow + k * 8 + 6, none⟩ = some (.int .i64 b) ∧ Y2.cell? ⟨gw, ow + k * 8 + 7, none⟩ = some (.int .i64 q)) ∧ Y2.cell? ⟨gb, ob + k, none⟩ = some (.int .i64 bd)) := hid1 fun Y2 hb => by
            have r2 := keepr hb RM.out
            have w2 := (HW0.out.keep BY).keep hb
            exact And.intro (And.intro (cf0 r2) (And.intro (cf1 r2) (And.intro (cf2 r2) (cf3 r2)))) (And.intro w2 (keepc hb (keepc BY HD0.out)))
          have HX12 : Hid (∀ Y2, Below Y.heap.size Y Y2 → Calls Try.prog 6 #[cuv h v c (some ⟨G, 0, none⟩) n (n + 20), Sg.win r s sy sx t l b q, .int .i64 bd] Y2 fun e w' => ∃ u, e = .returned (.tuple #[u, Sg.shp a1 a2 a3, .int .i64 E]) ∧ LR w' u P M S1 S2 ∧ Below Y2.heap.size Y2 w') := hid1 fun Y2 hb => HSE.out (some ⟨G, 0, none⟩) (n + 20) Y2 (by omega) (by omega) (WRY.out.below hb)
          go_upto_region 12 with fail
          go_cut [12, 13, 14] from 61 to 74 (fun x1 x2 x3 wx => ∃ (ua : Option Addr) (uc bS : Nat), x1 = .slice ua P uc ∧ x2 = .pointer (some ⟨bS, 0, none⟩) ∧ x3 = .int .i64 E ∧ LR wx (.slice ua P uc) P M S1 S2 ∧ wx.rowIs bS 29 3 (hf a1 a2 a3) ∧ Below Y.heap.size Y wx)
          case first =>
            go_region_held3 (fun Y2 => (Y2.cell? ⟨bM, 0, none⟩ = some (.int .i64 h) ∧ Y2.cell? ⟨bM, 1, none⟩ = some (.int .i64 v) ∧ Y2.cell? ⟨bM, 2, none⟩ = some (.int .i64 c) ∧ Y2.cell? ⟨bM, 3, none⟩ = some (.slice (some ⟨G, 0, none⟩) n (n + 20))) ∧ (Y2.cell? ⟨gw, ow + k * 8, none⟩ = some (.int .i64 r) ∧ Y2.cell? ⟨gw, ow + k * 8 + 1, none⟩ = some (.int .i64 s) ∧ Y2.cell? ⟨gw, ow + k * 8 + 2, none⟩ = some (.int .i64 sy) ∧ Y2.cell? ⟨gw, ow + k * 8 + 3, none⟩ = some (.int .i64 sx) ∧ Y2.cell? ⟨gw, ow + k * 8 + 4, none⟩ = some (.int .i64 t) ∧ Y2.cell? ⟨gw, ow + k * 8 + 5, none⟩ = some (.int .i64 l) ∧ Y2.cell? ⟨gw, ow + k * 8 + 6, none⟩ = some (.int .i64 b) ∧ Y2.cell? ⟨gw, ow + k * 8 + 7, none⟩ = some (.int .i64 q)) ∧ Y2.cell? ⟨gb, ob + k, none⟩ = some (.int .i64 bd))
              (((try dsimp only); (with_reducible refine KP12.out _ ?_); repeat (first | (with_reducible exact Below.refl _ _) | (with_reducible assumption) | (with_reducible refine bl_set ?_ (Nat.le_refl _) _) | (with_reducible refine Below.drew ?_) | (with_reducible refine bl_alloc ?_ _))))
              ((go_at_call 6; refine (HX12.out _ (by repeat (first | (with_reducible exact Below.refl _ _) | (with_reducible assumption) | (with_reducible refine Below.drew ?_) | (with_reducible refine bl_alloc ?_ _)))).mono ?_; rintro e z1 ⟨u1, rfl, lr1, hb1⟩; obtain ⟨ua, uc, rfl, _⟩ := lr1.form; have HLR := hid1 lr1; have HBZ := hid1 hb1; (first | (have VC := keepr hb1 (dr_row (hf_new Y 0 0 0 29)); have vc0 := hf0 VC; have vc1 := hf1 VC; have vc2 := hf2 VC; have vf0 := VC.frozen 0; have vf1 := VC.frozen 1; have vf2 := VC.frozen 2; have vl := VC.lt; have HVC := hid1 VC; clear VC) | skip); have BZ1 : Below Y.heap.size Y z1 := bl_step (by repeat (first | (with_reducible exact Below.refl _ _) | (with_reducible assumption) | (with_reducible refine Below.drew ?_) | (with_reducible refine bl_alloc ?_ _))) hb1; clear lr1 hb1))
            · refine meet_of13 (by assumption) ?_
              go_meet
              exact ⟨ua, uc, _, rfl, rfl, rfl, HLR.out.below (bl_alloc (Below.refl _ _) _), hf_new z1 a1 a2 a3 _, bl_alloc BZ1 _⟩
            · refine meet_of13 (by assumption) ?_
              go_meet
              exact ⟨ua, uc, _, rfl, rfl, rfl, HLR.out.butS HVC.out ((((But.refl _ _).set _).set _).set _), hf_set HVC.out a1 a2 a3, bl_set (bl_set (bl_set BZ1 (Nat.le_refl _) _) (Nat.le_refl _) _) (Nat.le_refl _) _⟩
          case rest =>
            obtain ⟨ua12, uc12, bS12, rfl, rfl, rfl, LR12, RS12, BX12⟩ := hcut
            have BZ := bl_step BY BX12
            have RMZ := hid1 (keepr BX12 RM.out)
            have OWZ := hid1 (OWY.out.below BX12)
            rename World => Z
            have LR12' := hid1 LR12
            have RS12' := hid1 RS12
            clear LR12 RS12 KP12 HX12
            have KP13 : Hid (∀ Y2, Below Z.heap.size Z Y2 → (Y2.cell? ⟨gc, oc + i * 4, none⟩ = some (.int .i64 h) ∧ Y2.cell? ⟨gc, oc + i * 4 + 1, none⟩ = some (.int .i64 v) ∧ Y2.cell? ⟨gc, oc + i * 4 + 2, none⟩ = some (.int .i64 c) ∧ Y2.cell? ⟨gc, oc + i * 4 + 3, none⟩ = some (.slice xo n xc)) ∧ (Y2.cell? ⟨gw, ow + k * 8, none⟩ = some (.int .i64 r) ∧ Y2.cell? ⟨gw, ow + k * 8 + 1, none⟩ = some (.int .i64 s) ∧ Y2.cell? ⟨gw, ow + k * 8 + 2, none⟩ = some (.int .i64 sy) ∧ Y2.cell? ⟨gw, ow + k * 8 + 3, none⟩ = some (.int .i64 sx) ∧ Y2.cell? ⟨gw, ow + k * 8 + 4, none⟩ = some (.int .i64 t) ∧ Y2.cell? ⟨gw, ow + k * 8 + 5, none⟩ = some (.int .i64 l) ∧ Y2.cell? ⟨gw, ow + k * 8 + 6, none⟩ = some (.int .i64 b) ∧ Y2.cell? ⟨gw, ow + k * 8 + 7, none⟩ = some (.int .i64 q)) ∧ Y2.cell? ⟨gb, ob + k, none⟩ = some (.int .i64 bd)) := hid1 fun Y2 hb => by
              have w2 := (HW0.out.keep BZ).keep hb
              exact And.intro (And.intro (keepc hb (keepc BZ HC0.out.1)) (And.intro (keepc hb (keepc BZ HC0.out.2.1)) (And.intro (keepc hb (keepc BZ HC0.out.2.2.1)) (keepc hb (keepc BZ HC0.out.2.2.2))))) (And.intro w2 (keepc hb (keepc BZ HD0.out)))
            have HX13 : Hid (∀ Y2, Below Z.heap.size Z Y2 → Calls Try.prog 7 #[cuv h v c xo n xc, Sg.win r s sy sx t l b q, .int .i64 bd] Y2 fun e w' => ∃ u, e = .returned (.tuple #[u, Sg.shp a1 a2 a3, .int .i64 E]) ∧ LR w' u P M S1 S2 ∧ Below Y2.heap.size Y2 w') := hid1 fun Y2 hb => HRE.out xo xc Y2 (by omega) (by omega) ((HWR.out.below BZ).below hb)
            go_upto_region 13 with fail
            go_cut [15, 16, 17] from 75 to 91 (fun x1 x2 x3 wx => ∃ (ua : Option Addr) (uc bS : Nat), x1 = .slice ua P uc ∧ x2 = .pointer (some ⟨bS, 0, none⟩) ∧ x3 = .int .i64 E ∧ LR wx (.slice ua P uc) P M S1 S2 ∧ wx.rowIs bS 29 3 (hf a1 a2 a3) ∧ Below Z.heap.size Z wx)
            case first =>
              go_region_held3 (fun Y2 => (Y2.cell? ⟨gc, oc + i * 4, none⟩ = some (.int .i64 h) ∧ Y2.cell? ⟨gc, oc + i * 4 + 1, none⟩ = some (.int .i64 v) ∧ Y2.cell? ⟨gc, oc + i * 4 + 2, none⟩ = some (.int .i64 c) ∧ Y2.cell? ⟨gc, oc + i * 4 + 3, none⟩ = some (.slice xo n xc)) ∧ (Y2.cell? ⟨gw, ow + k * 8, none⟩ = some (.int .i64 r) ∧ Y2.cell? ⟨gw, ow + k * 8 + 1, none⟩ = some (.int .i64 s) ∧ Y2.cell? ⟨gw, ow + k * 8 + 2, none⟩ = some (.int .i64 sy) ∧ Y2.cell? ⟨gw, ow + k * 8 + 3, none⟩ = some (.int .i64 sx) ∧ Y2.cell? ⟨gw, ow + k * 8 + 4, none⟩ = some (.int .i64 t) ∧ Y2.cell? ⟨gw, ow + k * 8 + 5, none⟩ = some (.int .i64 l) ∧ Y2.cell? ⟨gw, ow + k * 8 + 6, none⟩ = some (.int .i64 b) ∧ Y2.cell? ⟨gw, ow + k * 8 + 7, none⟩ = some (.int .i64 q)) ∧ Y2.cell? ⟨gb, ob + k, none⟩ = some (.int .i64 bd))
                (((try dsimp only); (with_reducible refine KP13.out _ ?_); repeat (first | (with_reducible exact Below.refl _ _) | (with_reducible assumption) | (with_reducible refine bl_set ?_ (Nat.le_refl _) _) | (with_reducible refine Below.drew ?_) | (with_reducible refine bl_alloc ?_ _))))
                ((go_at_call 7; refine (HX13.out _ (by repeat (first | (with_reducible exact Below.refl _ _) | (with_reducible assumption) | (with_reducible refine Below.drew ?_) | (with_reducible refine bl_alloc ?_ _)))).mono ?_; rintro e z1 ⟨u1, rfl, lr1, hb1⟩; obtain ⟨ua, uc, rfl, _⟩ := lr1.form; have HLR := hid1 lr1; have HBZ := hid1 hb1; (first | (have VC := keepr hb1 (dr_row (hf_new Z 0 0 0 29)); have vc0 := hf0 VC; have vc1 := hf1 VC; have vc2 := hf2 VC; have vf0 := VC.frozen 0; have vf1 := VC.frozen 1; have vf2 := VC.frozen 2; have vl := VC.lt; have HVC := hid1 VC; clear VC) | skip); have BZ1 : Below Z.heap.size Z z1 := bl_step (by repeat (first | (with_reducible exact Below.refl _ _) | (with_reducible assumption) | (with_reducible refine Below.drew ?_) | (with_reducible refine bl_alloc ?_ _))) hb1; clear lr1 hb1))
              · refine meet_of13 (by assumption) ?_
                go_meet
                exact ⟨ua, uc, _, rfl, rfl, rfl, HLR.out.below (bl_alloc (Below.refl _ _) _), hf_new z1 a1 a2 a3 _, bl_alloc BZ1 _⟩
              · refine meet_of13 (by assumption) ?_
                go_meet
                exact ⟨ua, uc, _, rfl, rfl, rfl, HLR.out.butS HVC.out ((((But.refl _ _).set _).set _).set _), hf_set HVC.out a1 a2 a3, bl_set (bl_set (bl_set BZ1 (Nat.le_refl _) _) (Nat.le_refl _) _) (Nat.le_refl _) _⟩
            case rest =>
              obtain ⟨ua13, uc13, bS13, rfl, rfl, rfl, LR13, RS13, BX13⟩ := hcut
              have BV := bl_step BZ BX13
              have LA := hid1 (LR12'.out.below BX13)
              have LB := hid1 LR13
              have r1 := keepr BX13 RS12'.out
              have OWV := hid1 (OWZ.out.below BX13)
              have s10 := hf0 r1
              have s11 := hf1 r1
              have s12 := hf2 r1
              have s20 := hf0 RS13
              have s21 := hf1 RS13
              have s22 := hf2 RS13
              have c3 := keepc BV HC0.out.2.2.2
              have ee : (E != E) = false := by simp
              rename World => V
              have HSR := hid1 (prows_same P M S1 S2 (.slice ua12 P uc12) (.slice ua13 P uc13) V hP hM LA.out LB.out)
              clear r1 RS13 LR13 KP13 HX13
              go_upto_region 14 with fail
              go_wp2_with (first | (go_at_call 8; refine HSR.out.mono ?_; rintro e V2 ⟨rfl, hb2⟩; have c3' := keepc hb2 c3; have BV2 := bl_step BV hb2; have OW2 := hid1 (OWV.out.below hb2); clear hb2) | (go_at_call 9; refine (keptE_true n N G K xo xc V2 hn hx0 OW2.out (HWR.out.below BV2)).mono ?_; rintro e V3 ⟨rfl, hb3⟩; have BV3 := bl_step BV2 hb3; clear hb3))
              exact ⟨⟨k + 1, ⟨by omega, by omega⟩, by go_num, BV3⟩, by simp [intOf]; omega⟩
        · have key : (∃ t : (k : Int) < (L2 : Int), ∃ t1 : ¬ (k : Int) < (L3 : Int), decide ((k : Int) < (L3 : Int)) = false) ∨ (∃ t : ¬ (k : Int) < (L2 : Int), decide ((k : Int) < (L2 : Int)) = false) := by
            by_cases h1 : k < L2
            · have h2 : ¬ (k : Int) < (L3 : Int) := by
                intro h3
                exact hk ⟨h1, by omega⟩
              exact .inl ⟨by omega, h2, decide_eq_false h2⟩
            · have h2 : ¬ (k : Int) < (L2 : Int) := by omega
              exact .inr ⟨h2, decide_eq_false h2⟩
          clear hk
          rcases key with ⟨t, t1, t2⟩ | ⟨t, t1⟩
          all_goals
            go_wp2_with fail
            exact ⟨⟨i + 1, by omega, by go_num, BB⟩, by simp [intOf]; omega⟩
    · have hiL' : i = L := by omega
      subst hiL'
      have ii1 : ¬ (i : Int) < (i : Int) := by omega
      go_wp2_with fail
      go_ret
      exact ⟨rfl, BB⟩
end Go.Proofs.Ytohkiknhjcibgaa
/- PARAMETERS of PatchSees: lists of cubes, of windows, of numbers. -/
namespace Go.Proofs.Ytohkiknhjcibgaa
open Go.ChangeShapes Go.WideShapes Go.ChangeAt Go.RowKit
set_option maxRecDepth 100000

theorem cells_cubeE : Try.prog.cellsOf 31 = 4 := by kernel_rfl
theorem open_cubeE {H : Type} {enc : TypeId × Value → H} {W : World} {fuel : Nat} {cs : List Value} {x : DataW H × List MemPlace} (h : DataW.trod enc Try.prog W 0 (fun _ => true) true fuel 31 cs = some x) (hz : ∀ n ∈ x.1.weights Try.prog 31, n ≤ reachBytes) :
    ∃ (h v c : Int) (ao : Option Addr) (m cap N : Nat), cs = [.int .i64 h, .int .i64 v, .int .i64 c, .slice ao m cap] ∧ Wr W ao m N ∧ (ao = none → cap = 0) ∧ m ≤ 17592186043904 ∧ m ≤ cap ∧ cap ≤ 9223372036854775807 := by
  have hl : cs.length = 4 := by
    obtain ⟨_, _, _, _, hlen, _, _⟩ := DataW.trod_struct Try.underlying31 h
    exact hlen.trans cells_cubeE
  obtain ⟨_, y0, t0, _⟩ := fldZ Try.underlying31 h hz 0 _ rfl
  obtain ⟨_, y1, t1, z1⟩ := fldZ Try.underlying31 h hz 1 _ rfl
  replace t0 : DataW.trod enc Try.prog W 0 (fun _ => true) true _ 29 ((cs.drop 0).take (Try.prog.cellsOf 29)) = some y0 := t0
  replace t1 : DataW.trod enc Try.prog W 0 (fun _ => true) true _ 26 ((cs.drop 3).take (Try.prog.cellsOf 26)) = some y1 := t1
  rw [cells_shpF] at t0
  rw [cells_us] at t1
  obtain ⟨hh, v, c, e0⟩ := shape_cellsF t0
  obtain ⟨ao, m, cap, N, e1, h1, h2, h3, h4⟩ := open_wordsZ t1 z1
  obtain ⟨ao', m', cap', N', e1', g1, g2, _⟩ := open_words t1
  match cs, hl with
  | [a, b, d, f], _ =>
    simp at e0 e1 e1'
    obtain ⟨rfl, rfl, rfl⟩ := e0
    subst e1
    injection e1' with q1 q2 q3
    exact ⟨hh, v, c, ao, m, cap, N, rfl, ⟨h3, h4⟩, h1, h2, by omega, by omega⟩
theorem und_cubesE : Try.prog.underlying 22 = some (.slice 31) := by kernel_rfl
theorem open_cubess {H : Type} {enc : TypeId × Value → H} {W : World} {base : Nat} {v : Value} {d : DataW H} {p : List MemPlace}
    (hv : Value.okWide Try.prog W .any base 22 v) (h : DataW.Trod enc Try.prog W 0 (fun _ => true) true 22 v d p) (hz : ∀ n ∈ d.weights Try.prog 22, n ≤ reachBytes) :
    ∃ (ao : Option Addr) (m cap : Nat), v = .slice ao m cap ∧ m ≤ 9223372036854775807 ∧ LqE W ao m := by
  obtain ⟨a0, len, cap, rfl⟩ := okWide_slice und_cubesE hv
  obtain ⟨fuel, hf⟩ := h
  rcases Deep.open_slice und_cubesE hf with ⟨hc, hx⟩ | ⟨a, len', cap', mm, n, D, Pl, hc, _, hl, hm, hmm, hx, hcell⟩
  · simp [Value.cells] at hc
    obtain ⟨rfl, rfl, rfl⟩ := hc
    exact ⟨none, 0, 0, rfl, by simp, fun j hj => absurd hj (by simp)⟩
  · simp [Value.cells] at hc
    obtain ⟨rfl, rfl, rfl⟩ := hc
    simp only [if_true] at hmm
    have hmx := max_is
    have hd : d = .slice ((List.range len).map D) ((List.range (mm - len)).map fun j => D (len + j)) := congrArg Prod.fst hx
    obtain ⟨b, o, s⟩ := a
    refine ⟨some ⟨b, o, s⟩, len, cap, rfl, by omega, fun j hj => ?_⟩
    obtain ⟨cs1, h1, h2⟩ := hcell j (by omega)
    rw [cells_cubeE] at h1
    obtain ⟨_, hlen, hc1⟩ := World.cells?_some h1
    have hzj : ∀ n ∈ (D j).weights Try.prog 31, n ≤ reachBytes := fun n hn => hz n (by
      rw [hd]
      simp only [DataW.weights, und_cubesE]
      refine List.mem_cons_of_mem _ (List.mem_append.mpr (Or.inl ?_))
      exact weightsAll_mem (List.mem_map.mpr ⟨j, List.mem_range.mpr hj, rfl⟩) n hn)
    obtain ⟨h, v, c, xo, m, xc, N, rfl, wr, q1, q2, q3, q4⟩ := open_cubeE h2 hzj
    have e0 := hc1 0 (by decide)
    have e1 := hc1 1 (by decide)
    have e2 := hc1 2 (by decide)
    have e3 := hc1 3 (by decide)
    rw [Deep.add_add] at e0 e1 e2 e3
    have hs : s = none := by
      obtain ⟨cs0, h0, _⟩ := hcell 0 (by omega)
      rw [cells_cubeE] at h0
      obtain ⟨_, hlen0, hc0⟩ := World.cells?_some h0
      have e2 := hc0 0 (by decide)
      rw [Deep.add_add, List.getElem?_eq_getElem (by omega)] at e2
      have := World.cell?_spot e2
      simpa [Addr.add] using this
    subst hs
    rw [add_at] at e0 e1 e2 e3
    exact ⟨b, o, h, v, c, xo, m, xc, N, rfl, ⟨by simpa using e0, by simpa [Nat.add_assoc] using e1, by simpa [Nat.add_assoc] using e2, by simpa [Nat.add_assoc] using e3⟩, wr, q1, q2, q3, q4⟩
theorem und_winsE : Try.prog.underlying 23 = some (.slice 37) := by kernel_rfl
theorem open_wins {H : Type} {enc : TypeId × Value → H} {W : World} {base : Nat} {v : Value} {d : DataW H} {p : List MemPlace}
    (hv : Value.okWide Try.prog W .any base 23 v) (h : DataW.Trod enc Try.prog W 0 (fun _ => true) true 23 v d p) :
    ∃ (ao : Option Addr) (m cap : Nat), v = .slice ao m cap ∧ m ≤ 9223372036854775807 ∧ LwE W ao m := by
  obtain ⟨ao, m, cap, rfl, hm, hf⟩ := open_list und_winsE cells_winF (by decide) hv h
  refine ⟨ao, m, cap, rfl, hm, fun k hk => ?_⟩
  obtain ⟨g, o, n, cs, y, rfl, ht, _, hc⟩ := hf k hk
  obtain ⟨r, s, sy, sx, t, l, b, q, rfl⟩ := win_cellsF ht
  exact ⟨g, o, r, s, sy, sx, t, l, b, q, rfl, hc 0 (by decide), hc 1 (by decide), hc 2 (by decide), hc 3 (by decide), hc 4 (by decide), hc 5 (by decide), hc 6 (by decide), hc 7 (by decide)⟩
end Go.Proofs.Ytohkiknhjcibgaa
namespace Go.Proofs.Ytohkiknhjcibgaa
open Go.ChangeShapes Go.WideShapes Go.ChangeAt Go.RowKit

set_option maxRecDepth 100000 in
theorem patchSees_lifted (os : Os) (started : os.Started) (H : Type) (enc : TypeId × Value → H) :
    ReturnsInHanded {} Try.checked os 3 .any (Rows.patchSeesSpec.pre6 enc Try.prog Try.f3 Rows.patchSeesRow.domain false) (Rows.patchSeesSpec.post enc Try.prog Try.f3 false true false false) := by
  refine returnsInHanded_of_change_sized (C := Try.checked) own started (by kernel_rfl) Try.func3
    (ChangeSpec.witness6 (enc := enc) (C := Try.checked) false ⟨#[], #[.slice none 0 0, .slice none 0 0, .slice none 0 0], []⟩ 8 (by kernel_rfl) (by kernel_rfl) (by kernel_rfl) (by kernel_rfl)) ?_
  intro W base args ds gs before hval0 hW hcnd hsz _
  have hval : ∀ (j : Nat) t v, Try.f3.params[j]? = some t → args[j]? = some v → Value.okWide Try.prog W .any base t v := hval0
  have hW' := hW
  obtain ⟨p, q, hA0, hV, rfl, hfz, hnd⟩ := hW
  have hA : DataW.TrodAll enc Try.prog W 0 (fun _ => true) true Try.f3.params.toList args.toList ds p := hA0
  rw [Try.params3] at hA hval hsz
  obtain ⟨v0, vs0, d0, ds0, p0, q0, hargs, rfl, rfl, h0, r0⟩ := trodAll_cons hA
  obtain ⟨v1, vs1, d1, ds1, p1, q1, rfl, rfl, rfl, h1, r1⟩ := trodAll_cons r0
  obtain ⟨v2, vs2, d2, ds2, p2, q2, rfl, rfl, rfl, h2, r2⟩ := trodAll_cons r1
  obtain ⟨rfl, rfl, rfl⟩ := trodAll_nil r2
  obtain rfl : args = #[v0, v1, v2] := by cases args; simp_all
  obtain ⟨rfl, rfl⟩ := trodVars_none hV
  have lt0 : ∀ x ∈ p0, x.block < W.heap.size := by obtain ⟨m, hm⟩ := h0; exact DataW.trod_lt m _ _ _ hm
  have k0 := h0
  have lt1 : ∀ x ∈ p1, x.block < W.heap.size := by obtain ⟨m, hm⟩ := h1; exact DataW.trod_lt m _ _ _ hm
  have k1 := h1
  have lt2 : ∀ x ∈ p2, x.block < W.heap.size := by obtain ⟨m, hm⟩ := h2; exact DataW.trod_lt m _ _ _ hm
  have k2 := h2
  obtain ⟨ao0, m0, c0, rfl, hm0, f0⟩ := open_cubess (hval 0 22 v0 rfl rfl) h0 (fun n hn => by have := List.all_eq_true.1 hsz _ (DataW.weights_mem_each (j := 0) (t := 22) (d := d0) rfl rfl n hn); simpa using this)
  obtain ⟨ao1, m1, c1, rfl, hm1, f1⟩ := open_wins (hval 1 23 v1 rfl rfl) h1
  obtain ⟨ao2, m2, c2, rfl, hm2, f2⟩ := open_i64l (hval 2 24 v2 rfl rfl) h2
  clear hA0 hval0
  refine (patchSees_any ao0 m0 c0 ao1 m1 c1 ao2 m2 c2 W hm0 hm1 f0 f1 f2).mono fun e W' ⟨he, bel⟩ => ?_
  subst he
  exact ⟨_, rfl, _, _, _, [], _, [], hW', trodAll_mk1 (shut_bool Try.underlying4 _), (trodAll_cons_mk (Below.trod laidOut (by kernel_rfl) (of_decide_eq_true (by kernel_rfl)) k0 bel lt0) (trodAll_cons_mk (Below.trod laidOut (by kernel_rfl) (of_decide_eq_true (by kernel_rfl)) k1 bel lt1) (trodAll_cons_mk (Below.trod laidOut (by kernel_rfl) (of_decide_eq_true (by kernel_rfl)) k2 bel lt2) trodAll_mk0))), rfl, bel.frame _, fun h => by cases h⟩

theorem patchSees_holds : Rows.PatchSeesSaid :=
  OpenClaim.holds_of_wide 3 Try.f3 rfl rfl rfl rfl rfl rfl rfl ⟨rfl, rfl, rfl, rfl, rfl⟩ rfl rfl rfl rfl rfl (by kernel_rfl) Try.func3 (by kernel_rfl)
    (of_decide_eq_true (by kernel_rfl)) (by unfold Func.isWrapper; first | (rw [if_pos (by decide +kernel)]; kernel_rfl) | (rw [if_neg (by decide +kernel)]; exact ⟨rfl, rfl⟩))
    (fun os started H enc _ => patchSees_lifted os started H enc)
#print axioms patchSees_holds
end Go.Proofs.Ytohkiknhjcibgaa
