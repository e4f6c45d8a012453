/- CubeAsks: both sides of Unpack, Flat, At as one. -/
import Derived.Test.YtgmildjfikgkmaaKC6
namespace Go.Proofs.Ytgmildjfikgkmaa
open Go.RowKit Go.Shelf

theorem cuk_zeroA {h v c : Int} {m N : Nat} (k : cuk h v c m N = 0) : ∃ H V C : Nat, h = H ∧ v = V ∧ c = C ∧ (1 ≤ H ∧ H ≤ 4096) ∧ (1 ≤ V ∧ V ≤ 4096) ∧ (1 ≤ C ∧ C ≤ 4096) ∧ H * V * C ≤ 16777216 ∧ Sg.chk H V C = 0 ∧ m = H * V * nw C ∧ Pok (H * V) C N := by
  unfold cuk at k
  by_cases k0 : Sg.chk h v c = 0
  · obtain ⟨H, V, C, rfl, rfl, rfl, hH, hV, hC, hb⟩ := chk_nat k0
    rw [if_pos k0, Int.toNat_natCast, Int.toNat_natCast, Int.toNat_natCast] at k
    by_cases k1 : m = H * V * nw C
    · rw [if_pos k1] at k
      by_cases k2 : Pok (H * V) C N
      · exact ⟨H, V, C, rfl, rfl, rfl, hH, hV, hC, hb, k0, k1, k2⟩
      · rw [if_neg k2] at k; omega
    · rw [if_neg k1] at k; omega
  · rw [if_neg k0] at k; exact absurd k k0
theorem cuk_some {w : World} {ao : Option Addr} {H V C m N : Nat} (hH : 1 ≤ H) (hV : 1 ≤ V) (hC : 1 ≤ C) (hm : m = H * V * nw C) (rd : Wr w ao m N) : ∃ g o, ao = some ⟨g, o, none⟩ := by
  have hpos : 0 < m := by
    rw [hm]
    exact Nat.mul_pos (Nat.mul_pos (by omega) (by omega)) (by unfold nw; omega)
  obtain ⟨g, o, e, _⟩ := rd.2 0 hpos
  exact ⟨g, o, e⟩
theorem wr_nilK (w : World) (ao : Option Addr) : Wr w ao 0 0 := ⟨by simp, fun k hk => absurd hk (by simp)⟩
theorem rs_nilK (w : World) (ao : Option Addr) (f : Nat → Value) : Rs w ao 0 f := fun k hk => absurd hk (by simp)
/-- How many values Unpack answers. -/
def uT (h v c : Int) (m N : Nat) : Nat := if cuk h v c m N = 0 then h.toNat * v.toNat * c.toNat else 0
theorem uT_le (h v c : Int) (m N : Nat) : uT h v c m N ≤ 16777216 := by
  unfold uT
  by_cases k : cuk h v c m N = 0
  · obtain ⟨H, V, C, rfl, rfl, rfl, _, _, _, hb, _⟩ := cuk_zeroA k
    rw [if_pos k, Int.toNat_natCast, Int.toNat_natCast, Int.toNat_natCast]; exact hb
  · rw [if_neg k]; omega
theorem unpack_all (h v c : Int) (ao : Option Addr) (m cap N : Nat) (w : World) (hmc : m ≤ cap) (hcap : cap ≤ 9223372036854775807) (rd : Wr w ao m N) (E : Int) (T : Nat) (hE : cuk h v c m N = E) (hT : uT h v c m N = T) :
    Calls Try.prog 21 #[cuv h v c ao m cap] w fun e w' => ∃ bo K, e = .returned (.tuple #[.slice bo T K, .int .i64 E]) ∧ Rs w' bo T (fun k => .int .i8 (uv N c.toNat k)) ∧ Below w.heap.size w w' := by
  subst hE hT
  unfold uT
  by_cases k : cuk h v c m N = 0
  · obtain ⟨H, V, C, rfl, rfl, rfl, hH, hV, hC, hb, k0, hm, hp⟩ := cuk_zeroA k
    obtain ⟨g, o, rfl⟩ := cuk_some hH.1 hV.1 hC.1 hm rd
    rw [if_pos k, Int.toNat_natCast, Int.toNat_natCast, Int.toNat_natCast]
    refine (cunpack_ok H V C g o m cap N w hH hV hC hb k hm hmc hcap rd).mono ?_
    rintro e w' ⟨G, rfl, _, row, hb'⟩
    exact ⟨_, _, by rw [k], Rs.row row, hb'⟩
  · rw [if_neg k]
    refine (cunpack_bad h v c ao m cap N w hmc hcap rd k).mono ?_
    rintro e w' ⟨rfl, hb⟩
    exact ⟨_, _, rfl, rs_nilK _ _ _, hb⟩
theorem runpack_all (h v c : Int) (ao : Option Addr) (m cap N : Nat) (w : World) (rd : Wr w ao m N) (E : Int) (T : Nat) (hE : cuk h v c m N = E) (hT : uT h v c m N = T) :
    Calls Try.prog 55 #[cuv h v c ao m cap] w fun e w' => ∃ bo K, e = .returned (.tuple #[.slice bo T K, .int .i64 E]) ∧ Rs w' bo T (fun k => .int .i8 (uv N c.toNat k)) ∧ Below w.heap.size w w' := by
  subst hE hT
  unfold uT
  by_cases k : cuk h v c m N = 0
  · obtain ⟨H, V, C, rfl, rfl, rfl, hH, hV, hC, hb, k0, hm, hp⟩ := cuk_zeroA k
    obtain ⟨g, o, rfl⟩ := cuk_some hH.1 hV.1 hC.1 hm rd
    rw [if_pos k, Int.toNat_natCast, Int.toNat_natCast, Int.toNat_natCast]
    refine (runpack_ok H V C g o m cap N _ w hH hV hC rfl hb k hm rd).mono ?_
    rintro e w' ⟨la, lc, rfl, own, hb'⟩
    refine ⟨_, _, by rw [k], ?_, hb'⟩
    obtain ⟨r8, _, _⟩ := own_r8 (ul_len N C _) own
    intro j hj
    obtain ⟨g', o', e, cc⟩ := r8 j (by rw [ul_len]; exact hj)
    exact ⟨g', o', e, by rw [cc, ul_at hj]⟩
  · rw [if_neg k]
    refine (runpack_bad h v c ao m cap N w rd k).mono ?_
    rintro e w' ⟨rfl, hb⟩
    exact ⟨_, _, rfl, rs_nilK _ _ _, hb⟩
/-- What Flat answers: its length, its words, the number that they make. -/
def fS (h v c : Int) (m N : Nat) : Int × Nat × Nat := if cuk h v c m N = 0 then ((h.toNat * v.toNat * c.toNat : Nat), nw (h.toNat * v.toNat * c.toNat), js c.toNat (pl N (nw c.toNat)) (h.toNat * v.toNat)) else (0, 0, 0)
theorem flat_lt {H V C N : Nat} (hp : Pok (H * V) C N) : js C (pl N (nw C)) (H * V) < 2 ^ (64 * nw (H * V * C)) :=
  Nat.lt_of_lt_of_le (js_lt (s := C) (fun i hi => hp i hi)) (pow_mono (nw_le (H * V * C)))
theorem flat_all (h v c : Int) (ao : Option Addr) (m cap N : Nat) (w : World) (hmc : m ≤ cap) (hcap : cap ≤ 9223372036854775807) (rd : Wr w ao m N) (E n : Int) (k' P : Nat) (hE : cuk h v c m N = E) (hS : fS h v c m N = (n, k', P)) :
    Calls Try.prog 13 #[cuv h v c ao m cap] w fun e w' => ∃ bo K, e = .returned (.tuple #[rv n bo k' K, .int .i64 E]) ∧ Wr w' bo k' P ∧ Below w.heap.size w w' := by
  subst hE
  unfold fS at hS
  by_cases k : cuk h v c m N = 0
  · obtain ⟨H, V, C, rfl, rfl, rfl, hH, hV, hC, hb, k0, hm, hp⟩ := cuk_zeroA k
    obtain ⟨g, o, rfl⟩ := cuk_some hH.1 hV.1 hC.1 hm rd
    rw [if_pos k, Int.toNat_natCast, Int.toNat_natCast, Int.toNat_natCast] at hS
    cases hS
    refine (cflat_ok H V C g o m cap N w hH hV hC hb k hm hmc hcap hp rd).mono ?_
    rintro e w' ⟨G, rfl, _, row, hb'⟩
    exact ⟨_, _, by rw [k], Wr.row row (flat_lt hp), hb'⟩
  · rw [if_neg k] at hS
    cases hS
    refine (cflat_bad h v c ao m cap N w hmc hcap rd k).mono ?_
    rintro e w' ⟨rfl, hb⟩
    exact ⟨_, _, rfl, wr_nilK _ _, hb⟩
theorem rflat_all (h v c : Int) (ao : Option Addr) (m cap N : Nat) (w : World) (rd : Wr w ao m N) (E n : Int) (k' P : Nat) (hE : cuk h v c m N = E) (hS : fS h v c m N = (n, k', P)) :
    Calls Try.prog 56 #[cuv h v c ao m cap] w fun e w' => ∃ bo K, e = .returned (.tuple #[rv n bo k' K, .int .i64 E]) ∧ Wr w' bo k' P ∧ Below w.heap.size w w' := by
  subst hE
  unfold fS at hS
  by_cases k : cuk h v c m N = 0
  · obtain ⟨H, V, C, rfl, rfl, rfl, hH, hV, hC, hb, k0, hm, hp⟩ := cuk_zeroA k
    obtain ⟨g, o, rfl⟩ := cuk_some hH.1 hV.1 hC.1 hm rd
    rw [if_pos k, Int.toNat_natCast, Int.toNat_natCast, Int.toNat_natCast] at hS
    cases hS
    refine (rflat_ok H V C g o m cap N _ w hH hV hC rfl hb k hm hp rd).mono ?_
    rintro e w' ⟨G, rfl, _, row, hb'⟩
    exact ⟨_, _, by rw [k], Wr.row row (flat_lt hp), hb'⟩
  · rw [if_neg k] at hS
    cases hS
    refine (rflat_bad h v c ao m cap N w rd k).mono ?_
    rintro e w' ⟨rfl, hb⟩
    exact ⟨_, _, rfl, wr_nilK _ _, hb⟩
theorem fS_le {h v c : Int} {m N : Nat} {n : Int} {k P : Nat} (hS : fS h v c m N = (n, k, P)) : k ≤ 16777216 := by
  unfold fS at hS
  by_cases k : cuk h v c m N = 0
  · obtain ⟨H, V, C, rfl, rfl, rfl, _, _, _, hb, _⟩ := cuk_zeroA k
    rw [if_pos k, Int.toNat_natCast, Int.toNat_natCast, Int.toNat_natCast] at hS
    cases hS
    unfold nw; omega
  · rw [if_neg k] at hS; cases hS; omega
/-- What At answers. -/
def aS (h v c y x : Int) (m N : Nat) : Int × Nat × Nat := if atE h v c y x m N = 0 then (c, nw c.toNat, pl N (nw c.toNat) (y.toNat * v.toNat + x.toNat)) else (0, 0, 0)
theorem atE_zero {h v c y x : Int} {m N : Nat} (k : atE h v c y x m N = 0) : cuk h v c m N = 0 ∧ (0 ≤ y ∧ y < h) ∧ (0 ≤ x ∧ x < v) := by
  unfold atE at k
  by_cases k0 : cuk h v c m N = 0
  · rw [if_pos k0] at k
    obtain ⟨H, V, C, rfl, rfl, rfl, _, _, _, _, k1, _⟩ := cuk_zeroA k0
    unfold Sg.ixE at k
    rw [if_pos k1] at k
    by_cases k2 : Sg.Inn H V C y x 0
    · exact ⟨k0, k2.1, k2.2.1⟩
    · rw [if_neg k2] at k; omega
  · rw [if_neg k0] at k; exact absurd k k0
theorem at_all (h v c y x : Int) (ao : Option Addr) (m cap N : Nat) (w : World) (hmc : m ≤ cap) (hcap : cap ≤ 9223372036854775807) (rd : Wr w ao m N) (E n : Int) (k' P : Nat) (hE : atE h v c y x m N = E) (hS : aS h v c y x m N = (n, k', P)) :
    Calls Try.prog 14 #[cuv h v c ao m cap, .int .i64 y, .int .i64 x] w fun e w' => ∃ bo K, e = .returned (.tuple #[rv n bo k' K, .int .i64 E]) ∧ Wr w' bo k' P ∧ (∀ g o, bo = some ⟨g, o, none⟩ → w.heap.size ≤ g) ∧ Below w.heap.size w w' := by
  subst hE
  unfold aS at hS
  by_cases k : atE h v c y x m N = 0
  · obtain ⟨k0, hy, hx⟩ := atE_zero k
    obtain ⟨H, V, C, rfl, rfl, rfl, hH, hV, hC, hb, k1, hm, hp⟩ := cuk_zeroA k0
    obtain ⟨g, o, rfl⟩ := cuk_some hH.1 hV.1 hC.1 hm rd
    obtain ⟨y, rfl⟩ := Int.eq_ofNat_of_zero_le hy.1
    obtain ⟨x, rfl⟩ := Int.eq_ofNat_of_zero_le hx.1
    rw [if_pos k, Int.toNat_natCast, Int.toNat_natCast, Int.toNat_natCast, Int.toNat_natCast] at hS
    cases hS
    refine (at_ok H V C g o m cap N y x w hH hV hC k1 k0 hm hmc hcap (by omega) (by omega) rd _ rfl).mono ?_
    rintro e w' ⟨G, K, rfl, hG, _, _, _, wr, hb'⟩
    exact ⟨_, _, by rw [k], wr, fun g o e => (by cases e; exact hG), hb'⟩
  · rw [if_neg k] at hS
    cases hS
    refine (at_bad h v c y x ao m cap N w hmc hcap rd k).mono ?_
    rintro e w' ⟨rfl, hb⟩
    exact ⟨_, _, rfl, wr_nilK _ _, fun g o e => (by cases e), hb⟩
theorem rat_all (h v c y x : Int) (ao : Option Addr) (m cap N : Nat) (w : World) (rd : Wr w ao m N) (E n : Int) (k' P : Nat) (hE : atE h v c y x m N = E) (hS : aS h v c y x m N = (n, k', P)) :
    Calls Try.prog 58 #[cuv h v c ao m cap, .int .i64 y, .int .i64 x] w fun e w' => ∃ bo K, e = .returned (.tuple #[rv n bo k' K, .int .i64 E]) ∧ Wr w' bo k' P ∧ (∀ g o, bo = some ⟨g, o, none⟩ → w.heap.size ≤ g) ∧ Below w.heap.size w w' := by
  subst hE
  unfold aS at hS
  by_cases k : atE h v c y x m N = 0
  · obtain ⟨k0, hy, hx⟩ := atE_zero k
    obtain ⟨H, V, C, rfl, rfl, rfl, hH, hV, hC, hb, k1, hm, hp⟩ := cuk_zeroA k0
    obtain ⟨g, o, rfl⟩ := cuk_some hH.1 hV.1 hC.1 hm rd
    obtain ⟨y, rfl⟩ := Int.eq_ofNat_of_zero_le hy.1
    obtain ⟨x, rfl⟩ := Int.eq_ofNat_of_zero_le hx.1
    rw [if_pos k, Int.toNat_natCast, Int.toNat_natCast, Int.toNat_natCast, Int.toNat_natCast] at hS
    cases hS
    refine (rat_ok H V C g o m cap N _ y x w hH hV hC rfl hb k0 hm hp (by omega) (by omega) rd).mono ?_
    rintro e w' ⟨G, rfl, hG, row, hb'⟩
    exact ⟨_, _, by rw [k], Wr.row row (pl_lt N (nw C) _), fun g o e => (by cases e; exact hG), hb'⟩
  · rw [if_neg k] at hS
    cases hS
    by_cases k0 : cuk h v c m N = 0
    · obtain ⟨H, V, C, rfl, rfl, rfl, hH, hV, hC, hb, k1, hm, hp⟩ := cuk_zeroA k0
      have k2 : ¬ Sg.Inn H V C y x 0 := by
        intro k2
        apply k
        unfold atE Sg.ixE
        rw [if_pos k0, if_pos k1, if_pos k2]
      have e1 : atE H V C y x m N = 1 := by
        unfold atE Sg.ixE
        rw [if_pos k0, if_pos k1, if_neg k2]
      rw [e1]
      refine (rat_arg H V C y x ao m cap N w rd k0 ?_).mono ?_
      · unfold Sg.Inn at k2; omega
      · rintro e w' ⟨rfl, hb⟩
        exact ⟨_, _, rfl, wr_nilK _ _, fun g o e => (by cases e), hb⟩
    · have e1 : atE h v c y x m N = cuk h v c m N := by unfold atE; rw [if_neg k0]
      rw [e1]
      refine (rat_chk h v c y x ao m cap N w rd k0).mono ?_
      rintro e w' ⟨rfl, hb⟩
      exact ⟨_, _, rfl, wr_nilK _ _, fun g o e => (by cases e), hb⟩
theorem aS_le {h v c y x : Int} {m N : Nat} {n : Int} {k P : Nat} (hS : aS h v c y x m N = (n, k, P)) : k ≤ 16777216 := by
  unfold aS at hS
  by_cases k : atE h v c y x m N = 0
  · obtain ⟨H, V, C, rfl, rfl, rfl, _, _, hC, _⟩ := cuk_zeroA (atE_zero k).1
    rw [if_pos k, Int.toNat_natCast] at hS
    cases hS
    unfold nw; omega
  · rw [if_neg k] at hS; cases hS; omega
end Go.Proofs.Ytgmildjfikgkmaa
