import Derived.Test.YtlocmnaojebogaaQABoundRows
import Derived.Test.YtlocmnaojebogaaQBBoundRows
/- BoundRows: mathematics. -/
namespace Go.Proofs.Ytlocmnaojebogaa
open Go.RowKit

/-- How many of the first k weights are above 0; below 0. -/
def cP (f : Nat → Int) : Nat → Nat
  | 0 => 0
  | k + 1 => cP f k + if 0 < f k then 1 else 0
def cM (f : Nat → Int) : Nat → Nat
  | 0 => 0
  | k + 1 => cM f k + if f k < 0 then 1 else 0
theorem cP_le (f : Nat → Int) : ∀ k, cP f k + cM f k ≤ k
  | 0 => Nat.le_refl _
  | k + 1 => by
    have := cP_le f k
    simp only [cP, cM]
    by_cases h : 0 < f k
    · rw [if_pos h, if_neg (by omega)]; omega
    · rw [if_neg h]; split <;> omega
theorem pc_pk (l : List Int) (N : Nat) : ∀ k, k ≤ N → pc (pk l N) k = cP (ia l) k
  | 0, _ => rfl
  | k + 1, h => by
    simp only [pc, cP]
    rw [pc_pk l N k (by omega), pk_bit]
    by_cases hp : 0 < ia l k
    · rw [if_pos hp]; simp [hp]; omega
    · rw [if_neg hp]; simp [hp]
theorem pc_nz (l : List Int) (N : Nat) : ∀ k, k ≤ N → pc (bn (nz l) N) k = cP (ia l) k + cM (ia l) k
  | 0, _ => rfl
  | k + 1, h => by
    simp only [pc, cP, cM]
    rw [pc_nz l N k (by omega), bn_bit]
    have hk : decide (k < N) = true := decide_eq_true (by omega)
    by_cases hp : 0 < ia l k
    · rw [if_pos hp, if_neg (by omega), hk]; simp [nz, show ia l k ≠ 0 by omega]; omega
    · by_cases hm : ia l k < 0
      · rw [if_neg hp, if_pos hm, hk]; simp [nz, show ia l k ≠ 0 by omega]; omega
      · rw [if_neg hp, if_neg hm, hk]; simp [nz, show ia l k = 0 by omega]
theorem pk_sub (l : List Int) (N : Nat) : pk l N &&& bn (nz l) N = pk l N := by
  refine Nat.eq_of_testBit_eq fun i => ?_
  rw [Nat.testBit_and, pk_bit, bn_bit]
  by_cases hp : 0 < ia l i
  · simp [nz, hp, show ia l i ≠ 0 by omega]
  · simp [hp]
theorem dck_ob4 {n g1 g2 S M : Nat} (h1 : n ≤ 16777216) (hS : S < 2 ^ n) (hM : M < 2 ^ n) (h : S &&& M = S) : dck (ob n g1 S) (ob n g2 M) = 0 := by
  have c1 := chk_ok h1 hS
  have c2 := chk_ok h1 hM
  unfold dck
  rw [if_neg (by simp [ftB, c1, c2]), if_pos h]
theorem mulS {p : Nat} {x : Int} (hp : p ≤ 300) (hx : -1000000 ≤ x ∧ x ≤ 1000000) : -300000000 ≤ (p : Int) * x ∧ (p : Int) * x ≤ 300000000 := by
  have h1 : (p : Int) * x ≤ 300 * 1000000 := by
    by_cases h0 : 0 ≤ x
    · exact Int.le_trans (Int.mul_le_mul_of_nonneg_right (show (p : Int) ≤ 300 by omega) h0) (Int.mul_le_mul_of_nonneg_left (by omega) (by decide))
    · exact Int.le_trans (Int.mul_nonpos_of_nonneg_of_nonpos (by omega) (by omega)) (by decide)
  have h2 : (p : Int) * (-x) ≤ 300 * 1000000 := by
    by_cases h0 : 0 ≤ -x
    · exact Int.le_trans (Int.mul_le_mul_of_nonneg_right (show (p : Int) ≤ 300 by omega) h0) (Int.mul_le_mul_of_nonneg_left (by omega) (by decide))
    · exact Int.le_trans (Int.mul_nonpos_of_nonneg_of_nonpos (by omega) (by omega)) (by decide)
  rw [Int.mul_neg] at h2
  omega
/-- What Row tells of packed weights. -/
theorem row_pack {l : List Int} {N g1 g2 : Nat} {lo hi : Int} (h1 : N ≤ 300) (hl : -1000000 ≤ lo) (hlh : lo ≤ hi) (hh : hi ≤ 1000000) :
    roE (ob N g1 (pk l N)) (ob N g2 (bn (nz l) N)) lo hi = 0 ∧ roL (ob N g1 (pk l N)) (ob N g2 (bn (nz l) N)) lo hi = (cP (ia l) N : Nat) * lo - (cM (ia l) N : Nat) * hi ∧ roH (ob N g1 (pk l N)) (ob N g2 (bn (nz l) N)) lo hi = (cP (ia l) N : Nat) * hi - (cM (ia l) N : Nat) * lo := by
  have hd := dck_ob4 (g1 := g1) (g2 := g2) (show N ≤ 16777216 by omega) (pk_lt l N) (bn_lt (nz l) N) (pk_sub l N)
  have e1 : rP (ob N g1 (pk l N)) = (cP (ia l) N : Nat) := by
    unfold rP
    show ((pc (pk l N) (64 * nw N) : Nat) : Int) = _
    rw [pc_above (pk_lt l N) (nw_le N), pc_pk l N N (Nat.le_refl _)]
  have e2 : rM (ob N g1 (pk l N)) (ob N g2 (bn (nz l) N)) = (cM (ia l) N : Nat) := by
    unfold rM
    show ((pc (bn (nz l) N) (64 * nw N) : Nat) : Int) - ((pc (pk l N) (64 * nw N) : Nat) : Int) = _
    rw [pc_above (pk_lt l N) (nw_le N), pc_pk l N N (Nat.le_refl _), pc_above (bn_lt (nz l) N) (nw_le N), pc_nz l N N (Nat.le_refl _)]
    omega
  have hb := cP_le (ia l) N
  generalize cP (ia l) N = P at *
  generalize cM (ia l) N = Q at *
  have eL : rL (ob N g1 (pk l N)) (ob N g2 (bn (nz l) N)) lo hi = (P : Nat) * lo - (Q : Nat) * hi := by unfold rL; rw [e1, e2]
  have eH : rH (ob N g1 (pk l N)) (ob N g2 (bn (nz l) N)) lo hi = (P : Nat) * hi - (Q : Nat) * lo := by unfold rH; rw [e1, e2]
  have m1 := mulS (p := P) (by omega) (show -1000000 ≤ lo ∧ lo ≤ 1000000 by omega)
  have m2 := mulS (p := P) (by omega) (show -1000000 ≤ hi ∧ hi ≤ 1000000 by omega)
  have m3 := mulS (p := Q) (by omega) (show -1000000 ≤ lo ∧ lo ≤ 1000000 by omega)
  have m4 := mulS (p := Q) (by omega) (show -1000000 ≤ hi ∧ hi ≤ 1000000 by omega)
  have n1 : (P : Int) * lo ≤ P * hi := Int.mul_le_mul_of_nonneg_left hlh (by omega)
  have n2 : (Q : Int) * lo ≤ Q * hi := Int.mul_le_mul_of_nonneg_left hlh (by omega)
  have e3 : roE (ob N g1 (pk l N)) (ob N g2 (bn (nz l) N)) lo hi = 0 := by
    unfold roE
    rw [if_neg (by simpa using hd), if_pos (show maR lo hi from ⟨by omega, hlh, by omega⟩), if_pos]
    rw [eL, eH]
    exact ⟨by omega, by omega, by omega⟩
  refine ⟨e3, ?_, ?_⟩
  · unfold roL; rw [if_pos e3, eL]
  · unfold roH; rw [if_pos e3, eH]
def clV (n lo hi : Int) : Int := if n < lo then lo else if n > hi then hi else n
theorem clV_in {n lo hi : Int} (h : lo ≤ hi) : lo ≤ clV n lo hi ∧ clV n lo hi ≤ hi := by unfold clV; split <;> (try split) <;> omega
theorem clamped_any (n lo hi : Int) (w : World) : Calls Try.prog 9 #[.int .i64 n, .int .i64 lo, .int .i64 hi] w fun e w' => e = .returned (.int .i64 (clV n lo hi)) ∧ w' = w := by
  unfold clV
  by_cases h1 : n < lo
  · rw [if_pos h1]
    go_enter Try.func9, Try.ntmps9
    go_wp2_with fail
    go_ret
    exact ⟨rfl, rfl⟩
  · rw [if_neg h1]
    by_cases h2 : n > hi
    · rw [if_pos h2]
      go_enter Try.func9, Try.ntmps9
      go_wp2_with fail
      go_ret
      exact ⟨rfl, rfl⟩
    · rw [if_neg h2]
      go_enter Try.func9, Try.ntmps9
      go_wp2_with fail
      go_ret
      exact ⟨rfl, rfl⟩
end Go.Proofs.Ytlocmnaojebogaa
/- BoundRows: the walk. -/
namespace Go.Proofs.Ytlocmnaojebogaa
open Go.RowKit

/-- The weights that the bytes make. -/
def wl (f : Nat → Int) (M : Nat) : List Int := (List.range M).map fun k => f k % 3 - 1
theorem wl_len (f : Nat → Int) (M : Nat) : (wl f M).length = M := by simp [wl]
theorem wl_ia {f : Nat → Int} {M k : Nat} (h : k < M) : ia (wl f M) k = f k % 3 - 1 := by unfold ia wl; simp [List.getD, h]
theorem wl_take {f : Nat → Int} {M k : Nat} (h : k < M) : (wl f M).take (k + 1) = (wl f M).take k ++ [f k % 3 - 1] := by
  rw [ia_snoc (by rw [wl_len]; exact h), wl_ia h]
/-- The sum under way. -/
def suW (f : Nat → Int) (M : Nat) (x : Nat → Int) : Nat → Int
  | 0 => 0
  | k + 1 => suW f M x k + ia (wl f M) k * x k
theorem suW_in {f : Nat → Int} {M : Nat} {x : Nat → Int} {lo hi : Int} (hx : ∀ k, lo ≤ x k ∧ x k ≤ hi) : ∀ k, k ≤ M → (cP (ia (wl f M)) k : Int) * lo - (cM (ia (wl f M)) k : Nat) * hi ≤ suW f M x k ∧ suW f M x k ≤ (cP (ia (wl f M)) k : Nat) * hi - (cM (ia (wl f M)) k : Nat) * lo
  | 0, _ => by simp [suW, cP, cM]
  | k + 1, hk => by
    have ih := suW_in (f := f) (M := M) hx k (by omega)
    have hw := wl_ia (f := f) (show k < M by omega)
    have hxk := hx k
    simp only [suW, cP, cM]
    generalize suW f M x k = s at *
    generalize cP (ia (wl f M)) k = P at *
    generalize cM (ia (wl f M)) k = Q at *
    generalize ia (wl f M) k = v at *
    have h3 : v = -1 ∨ v = 0 ∨ v = 1 := by omega
    rcases h3 with rfl | rfl | rfl
    · simp only [show ¬ (0 : Int) < -1 by decide, if_false, show (-1 : Int) < 0 by decide, if_true]
      push_cast
      simp only [Int.add_mul, Int.one_mul, Int.add_zero, Int.neg_mul]
      omega
    · simp only [show ¬ (0 : Int) < 0 by decide, if_false]
      push_cast
      simp only [Int.zero_mul, Int.add_zero]
      omega
    · simp only [show (0 : Int) < 1 by decide, if_true, show ¬ (1 : Int) < 0 by decide, if_false]
      push_cast
      simp only [Int.add_mul, Int.one_mul, Int.add_zero]
      omega
/-- The list of weights lies above the block b. -/
def L8 (W : World) (b : Nat) (vo : Option Addr) (k : Nat) (l : List Int) : Prop := ∀ i, i < k → ∃ g o, vo = some ⟨g, o, none⟩ ∧ b < g ∧ W.cell? ⟨g, o + i, none⟩ = some (.int .i8 (ia l i))
theorem L8.keep {W X : World} {b k : Nat} {vo : Option Addr} {l : List Int} (h : L8 W b vo k l) (hb : Below W.heap.size W X) : L8 X b vo k l := fun i hi => by
  obtain ⟨g, o, e, hg, c⟩ := h i hi
  exact ⟨g, o, e, hg, keepc hb c⟩
theorem L8.set {W : World} {b k : Nat} {vo : Option Addr} {l : List Int} (h : L8 W b vo k l) (j : Nat) (u : Value) : L8 (W.setCell ⟨b, j, none⟩ u) b vo k l := fun i hi => by
  obtain ⟨g, o, e, hg, c⟩ := h i hi
  exact ⟨g, o, e, hg, (World.cell?_of_block (w := W) (Below.heap_setCell _ _ _ _ (by show g ≠ b; omega))).trans c⟩
theorem du_lo {w : World} {b t : Nat} {x y : Int} (h : w.rowIs b t 2 (duf x y)) (u : Int) : (w.setCell ⟨b, 0, none⟩ (.int .i64 u)).rowIs b t 2 (duf u y) := by
  refine (h.set 0 (.int .i64 u)).congr fun i hi => ?_
  rcases i with _ | _ | i
  · rfl
  · rfl
  · omega
theorem du_hi {w : World} {b t : Nat} {x y : Int} (h : w.rowIs b t 2 (duf x y)) (u : Int) : (w.setCell ⟨b, 1, none⟩ (.int .i64 u)).rowIs b t 2 (duf x u) := by
  refine (h.set 1 (.int .i64 u)).congr fun i hi => ?_
  rcases i with _ | _ | i
  · rfl
  · rfl
  · omega
set_option maxHeartbeats 3200000 in
set_option maxRecDepth 100000 in
theorem boundRows_any (ao : Option Addr) (m cap : Nat) (f : Nat → Int) (hc : m ≤ cap) (hc2 : cap ≤ 9223372036854775807) (xo : Option Addr) (n xc : Nat) (xf : Nat → Int) (lo0 hi0 : Int) (w : World)
    (hf : ∀ k, k < m → (0 ≤ f k ∧ f k < 256) ∧ ∃ g o, ao = some ⟨g, o, none⟩ ∧ w.cell? ⟨g, o + k, none⟩ = some (.int .u8 (f k)))
    (hx : ∀ k, k < n → ∃ g o, xo = some ⟨g, o, none⟩ ∧ w.cell? ⟨g, o + k, none⟩ = some (.int .i64 (xf k))) :
    Calls Try.prog 3 #[.slice ao m cap, .slice xo n xc, duo lo0 hi0] w fun e w' => e = .returned (.bool true) ∧ Below w.heap.size w w' := by
  have HF := hid1 hf
  have HX := hid1 hx
  clear hf hx
  obtain ⟨b, hb0⟩ : ∃ b, w.heap.size = b := ⟨_, rfl⟩
  obtain ⟨M, hM⟩ : ∃ M, M = if m > 300 then 300 else m := ⟨_, rfl⟩
  have HM := hid1 hM
  have hM3 : M ≤ 300 := by rw [hM]; split <;> omega
  have hMm : M ≤ m := by rw [hM]; split <;> omega
  clear hM
  go_enter Try.func3, Try.ntmps3
  go_wp2_with fail
  refine gen_calls (fun X => Below w.heap.size w X ∧ X.rowIs b 25 2 (duf lo0 hi0)) ⟨by repeat (first | (with_reducible exact Below.refl _ _) | (with_reducible refine bl_alloc ?_ _) | (with_reducible refine Below.drew ?_) | (with_reducible refine bl_drewN ?_ _) | (with_reducible refine bl_set ?_ (by omega) _) | (with_reducible refine bl_step ?_ (by assumption))), by rw [← hb0]; exact du_new _ _ _ _⟩ ?_
  rintro X ⟨BX, RX⟩
  refine (Nn.obegun_any X).mono ?_
  rintro e w1 ⟨rfl, hb⟩
  replace BX := bl_step BX hb
  replace RX := keepr hb RX
  clear hb X
  go_upto_if 22 with fail
  go_cut [0] (fun s wx => s = .slice ao M cap ∧ wx = w1)
  case first =>
    by_cases h3 : m > 300
    · have e : M = 300 := by rw [HM.out, if_pos h3]
      subst e
      have i3 : (m : Int) > 300 := by omega
      have i4 : (300 : Int) ≤ (cap : Int) := by omega
      go_wp2_with fail
      go_meet
      exact ⟨rfl, rfl⟩
    · have e : M = m := by rw [HM.out, if_neg h3]
      subst e
      have i3 : ¬ (M : Int) > 300 := by omega
      go_wp2_with fail
      go_meet
      exact ⟨rfl, rfl⟩
  case rest =>
    obtain ⟨rfl, rfl⟩ := hcut
    have HRX := hid1 RX
    clear RX
    go_wp2_with fail
    go_loopw [7, 8] (fun v i wr => ∃ (u : Value) (k : Nat), k ≤ M ∧ v = u ∧ i = .int .i64 k ∧ wr.ownsRow (b + 1) 28 1 u k (i8s ((wl f M).take k)) ∧ Below w.heap.size w wr ∧ Hid (wr.rowIs b 25 2 (duf lo0 hi0))) (fun _ i _ => M - (intOf i).toNat)
    case atStart => exact ⟨_, 0, Nat.zero_le _, rfl, rfl, World.ownsRow_nil _ _ _ _, BX, HRX⟩
    case round =>
      clear BX HRX
      obtain ⟨v, k, hk, ev, rfl, hown, B0, HRX⟩ := hrel
      replace ev := ev.symm
      subst ev
      have lb := HRX.out.lt
      by_cases hlt : k < M
      · obtain ⟨hfk, ga, oa, rfl, c8⟩ := HF.out k (by omega)
        replace c8 := keepc B0 c8
        have ik : (k : Int) < (M : Int) := by omega
        have ik0 : (0 : Int) ≤ (k : Int) := by omega
        have HT := hid1 (wl_take (f := f) hlt)
        have hlen : ((wl f M).take k).length = k := by rw [List.length_take, wl_len]; omega
        have HO : Hid (wr.ownsRow (b + 1) 28 1 v ((wl f M).take k).length (i8s ((wl f M).take k))) := hid1 (by rw [hlen]; exact hown)
        have HLE := hid1 hlen
        generalize f k = x at *
        have hr : x.tmod 3 = x % 3 := Int.tmod_eq_emod_of_nonneg hfk.1
        have hr0 : 0 ≤ x % 3 ∧ x % 3 < 3 := by omega
        obtain ⟨r, er⟩ : ∃ r, x % 3 = r := ⟨_, rfl⟩
        rw [er] at hr hr0 HT
        clear hown hlen er
        go_wp2_with (at_builtin; refine app_one rfl _ _ rfl (b + 1) v ((wl f M).take k) (by go_simp) (HO.out.alloc _) wr.heap.size (r - 1) 1 (by go_simp) (by simp [go_sem]) (by rw [HLE.out]; omega) (by have := B0.size; simp; omega) ?_; intro v' w' hown hgrow)
        have B1 : Below w.heap.size w w' := (bl_alloc B0 _).grown hgrow (by have := B0.size; simp; omega) (fun q hq => Nat.le_trans (by omega) (HO.out.lt q hq).1)
        have RN : w'.rowIs b 25 2 (duf lo0 hi0) := (HRX.out.alloc _).of_block (hgrow.block b (by simp; omega) (fun e => by have := (HO.out.lt _ e.symm).1; omega))
        rw [HLE.out, ← HT.out] at hown
        exact ⟨⟨v', k + 1, by omega, rfl, by go_num, hown, B1, hid1 RN⟩, by simp [intOf]; omega⟩
      · have hkM : k = M := by omega
        subst hkM
        have e : (wl f k).take k = wl f k := List.take_of_length_le (by rw [wl_len]; exact Nat.le_refl _)
        rw [e] at hown
        have hown' : wr.ownsRow (b + 1) 28 1 v (wl f k).length (i8s (wl f k)) := by rw [wl_len]; exact hown
        have hvb : ∀ q, v.ownBlock = some q → b + 1 ≤ q := fun q hq => (hown'.lt q hq).1
        obtain ⟨vo, vc, rfl, hvc, hvm, -, hva, hR8⟩ := r8_own hown'
        have HL8 : Hid (L8 wr b vo k (wl f k)) := hid1 (fun i hi => by
          obtain ⟨g, o, e1, e2⟩ := hR8 i (by rw [wl_len]; exact hi)
          obtain ⟨g', e3⟩ := hva _ e1
          have := hvb g (by rw [e1]; rfl)
          exact ⟨g, o, e1, by omega, e2⟩)
        rw [wl_len] at *
        clear hown hown' e hR8 hvb hva
        have hok : Wok (wl f k) k := fun i hi => by rw [wl_ia hi]; omega
        obtain ⟨lo, hlo⟩ : ∃ lo, clV lo0 (-1000000) 1000000 = lo := ⟨_, rfl⟩
        obtain ⟨hi, hhi⟩ : ∃ hi, clV hi0 lo 1000000 = hi := ⟨_, rfl⟩
        have b1 : -1000000 ≤ lo ∧ lo ≤ 1000000 := by rw [← hlo]; exact clV_in (by decide)
        have b2 : lo ≤ hi ∧ hi ≤ 1000000 := by rw [← hhi]; exact clV_in b1.2
        have C1 := hid1 (fun W => clamped_any lo0 (-1000000) 1000000 W)
        have C2 := hid1 (fun W => clamped_any hi0 lo 1000000 W)
        rw [hlo] at C1
        rw [hhi] at C2
        have CP : Hid (∀ W, L8 W b vo k (wl f k) → Calls Try.prog 10 #[.slice vo k vc] W fun e w' => ∃ g1 g2, e = .returned (.tuple #[rwv (ob k g1 (pk (wl f k) k)) (ob k g2 (bn (nz (wl f k)) k)), .int .i64 0]) ∧ w'.rowIs g1 98 (nw k) (wf (pk (wl f k) k)) ∧ w'.rowIs g2 98 (nw k) (wf (bn (nz (wl f k)) k)) ∧ Below W.heap.size W w') := hid1 (fun W hW => by
          refine (dpack_any (wl f k) k (wl_len f k) vo vc W (by omega) (fun i hi => by obtain ⟨g, o, e1, -, e2⟩ := hW i (by rw [wl_len] at hi; exact hi); exact ⟨g, o, e1, e2⟩)).mono ?_
          rintro e w' (⟨-, g1, g2, h1, h2, h3, h4, h5, h6⟩ | ⟨h, -⟩)
          · exact ⟨g1, g2, h1, h4, h5, h6⟩
          · exact absurd hok h)
        have HRP := hid1 (fun g1 g2 => row_pack (l := wl f k) (N := k) (g1 := g1) (g2 := g2) hM3 b1.1 b2.1 b2.2)
        clear hok hlo hhi
        have l0 := du0 HRX.out
        have f0 := HRX.out.frozen 0
        go_wp2_with fail
        refine (C1.out wr).mono ?_
        rintro e wx ⟨rfl, hwx⟩
        rw [hwx]
        clear hwx
        go_upto_region 11 with fail
        refine gen_world (fun Y => Below w.heap.size w Y ∧ L8 Y b vo k (wl f k) ∧ Y.rowIs b 25 2 (duf lo hi0)) ⟨bl_set B0 (by omega) _, HL8.out.set _ _, du_lo HRX.out lo⟩ ?_
        clear HL8 HRX B0 f0 lb l0
        rintro Y ⟨BY, LY, RY⟩
        have l0 := du0 RY
        have l1 := du1 RY
        have f1 := RY.frozen 1
        go_wp2_with fail
        refine (C2.out Y).mono ?_
        rintro e wx ⟨rfl, hwx⟩
        rw [hwx]
        clear hwx
        have lb := RY.lt
        go_upto_region 12 with fail
        refine gen_world (fun Y => Below w.heap.size w Y ∧ L8 Y b vo k (wl f k) ∧ Y.rowIs b 25 2 (duf lo hi)) ⟨bl_set BY (by omega) _, LY.set _ _, du_hi RY hi⟩ ?_
        clear BY LY RY f1 lb l0 l1
        rintro Z ⟨BZ, LZ, RZ⟩
        go_wp2_with fail
        refine (CP.out Z LZ).mono ?_
        rintro e z1 ⟨g1, g2, rfl, R1, R2, hb⟩
        replace BZ := bl_step BZ hb
        replace LZ := LZ.keep hb
        replace RZ := keepr hb RZ
        obtain ⟨q, hq⟩ : ∃ q, z1.heap.size = q := ⟨_, rfl⟩
        have CR := hid1 (fun W (r1 : W.rowIs g1 98 (nw k) (wf (pk (wl f k) k))) (r2 : W.rowIs g2 98 (nw k) (wf (bn (nz (wl f k)) k))) => brow_any (ob k g1 (pk (wl f k) k)) (ob k g2 (bn (nz (wl f k)) k)) lo hi W (Rw.row r1 (pk_lt _ _) (by omega)) (Rw.row r2 (bn_lt _ _) (by omega)))
        have hrp := HRP.out g1 g2
        rw [hrp.1, hrp.2.1, hrp.2.2] at CR
        clear hb CP hrp HRP C1 C2
        go_upto_region 13 with fail
        refine gen_world (fun Y => Below w.heap.size w Y ∧ L8 Y b vo k (wl f k) ∧ Y.rowIs b 25 2 (duf lo hi) ∧ Y.rowIs g1 98 (nw k) (wf (pk (wl f k) k)) ∧ Y.rowIs g2 98 (nw k) (wf (bn (nz (wl f k)) k)) ∧ Y.rowIs q 34 4 (qf (ob k g1 (pk (wl f k) k)) (ob k g2 (bn (nz (wl f k)) k)))) ⟨by repeat (first | (with_reducible exact Below.refl _ _) | (with_reducible refine bl_alloc ?_ _) | (with_reducible refine Below.drew ?_) | (with_reducible refine bl_drewN ?_ _) | (with_reducible refine bl_set ?_ (by omega) _) | (with_reducible refine bl_step ?_ (by assumption))), LZ.keep (bl_alloc (Below.refl _ _) _), RZ.alloc _, R1.alloc _, R2.alloc _, by rw [← hq]; exact q_new z1 (ob k g1 (pk (wl f k) k)) (ob k g2 (bn (nz (wl f k)) k)) _⟩ ?_
        clear BZ LZ RZ R1 R2 hq
        rintro Y ⟨BY, LY, RY, R1, R2, RQ⟩
        have HR12 := hid1 (And.intro R1 R2)
        have a0 := q0 RQ
        have a1 := q1 RQ
        have a2 := q2 RQ
        have a3 := q3 RQ
        have l0 := du0 RY
        have l1 := du1 RY
        clear R1 R2
        dsimp only at a0 a1 a2 a3
        go_wp2_with fail
        refine (CR.out Y HR12.out.1 HR12.out.2).mono ?_
        rintro e y1 ⟨rfl, hb⟩
        replace BY := bl_step BY hb
        replace LY := LY.keep hb
        replace RY := keepr hb RY
        clear hb CR a0 a1 a2 a3 l0 l1 RQ HR12
        obtain ⟨xx, hxx⟩ : ∃ xx : Nat → Int, xx = fun j => if j < n then clV (xf j) lo hi else lo := ⟨_, rfl⟩
        have hxin : ∀ j, lo ≤ xx j ∧ xx j ≤ hi := fun j => by
          rw [hxx]
          dsimp only
          split
          · exact clV_in b2.1
          · omega
        have HXX := hid1 hxx
        have HIN := hid1 (fun j (hj : j ≤ k) => suW_in (f := f) (M := k) hxin j hj)
        have HXI := hid1 hxin
        clear hxx hxin
        obtain ⟨q2, hq2⟩ : ∃ q, y1.heap.size = q := ⟨_, rfl⟩
        obtain ⟨uL, huL⟩ : ∃ u, ((cP (ia (wl f k)) k : Nat) : Int) * lo - (cM (ia (wl f k)) k : Nat) * hi = u := ⟨_, rfl⟩
        obtain ⟨uH, huH⟩ : ∃ u, ((cP (ia (wl f k)) k : Nat) : Int) * hi - (cM (ia (wl f k)) k : Nat) * lo = u := ⟨_, rfl⟩
        rw [huL, huH]
        have HUL := hid1 huL
        have HUH := hid1 huH
        clear huL huH
        go_upto_region 14 with fail
        refine gen_world (fun Y => Below w.heap.size w Y ∧ L8 Y b vo k (wl f k) ∧ Y.rowIs b 25 2 (duf lo hi) ∧ Y.rowIs q2 25 2 (duf uL uH)) ⟨by repeat (first | (with_reducible exact Below.refl _ _) | (with_reducible refine bl_alloc ?_ _) | (with_reducible refine Below.drew ?_) | (with_reducible refine bl_drewN ?_ _) | (with_reducible refine bl_set ?_ (by omega) _) | (with_reducible refine bl_step ?_ (by assumption))), LY.keep (bl_alloc (Below.refl _ _) _), RY.alloc _, by rw [← hq2]; exact du_new _ _ _ _⟩ ?_
        clear BY LY RY hq2
        rintro Y ⟨BY, LY, RY, RQ⟩
        have K1 := hid1 LY
        have K2 := hid1 RY
        have K3 := hid1 RQ
        clear LY RY RQ
        go_wp2_with fail
        go_loopw [13, 14, 15, 16] (fun s1 s2 s3 i wy => ∃ j : Nat, j ≤ k ∧ i = .int .i64 j ∧ s1 = .int .i64 (suW f k xx j) ∧ s2 = .int .i64 ((cP (ia (wl f k)) j : Nat) * lo - (cM (ia (wl f k)) j : Nat) * hi) ∧ s3 = .int .i64 ((cP (ia (wl f k)) j : Nat) * hi - (cM (ia (wl f k)) j : Nat) * lo) ∧ Below w.heap.size w wy ∧ Hid (L8 wy b vo k (wl f k)) ∧ Hid (wy.rowIs b 25 2 (duf lo hi)) ∧ Hid (wy.rowIs q2 25 2 (duf uL uH))) (fun _ _ _ i _ => k - (intOf i).toNat)
        case atStart => exact ⟨0, Nat.zero_le _, rfl, rfl, by simp [cP, cM], by simp [cP, cM], BY, K1, K2, K3⟩
        case round =>
          clear BY K1 K2 K3
          obtain ⟨j, hj, rfl, rfl, rfl, rfl, BY, K1, K2, K3⟩ := hrel
          have ij0 : (0 : Int) ≤ (j : Int) := by omega
          by_cases hjl : j < k
          · have ij : (j : Int) < (k : Int) := by omega
            have h1 := HIN.out j hj
            have hP := cP_le (ia (wl f k)) j
            have n1 : cP (ia (wl f k)) (j + 1) = cP (ia (wl f k)) j + if 0 < ia (wl f k) j then 1 else 0 := rfl
            have n2 : cM (ia (wl f k)) (j + 1) = cM (ia (wl f k)) j + if ia (wl f k) j < 0 then 1 else 0 := rfl
            have n3 : suW f k xx (j + 1) = suW f k xx j + ia (wl f k) j * xx j := rfl
            have h3 : ia (wl f k) j = -1 ∨ ia (wl f k) j = 0 ∨ ia (wl f k) j = 1 := by rw [wl_ia hjl]; omega
            have m1 := mulS (p := cP (ia (wl f k)) j) (by omega) (show -1000000 ≤ lo ∧ lo ≤ 1000000 by omega)
            have m2 := mulS (p := cP (ia (wl f k)) j) (by omega) (show -1000000 ≤ hi ∧ hi ≤ 1000000 by omega)
            have m3 := mulS (p := cM (ia (wl f k)) j) (by omega) (show -1000000 ≤ lo ∧ lo ≤ 1000000 by omega)
            have m4 := mulS (p := cM (ia (wl f k)) j) (by omega) (show -1000000 ≤ hi ∧ hi ≤ 1000000 by omega)
            have hxj := HXI.out j
            obtain ⟨g, o, ev, hg, cv⟩ := K1.out j hjl
            have l0 := du0 K2.out
            have l1 := du1 K2.out
            obtain ⟨lw, elw⟩ : ∃ u, ((cP (ia (wl f k)) j : Nat) : Int) * lo - (cM (ia (wl f k)) j : Nat) * hi = u := ⟨_, rfl⟩
            obtain ⟨hw, ehw⟩ : ∃ u, ((cP (ia (wl f k)) j : Nat) : Int) * hi - (cM (ia (wl f k)) j : Nat) * lo = u := ⟨_, rfl⟩
            rw [elw, ehw] at h1 ⊢
            have bl : -600000000 ≤ lw ∧ lw ≤ 600000000 := by omega
            have bh : -600000000 ≤ hw ∧ hw ≤ 600000000 := by omega
            obtain ⟨sv, esv⟩ : ∃ u, suW f k xx j = u := ⟨_, rfl⟩
            rw [esv] at h1 n3 ⊢
            have bs : -600000000 ≤ sv ∧ sv ≤ 600000000 := by omega
            have NX : Hid (∀ d x : Int, d = ia (wl f k) j → x = xx j → suW f k xx (j + 1) = sv + d * x ∧ (((cP (ia (wl f k)) (j + 1) : Nat) : Int) * lo - (cM (ia (wl f k)) (j + 1) : Nat) * hi = lw + (if 0 < d then lo else if d < 0 then -hi else 0)) ∧ (((cP (ia (wl f k)) (j + 1) : Nat) : Int) * hi - (cM (ia (wl f k)) (j + 1) : Nat) * lo = hw + (if 0 < d then hi else if d < 0 then -lo else 0))) := hid1 (by
              rintro d x rfl rfl
              refine ⟨n3, ?_, ?_⟩ <;> rw [n1, n2] <;> rcases h3 with h | h | h <;> rw [h] <;> simp [Int.add_mul] <;> omega)
            have HXJ : Hid (xx j = if j < n then clV (xf j) lo hi else lo) := hid1 (by rw [HXX.out])
            obtain ⟨xv, exv⟩ : ∃ u, xx j = u := ⟨_, rfl⟩
            obtain ⟨d, ed⟩ : ∃ u, ia (wl f k) j = u := ⟨_, rfl⟩
            rw [exv] at hxj HXJ
            rw [ed] at h3 cv
            have NY := hid1 (NX.out d xv ed.symm exv.symm)
            have HEV := hid1 ev
            clear n1 n2 n3 m1 m2 m3 m4 hP h1 elw ehw esv exv ed NX ev
            go_upto_if 79 with fail
            go_cut [17] (fun s wx => s = .int .i64 xv ∧ Below wr.heap.size wr wx)
            case first =>
              by_cases hjn : j < n
              · obtain ⟨g', o', ex, cx⟩ := HX.out j hjn
                replace cx := keepc BY cx
                have ijn : (j : Int) < (n : Int) := by omega
                have CC := clamped_any (xf j) lo hi
                rw [if_pos hjn] at HXJ
                rw [← HXJ.out] at CC
                have HCC := hid1 CC
                clear CC
                subst ex
                go_upto_region 24 with fail
                go_quiet ((go_at_call 9; exact Calls.quiet_of_same (HCC.out _)))
                go_wp2_with fail
                go_meet
                exact ⟨rfl, by repeat (first | (with_reducible exact Below.refl _ _) | (with_reducible refine bl_alloc ?_ _) | (with_reducible refine Below.drew ?_) | (with_reducible refine bl_drewN ?_ _) | (with_reducible refine bl_set ?_ (by omega) _) | (with_reducible refine bl_step ?_ (by assumption)))⟩
              · have ijn : ¬ (j : Int) < (n : Int) := by omega
                rw [if_neg hjn] at HXJ
                go_wp2_with fail
                go_meet
                exact ⟨by rw [HXJ.out], Below.refl _ _⟩
            case rest =>
              obtain ⟨rfl, Bc⟩ := hcut
              replace cv := keepc Bc cv
              replace l0 := keepc Bc l0
              replace l1 := keepc Bc l1
              have HK : Hid (Below w.heap.size w wc ∧ Hid (L8 wc b vo k (wl f k)) ∧ Hid (wc.rowIs b 25 2 (duf lo hi)) ∧ Hid (wc.rowIs q2 25 2 (duf uL uH))) := hid1 (And.intro (bl_step BY Bc) (And.intro (hid1 (K1.out.keep Bc)) (And.intro (hid1 (keepr Bc K2.out)) (hid1 (keepr Bc K3.out)))))
              obtain rfl := HEV.out
              clear BY K1 K2 K3 Bc HXJ
              rcases h3 with rfl | rfl | rfl
              · go_wp2_with fail
                exact ⟨⟨j + 1, by omega, by go_num, by rw [NY.out.1]; congr 1; omega, by rw [NY.out.2.1]; congr 1 <;> (simp; try omega), by rw [NY.out.2.2]; congr 1 <;> (simp; try omega), HK.out⟩, by simp [intOf]; omega⟩
              · go_wp2_with fail
                exact ⟨⟨j + 1, by omega, by go_num, by rw [NY.out.1]; congr 1; omega, by rw [NY.out.2.1]; congr 1 <;> (simp; try omega), by rw [NY.out.2.2]; congr 1 <;> (simp; try omega), HK.out⟩, by simp [intOf]; omega⟩
              · go_wp2_with fail
                exact ⟨⟨j + 1, by omega, by go_num, by rw [NY.out.1]; congr 1; omega, by rw [NY.out.2.1]; congr 1 <;> (simp; try omega), by rw [NY.out.2.2]; congr 1 <;> (simp; try omega), HK.out⟩, by simp [intOf]; omega⟩
          · have hjk : j = k := by omega
            subst hjk
            have h1 := HIN.out j (Nat.le_refl _)
            rw [HUL.out, HUH.out] at h1 ⊢
            have m0 := du0 K3.out
            have m1 := du1 K3.out
            generalize suW f j xx j = s at *
            go_wp2_with fail
            go_ret
            exact ⟨rfl, BY⟩
end Go.Proofs.Ytlocmnaojebogaa
namespace Go.Proofs.Ytlocmnaojebogaa
open Go.ChangeShapes Go.WideShapes Go.ChangeAt Go.RowKit

set_option maxRecDepth 100000 in
theorem boundRows_lifted (os : Os) (started : os.Started) (H : Type) (enc : TypeId × Value → H) :
    ReturnsInHanded {} Try.checked os 3 .any (Rows.boundRowsSpec.pre6 enc Try.prog Try.f3 Rows.boundRowsRow.domain false) (Rows.boundRowsSpec.post enc Try.prog Try.f3 false true false false) := by
  refine returnsInHanded_of_change_sized (C := Try.checked) own started (by kernel_rfl) Try.func3
    (ChangeSpec.witness6 (enc := enc) (C := Try.checked) false ⟨#[], #[.slice none 0 0, .slice none 0 0, .agg #[.int .i64 0, .int .i64 0]], []⟩ 8 (by kernel_rfl) (by kernel_rfl) (by kernel_rfl) (by kernel_rfl)) ?_
  intro W base args ds gs before hval0 hW _ _ _
  have hval : ∀ (j : Nat) t v, Try.f3.params[j]? = some t → args[j]? = some v → Value.okWide Try.prog W .any base t v := hval0
  have hW' := hW
  obtain ⟨p, q, hA0, hV, rfl, hfz, hnd⟩ := hW
  have hA : DataW.TrodAll enc Try.prog W 0 (fun _ => true) true Try.f3.params.toList args.toList ds p := hA0
  rw [Try.params3] at hA hval
  obtain ⟨v0, vs0, d0, ds0, p0, q0, hargs, rfl, rfl, h0, r0⟩ := trodAll_cons hA
  obtain ⟨v1, vs1, d1, ds1, p1, q1, rfl, rfl, rfl, h1, r1⟩ := trodAll_cons r0
  obtain ⟨v2, vs2, d2, ds2, p2, q2, rfl, rfl, rfl, h2, r2⟩ := trodAll_cons r1
  obtain ⟨rfl, rfl, rfl⟩ := trodAll_nil r2
  obtain rfl : args = #[v0, v1, v2] := by cases args; simp_all
  obtain ⟨rfl, rfl⟩ := trodVars_none hV
  have lt0 : ∀ x ∈ p0, x.block < W.heap.size := by obtain ⟨m, hm⟩ := h0; exact DataW.trod_lt m _ _ _ hm
  have k0 := h0
  have lt1 : ∀ x ∈ p1, x.block < W.heap.size := by obtain ⟨m, hm⟩ := h1; exact DataW.trod_lt m _ _ _ hm
  have k1 := h1
  have lt2 : ∀ x ∈ p2, x.block < W.heap.size := by obtain ⟨m, hm⟩ := h2; exact DataW.trod_lt m _ _ _ hm
  have k2 := h2
  obtain ⟨ao0, m0, c0, fn0, rfl, hm0, hc0, f0⟩ := open_u8s (hval 0 22 v0 rfl rfl) h0
  obtain ⟨ao1, m1, c1, fn1, rfl, hm1, hc1, f1⟩ := open_i64x (hval 1 23 v1 rfl rfl) h1
  obtain ⟨a2, b2, rfl⟩ := open_rch (hval 2 25 v2 rfl rfl) h2
  clear hA0 hval0
  refine (boundRows_any ao0 m0 c0 fn0 hm0 hc0 ao1 m1 c1 fn1 a2 b2 W f0 f1).mono fun e W' ⟨he, bel⟩ => ?_
  subst he
  exact ⟨_, rfl, _, _, _, [], _, [], hW', trodAll_mk1 (shut_bool Try.underlying4 _), (trodAll_cons_mk (Below.trod laidOut (by kernel_rfl) (of_decide_eq_true (by kernel_rfl)) k0 bel lt0) (trodAll_cons_mk (Below.trod laidOut (by kernel_rfl) (of_decide_eq_true (by kernel_rfl)) k1 bel lt1) (trodAll_cons_mk (Below.trod laidOut (by kernel_rfl) (of_decide_eq_true (by kernel_rfl)) k2 bel lt2) trodAll_mk0))), rfl, bel.frame _, fun h => by cases h⟩

theorem boundRows_holds : Rows.BoundRowsSaid :=
  OpenClaim.holds_of_wide 3 Try.f3 rfl rfl rfl rfl rfl rfl rfl ⟨rfl, rfl, rfl, rfl, rfl⟩ rfl rfl rfl rfl rfl (by kernel_rfl) Try.func3 (by kernel_rfl)
    (of_decide_eq_true (by kernel_rfl)) (by unfold Func.isWrapper; first | (rw [if_pos (by decide +kernel)]; kernel_rfl) | (rw [if_neg (by decide +kernel)]; exact ⟨rfl, rfl⟩))
    (fun os started H enc _ => boundRows_lifted os started H enc)
#print axioms boundRows_holds
end Go.Proofs.Ytlocmnaojebogaa
