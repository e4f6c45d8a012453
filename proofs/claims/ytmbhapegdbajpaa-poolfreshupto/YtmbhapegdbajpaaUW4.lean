/- PACKAGE pool: the numbers of what is right; pooled, Max, Min. -/
import Derived.Test.YtmbhapegdbajpaaUW3
namespace Go.Proofs.Ytmbhapegdbajpaa
open Go.RowKit Go.Shelf

/-- How often a window goes into a side. -/
def oS (n r st : Nat) : Nat := (n - r) / st + 1
theorem oS_pos (n r st : Nat) : 1 ≤ oS n r st := Nat.succ_le_succ (Nat.zero_le _)
theorem oS_le {n r st : Nat} (h : r ≤ n) (hr : 1 ≤ r) : oS n r st ≤ n := by
  have : (n - r) / st ≤ n - r := Nat.div_le_self _ _
  unfold oS; omega
theorem oS_fit {n r st y : Nat} (h : r ≤ n) (hy : y < oS n r st) : y * st + r ≤ n := by
  have h1 : y ≤ (n - r) / st := by unfold oS at hy; omega
  have h2 : y * st ≤ (n - r) / st * st := Nat.mul_le_mul_right _ h1
  have h3 : (n - r) / st * st ≤ n - r := Nat.div_mul_le_self _ _
  omega
theorem oS_one {n r : Nat} (h : r ≤ n) : oS n r 1 + r = n + 1 := by unfold oS; rw [Nat.div_one]; omega
theorem stN_fit {n r st : Nat} (h : r ≤ n) : Sg.stN n 0 0 r st = (oS n r st : Nat) := by
  unfold Sg.stN oS
  rw [if_neg (by omega)]
  have : (0 : Int) + (n : Int) + 0 - (r : Int) = ((n - r : Nat) : Int) := by omega
  rw [this]
  push_cast
  rfl
theorem stN_no {n r st : Nat} (h : ¬ r ≤ n) : Sg.stN n 0 0 r st = 0 := by
  unfold Sg.stN
  rw [if_pos (by omega)]
theorem chk_less {H V C A B : Nat} (k : Sg.chk H V C = 0) (a0 : 1 ≤ A) (a1 : A ≤ H) (b0 : 1 ≤ B) (b1 : B ≤ V) : Sg.chk A B C = 0 := by
  obtain ⟨H', V', C', e1, e2, e3, hH, hV, hC, hb⟩ := chk_nat k
  obtain rfl : H = H' := by omega
  obtain rfl : V = V' := by omega
  obtain rfl : C = C' := by omega
  have h1 : A * B * C ≤ H * V * C := Nat.mul_le_mul_right _ (Nat.mul_le_mul a1 b1)
  have h2 : ((A : Int) * (B : Int) * (C : Int)) = ((A * B * C : Nat) : Int) := by push_cast; rfl
  unfold Sg.chk
  rw [if_pos ⟨by omega, by omega, by omega⟩, h2, if_neg (by omega)]
/-- A cube and a window that may be, the window within the cube. -/
structure Pg (H V C R S y x m N : Nat) : Prop where
  hH : 1 ≤ H ∧ H ≤ 4096
  hV : 1 ≤ V ∧ V ≤ 4096
  hC : 1 ≤ C ∧ C ≤ 4096
  hR : 1 ≤ R ∧ R ≤ 15
  hS : 1 ≤ S ∧ S ≤ 15
  hy : 1 ≤ y ∧ y ≤ 15
  hx : 1 ≤ x ∧ x ≤ 15
  fH : R ≤ H
  fV : S ≤ V
  ck : Sg.chk H V C = 0
  hm : m = H * V * nw C
  pk : Pok (H * V) C N
theorem cuk_of {H V C m N : Nat} (ck : Sg.chk H V C = 0) (hm : m = H * V * nw C) (pk : Pok (H * V) C N) : cuk H V C m N = 0 := by
  unfold cuk
  rw [if_pos ck, Int.toNat_natCast, Int.toNat_natCast, Int.toNat_natCast, if_pos hm, if_pos pk]
theorem wok_of {R S y x : Nat} (hR : 1 ≤ R ∧ R ≤ 15) (hS : 1 ≤ S ∧ S ≤ 15) (hy : 1 ≤ y ∧ y ≤ 15) (hx : 1 ≤ x ∧ x ≤ 15) : Sg.WOk R S y x 0 0 0 0 := by
  unfold Sg.WOk Sg.SideOk
  omega
theorem sl_of {H V C R S y x : Nat} (ck : Sg.chk H V C = 0) (hC : 1 ≤ C ∧ C ≤ 4096) (hR : 1 ≤ R ∧ R ≤ 15) (hS : 1 ≤ S ∧ S ≤ 15) (hy : 1 ≤ y ∧ y ≤ 15) (hx : 1 ≤ x ∧ x ≤ 15) : Sg.slE H V C R S y x 0 0 0 0 C = if R ≤ H ∧ S ≤ V then 0 else 32 := by
  unfold Sg.slE
  rw [if_neg (fun h => h ck), if_neg (by omega), if_neg (fun h => h (wok_of hR hS hy hx))]
  by_cases hf : R ≤ H ∧ S ≤ V
  · have a := oS_le hf.1 hR.1 (st := y)
    have b := oS_le hf.2 hS.1 (st := x)
    have a0 := oS_pos H R y
    have b0 := oS_pos V S x
    rw [if_pos hf, stN_fit hf.1, stN_fit hf.2, chk_less ck a0 a b0 b, if_neg]
    unfold Sg.mn2
    split <;> omega
  · rw [if_neg hf]
    have h0 := Sg.mn2_is (Sg.stN H 0 0 R y) (Sg.stN V 0 0 S x)
    by_cases h1 : R ≤ H
    · have h2 : ¬ S ≤ V := fun h => hf ⟨h1, h⟩
      rw [if_pos]
      rw [stN_fit h1, stN_no h2]
      unfold Sg.mn2
      rw [if_pos (by have := oS_pos H R y; omega)]
    · rw [if_pos]
      rw [stN_no h1]
      unfold Sg.mn2
      by_cases h2 : S ≤ V
      · rw [stN_fit h2, if_neg (by omega)]
      · rw [stN_no h2]; rfl
theorem Pg.e {H V C R S y x m N : Nat} (h : Pg H V C R S y x m N) : poE H V C m N R S y x 0 0 0 0 = 0 := by
  unfold poE
  rw [cuk_of h.ck h.hm h.pk, if_neg (by omega), if_neg (fun k => k.elim (fun k => k (wok_of h.hR h.hS h.hy h.hx)) (by omega)), sl_of h.ck h.hC h.hR h.hS h.hy h.hx, if_pos ⟨h.fH, h.fV⟩]
theorem Pg.v {H V C R S y x m N : Nat} (h : Pg H V C R S y x m N) : poV H V C m N R S y x 0 0 0 0 = Sg.sle (oS H R y : Nat) (oS V S x : Nat) C 0 := by
  unfold poV
  rw [if_pos h.e, stN_fit h.fH, stN_fit h.fV]
/-- All that is right is so. -/
theorem poE_zero {h v c : Int} {m N : Nat} {r s sy sx t l b q : Int} (k : poE h v c m N r s sy sx t l b q = 0) : ∃ H V C R S y x : Nat, h = H ∧ v = V ∧ c = C ∧ r = R ∧ s = S ∧ sy = y ∧ sx = x ∧ t = 0 ∧ l = 0 ∧ b = 0 ∧ q = 0 ∧ Pg H V C R S y x m N := by
  unfold poE at k
  by_cases k1 : cuk h v c m N ≠ 0
  · rw [if_pos k1] at k; exact absurd k k1
  · rw [if_neg k1] at k
    by_cases k2 : ¬ Sg.WOk r s sy sx t l b q ∨ 0 < t ∨ 0 < l ∨ 0 < b ∨ 0 < q
    · rw [if_pos k2] at k; omega
    · rw [if_neg k2] at k
      have k3 : Sg.WOk r s sy sx t l b q := Classical.byContradiction fun x => k2 (.inl x)
      have k1' : cuk h v c m N = 0 := Classical.byContradiction fun x => k1 x
      obtain ⟨H, V, C, rfl, rfl, rfl, hH, hV, hC, _, ck, hm, pk⟩ := cuk_zeroU k1'
      obtain ⟨⟨a1, a2, a3, a4⟩, ⟨b1, b2, b3, b4⟩⟩ := k3
      obtain rfl : t = 0 := by omega
      obtain rfl : l = 0 := by omega
      obtain rfl : b = 0 := by omega
      obtain rfl : q = 0 := by omega
      obtain ⟨R, rfl⟩ := Int.eq_ofNat_of_zero_le (show 0 ≤ r by omega)
      obtain ⟨S, rfl⟩ := Int.eq_ofNat_of_zero_le (show 0 ≤ s by omega)
      obtain ⟨y, rfl⟩ := Int.eq_ofNat_of_zero_le (show 0 ≤ sy by omega)
      obtain ⟨x, rfl⟩ := Int.eq_ofNat_of_zero_le (show 0 ≤ sx by omega)
      have hR : 1 ≤ R ∧ R ≤ 15 := by omega
      have hS : 1 ≤ S ∧ S ≤ 15 := by omega
      have hy : 1 ≤ y ∧ y ≤ 15 := by omega
      have hx : 1 ≤ x ∧ x ≤ 15 := by omega
      rw [sl_of ck hC hR hS hy hx] at k
      by_cases hf : R ≤ H ∧ S ≤ V
      · exact ⟨H, V, C, R, S, y, x, rfl, rfl, rfl, rfl, rfl, rfl, rfl, rfl, rfl, rfl, rfl, ⟨hH, hV, hC, hR, hS, hy, hx, hf.1, hf.2, ck, hm, pk⟩⟩
      · rw [if_neg hf] at k; omega
/-- What is answered may be, too. -/
theorem Pg.pok {al : Bool} {H V C R S y x m N : Nat} (h : Pg H V C R S y x m N) : Pok (oS H R y * oS V S x) C (poN al N V (nw C) R S y x (oS V S x) (oS H R y * oS V S x)) := by
  intro p hp
  rw [poN_pl hp]
  have h0 := oS_pos V S x
  exact jp_c h.pk h.hR.1 h.hS.1 (oS_fit h.fH (Nat.div_lt_of_lt_mul (by rwa [Nat.mul_comm]))) (oS_fit h.fV (Nat.mod_lt _ h0))
theorem Pg.chk {H V C R S y x m N : Nat} (h : Pg H V C R S y x m N) : Sg.chk (oS H R y : Nat) (oS V S x : Nat) C = 0 :=
  chk_less h.ck (oS_pos _ _ _) (oS_le h.fH h.hR.1) (oS_pos _ _ _) (oS_le h.fV h.hS.1)
end Go.Proofs.Ytmbhapegdbajpaa
