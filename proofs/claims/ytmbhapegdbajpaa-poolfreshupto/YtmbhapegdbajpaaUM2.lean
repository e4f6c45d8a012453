/- A WINDOW OVER A WINDOW; ALL TURNED; JOINED BY THE GREATER: plain mathematics. -/
import Derived.Test.YtmbhapegdbajpaaUM1
namespace Go.Proofs.Ytmbhapegdbajpaa

theorem beq_iff {a b : Bool} (h : a = true ↔ b = true) : a = b := by cases a <;> cases b <;> simp_all
/-- A quantifier over a quantifier, summed. -/
theorem qs_sum (al : Bool) (f : Nat → Bool) (m n : Nat) (hm : 0 < m) (hn : 0 < n) : qs al (fun i => qs al (fun k => f (i + k)) n) m = qs al f (m + n - 1) := by
  refine beq_iff ?_
  cases al
  · rw [qs_false, qs_false]
    constructor
    · rintro ⟨i, hi, h⟩
      obtain ⟨k, hk, h⟩ := (qs_false _ _).1 h
      exact ⟨i + k, by omega, h⟩
    · rintro ⟨j, hj, h⟩
      by_cases e : j < m
      · exact ⟨j, e, (qs_false _ _).2 ⟨0, hn, h⟩⟩
      · exact ⟨m - 1, by omega, (qs_false _ _).2 ⟨j - (m - 1), by omega, by rw [show m - 1 + (j - (m - 1)) = j by omega]; exact h⟩⟩
  · rw [qs_true, qs_true]
    constructor
    · intro h j hj
      by_cases e : j < m
      · exact (qs_true _ _).1 (h j e) 0 hn
      · have := (qs_true _ _).1 (h (m - 1) (by omega)) (j - (m - 1)) (by omega)
        rwa [show m - 1 + (j - (m - 1)) = j by omega] at this
    · intro h i hi
      exact (qs_true _ _).2 fun k hk => h (i + k) (by omega)
theorem qs_swap (al : Bool) (f : Nat → Nat → Bool) (m n : Nat) : qs al (fun i => qs al (fun k => f i k) n) m = qs al (fun k => qs al (fun i => f i k) m) n := by
  refine beq_iff ?_
  cases al
  · rw [qs_false, qs_false]
    constructor
    · rintro ⟨i, hi, h⟩
      obtain ⟨k, hk, h⟩ := (qs_false _ _).1 h
      exact ⟨k, hk, (qs_false _ _).2 ⟨i, hi, h⟩⟩
    · rintro ⟨k, hk, h⟩
      obtain ⟨i, hi, h⟩ := (qs_false _ _).1 h
      exact ⟨i, hi, (qs_false _ _).2 ⟨k, hk, h⟩⟩
  · rw [qs_true, qs_true]
    constructor
    · intro h k hk
      exact (qs_true _ _).2 fun i hi => (qs_true _ _).1 (h i hi) k hk
    · intro h i hi
      exact (qs_true _ _).2 fun k hk => (qs_true _ _).1 (h k hk) i hi
theorem pl_ext {A B d : Nat} (hA : A < 2 ^ (64 * d)) (hB : B < 2 ^ (64 * d)) (h : ∀ b, b < 64 * d → A.testBit b = B.testBit b) : A = B := by
  refine Nat.eq_of_testBit_eq fun b => ?_
  by_cases e : b < 64 * d
  · exact h b e
  · rw [bit_above hA (by omega), bit_above hB (by omega)]
theorem poN_ext {al al' : Bool} {N N' V V' d R R' S S' sy sy' sx sx' OH OW : Nat}
    (h : ∀ y, y < OH → ∀ x, x < OW → ∀ b, b < 64 * d → (jp al N V d R S sy sx y x).testBit b = (jp al' N' V' d R' S' sy' sx' y x).testBit b) :
    poN al N V d R S sy sx OW (OH * OW) = poN al' N' V' d R' S' sy' sx' OW (OH * OW) := by
  refine js_congr _ fun p hp => ?_
  have h0 : 0 < OW := by
    rcases Nat.eq_zero_or_pos OW with e | e
    · subst e; simp at hp
    · exact e
  exact pl_ext (jp_lt _ _ _ _ _ _ _ _ _ _) (jp_lt _ _ _ _ _ _ _ _ _ _) (h _ (Nat.div_lt_of_lt_mul (by rwa [Nat.mul_comm])) _ (Nat.mod_lt _ h0))
theorem po_twice {al : Bool} {N V d Rw Sw Rv Sv OH1 OW1 OH2 OW2 : Nat} (a1 : 0 < Rw) (a2 : 0 < Sw) (a3 : 0 < Rv) (a4 : 0 < Sv) (b2 : OW1 + Sw = V + 1) (b3 : OH2 + Rv = OH1 + 1) (b4 : OW2 + Sv = OW1 + 1) :
    poN al (poN al N V d Rw Sw 1 1 OW1 (OH1 * OW1)) OW1 d Rv Sv 1 1 OW2 (OH2 * OW2) = poN al N V d (Rv + Rw - 1) (Sv + Sw - 1) 1 1 OW2 (OH2 * OW2) := by
  refine poN_ext fun y hy x hx b hb => ?_
  rw [jp_bit hb a3 a4 (by omega), jp_bit hb (by omega) (by omega) (by omega)]
  have e1 : ∀ j, j < Sv → qs al (fun i => pbt (poN al N V d Rw Sw 1 1 OW1 (OH1 * OW1)) OW1 d (y * 1 + i) (x * 1 + j) b) Rv
      = qs al (fun j' => (fun z => qs al (fun i => pbt N V d (y * 1 + i) (x * 1 + z) b) (Rv + Rw - 1)) (j + j')) Sw := by
    intro j hj
    have e2 : ∀ i, i < Rv → pbt (poN al N V d Rw Sw 1 1 OW1 (OH1 * OW1)) OW1 d (y * 1 + i) (x * 1 + j) b = qs al (fun j' => qs al (fun i' => pbt N V d ((y * 1 + i) * 1 + i') ((x * 1 + j) * 1 + j') b) Rw) Sw := fun i hi =>
      poN_bit hb a1 a2 (by omega) (by omega) (by omega)
    rw [qs_congr _ e2, qs_swap]
    refine qs_congr _ fun j' hj' => ?_
    dsimp only
    rw [← qs_sum al (fun i => pbt N V d (y * 1 + i) (x * 1 + (j + j')) b) Rv Rw a3 a1]
    refine qs_congr _ fun i hi => qs_congr _ fun i' hi' => ?_
    rw [show (y * 1 + i) * 1 + i' = y * 1 + (i + i') by omega, show (x * 1 + j) * 1 + j' = x * 1 + (j + j') by omega]
  rw [qs_congr _ e1, qs_sum al (fun z => qs al (fun i => pbt N V d (y * 1 + i) (x * 1 + z) b) (Rv + Rw - 1)) Sv Sw a4 a2]
theorem po_one {al : Bool} {N V d H : Nat} (hN : N < 2 ^ (64 * (H * V * d))) : poN al N V d 1 1 1 1 V (H * V) = N := by
  have e : poN al N V d 1 1 1 1 V (H * V) = js (64 * d) (pl N d) (H * V) := by
    refine js_congr _ fun p hp => ?_
    have h0 : 0 < V := by
      rcases Nat.eq_zero_or_pos V with e | e
      · subst e; simp at hp
      · exact e
    refine pl_ext (jp_lt _ _ _ _ _ _ _ _ _ _) (pl_lt _ _ _) fun b hb => ?_
    have h1 := Nat.mod_lt p h0
    rw [jp_bit hb (by omega) (by omega) (by omega), qs_one, qs_one, pl_bit]
    unfold pbt
    have e : (p / V * 1 + 0) * V + (p % V * 1 + 0) = p := by
      rw [Nat.mul_one, Nat.add_zero, Nat.mul_one, Nat.add_zero, Nat.mul_comm]; exact Nat.div_add_mod p V
    rw [e]
    simp [hb]
  rw [e]
  exact pl_js hN
theorem qs_not (al : Bool) (f : Nat → Bool) : ∀ n, qs (!al) (fun i => !(f i)) n = !(qs al f n)
  | 0 => by simp [qs]
  | n + 1 => by simp only [qs]; rw [qs_not al f n]; cases al <;> simp [bj]
end Go.Proofs.Ytmbhapegdbajpaa
