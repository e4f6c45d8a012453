/- PACKAGE PLAIN: what reads lists alone: within, sum, highest, greatest. -/
import Derived.Test.YtlgjoepeibodkaaGreatSW1
namespace Go.Proofs.YtlgjoepeibodkaaGreat.Nn
open Go.RowKit

/-- A list of numbers of 64 bits lies in memory. -/
def R64 (W : World) (ao : Option Addr) (m : Nat) (f : Nat → Int) : Prop := ∀ k, k < m → ∃ (g o : Nat), ao = some ⟨g, o, none⟩ ∧ W.cell? ⟨g, o + k, none⟩ = some (.int .i64 (f k))
/-- A list of numbers of 8 bits lies in memory. -/
def R8 (W : World) (ao : Option Addr) (m : Nat) (f : Nat → Int) : Prop := ∀ k, k < m → ∃ (g o : Nat), ao = some ⟨g, o, none⟩ ∧ W.cell? ⟨g, o + k, none⟩ = some (.int .i8 (f k))
def smV (f g : Nat → Int) : Nat → Int
  | 0 => 0
  | k + 1 => smV f g k + f k * g k
theorem sm_bd {f g : Nat → Int} {m : Nat} (hf : ∀ k, k < m → -1 ≤ f k ∧ f k ≤ 1) (hg : ∀ k, k < m → -128 ≤ g k ∧ g k ≤ 128) : ∀ k, k ≤ m → -(128 * (k : Int)) ≤ smV f g k ∧ smV f g k ≤ 128 * (k : Int)
  | 0, _ => by simp [smV]
  | k + 1, h => by
    have ih := sm_bd hf hg k (by omega)
    have a := hf k (by omega)
    have b := hg k (by omega)
    unfold smV
    have e : f k = -1 ∨ f k = 0 ∨ f k = 1 := by omega
    rcases e with e | e | e <;> rw [e] <;> constructor <;> omega
theorem pr_bd {x y : Int} (hx : -1 ≤ x ∧ x ≤ 1) (hy : -128 ≤ y ∧ y ≤ 128) : -128 ≤ x * y ∧ x * y ≤ 128 := by
  have e : x = -1 ∨ x = 0 ∨ x = 1 := by omega
  rcases e with rfl | rfl | rfl <;> constructor <;> omega
set_option maxRecDepth 100000 in
theorem within_any (a b c : Int) (ha : -1099511627776 ≤ a ∧ a ≤ 1099511627776) (hc : -1099511627776 ≤ c ∧ c ≤ 1099511627776) (w : World) :
    Calls Tryz.prog 90 #[.int .i64 a, .int .i64 b, .int .i64 c] w fun e w' => e = .returned (.tuple #[.int .i64 (max 0 (-a)), .int .i64 (min b (c - a))]) ∧ w' = w := by
  have e1 : wrap64 (c - a) = c - a := by unfold wrap64; omega
  have e2 : wrap64 (-a) = -a := by unfold wrap64; omega
  go_enter Tryz.func90, Tryz.ntmps90
  go_wp2
  all_goals
    go_ret2
    refine ⟨?_, rfl⟩
    (first | rw [show max 0 (-a) = -a by omega] | rw [show max 0 (-a) = 0 by omega])
    (first | rw [show min b (c - a) = b by omega] | rw [show min b (c - a) = c - a by omega])
    rfl
set_option maxHeartbeats 800000 in
set_option maxRecDepth 100000 in
theorem sum_any (wo xo : Option Addr) (m cw n cx : Nat) (f g : Nat → Int) (w : World) (hm : m ≤ 16777216) (hn : m ≤ n) (hn2 : n ≤ 9223372036854775807) (h1 : R8 w wo m f) (h2 : R64 w xo n g) (hf : ∀ k, k < m → -1 ≤ f k ∧ f k ≤ 1) (hg : ∀ k, k < m → -128 ≤ g k ∧ g k ≤ 128) :
    Calls Tryz.prog 79 #[.slice wo m cw, .slice xo n cx] w fun e w' => e = .returned (.int .i64 (smV f g m)) ∧ w' = w := by
  have H1 := hid1 h1
  have H2 := hid1 h2
  have HF := hid1 hf
  have HG := hid1 hg
  have HB := hid1 (fun k (h : k ≤ m) => sm_bd hf hg k h)
  clear h1 h2 hf hg
  go_enter Tryz.func79, Tryz.ntmps79
  go_wp2
  go_loop [5, 10] (fun t i => ∃ (k : Nat) (v : Int), k ≤ m ∧ i = .int .i64 k ∧ t = .int .i64 v ∧ Hid (v = smV f g k)) (fun _ i => m - (intOf i).toNat)
  case atStart => exact ⟨0, 0, Nat.zero_le _, rfl, rfl, hid1 rfl⟩
  case round =>
    obtain ⟨k, v, hk, rfl, rfl, HV⟩ := hrel
    have ik0 : (0 : Int) ≤ (k : Int) := by omega
    by_cases hlt : k < m
    · have hlt' : (k : Int) < (m : Int) := by omega
      have hlt2 : (k : Int) < (n : Int) := by omega
      obtain ⟨g1, o1, rfl, c1⟩ := H1.out k hlt
      obtain ⟨g2, o2, rfl, c2⟩ := H2.out k (by omega)
      have b0 := HB.out k (by omega)
      rw [← HV.out] at b0
      have b3 := pr_bd (HF.out k hlt) (HG.out k hlt)
      have b4 := HF.out k hlt
      have HN : Hid (v + f k * g k = smV f g (k + 1)) := hid1 (by rw [HV.out]; rfl)
      obtain ⟨x, ex⟩ : ∃ x, f k = x := ⟨_, rfl⟩
      obtain ⟨y, ey⟩ : ∃ y, g k = y := ⟨_, rfl⟩
      rw [ex] at c1 b3 b4 HN
      rw [ey] at c2 b3 HN
      have e1 : wrap64 x = x := by unfold wrap64; omega
      have e2 : wrap64 (x * y) = x * y := by unfold wrap64; omega
      have e3 : wrap64 (v + x * y) = v + x * y := by unfold wrap64; omega
      replace HN : Hid (wrap64 (v + x * y) = smV f g (k + 1)) := hid1 (by rw [e3]; exact HN.out)
      clear ex ey b0 b3 b4 e3
      go_wp2_with fail
      exact ⟨⟨k + 1, _, by omega, by go_num, rfl, HN⟩, by simp [intOf]; omega⟩
    · obtain rfl : k = m := by omega
      go_wp2
      go_ret
      exact ⟨by rw [HV.out]; rfl, rfl⟩
/-- The greatest of the first numbers, each step apart. -/
def hiV (f : Nat → Int) (c s : Nat) : Nat → Int
  | 0 => f c
  | j + 1 => max (hiV f c s j) (f (c + (j + 1) * s))
set_option maxHeartbeats 800000 in
set_option maxRecDepth 100000 in
theorem highest_any (xo : Option Addr) (n cx c s p : Nat) (f : Nat → Int) (w : World) (hn : n ≤ 16777216) (hs : 0 < s) (hc : c < s) (hp : n = (p + 1) * s) (h : R64 w xo n f) :
    Calls Tryz.prog 54 #[.slice xo n cx, .int .i64 c, .int .i64 s] w fun e w' => e = .returned (.int .i64 (hiV f c s p)) ∧ w' = w := by
  have H := hid1 h
  have hsn : s ≤ n := by rw [hp, Nat.add_mul]; omega
  have HP := hid1 hp
  clear hp
  have hcn : (c : Int) < (n : Int) := by omega
  have c0 : (0 : Int) ≤ (c : Int) := by omega
  obtain ⟨g1, o1, rfl, cc⟩ := H.out c (by omega)
  have e0 : wrap64 ((c : Int) + (s : Int)) = (c : Int) + (s : Int) := by unfold wrap64; omega
  clear h
  go_enter Tryz.func54, Tryz.ntmps54
  go_wp2
  go_loop [7, 8] (fun t i => ∃ (j : Nat) (v : Int), j ≤ p ∧ i = .int .i64 ((c + (j + 1) * s : Nat) : Int) ∧ t = .int .i64 v ∧ Hid (v = hiV f c s j)) (fun _ i => n + s - (intOf i).toNat)
  case atStart => exact ⟨0, _, Nat.zero_le _, by simp, rfl, hid1 rfl⟩
  case round =>
    obtain ⟨j, v, hj, rfl, rfl, HV⟩ := hrel
    by_cases hlt : j < p
    · have hm : (j + 1) * s + s ≤ n := by
        rw [HP.out]
        have : (j + 1 + 1) * s ≤ (p + 1) * s := Nat.mul_le_mul_right s (by omega)
        rw [Nat.add_mul (j + 1) 1 s] at this
        omega
      have HN : Hid (max v (f (c + (j + 1) * s)) = hiV f c s (j + 1)) := hid1 (by rw [HV.out]; rfl)
      have es : c + (j + 1 + 1) * s = c + (j + 1) * s + s := by rw [Nat.add_mul (j + 1) 1 s]; omega
      obtain ⟨q, eq⟩ : ∃ q, c + (j + 1) * s = q := ⟨_, rfl⟩
      have ES := hid1 es
      rw [eq] at HN ES ⊢
      have q0 : (0 : Int) ≤ (q : Int) := by omega
      have q1 : (q : Int) < (n : Int) := by omega
      have qn : q < n := by omega
      have qs : q + s ≤ n + s := by omega
      obtain ⟨g2, o2, e2, cq⟩ := H.out q (by omega)
      obtain ⟨rfl, rfl⟩ : g1 = g2 ∧ o1 = o2 := by
        injection e2 with e2
        injection e2 with e1 e2
        exact ⟨e1, e2⟩
      have e3 : wrap64 ((q : Int) + (s : Int)) = (q : Int) + (s : Int) := by unfold wrap64; omega
      clear e2 hm es eq
      go_wp2_with fail
      all_goals
        refine ⟨⟨j + 1, _, by omega, by rw [ES.out]; simp, rfl, hid1 ?_⟩, by simp [intOf]; omega⟩
        rw [← HN.out]
        omega
    · obtain rfl : j = p := by omega
      have hge : ¬ (((c + (j + 1) * s : Nat) : Int) < (n : Int)) := by have := HP.out; omega
      have hge1 : decide (((c + (j + 1) * s : Nat) : Int) < (n : Int)) = false := decide_eq_false hge
      obtain ⟨q, eq⟩ : ∃ q, c + (j + 1) * s = q := ⟨_, rfl⟩
      rw [eq] at hge hge1 ⊢
      go_wp2
      go_ret
      exact ⟨by rw [HV.out]; rfl, rfl⟩
/-- The place of the greatest of the first numbers, of several the lowest. -/
def grV (f : Nat → Int) : Nat → Nat
  | 0 => 0
  | k + 1 => if f k > f (grV f k) then k else grV f k
theorem gr_lt (f : Nat → Int) : ∀ k, grV f k ≤ k - 1
  | 0 => by simp [grV]
  | k + 1 => by
    unfold grV
    have := gr_lt f k
    split <;> omega
set_option maxHeartbeats 800000 in
set_option maxRecDepth 100000 in
theorem greatest_any (xo : Option Addr) (n cx : Nat) (f : Nat → Int) (w : World) (hn : n ≤ 16777216) (h : R64 w xo n f) :
    Calls Tryz.prog 23 #[.slice xo n cx] w fun e w' => e = .returned (.int .i64 (grV f n)) ∧ w' = w := by
  have H := hid1 h
  clear h
  go_enter Tryz.func23, Tryz.ntmps23
  go_wp2
  go_loop [3, 8] (fun t i => ∃ (k a : Nat), k ≤ n ∧ i = .int .i64 k ∧ t = .int .i64 a ∧ Hid (a = grV f k)) (fun _ i => n - (intOf i).toNat)
  case atStart => exact ⟨0, 0, Nat.zero_le _, rfl, rfl, hid1 rfl⟩
  case round =>
    obtain ⟨k, a, hk, rfl, rfl, HA⟩ := hrel
    have ik0 : (0 : Int) ≤ (k : Int) := by omega
    by_cases hlt : k < n
    · have hlt' : (k : Int) < (n : Int) := by omega
      have al := gr_lt f k
      rw [← HA.out] at al
      have a0 : (0 : Int) ≤ (a : Int) := by omega
      have a1 : (a : Int) < (n : Int) := by omega
      obtain ⟨g1, o1, rfl, c1⟩ := H.out k hlt
      obtain ⟨g2, o2, e2, c2⟩ := H.out a (by omega)
      obtain ⟨rfl, rfl⟩ : g1 = g2 ∧ o1 = o2 := by
        injection e2 with e2
        injection e2 with e1 e2
        exact ⟨e1, e2⟩
      clear e2
      by_cases hg : f k > f a
      · have HN : Hid (k = grV f (k + 1)) := hid1 (by
          conv => rhs; unfold grV
          rw [← HA.out, if_pos hg])
        go_wp2_with fail
        exact ⟨⟨k + 1, k, by omega, by go_num, rfl, HN⟩, by simp [intOf]; omega⟩
      · have HN : Hid (a = grV f (k + 1)) := hid1 (by
          conv => rhs; unfold grV
          rw [← HA.out, if_neg hg])
        have hg1 : decide (f k > f a) = false := decide_eq_false hg
        have hg2 : decide (f a < f k) = false := decide_eq_false hg
        clear hg
        go_wp2_with fail
        exact ⟨⟨k + 1, a, by omega, by go_num, rfl, HN⟩, by simp [intOf]; omega⟩
    · obtain rfl : k = n := by omega
      go_wp2
      go_ret
      exact ⟨by rw [HA.out]; rfl, rfl⟩
end Go.Proofs.YtlgjoepeibodkaaGreat.Nn
