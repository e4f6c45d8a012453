/- BOTH Packs, of every shape and list; CubePacks. -/
import Derived.Test.YtgmildjfikgkmaaKB4
import Derived.Deep.RegionHeld3
import Derived.Deep.DeepCutAuto
namespace Go.Proofs.Ytgmildjfikgkmaa
open Go.RowKit Go.Shelf

/-- What Pack tells. -/
def pE (h v c : Int) (n : Nat) : Int := if Sg.chk h v c = 0 then (if (n : Int) = Sg.elN h v c then 0 else 32) else Sg.chk h v c
/-- What is answered: shape, words, the number that they make. -/
def pS (h v c : Int) (l : List Int) (n : Nat) : Int × Int × Int × Nat × Nat := if pE h v c n = 0 then (h, v, c, h.toNat * v.toNat * nw c.toNat, js (64 * nw c.toNat) (sp l c.toNat) (h.toNat * v.toNat)) else (0, 0, 0, 0, 0)
theorem pE_zero {h v c : Int} {n : Nat} (k : pE h v c n = 0) : ∃ H V C : Nat, h = H ∧ v = V ∧ c = C ∧ Sg.chk H V C = 0 ∧ (1 ≤ H ∧ H ≤ 4096) ∧ (1 ≤ V ∧ V ≤ 4096) ∧ (1 ≤ C ∧ C ≤ 4096) ∧ n = H * V * C ∧ n ≤ 16777216 := by
  unfold pE at k
  by_cases k0 : Sg.chk h v c = 0
  · rw [if_pos k0] at k
    obtain ⟨H, V, C, rfl, rfl, rfl, hH, hV, hC, hb⟩ := chk_nat k0
    by_cases e : (n : Int) = Sg.elN H V C
    · rw [elN_nat k0] at e
      have e' : n = H * V * C := by omega
      exact ⟨H, V, C, rfl, rfl, rfl, k0, hH, hV, hC, e', by omega⟩
    · rw [if_neg e] at k; omega
  · rw [if_neg k0] at k; exact absurd k k0
theorem pE_bad {h v c : Int} {n : Nat} (k : pE h v c n ≠ 0) : (pE h v c n = if Sg.chk h v c = 0 then 32 else Sg.chk h v c) ∧ (Sg.chk h v c = 0 → (n : Int) ≠ Sg.elN h v c) := by
  unfold pE at *
  by_cases k0 : Sg.chk h v c = 0
  · rw [if_pos k0] at k ⊢
    by_cases e : (n : Int) = Sg.elN h v c
    · rw [if_pos e] at k; exact absurd rfl k
    · rw [if_neg e, if_pos k0]; exact ⟨rfl, fun _ => e⟩
  · rw [if_neg k0]; rw [if_neg k0]; exact ⟨rfl, fun q => absurd q k0⟩
theorem pS_ok {H V C : Nat} {l : List Int} {n : Nat} {a b c : Int} {m P : Nat} (k : pE H V C n = 0) (hS : pS H V C l n = (a, b, c, m, P)) : a = H ∧ b = V ∧ c = C ∧ m = H * V * nw C ∧ P = js (64 * nw C) (sp l C) (H * V) := by
  unfold pS at hS
  rw [if_pos k] at hS
  simp only [Int.toNat_natCast] at hS
  cases hS
  exact ⟨rfl, rfl, rfl, rfl, rfl⟩
theorem js_words {l : List Int} {C n : Nat} : js (64 * nw C) (sp l C) n < 2 ^ (64 * (n * nw C)) := by
  have := js_lt (s := 64 * nw C) (P := sp l C) (n := n) (fun i _ => Nat.lt_of_lt_of_le (sp_lt l C i) (pow_mono (nw_le C)))
  rwa [show n * (64 * nw C) = 64 * (n * nw C) by rw [Nat.mul_left_comm]] at this
theorem pack_all (h v c : Int) (l : List Int) (n : Nat) (hl : l.length = n) (ao : Option Addr) (cap : Nat) (w : World) (hcap : n ≤ cap) (hcap2 : cap ≤ 9223372036854775807) (rd : R8 w ao l) (a b d : Int) (m P : Nat) (E : Int) (hE : pE h v c n = E) (hS : pS h v c l n = (a, b, d, m, P)) :
    Calls Try.prog 17 #[Sg.shp h v c, .slice ao n cap] w fun e w' => ∃ bo K, e = .returned (.tuple #[cuv a b d bo m K, .int .i64 E]) ∧ Wr w' bo m P ∧ Below w.heap.size w w' := by
  subst hE
  by_cases h0 : pE h v c n = 0
  · obtain ⟨H, V, C, rfl, rfl, rfl, k0, hH, hV, hC, e1, e2⟩ := pE_zero h0
    obtain ⟨rfl, rfl, rfl, rfl, rfl⟩ := pS_ok h0 hS
    have hn0 : 0 < n := by rw [e1]; exact Nat.mul_pos (Nat.mul_pos (by omega) (by omega)) (by omega)
    obtain ⟨g, o, rfl, _⟩ := rd 0 (by omega)
    refine (cpack_ok H V C l n hl g o cap w hH hV hC e1 e2 hcap hcap2 k0 _ rfl rd).mono ?_
    rintro e w' ⟨G, rfl, _, row, hb⟩
    exact ⟨_, _, by rw [h0], Wr.row row js_words, hb⟩
  · have hS' := hS
    unfold pS at hS'
    rw [if_neg h0] at hS'
    cases hS'
    obtain ⟨q1, q2⟩ := pE_bad h0
    refine (cpack_bad h v c ao n cap w _ q1 q2).mono ?_
    rintro e w' ⟨rfl, hb⟩
    exact ⟨_, _, rfl, ⟨by decide, fun k hk => absurd hk (by omega)⟩, hb⟩
theorem rpack_all (h v c : Int) (l : List Int) (n : Nat) (hl : l.length = n) (ao : Option Addr) (cap : Nat) (w : World) (rd : R8 w ao l) (a b d : Int) (m P : Nat) (E : Int) (hE : pE h v c n = E) (hS : pS h v c l n = (a, b, d, m, P)) :
    Calls Try.prog 18 #[Sg.shp h v c, .slice ao n cap] w fun e w' => ∃ bo K, e = .returned (.tuple #[cuv a b d bo m K, .int .i64 E]) ∧ Wr w' bo m P ∧ (∀ g o, bo = some ⟨g, o, none⟩ → w.heap.size ≤ g) ∧ Below w.heap.size w w' := by
  subst hE
  by_cases h0 : pE h v c n = 0
  · obtain ⟨H, V, C, rfl, rfl, rfl, k0, hH, hV, hC, e1, e2⟩ := pE_zero h0
    obtain ⟨rfl, rfl, rfl, rfl, rfl⟩ := pS_ok h0 hS
    refine (rpack_ok H V C l n hl ao cap w hH hV hC e1 e2 k0 _ rfl rd).mono ?_
    rintro e w' ⟨G, rfl, hG, row, hb⟩
    exact ⟨_, _, by rw [h0], Wr.row row js_words, fun g o e => (by cases e; exact hG), hb⟩
  · have hS' := hS
    unfold pS at hS'
    rw [if_neg h0] at hS'
    cases hS'
    obtain ⟨q1, q2⟩ := pE_bad h0
    refine (rpack_bad h v c ao n cap w _ q1 q2).mono ?_
    rintro e w' ⟨rfl, hb⟩
    exact ⟨_, _, rfl, ⟨by decide, fun k hk => absurd hk (by omega)⟩, fun g o e => (by cases e), hb⟩
theorem pS_le {h v c : Int} {l : List Int} {n : Nat} {a b d : Int} {m P : Nat} (hS : pS h v c l n = (a, b, d, m, P)) : m ≤ 9223372036854775807 := by
  by_cases h0 : pE h v c n = 0
  · obtain ⟨H, V, C, rfl, rfl, rfl, k0, hH, hV, hC, e1, e2⟩ := pE_zero h0
    obtain ⟨_, _, _, rfl, _⟩ := pS_ok h0 hS
    have := (wo_bd hH.2 hV.2 hC.2).2
    omega
  · unfold pS at hS
    rw [if_neg h0] at hS
    cases hS
    omega
end Go.Proofs.Ytgmildjfikgkmaa
