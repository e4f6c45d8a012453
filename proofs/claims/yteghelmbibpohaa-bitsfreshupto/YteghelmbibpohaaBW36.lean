/- Join, for every list of rows. -/
import Derived.Test.YteghelmbibpohaaBW35
namespace Go.Proofs.Yteghelmbibpohaa
open Go.RowKit

theorem least_of {P : Nat → Prop} : ∀ J, (∃ j, j < J ∧ ¬ P j) → ∃ K, K < J ∧ (∀ j, j < K → P j) ∧ ¬ P K := by
  intro J
  induction J with
  | zero => rintro ⟨j, h, _⟩; omega
  | succ J ih =>
    rintro ⟨j, h1, h2⟩
    by_cases h : ∃ j, j < J ∧ ¬ P j
    · obtain ⟨K, k1, k2, k3⟩ := ih h
      exact ⟨K, by omega, k2, k3⟩
    · have hall : ∀ i, i < J → P i := fun i hi => Classical.byContradiction fun hn => h ⟨i, hi, hn⟩
      have : j = J := by
        by_cases e : j = J
        · exact e
        · exact absurd (hall j (by omega)) h2
      subst this
      exact ⟨j, by omega, hall, h2⟩
/-- What Join answers. -/
def JS (J : Nat) (n : Nat → Int) (m N : Nat → Nat) (r : RS) : Prop :=
  (∃ K, K < J ∧ (∀ j, j < K → chk (n j) (m j) (N j) = 0) ∧ chk (n K) (m K) (N K) ≠ 0 ∧ r = rbad (chk (n K) (m K) (N K))) ∨
  ((∀ j, j < J → chk (n j) (m j) (N j) = 0) ∧ 16777216 < off (fun j => (n j).toNat) J ∧ r = rbad 2) ∨
  ((∀ j, j < J → chk (n j) (m j) (N j) = 0) ∧ off (fun j => (n j).toNat) J ≤ 16777216 ∧ r = rok (off (fun j => (n j).toNat) J) (jn (fun j => (n j).toNat) N J))
theorem JS.ex (J : Nat) (n : Nat → Int) (m N : Nat → Nat) : ∃ r, JS J n m N r := by
  by_cases h : ∃ j, j < J ∧ ¬ chk (n j) (m j) (N j) = 0
  · obtain ⟨K, h1, h2, h3⟩ := least_of J h
    exact ⟨_, .inl ⟨K, h1, h2, h3, rfl⟩⟩
  · have hall : ∀ j, j < J → chk (n j) (m j) (N j) = 0 := fun i hi => Classical.byContradiction fun hn => h ⟨i, hi, hn⟩
    by_cases h2 : 16777216 < off (fun j => (n j).toNat) J
    · exact ⟨_, .inr (.inl ⟨hall, h2, rfl⟩)⟩
    · exact ⟨_, .inr (.inr ⟨hall, by omega, rfl⟩)⟩
theorem ok_of {n : Int} {m N : Nat} (h : chk n m N = 0) : n = (n.toNat : Nat) ∧ n.toNat ≤ 16777216 ∧ m = nw n.toNat ∧ N < 2 ^ n.toNat := by
  obtain ⟨k, rfl, h2, h3, h4⟩ := chk_zero h
  rw [Int.toNat_natCast]
  exact ⟨rfl, h2, h3, h4⟩
theorem rjoin_tot (J : Nat) (n : Nat → Int) (m N : Nat → Nat) (lo : Option Addr) (cl : Nat) (ad : Nat → Option Addr) (cp : Nat → Nat) (r : RS) (hr : JS J n m N r) (w : World) (hJ : J ≤ 1048576) (h : Jo Ro w lo J n m N ad cp) (hm : ∀ j, j < J → m j ≤ 1048576) :
    Calls Try.prog 53 #[.slice lo J cl] w fun e w' => ∃ v, e = .returned v ∧ RA w.heap.size w' v r ∧ Below w.heap.size w w' := by
  have jr : (∀ j, j < J → chk (n j) (m j) (N j) = 0) → Jr w lo J (fun j => (n j).toNat) N ad cp := fun hall =>
    ⟨fun j hj => by
      obtain ⟨gl, ol, e, c, d⟩ := h.at_ j hj
      obtain ⟨e1, _, e3, _⟩ := ok_of (hall j hj)
      exact ⟨gl, ol, e, by rw [← e1]; exact c, by rw [← e3]; exact d⟩,
     fun j hj => by
      obtain ⟨_, _, e3, _⟩ := ok_of (hall j hj)
      rw [← e3]; exact h.rd j hj,
     fun j hj => (ok_of (hall j hj)).2.2.2, fun j hj => (ok_of (hall j hj)).2.1⟩
  rcases hr with ⟨K, h1, h2, h3, rfl⟩ | ⟨hall, h2, rfl⟩ | ⟨hall, h2, rfl⟩
  · refine (rjoin_bad J K n m N lo cl ad cp w hJ h1 h hm h2 h3).mono ?_
    rintro e w1 ⟨rfl, hb⟩
    exact ⟨_, rfl, ra_bad _ _ _, hb⟩
  · refine (rjoin_long J lo cl _ N ad cp w hJ (jr hall) h2).mono ?_
    rintro e w1 ⟨rfl, hb⟩
    exact ⟨_, rfl, ra_bad _ _ _, hb⟩
  · refine (rjoin_any J lo cl _ N ad cp w hJ (jr hall) h2).mono ?_
    rintro e w1 ⟨g, rfl, hle, hrow, hb⟩
    exact ⟨_, rfl, ra_ok hle h2 (jn_lt J (jr hall).lt) hrow, hb⟩
theorem join_tot (J : Nat) (n : Nat → Int) (m N : Nat → Nat) (gl cl : Nat) (ad : Nat → Option Addr) (cp : Nat → Nat) (r : RS) (hr : JS J n m N r) (w : World) (hJ : J ≤ 1048576) (h : Jo Rd w (some ⟨gl, 0, none⟩) J n m N ad cp) (hm : ∀ j, j < J → m j ≤ 1048576) :
    Calls Try.prog 13 #[.slice (some ⟨gl, 0, none⟩) J cl] w fun e w' => ∃ v, e = .returned v ∧ RA w.heap.size w' v r ∧ Below w.heap.size w w' := by
  have at0 : ∀ j, j < J → w.cell? ⟨gl, j * 2, none⟩ = some (.int .i64 (n j)) ∧ w.cell? ⟨gl, j * 2 + 1, none⟩ = some (.slice (ad j) (m j) (cp j)) := fun j hj => by
    obtain ⟨gl', ol, e, c, d⟩ := h.at_ j hj
    injection e with e
    injection e with e1 e2
    subst e1 e2
    rw [Nat.zero_add] at c d
    exact ⟨c, d⟩
  have js : (∀ j, j < J → chk (n j) (m j) (N j) = 0) → Js w gl J (fun j => (n j).toNat) N ad cp := fun hall =>
    ⟨fun j hj => by
      obtain ⟨e1, _, _, _⟩ := ok_of (hall j hj)
      rw [← e1]; exact (at0 j hj).1,
     fun j hj => by
      obtain ⟨_, _, e3, _⟩ := ok_of (hall j hj)
      rw [← e3]; exact (at0 j hj).2,
     fun j hj => by
      obtain ⟨_, _, e3, _⟩ := ok_of (hall j hj)
      rw [← e3]; exact h.rd j hj,
     fun j hj => (ok_of (hall j hj)).2.2.2, fun j hj => (ok_of (hall j hj)).2.1⟩
  rcases hr with ⟨K, h1, h2, h3, rfl⟩ | ⟨hall, h2, rfl⟩ | ⟨hall, h2, rfl⟩
  · refine (join_bad J K n m N _ cl ad cp w hJ h1 h hm h2 h3).mono ?_
    rintro e w1 ⟨rfl, hb⟩
    exact ⟨_, rfl, ra_bad _ _ _, hb⟩
  · refine (join_long J gl cl _ N ad cp w hJ (js hall) h2).mono ?_
    rintro e w1 ⟨rfl, hb⟩
    exact ⟨_, rfl, ra_bad _ _ _, hb⟩
  · refine (join_any J gl cl _ N ad cp w hJ (js hall) h2).mono ?_
    rintro e w1 ⟨g, rfl, hle, hrow, hb⟩
    exact ⟨_, rfl, ra_ok hle h2 (jn_lt J (js hall).lt) hrow, hb⟩
end Go.Proofs.Yteghelmbibpohaa
