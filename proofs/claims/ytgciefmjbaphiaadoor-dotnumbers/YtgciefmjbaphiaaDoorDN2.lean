/- DotNumbers: what both Planes give; the twins of eight planes. -/
import Derived.Test.YtgciefmjbaphiaaDoorDN1
import Derived.Test.YtgciefmjbaphiaaDoorDR6
import Derived.Test.YtgciefmjbaphiaaDoorDR7
import Derived.Test.YtgciefmjbaphiaaDoorDS1
namespace Go.Proofs.YtgciefmjbaphiaaDoor
open Go.RowKit

/-- What a plane is. -/
def exn (N : Nat) : Int := if N ≤ 16777216 then N else 0
def exm (N : Nat) : Nat := if N ≤ 16777216 then nw N else 0
def exN (l : List Int) (N k : Nat) : Nat := if N ≤ 16777216 then bn (plb l k) N else 0
def exE (N : Nat) : Int := if N ≤ 16777216 then 0 else 2
def Ex (l : List Int) (N k : Nat) (b : Bt) : Prop := b.n = exn N ∧ b.m = exm N ∧ b.N = exN l N k
theorem Rw.ru {w : World} {b : Bt} (h : Rw w b) : RU w b.ao b.m b.N := h.2.2
theorem rz_zb (w : World) : Rz w zb := ⟨⟨by simp [zb], by simp [zb], fun k hk => absurd hk (by simp [zb])⟩, fun _ => rfl, by simp [zb]⟩
theorem ex_zb {l : List Int} {N : Nat} (h : 16777216 < N) (k : Nat) : Ex l N k zb := by
  unfold Ex exn exm exN
  rw [if_neg (by omega), if_neg (by omega), if_neg (by omega)]
  exact ⟨rfl, rfl, rfl⟩
theorem planes_w (l : List Int) (N : Nat) (hN : l.length = N) (ao : Option Addr) (cap : Nat) (w : World) (h2 : N ≤ 9223372036854775807) (h : R8 w ao l) :
    Calls Tryd.prog 13 #[.slice ao N cap] w fun e w' => ∃ P, e = .returned (.tuple #[pv P, .int .i64 (exE N)]) ∧ (∀ k, k < 8 → Ex l N k (P k) ∧ RU w' (P k).ao (P k).m (P k).N) ∧ Below w.heap.size w w' := by
  by_cases h1 : N ≤ 16777216
  · refine (planes_any l N hN ao cap w h1 h).mono ?_
    rintro e w' ⟨G, rfl, hG, _, hb⟩
    refine ⟨fun p => ob N (G p) (bn (plb l p) N), by unfold exE; rw [if_pos h1], fun k hk => ⟨?_, ?_⟩, hb⟩
    · unfold Ex exn exm exN
      rw [if_pos h1, if_pos h1, if_pos h1]
      exact ⟨rfl, rfl, rfl⟩
    · intro j hj
      exact ⟨G k, 0, rfl, by rw [Nat.zero_add]; exact (hG k hk).2.cell hj⟩
  · refine (planes_long N ao cap w (by omega) h2).mono ?_
    rintro e w' ⟨rfl, hb⟩
    refine ⟨fun _ => zb, by unfold exE; rw [if_neg h1], fun k _ => ⟨ex_zb (by omega) k, (rz_zb w').1.ru⟩, hb⟩
theorem rplanes_w (l : List Int) (N : Nat) (hN : l.length = N) (ao : Option Addr) (cap : Nat) (w : World) (h2 : N ≤ 9223372036854775807) (hy : ∀ y ∈ l, -128 ≤ y ∧ y ≤ 127) (h : R8 w ao l) :
    Calls Tryd.prog 32 #[.slice ao N cap] w fun e w' => ∃ P, e = .returned (.tuple #[pv P, .int .i64 (exE N)]) ∧ (∀ k, k < 8 → Ex l N k (P k) ∧ Rz w' (P k)) ∧ Below w.heap.size w w' := by
  by_cases h1 : N ≤ 16777216
  · refine (rplanes_any l N hN ao cap w h1 hy h).mono ?_
    rintro e w' ⟨G, rfl, hG, hb⟩
    refine ⟨fun p => ⟨N, (G p).1, nw N, (G p).2, bn (plb l p) N⟩, by unfold exE; rw [if_pos h1], fun k hk => ⟨?_, ?_⟩, hb⟩
    · unfold Ex exn exm exN
      rw [if_pos h1, if_pos h1, if_pos h1]
      exact ⟨rfl, rfl, rfl⟩
    · refine ⟨rw_own (hG k hk) (bn_lt _ _) h1, fun e => ?_, ?_⟩
      · rcases (hG k hk).2 with ⟨e1, _⟩ | ⟨g, cp, cur, e1, _⟩
        · injection e1 with _ _ e4
        · injection e1 with e2 _ _
          dsimp only at e
          rw [e] at e2; cases e2
      · have := nw_bd h1
        show nw N ≤ _
        omega
  · refine (rplanes_long N ao cap w (by omega) h2).mono ?_
    rintro e w' ⟨rfl, hb⟩
    exact ⟨fun _ => zb, by unfold exE; rw [if_neg h1], fun k _ => ⟨ex_zb (by omega) k, rz_zb w'⟩, hb⟩
/-- The answers hang on what the planes say, not on where they lie. -/
theorem nm_congr {A B : Bt} {g1 g2 : Nat} {P Q : Nat → Bt} (h : ∀ p, p < 8 → (P p).n = (Q p).n ∧ (P p).m = (Q p).m ∧ (P p).N = (Q p).N) : nmE (tw A g1) (tw B g2) P = nmE A B Q ∧ nmV (tw A g1) (tw B g2) P = nmV A B Q := by
  have e1 : ∀ len : Int, aF P len = aF Q len := fun len => by
    rw [Bool.eq_iff_iff, aF_iff, aF_iff]
    refine ⟨fun k p hp => ?_, fun k p hp => ?_⟩
    · obtain ⟨h1, h2, h3⟩ := h p hp
      rw [← h1, ← h2, ← h3]; exact k p hp
    · obtain ⟨h1, h2, h3⟩ := h p hp
      rw [h1, h2, h3]; exact k p hp
  have e0 : dck (tw A g1) (tw B g2) = dck A B := rfl
  have eE : nmE (tw A g1) (tw B g2) P = nmE A B Q := by
    unfold nmE
    rw [e0, e1]
  refine ⟨eE, ?_⟩
  unfold nmV
  rw [eE]
  have e2 : ∀ q, q ≤ 8 → ∀ n, npl A.N B.N (fun p => (P p).N) n q = npl A.N B.N (fun p => (Q p).N) n q := fun q => by
    induction q with
    | zero => intro _ _; rfl
    | succ q ih =>
      intro hq n
      simp only [npl]
      rw [ih (by omega) n, (h q (by omega)).2.2]
  by_cases hz : nmE A B Q = 0
  · rw [if_pos hz, if_pos hz]
    exact e2 8 (Nat.le_refl _) _
  · rw [if_neg hz, if_neg hz]
/-- One plane put in another's place. -/
def put8 (P : Nat → Bt) (k : Nat) (b : Bt) : Nat → Bt := fun p => if p = k then b else P p
theorem put8_row {w : World} {g t k : Nat} {P : Nat → Bt} (b : Bt) (h : w.rowIs g t 16 (pfc P)) : ((w.setCell ⟨g, k * 2, none⟩ (.int .i64 b.n)).setCell ⟨g, k * 2 + 1, none⟩ (.slice b.ao b.m b.cap)).rowIs g t 16 (pfc (put8 P k b)) := by
  refine ((h.set (k * 2) _).set (k * 2 + 1) _).congr fun j _ => ?_
  unfold pfc put8
  by_cases e1 : j = k * 2 + 1
  · rw [if_pos e1, if_neg (by omega), show j / 2 = k by omega, if_pos rfl]
  · rw [if_neg e1]
    by_cases e2 : j = k * 2
    · rw [if_pos e2, if_pos (by omega), show j / 2 = k by omega, if_pos rfl]
    · rw [if_neg e2, if_neg (show ¬ j / 2 = k by omega)]
/-- The twins as far as they are made. -/
structure Tw8 (L : List (Bt × Value)) (Q T : Nat → Bt) (k : Nat) : Prop where
  len : L.length = k
  got : ∀ j, j < k → ∃ g c, T j = tw (Q j) g ∧ (Q j, tv (Q j) g c) ∈ L
  rest : ∀ j, k ≤ j → T j = Q j
  from_ : ∀ e ∈ L, ∃ j, j < k ∧ e.1 = Q j
theorem Tw8.step {L : List (Bt × Value)} {Q T : Nat → Bt} {k : Nat} (h : Tw8 L Q T k) (g c : Nat) : Tw8 (L ++ [(Q k, tv (Q k) g c)]) Q (put8 T k (tw (Q k) g)) (k + 1) := by
  refine ⟨by simp [h.len], fun j hj => ?_, fun j hj => ?_, fun e he => ?_⟩
  · by_cases e : j = k
    · subst e
      exact ⟨g, c, by unfold put8; rw [if_pos rfl], by simp⟩
    · obtain ⟨g', c', h1, h2⟩ := h.got j (by omega)
      exact ⟨g', c', by unfold put8; rw [if_neg e]; exact h1, List.mem_append_left _ h2⟩
  · unfold put8; rw [if_neg (by omega)]; exact h.rest j (by omega)
  · rcases List.mem_append.1 he with h1 | h1
    · obtain ⟨j, hj, ej⟩ := h.from_ e h1; exact ⟨j, by omega, ej⟩
    · simp at h1; subst h1; exact ⟨k, by omega, rfl⟩
end Go.Proofs.YtgciefmjbaphiaaDoor
