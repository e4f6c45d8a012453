/- NETWORKS: WHAT CHECK AND SHAPES TELL, IN PLAIN NUMBERS. -/
import Derived.Test.YtlgjoepeibodkaaGreatNP2
import Derived.Test.YtlgjoepeibodkaaGreatNP3
namespace Go.Proofs.YtlgjoepeibodkaaGreat.Nn
open Go.RowKit

/-- Where the layer i of a network stands. -/
def sp (N : Nt) : Nat → Sp
  | 0 => ⟨N.h, N.v, N.c, 0, true, decide (N.ml = 1)⟩
  | i + 1 => ⟨oH (N.lf i) (sp N i).h (sp N i).v (sp N i).c, oV (N.lf i) (sp N i).h (sp N i).v (sp N i).c, oC (N.lf i) (sp N i).h (sp N i).v (sp N i).c, (sp N i).ah + wc (N.lf i) (sp N i).h (sp N i).v (sp N i).c, false, decide (N.ml = i + 2)⟩
def fl (N : Nt) (i : Nat) : Int := faE (N.lf i) (sp N i)
def SpOk (S : Sp) : Prop := Sides S.h S.v S.c ∧ 0 ≤ S.ah ∧ S.ah ≤ 16777216
theorem chk_sides {h v c : Int} (e : chk h v c = 0) : Sides h v c := by
  unfold chk at e
  by_cases hs : Sides h v c
  · exact hs
  · rw [if_neg hs] at e; cases e
theorem sl_sides {h v c r s sy sx t l b q k : Int} (e : slE h v c r s sy sx t l b q k = 0) : Sides (stN h t b r sy) (stN v l q s sx) k := by
  unfold slE at e
  by_cases h1 : chk h v c ≠ 0
  · rw [if_pos h1] at e; exact absurd e h1
  · rw [if_neg h1] at e
    by_cases h2 : k < 1 ∨ k > 4096
    · rw [if_pos h2] at e; cases e
    · rw [if_neg h2] at e
      by_cases h3 : ¬ WOk r s sy sx t l b q
      · rw [if_pos h3] at e; cases e
      · rw [if_neg h3] at e
        by_cases h4 : mn2 (stN h t b r sy) (stN v l q s sx) = 0
        · rw [if_pos h4] at e; cases e
        · rw [if_neg h4] at e; exact chk_sides e
theorem o_sides {L : Ly} {h v c : Int} (hk : ¬ L.kd = 2) (e : oE L h v c = 0) : Sides (oH L h v c) (oV L h v c) (oC L h v c) := by
  have e' : slE h v c L.r L.s L.sy L.sx L.t L.l L.b L.q (if L.kd = 3 then c else L.k) = 0 := by
    unfold oE at e
    rwa [if_neg hk] at e
  unfold oH oV oC
  rw [if_neg hk, if_neg hk, if_neg hk, if_pos e, if_pos e, if_pos e]
  exact sl_sides e'
/-- What a layer without a fault may be asked. -/
theorem fok_of {L : Ly} {S : Sp} (h : faE L S = 0) : Fok L ∧ 0 ≤ L.k ∧ L.k ≤ 4096 := by
  unfold faE at h
  by_cases h1 : L.kd = 1
  · rw [if_pos h1] at h
    have h := frF_z h
    exact ⟨fok_win (h 2 (by decide)), kok_out (h 1 (by decide))⟩
  · rw [if_neg h1] at h
    by_cases h2 : L.kd = 2
    · rw [if_pos h2] at h
      exact ⟨.inl h2, kok_out (frF_z h 0 (by decide))⟩
    · rw [if_neg h2] at h
      by_cases h3 : L.kd = 3
      · rw [if_pos h3] at h
        have h := frF_z h
        refine ⟨fok_win (h 3 (by decide)), ?_⟩
        have h4 : owE L = 0 := h 2 (by decide)
        unfold owE at h4
        have := (zero_else (by decide) h4).1.1
        omega
      · rw [if_neg h3] at h; cases h
theorem sp_step {L : Ly} {S : Sp} (hs : SpOk S) (h : faE L S = 0) : Sides (oH L S.h S.v S.c) (oV L S.h S.v S.c) (oC L S.h S.v S.c) ∧ 0 ≤ S.ah + wc L S.h S.v S.c ∧ S.ah + wc L S.h S.v S.c ≤ 16777216 := by
  have hf := fok_of h
  have hw := wc_b hs.1 hf.1 hf.2
  unfold faE at h
  by_cases h1 : L.kd = 1
  · rw [if_pos h1] at h
    have h := frF_z h
    have h6 : wrE L S = 0 := h 6 (by decide)
    unfold wrE at h6
    have h6 := zero_else (by decide) h6
    exact ⟨o_sides (by omega) (h 4 (by decide)), by have := hs.2.1; omega, h6⟩
  · rw [if_neg h1] at h
    by_cases h2 : L.kd = 2
    · rw [if_pos h2] at h
      have h := frF_z h
      have h3 : wrE L S = 0 := h 3 (by decide)
      unfold wrE at h3
      have h3 := zero_else (by decide) h3
      have h0 : ouE L = 0 := h 0 (by decide)
      unfold ouE at h0
      have h0 := zero_else (by decide) h0
      refine ⟨?_, by have := hs.2.1; omega, h3⟩
      unfold oH oV oC
      rw [if_pos h2, if_pos h2, if_pos h2]
      exact ⟨by decide, by decide, h0⟩
    · rw [if_neg h2] at h
      by_cases h3 : L.kd = 3
      · rw [if_pos h3] at h
        have h := frF_z h
        have h4 : owE L = 0 := h 2 (by decide)
        unfold owE at h4
        have hk0 := (zero_else (by decide) h4).1.1
        have hw0 : wc L S.h S.v S.c = 0 := by unfold wc; rw [hk0, Int.zero_mul]
        rw [hw0, Int.add_zero]
        exact ⟨o_sides h2 (h 5 (by decide)), hs.2⟩
      · rw [if_neg h3] at h; cases h
theorem sp_ok {N : Nt} (h0 : chk N.h N.v N.c = 0) : ∀ {k : Nat}, (∀ j, j < k → fl N j = 0) → SpOk (sp N k)
  | 0, _ => ⟨chk_sides h0, by show (0 : Int) ≤ 0 ∧ (0 : Int) ≤ 16777216; decide⟩
  | k + 1, h => by
    have ih := sp_ok h0 (k := k) fun j hj => h j (by omega)
    exact sp_step ih (h k (by omega))
/-- The number of the first answer that is not 0. -/
def frI : Nat → (Nat → Int) → Nat
  | 0, _ => 0
  | n + 1, q => if q 0 = 0 then frI n (fun i => q (i + 1)) + 1 else 0
theorem frI_no {q : Nat → Int} {n k : Nat} (hk : k < n) (h : ∀ j, j < k → q j = 0) (hq : ¬ q k = 0) : frI n q = k := by
  induction n generalizing q k with
  | zero => omega
  | succ n ih =>
    unfold frI
    cases k with
    | zero => rw [if_neg hq]
    | succ k =>
      rw [if_pos (h 0 (by omega)), ih (q := fun i => q (i + 1)) (by omega) (fun j hj => h (j + 1) (by omega)) hq]
def chE (N : Nt) : Int := if whE N = 0 then frF N.ml (fl N) else whE N
def chA (N : Nt) : Int := if whE N = 0 then (if frF N.ml (fl N) = 0 then 0 else (frI N.ml (fl N) : Int)) else -1
theorem ch_whole {N : Nt} (h : ¬ whE N = 0) : chE N = whE N ∧ chA N = -1 := ⟨if_neg h, if_neg h⟩
theorem ch_at {N : Nt} (h0 : whE N = 0) {k : Nat} (hk : k < N.ml) (h : ∀ j, j < k → fl N j = 0) (hq : ¬ fl N k = 0) : chE N = fl N k ∧ chA N = k := by
  unfold chE chA
  rw [if_pos h0, if_pos h0, frF_no hk h hq, if_neg hq, frI_no hk h hq]
  exact ⟨rfl, rfl⟩
theorem ch_ok {N : Nt} (h0 : whE N = 0) (h : ∀ j, j < N.ml → fl N j = 0) : chE N = 0 ∧ chA N = 0 := by
  unfold chE chA
  rw [if_pos h0, if_pos h0, frF_ok h, if_pos rfl]
  exact ⟨rfl, rfl⟩
theorem wh_parts {N : Nt} (h : whE N = 0) : nmB N.nm = true ∧ chk N.h N.v N.c = 0 ∧ 1 ≤ N.ml ∧ N.ml ≤ 64 := by
  unfold whE at h
  by_cases h1 : nmB N.nm = false
  · rw [if_pos h1] at h; cases h
  · rw [if_neg h1] at h
    by_cases h2 : chk N.h N.v N.c ≠ 0
    · rw [if_pos h2] at h; exact absurd h h2
    · rw [if_neg h2] at h
      exact ⟨by simpa using h1, by simpa using h2, zero_else (by decide) h⟩
/-- The layers of a network lie in memory. -/
def NtW (W : World) (N : Nt) : Prop := (∀ i, i < N.ml → ∃ g o, N.al = some ⟨g, o, none⟩ ∧ Lc W g (o + i * 15) (N.lf i) ∧ Lst W (N.lf i)) ∧ N.ml ≤ 9223372036854775807 ∧ N.nm.size ≤ 9223372036854775807
theorem NtW.keep {W w' : World} {N : Nt} (h : NtW W N) (hb : Below W.heap.size W w') : NtW w' N := ⟨fun i hi => by
  obtain ⟨g, o, e, a, b⟩ := h.1 i hi
  exact ⟨g, o, e, a.keep hb, b.keep hb⟩, h.2⟩
end Go.Proofs.YtlgjoepeibodkaaGreat.Nn
