/- THE DOCUMENT'S OWN Read (heddleref8). -/
import Derived.Test.YtbpglkhgggokcaaDoorCR3
namespace Go.Proofs.YtbpglkhgggokcaaDoor
open Go.RowKit

set_option maxHeartbeats 800000 in
set_option maxRecDepth 100000 in
theorem rread_long (m : Nat) (ao : Option Addr) (n cap : Nat) (w : World) (hn : 16777216 < n) :
    Calls Tryd.prog 21 #[.int .u32 m, .slice ao n cap] w fun x w' => x = .returned (.tuple #[.slice none 0 0, .int .i64 2]) ∧ w' = w := by
  have i1 : (16777216 : Int) < (n : Int) := by omega
  go_enter Tryd.func21, Tryd.ntmps21
  go_wp2
  go_ret2
  exact ⟨rfl, rfl⟩
theorem num_at (l : List Nat) (p q : Nat) : num (l.drop (p + q)) = num ((l.drop p).drop q) := by rw [List.drop_drop]
/-- What Read has to do ahead of its loop. -/
theorem head_cases (m : Nat) (l : List Nat) (hl : ¬ 16777216 < l.length) : (l.length < 12 ∧ readE m l = 80) ∨ (12 ≤ l.length ∧ crc (l.take 8) ≠ num (l.drop 8) ∧ readE m l = 81) ∨ (12 ≤ l.length ∧ crc (l.take 8) = num (l.drop 8) ∧ num l ≠ m ∧ readE m l = 82) ∨ (12 ≤ l.length ∧ crc (l.take 8) = num (l.drop 8) ∧ num l = m ∧ 1024 < ckN l ∧ readE m l = 2) ∨ (12 ≤ l.length ∧ crc (l.take 8) = num (l.drop 8) ∧ num l = m ∧ ckN l ≤ 1024 ∧ readE m l = rdE (ckN l) (l.drop 12)) := by
  have e : readE m l = if opE m l = 0 then rdE (ckN l) (l.drop 12) else opE m l := by unfold readE; rw [if_neg hl]
  rw [e]
  by_cases h1 : l.length < 12
  · have h2 : smE 8 l = 80 := smE_short (by omega)
    have h3 : opE m l = 80 := by unfold opE; rw [if_neg (by rw [h2]; decide), h2]
    exact .inl ⟨h1, by rw [h3, if_neg (by decide)]⟩
  · by_cases h2 : crc (l.take 8) = num (l.drop 8)
    · have h3 : smE 8 l = 0 := smE_good (by omega) h2
      by_cases h4 : num l = m
      · by_cases h5 : 1024 < ckN l
        · have h6 : opE m l = 2 := by unfold opE; rw [if_pos h3, if_pos h4, if_pos h5]
          exact .inr (.inr (.inr (.inl ⟨by omega, h2, h4, h5, by rw [h6, if_neg (by decide)]⟩)))
        · have h6 : opE m l = 0 := by unfold opE; rw [if_pos h3, if_pos h4, if_neg h5]
          exact .inr (.inr (.inr (.inr ⟨by omega, h2, h4, by omega, by rw [h6, if_pos rfl]⟩)))
      · have h6 : opE m l = 82 := by unfold opE; rw [if_pos h3, if_neg h4]
        exact .inr (.inr (.inl ⟨by omega, h2, h4, by rw [h6, if_neg (by decide)]⟩))
    · have h3 : smE 8 l = 81 := smE_wrong (by omega) h2
      have h6 : opE m l = 81 := by unfold opE; rw [if_neg (by rw [h3]; decide), h3]
      exact .inr (.inl ⟨by omega, h2, by rw [h6, if_neg (by decide)]⟩)
/-- A chunk, case by case. -/
theorem ck_cases (r : List Nat) : (r.length < 12 ∧ ckE r = 80) ∨ (12 ≤ r.length ∧ crc (r.take 8) ≠ num (r.drop 8) ∧ ckE r = 81) ∨ (12 ≤ r.length ∧ crc (r.take 8) = num (r.drop 8) ∧ r.length < 16 + ckN r ∧ ckE r = 80) ∨ (16 + ckN r ≤ r.length ∧ crc (r.take 8) = num (r.drop 8) ∧ crc ((r.drop 12).take (ckN r)) ≠ num ((r.drop 12).drop (ckN r)) ∧ ckE r = 81) ∨ (16 + ckN r ≤ r.length ∧ crc (r.take 8) = num (r.drop 8) ∧ crc ((r.drop 12).take (ckN r)) = num ((r.drop 12).drop (ckN r)) ∧ ckE r = 0) := by
  by_cases h1 : r.length < 12
  · have h2 : smE 8 r = 80 := smE_short (by omega)
    exact .inl ⟨h1, by unfold ckE; rw [if_neg (by rw [h2]; decide), h2]⟩
  · by_cases h2 : crc (r.take 8) = num (r.drop 8)
    · have h3 : smE 8 r = 0 := smE_good (by omega) h2
      have e : ckE r = smE (ckN r) (r.drop 12) := by unfold ckE; rw [if_pos h3]
      rw [e]
      by_cases h4 : r.length < 16 + ckN r
      · exact .inr (.inr (.inl ⟨by omega, h2, h4, smE_short (by rw [List.length_drop]; omega)⟩))
      · by_cases h5 : crc ((r.drop 12).take (ckN r)) = num ((r.drop 12).drop (ckN r))
        · exact .inr (.inr (.inr (.inr ⟨by omega, h2, h5, smE_good (by rw [List.length_drop]; omega) h5⟩)))
        · exact .inr (.inr (.inr (.inl ⟨by omega, h2, h5, smE_wrong (by rw [List.length_drop]; omega) h5⟩)))
    · have h3 : smE 8 r = 81 := smE_wrong (by omega) h2
      exact .inr (.inl ⟨by omega, h2, by unfold ckE; rw [if_neg (by rw [h3]; decide), h3]⟩)
end Go.Proofs.YtbpglkhgggokcaaDoor
