/- NETWORKS: 2^24 WEIGHTS LESS ONE, AND TOO MANY, IN PLAIN NUMBERS. -/
import Derived.Test.YtfljnpeidadpjaaNB1
namespace Go.Proofs.Ytfljnpeidadpjaa
open Go.RowKit

def bgA (ga gn cn : Nat) : Ly := ⟨2, 2, 4095, 0, 0, 0, 0, 0, 0, 0, 0, 0, some ⟨ga, 0, none⟩, 16773120, 16773120, some ⟨gn, 0, none⟩, 4095, cn, none, 0, 0, fun _ => 0, fun _ _ => 1, fun _ => 0⟩
def bgB (k : Int) (gw m gb n : Nat) : Ly := ⟨2, 2, k, 0, 0, 0, 0, 0, 0, 0, 0, 0, some ⟨gw, 0, none⟩, m, m, none, 0, 0, some ⟨gb, 0, none⟩, n, n, fun _ => 0, fun _ _ => 0, fun _ => 0⟩
def bgN (gl : Nat) (A B : Ly) : Nt := ⟨⟨#[98, 105, 103]⟩, 1, 1, 4096, some ⟨gl, 0, none⟩, 2, 2, fun i => match i with | 0 => A | _ => B⟩
theorem bg_whole (gl : Nat) (A B : Ly) : whE (bgN gl A B) = 0 := by kernel_rfl
theorem ok_zero : okW 2 0 := ⟨⟨by decide, by decide⟩, fun _ => by decide⟩
theorem fa_dense {L : Ly} {S : Sp} (h : L.kd = 2) (hq : ∀ j, j < 7 → qD L S j = 0) : faE L S = 0 := by
  unfold faE
  rw [if_neg (by rw [h]; decide), if_pos h]
  exact frF_ok hq
theorem fa_dense_no {L : Ly} {S : Sp} {k : Nat} {x : Int} (h : L.kd = 2) (hk : k < 7) (hq : ∀ j, j < k → qD L S j = 0) (hx : qD L S k = x) (h0 : ¬ x = 0) : faE L S = x := by
  unfold faE
  rw [if_neg (by rw [h]; decide), if_pos h, frF_no hk hq (by rw [hx]; exact h0), hx]
theorem seven {p : Nat → Prop} (h0 : p 0) (h1 : p 1) (h2 : p 2) (h3 : p 3) (h4 : p 4) (h5 : p 5) (h6 : p 6) : ∀ j, j < 7 → p j := fun j hj => by
  rcases (show j = 0 ∨ j = 1 ∨ j = 2 ∨ j = 3 ∨ j = 4 ∨ j = 5 ∨ j = 6 by omega) with rfl | rfl | rfl | rfl | rfl | rfl | rfl <;> assumption
theorem qD4 (L : Ly) (S : Sp) : qD L S 4 = wsE L S := rfl
theorem qD5 (L : Ly) (S : Sp) : qD L S 5 = enE L S := rfl
theorem qD6 (L : Ly) (S : Sp) : qD L S 6 = reE L S := rfl
theorem bg_q1 (ga gn cn : Nat) : faE (bgA ga gn cn) ⟨1, 1, 4096, 0, true, false⟩ = 0 := by
  refine fa_dense rfl (seven (p := fun j => qD (bgA ga gn cn) ⟨1, 1, 4096, 0, true, false⟩ j = 0) ?_ ?_ ?_ ?_ ?_ ?_ ?_)
  · kernel_rfl
  · kernel_rfl
  · kernel_rfl
  · kernel_rfl
  · exact (qD4 _ _).trans (wsE_ok (by kernel_rfl) fun j _ => ok_zero)
  · refine (qD5 _ _).trans ?_
    unfold enE
    rw [if_neg (by decide)]
    exact nmE_ok ⟨by kernel_rfl, by kernel_rfl⟩ fun j _ => by kernel_rfl
  · refine (qD6 _ _).trans ?_
    exact reE_ok (by have : lef (bgA ga gn cn) ⟨1, 1, 4096, 0, true, false⟩ = 2146959359 := by kernel_rfl
                     rw [this]; decide) fun j hj => absurd hj (Nat.not_lt_zero j)
theorem bg_q2 (gw gb : Nat) : faE (bgB 1 gw 4095 gb 1) ⟨1, 1, 4095, 16773120, false, true⟩ = 0 := by
  refine fa_dense rfl (seven (p := fun j => qD (bgB 1 gw 4095 gb 1) ⟨1, 1, 4095, 16773120, false, true⟩ j = 0) ?_ ?_ ?_ ?_ ?_ ?_ ?_)
  · kernel_rfl
  · kernel_rfl
  · kernel_rfl
  · kernel_rfl
  · exact (qD4 _ _).trans (wsE_ok (by kernel_rfl) fun j _ => ok_zero)
  · kernel_rfl
  · refine (qD6 _ _).trans ?_
    have e : lef (bgB 1 gw 4095 gb 1) ⟨1, 1, 4095, 16773120, false, true⟩ = 2147479552 := by kernel_rfl
    exact reE_ok (by rw [e]; decide) fun j _ => by rw [e]; exact (show bok 2147479552 0 from ⟨by decide, by decide⟩)
theorem bg_q3 (gw gb : Nat) : faE (bgB 2 gw 8190 gb 2) ⟨1, 1, 4095, 16773120, false, true⟩ = 31 :=
  fa_dense_no (k := 3) rfl (by decide) (fun j hj => by rcases (show j = 0 ∨ j = 1 ∨ j = 2 by omega) with rfl | rfl | rfl <;> kernel_rfl) (by kernel_rfl) (by decide)
theorem bg_sp0 (gl : Nat) (A B : Ly) : sp (bgN gl A B) 0 = ⟨1, 1, 4096, 0, true, false⟩ := by kernel_rfl
theorem bg_sp (gl ga gn cn : Nat) (B : Ly) : sp (bgN gl (bgA ga gn cn) B) 1 = ⟨1, 1, 4095, 16773120, false, true⟩ := by kernel_rfl
theorem bg_first (gl ga gn cn : Nat) (B : Ly) : fl (bgN gl (bgA ga gn cn) B) 0 = 0 := by
  unfold fl
  rw [bg_sp0]
  exact bg_q1 ga gn cn
theorem bg_good (gl ga gn cn gw gb : Nat) : chE (bgN gl (bgA ga gn cn) (bgB 1 gw 4095 gb 1)) = 0 ∧ chA (bgN gl (bgA ga gn cn) (bgB 1 gw 4095 gb 1)) = 0 := by
  refine ch_ok (bg_whole _ _ _) fun j hj => ?_
  change j < 2 at hj
  rcases (show j = 0 ∨ j = 1 by omega) with rfl | rfl
  · exact bg_first _ _ _ _ _
  · unfold fl
    rw [bg_sp]
    exact bg_q2 gw gb
theorem bg_bad (gl ga gn cn gw gb : Nat) : chE (bgN gl (bgA ga gn cn) (bgB 2 gw 8190 gb 2)) = 31 ∧ chA (bgN gl (bgA ga gn cn) (bgB 2 gw 8190 gb 2)) = 1 := by
  have h2 : fl (bgN gl (bgA ga gn cn) (bgB 2 gw 8190 gb 2)) 1 = 31 := by
    unfold fl
    rw [bg_sp]
    exact bg_q3 gw gb
  have h0 : ∀ j, j < 1 → fl (bgN gl (bgA ga gn cn) (bgB 2 gw 8190 gb 2)) j = 0 := fun j hj => by
    obtain rfl : j = 0 := by omega
    exact bg_first _ _ _ _ _
  have := ch_at (bg_whole gl (bgA ga gn cn) (bgB 2 gw 8190 gb 2)) (k := 1) (show 1 < 2 by decide) h0 (by rw [h2]; decide)
  rw [h2] at this
  exact this
end Go.Proofs.Ytfljnpeidadpjaa
