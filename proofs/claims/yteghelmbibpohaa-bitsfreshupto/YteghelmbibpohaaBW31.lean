/- The law's Hand: asFilled, numbers. -/
import Derived.Test.YteghelmbibpohaaBW30
namespace Go.Proofs.Yteghelmbibpohaa
open Go.RowKit

def ee : Value := .int .u64 61166
/-- The first k words are written over. -/
def ef (f : Nat → Value) (k : Nat) : Nat → Value := fun j => if j < k then ee else f j
theorem ef_step {w : World} {g c k : Nat} {f : Nat → Value} (h : w.rowIs g 35 c (ef f k)) : (w.setCell ⟨g, k, none⟩ ee).rowIs g 35 c (ef f (k + 1)) := by
  refine (h.set k _).congr fun j _ => ?_
  unfold ef
  by_cases e : j = k
  · subst e; simp
  · rw [if_neg e]
    by_cases h : j < k
    · rw [if_pos h, if_pos (by omega)]
    · rw [if_neg h, if_neg (by omega)]
set_option maxHeartbeats 3200000 in
set_option maxRecDepth 100000 in
theorem asFilled_any (g c m N cl : Nat) (la : Option Addr) (w : World) (hm : m ≤ 1048576) (hc : c ≤ maxLen) (hrow : w.rowIs g 35 c (fwf N m)) (hl : Ro w la m N) (hne : ∀ b o, la = some ⟨b, o, none⟩ → 0 < m → b ≠ g) :
    Calls Try.prog 59 #[.slice (some ⟨g, 0, none⟩) c c, .slice la m cl] w fun e w' => e = .returned (.bool true) ∧ w'.rowIs g 35 c (fun _ => ee) ∧ But g w w' := by
  have HR := hid1 hl
  have HNE := hid1 hne
  have H0 := hid1 (hrow.congr (g := ef (fwf N m) 0) fun j _ => by simp [ef])
  unfold maxLen at hc
  have im0 : (0 : Int) ≤ (m : Int) := by omega
  have im1 : (m : Int) ≤ 1048576 := by omega
  have ic1 : (c : Int) ≤ 9223372036854775807 := by omega
  clear hl hne hrow
  go_enter Try.func59, Try.ntmps59
  go_wp2_with fail
  go_loopw [5, 6] (fun s i wr => ∃ k : Nat, k ≤ c ∧ i = .int .i64 k ∧ s = .bool true ∧ wr.rowIs g 35 c (ef (fwf N m) k) ∧ But g w wr) (fun _ i _ => c - (intOf i).toNat)
  case atStart => exact ⟨0, Nat.zero_le _, rfl, rfl, H0.out, But.refl _ _⟩
  case round =>
    obtain ⟨k, hk, rfl, rfl, hrow, hbut⟩ := hrel
    have ik0 : (0 : Int) ≤ (k : Int) := by omega
    by_cases hlt : k < c
    · have ik : (k : Int) < (c : Int) := by omega
      have fw := hrow.frozen k
      have cw := hrow.cell hlt
      simp only [ef, Nat.lt_irrefl, if_false, fwf] at cw
      have HH := hid1 hrow
      clear hrow
      by_cases hkm : k < m
      · have ikm : (k : Int) < (m : Int) := by omega
        obtain ⟨b, o, rfl, c8⟩ := HR.out.2 k hkm
        replace c8 := hbut.cell (HNE.out b o rfl (by omega)) c8
        rw [if_pos hkm] at cw
        unfold wf at c8 cw
        go_wp2_with fail
        exact ⟨⟨k + 1, by omega, by go_num, rfl, ef_step HH.out, hbut.set _⟩, by simp [intOf]; omega⟩
      · have ikm : ¬ (k : Int) < (m : Int) := by omega
        rw [if_neg hkm] at cw
        unfold mkI at cw
        go_wp2_with fail
        exact ⟨⟨k + 1, by omega, by go_num, rfl, ef_step HH.out, hbut.set _⟩, by simp [intOf]; omega⟩
    · have hkc : k = c := by omega
      subst hkc
      have HH := hid1 hrow
      clear hrow
      go_wp2_with fail
      go_ret
      exact ⟨rfl, HH.out.congr fun j hj => by simp [ef, hj], hbut⟩
end Go.Proofs.Yteghelmbibpohaa
