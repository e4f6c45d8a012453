/- NETWORKS: LISTS OF SHAPES HELD AGAINST EACH OTHER. -/
import Derived.Test.YtfljnpeidadpjaaNQ3
import Derived.BigQuiet
import Derived.Deep.QuietTactic
namespace Go.Proofs.Ytfljnpeidadpjaa
open Go.RowKit

def Lsq (W : World) (ao : Option Addr) (m : Nat) (H V C : Nat → Int) : Prop := ∀ k, k < m → ∃ g o, ao = some ⟨g, o, none⟩ ∧ W.cell? ⟨g, o + k * 3, none⟩ = some (.int .i64 (H k)) ∧ W.cell? ⟨g, o + k * 3 + 1, none⟩ = some (.int .i64 (V k)) ∧ W.cell? ⟨g, o + k * 3 + 2, none⟩ = some (.int .i64 (C k))
theorem Lsq.keep {W w' : World} {ao : Option Addr} {m : Nat} {H V C : Nat → Int} (h : Lsq W ao m H V C) (hb : Below W.heap.size W w') : Lsq w' ao m H V C := fun k hk => by
  obtain ⟨g, o, e, a, b, c⟩ := h k hk
  exact ⟨g, o, e, keepc hb a, keepc hb b, keepc hb c⟩
def sq3 (H V C H' V' C' : Nat → Int) (k : Nat) : Prop := H k = H' k ∧ V k = V' k ∧ C k = C' k
instance (H V C H' V' C' : Nat → Int) (k : Nat) : Decidable (sq3 H V C H' V' C' k) := by unfold sq3; infer_instance
def sqB (m n : Nat) (H V C H' V' C' : Nat → Int) : Bool := decide (m = n ∧ ∀ k, k < m → sq3 H V C H' V' C' k)
theorem sqB_len {m n : Nat} {H V C H' V' C' : Nat → Int} (h : ¬ m = n) : sqB m n H V C H' V' C' = false := decide_eq_false fun k => h k.1
theorem sqB_no {m n k : Nat} {H V C H' V' C' : Nat → Int} (hk : k < m) (h : ¬ sq3 H V C H' V' C' k) : sqB m n H V C H' V' C' = false := decide_eq_false fun x => h (x.2 k hk)
theorem sqB_ok {m n : Nat} {H V C H' V' C' : Nat → Int} (h : m = n) (h2 : ∀ k, k < m → sq3 H V C H' V' C' k) : sqB m n H V C H' V' C' = true := decide_eq_true ⟨h, h2⟩
set_option maxRecDepth 100000 in
theorem eqs_any (ao bo : Option Addr) (m n cm cn : Nat) (hm : m ≤ 9223372036854775807) (H V C H' V' C' : Nat → Int) (w : World) (L1 : Lsq w ao m H V C) (L2 : Lsq w bo n H' V' C') :
    Calls Try.prog 22 #[.slice ao m cm, .slice bo n cn] w fun e w' => e = .returned (.bool (sqB m n H V C H' V' C')) ∧ Below w.heap.size w w' := by
  have K1 := hid1 L1
  have K2 := hid1 L2
  clear L1 L2
  by_cases hmn : m = n
  · have hne : ((m : Int) != (n : Int)) = false := by simp [hmn]
    have HO := hid1 (fun h => sqB_ok (H := H) (V := V) (C := C) (H' := H') (V' := V') (C' := C') hmn h)
    have HN := hid1 (fun k (hk : k < m) h => sqB_no (n := n) (H := H) (V := V) (C := C) (H' := H') (V' := V') (C' := C') hk h)
    have HM := hid1 hmn
    clear hmn
    generalize sqB m n H V C H' V' C' = fin at *
    go_enter Try.func22, Try.ntmps22
    go_wp2_with fail
    go_loopw [5] (fun i wr => ∃ k : Nat, k ≤ m ∧ i = .int .i64 k ∧ Hid (∀ j, j < k → sq3 H V C H' V' C' j) ∧ Below w.heap.size w wr) (fun i _ => m - (intOf i).toNat)
    case atStart => exact ⟨0, Nat.zero_le _, rfl, hid1 fun j hj => absurd hj (by omega), Below.refl _ _⟩
    case round =>
      obtain ⟨k, hk, rfl, HA, BX⟩ := hrel
      have ik0 : (0 : Int) ≤ (k : Int) := by omega
      by_cases hlt : k < m
      · have ik : (k : Int) < (m : Int) := by omega
        have ik2 : (k : Int) < (n : Int) := by have := HM.out; omega
        obtain ⟨g1, o1, ea, a0, a1, a2⟩ := (K1.out.keep BX) k hlt
        obtain ⟨g2, o2, eb, b0, b1, b2⟩ := (K2.out.keep BX) k (by have := HM.out; omega)
        have we := fun w => shp_eql (H k) (V k) (C k) (H' k) (V' k) (C' k) w
        by_cases hq : sq3 H V C H' V' C' k
        · have HQ := hid1 hq
          rw [decide_eq_true (show H k = H' k ∧ V k = V' k ∧ C k = C' k from hq)] at we
          clear hq
          go_wp2_with fail
          go_quiet (fail)
          go_wp2_with fail
          exact ⟨⟨k + 1, by omega, by go_num, hid1 (fun j hj => by
            by_cases e : j = k
            · rw [e]; exact HQ.out
            · exact HA.out j (by omega)), by repeat (first | (with_reducible exact Below.refl _ _) | (with_reducible refine bl_alloc ?_ _) | (with_reducible refine Below.drew ?_) | (with_reducible refine bl_drewN ?_ _) | (with_reducible refine bl_set ?_ (by omega) _) | (with_reducible refine bl_step ?_ (by assumption)))⟩, by simp [intOf]; omega⟩
        · rw [decide_eq_false (show ¬ (H k = H' k ∧ V k = V' k ∧ C k = C' k) from hq)] at we
          have HF := hid1 (HN.out k hlt hq)
          clear hq
          go_wp2_with fail
          go_quiet (fail)
          go_wp2_with fail
          go_ret
          exact ⟨by rw [HF.out]; rfl, by repeat (first | (with_reducible exact Below.refl _ _) | (with_reducible refine bl_alloc ?_ _) | (with_reducible refine Below.drew ?_) | (with_reducible refine bl_drewN ?_ _) | (with_reducible refine bl_set ?_ (by omega) _) | (with_reducible refine bl_step ?_ (by assumption)))⟩
      · have : k = m := by omega
        subst this
        go_wp2_with fail
        go_ret
        exact ⟨by rw [HO.out HA.out]; rfl, BX⟩
  · have hne : ((m : Int) != (n : Int)) = true := by simp; omega
    rw [sqB_len hmn]
    go_enter Try.func22, Try.ntmps22
    go_wp2_with fail
    go_ret
    exact ⟨rfl, Below.refl _ _⟩
end Go.Proofs.Ytfljnpeidadpjaa
