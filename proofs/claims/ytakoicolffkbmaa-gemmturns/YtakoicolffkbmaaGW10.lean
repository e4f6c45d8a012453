/- heddlelaw11: EqNums, Eq of lists that are alike. -/
import Derived.Test.YtakoicolffkbmaaGW8
namespace Go.Proofs.Ytakoicolffkbmaa
open Go.RowKit

/-- Nothing but draws. -/
def Qt (w w' : World) : Prop := ∃ q, w' = w.drewN q
theorem Qt.refl (w : World) : Qt w w := ⟨0, rfl⟩
theorem Qt.drewN {w w' : World} (h : Qt w w') (n : Nat) : Qt w (w'.drewN n) := by
  obtain ⟨q, rfl⟩ := h
  induction n with
  | zero => exact ⟨q, rfl⟩
  | succ n ih => obtain ⟨q', e⟩ := ih; exact ⟨q' + 1, congrArg World.drew e⟩
theorem Qt.below {a w w' : World} (h : Qt w w') (hb : Below a.heap.size a w) : Below a.heap.size a w' := by
  obtain ⟨q, rfl⟩ := h
  exact bl_drewN hb q
theorem Qt.cell {w w' : World} (h : Qt w w') {p : Addr} {v : Value} (hc : w.cell? p = some v) : w'.cell? p = some v := by
  obtain ⟨q, rfl⟩ := h
  induction q with
  | zero => exact hc
  | succ n ih => exact ih
/-- A list of numbers. -/
def Li (w : World) (ao : Option Addr) (n : Nat) (f : Nat → Int) : Prop := ∀ j, j < n → ∃ g o, ao = some ⟨g, o, none⟩ ∧ w.cell? ⟨g, o + j, none⟩ = some (.int .i64 (f j))
theorem Li.below {w w' : World} {ao : Option Addr} {n : Nat} {f : Nat → Int} (h : Li w ao n f) (hb : Below w.heap.size w w') : Li w' ao n f := fun j hj => by
  obtain ⟨g, o, e, c⟩ := h j hj; exact ⟨g, o, e, keepc hb c⟩
/-- A list of lists of numbers. -/
def Ll (w : World) (ao : Option Addr) (H W : Nat) (F : Nat → Nat → Int) : Prop := ∀ i, i < H → ∃ g o ai ci, ao = some ⟨g, o, none⟩ ∧ w.cell? ⟨g, o + i, none⟩ = some (.slice ai W ci) ∧ Li w ai W (F i)
theorem Ll.below {w w' : World} {ao : Option Addr} {H W : Nat} {F : Nat → Nat → Int} (h : Ll w ao H W F) (hb : Below w.heap.size w w') : Ll w' ao H W F := fun i hi => by
  obtain ⟨g, o, ai, ci, e, c, l⟩ := h i hi; exact ⟨g, o, ai, ci, e, keepc hb c, l.below hb⟩
theorem Gr.list {w : World} {M G : Nat} {b : Nat → Nat} {H W : Nat} {F : Nat → Nat → Int} (h : Gr w M G b H W F) : Ll w (some ⟨G, 0, none⟩) H W F := fun i hi =>
  ⟨G, 0, some ⟨b i, 0, none⟩, W, rfl, by rw [Nat.zero_add]; exact h.out.cell hi, fun j hj => ⟨b i, 0, rfl, by rw [Nat.zero_add]; exact (h.row i hi).cell hj⟩⟩
set_option maxRecDepth 100000 in
theorem eqNums_same (a b : Option Addr) (n ca cb : Nat) (f f' : Nat → Int) (w : World) (hn : n ≤ 1099511627776) (h1 : Li w a n f) (h2 : Li w b n f') (he : ∀ j, j < n → f j = f' j) :
    Calls Try.prog 17 #[.slice a n ca, .slice b n cb] w fun e w' => e = .returned (.bool true) ∧ Qt w w' := by
  have H1 := hid1 h1
  have H2 := hid1 h2
  have HE := hid1 he
  clear h1 h2 he
  go_enter Try.func17, Try.ntmps17
  go_wp2_with fail
  go_loopw [5] (fun x wr => ∃ k : Nat, k ≤ n ∧ x = .int .i64 k ∧ Qt w wr) (fun x _ => n - (intOf x).toNat)
  case atStart => exact ⟨0, Nat.zero_le _, rfl, Qt.refl _⟩
  case round =>
    obtain ⟨k, hk, rfl, hq⟩ := hrel
    by_cases hlt : k < n
    · obtain ⟨g1, o1, rfl, d1⟩ := H1.out k hlt
      obtain ⟨g2, o2, rfl, d2⟩ := H2.out k hlt
      replace d1 := hq.cell d1
      replace d2 := hq.cell d2
      have ik : (k : Int) < (n : Int) := by omega
      have ik0 : (0 : Int) ≤ (k : Int) := by omega
      rw [HE.out k hlt] at d1
      generalize f' k = v at *
      go_wp2_with fail
      go_quiet (fail)
      go_wp2_with fail
      exact ⟨⟨k + 1, by omega, by go_num, hq.drewN _⟩, by simp [intOf]; omega⟩
    · have hkN : k = n := by omega
      subst hkN
      go_wp2_with fail
      go_ret
      exact ⟨rfl, hq⟩
set_option maxRecDepth 100000 in
theorem eq_same (a b : Option Addr) (H W ca cb : Nat) (F F' : Nat → Nat → Int) (w : World) (hH : H ≤ 1099511627776) (hW : H = 0 ∨ W ≤ 1099511627776) (h1 : Ll w a H W F) (h2 : Ll w b H W F') (he : ∀ i j, i < H → j < W → F i j = F' i j) :
    Calls Try.prog 14 #[.slice a H ca, .slice b H cb] w fun e w' => e = .returned (.bool true) ∧ Qt w w' := by
  have H1 := hid1 h1
  have H2 := hid1 h2
  have HE := hid1 he
  clear h1 h2 he
  go_enter Try.func14, Try.ntmps14
  go_wp2_with fail
  go_loopw [5] (fun x wr => ∃ k : Nat, k ≤ H ∧ x = .int .i64 k ∧ Qt w wr) (fun x _ => H - (intOf x).toNat)
  case atStart => exact ⟨0, Nat.zero_le _, rfl, Qt.refl _⟩
  case round =>
    obtain ⟨k, hk, rfl, hq⟩ := hrel
    by_cases hlt : k < H
    · have hB := hq.below (Below.refl _ w)
      obtain ⟨g1, o1, a1, c1, rfl, d1, l1⟩ := H1.out.below hB k hlt
      obtain ⟨g2, o2, a2, c2, rfl, d2, l2⟩ := H2.out.below hB k hlt
      have ik : (k : Int) < (H : Int) := by omega
      have ik0 : (0 : Int) ≤ (k : Int) := by omega
      have hW' : W ≤ 1099511627776 := by omega
      have CT : Hid (∀ X, Qt wr X → Calls Try.prog 17 #[.slice a1 W c1, .slice a2 W c2] X fun e w' => e = .returned (.bool true) ∧ ∃ n, w' = wr.drewN n) := fun X hX => by
        have hBX := hX.below (Below.refl _ wr)
        refine (eqNums_same a1 a2 W c1 c2 (F k) (F' k) X hW' (l1.below hBX) (l2.below hBX) (fun j hj => HE.out k j hlt hj)).mono ?_
        rintro e w' ⟨rfl, q', rfl⟩
        exact ⟨rfl, hX.drewN q'⟩
      clear l1 l2 hB
      go_wp2_with fail
      go_quiet ((go_at_call 17; exact CT.out _ ⟨_, by rfl⟩))
      go_wp2_with fail
      exact ⟨⟨k + 1, by omega, by go_num, hq.drewN _⟩, by simp [intOf]; omega⟩
    · have hkN : k = H := by omega
      subst hkN
      go_wp2_with fail
      go_ret
      exact ⟨rfl, hq⟩
end Go.Proofs.Ytakoicolffkbmaa
