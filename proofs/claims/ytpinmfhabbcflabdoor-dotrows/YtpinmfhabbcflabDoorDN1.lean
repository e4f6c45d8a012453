/- The law's numbers and sameBits. -/
import Derived.Test.YtpinmfhabbcflabDoorDQ4
namespace Go.Proofs.YtpinmfhabbcflabDoor
open Go.RowKit

/-- Small numbers with twenty marks behind them. -/
def mks (l : List Int) (k : Nat) : List Int := l ++ (List.range k).map fun i : Nat => (77 + (i : Int))
theorem mks_len (l : List Int) (k : Nat) : (mks l k).length = l.length + k := by simp [mks]
theorem mks_snoc (l : List Int) (k : Nat) : mks l (k + 1) = mks l k ++ [77 + (k : Int)] := by simp [mks, List.range_succ]
set_option maxHeartbeats 1600000 in
set_option maxRecDepth 100000 in
theorem lnumbers_any (l : List Int) (N : Nat) (hN : l.length = N) (ao : Option Addr) (cap : Nat) (w : World) (hs : N ≤ 140737488351232) (hz : ao = none → cap = 0) (h : R8 w ao l) :
    Calls Tryd.prog 13 #[.slice ao N cap] w fun e w' => ∃ v, e = .returned v ∧ w'.ownsRow w.heap.size 59 1 v (N + 20) (i8s (mks l 20)) ∧ Below w.heap.size w w' := by
  have HR := hid1 h
  have HL := hid1 hN
  have HZ : Hid (ao = none → N = 0 ∧ cap = 0) := fun hn => by
    refine ⟨?_, hz hn⟩
    rcases Nat.eq_zero_or_pos N with h0 | h0
    · exact h0
    · obtain ⟨g, o, e, _⟩ := h 0 (by omega)
      rw [hn] at e
      cases e
  clear h hN hz
  have iN : (N : Int) ≤ 140737488351232 := by omega
  go_enter Tryd.func13, Tryd.ntmps13
  go_wp2_with (at_builtin; refine app_nil rfl _ _ rfl (by go_simp) ao l cap (by rw [HL.out]; go_simp) HR.out (by rw [HL.out]; exact HZ.out) (by rw [HL.out]; omega) ?_; intro v w1 hown hb1)
  rw [HL.out] at hown
  go_loopw [3, 4] (fun x i wr => ∃ (u : Value) (k : Nat), k ≤ 20 ∧ x = u ∧ i = .int .i64 k ∧ wr.ownsRow w.heap.size 59 1 u (N + k) (i8s (mks l k)) ∧ Below w.heap.size w wr) (fun _ i _ => 20 - (intOf i).toNat)
  case atStart => exact ⟨v, 0, by omega, rfl, rfl, by simpa [mks] using hown, hb1⟩
  case round =>
    clear hown hb1
    obtain ⟨u, k, hk, ev, rfl, hown, B0⟩ := hrel
    replace ev := ev.symm
    subst ev
    have hlen : (mks l k).length = N + k := by rw [mks_len, HL.out]
    have HLE := hid1 hlen
    have HO : Hid (wr.ownsRow w.heap.size 59 1 u (mks l k).length (i8s (mks l k))) := hid1 (by rw [hlen]; exact hown)
    have HM := hid1 (mks_snoc l k)
    by_cases hlt : k < 20
    · have ik : (k : Int) < 20 := by omega
      have ik0 : (0 : Int) ≤ (k : Int) := by omega
      clear hown hlen
      go_wp2_with (at_builtin; refine app_one rfl _ _ rfl w.heap.size u (mks l k) (by go_simp) (HO.out.alloc _) wr.heap.size (77 + (k : Int)) 1 (by go_simp) (by simp [go_sem]) (by rw [HLE.out]; omega) (by have := B0.size; simp; omega) ?_; intro v' w' hown hgrow)
      have B1 : Below w.heap.size w w' := (bl_alloc B0 _).grown hgrow (by have := B0.size; simp; omega) (fun q hq => (HO.out.lt q hq).1)
      rw [HLE.out, ← HM.out] at hown
      exact ⟨⟨v', k + 1, by omega, rfl, by go_num, hown, B1⟩, by simp [intOf]; omega⟩
    · have hk20 : k = 20 := by omega
      subst hk20
      have HO2 := hid1 hown
      clear hown hlen
      go_wp2_with fail
      go_ret
      exact ⟨_, rfl, HO2.out, B0⟩
set_option maxRecDepth 100000 in
theorem sameBits_true (n : Int) (m N : Nat) (ao bo : Option Addr) (c1 c2 : Nat) (w : World) (hm : m ≤ 9223372036854775807) (h1 : RU w ao m N) (h2 : RU w bo m N) :
    Calls Tryd.prog 33 #[rv n ao m c1, rv n bo m c2] w fun e w' => e = .returned (.bool true) ∧ Below w.heap.size w w' := by
  have H1 := hid1 h1
  have H2 := hid1 h2
  clear h1 h2
  go_enter Tryd.func33, Tryd.ntmps33
  go_wp2_with fail
  refine gen_calls (fun W => Below w.heap.size w W) (bl_alloc (bl_alloc (Below.refl _ _) _) _) ?_
  intro W B0
  refine (sameWords_true m N ao bo c1 c2 W hm (H1.out.below B0) (H2.out.below B0)).mono ?_
  rintro e w1 ⟨rfl, nn, rfl⟩
  go_wp2_with fail
  go_ret
  exact ⟨rfl, bl_drewN B0 _⟩
end Go.Proofs.YtpinmfhabbcflabDoor
