/- sameWords; the Room's kept. -/
import Derived.Test.YtpinmfhabbcflabDoorDQ3
namespace Go.Proofs.YtpinmfhabbcflabDoor
open Go.RowKit

/-- The slice reads as the words of N. -/
def RU (w : World) (ao : Option Addr) (m N : Nat) : Prop := ∀ k, k < m → ∃ g o, ao = some ⟨g, o, none⟩ ∧ w.cell? ⟨g, o + k, none⟩ = some (wf N k)
theorem RU.below {w w' : World} {ao : Option Addr} {m N : Nat} (h : RU w ao m N) (hb : Below w.heap.size w w') : RU w' ao m N :=
  fun k hk => by obtain ⟨g, o, e, c⟩ := h k hk; exact ⟨g, o, e, keepc hb c⟩
theorem ru_heap {w X : World} {ao : Option Addr} {m N : Nat} (h : RU w ao m N) (hX : X.heap = w.heap) : RU X ao m N :=
  fun k hk => by obtain ⟨g, o, e, c⟩ := h k hk; exact ⟨g, o, e, by unfold World.cell? at c ⊢; rw [hX]; exact c⟩
theorem bl_dn (w : World) (n : Nat) : Below w.heap.size w (w.drewN n) := bl_drewN (Below.refl _ _) n
set_option maxHeartbeats 1600000 in
set_option maxRecDepth 100000 in
theorem sameWords_true (m N : Nat) (ao bo : Option Addr) (c1 c2 : Nat) (w : World) (hm : m ≤ 9223372036854775807) (h1 : RU w ao m N) (h2 : RU w bo m N) :
    Calls Tryd.prog 29 #[.slice ao m c1, .slice bo m c2] w fun e w' => e = .returned (.bool true) ∧ ∃ n, w' = w.drewN n := by
  have H1 := hid1 h1
  have H2 := hid1 h2
  clear h1 h2
  go_enter Tryd.func29, Tryd.ntmps29
  go_wp2_with fail
  go_loopw [5] (fun i wr => ∃ k : Nat, k ≤ m ∧ i = .int .i64 k ∧ Hid (∃ n, wr = w.drewN n)) (fun i _ => m - (intOf i).toNat)
  case atStart => exact ⟨0, Nat.zero_le _, rfl, hid1 ⟨0, rfl⟩⟩
  case round =>
    obtain ⟨k, hk, rfl, HD⟩ := hrel
    have B0 : Below w.heap.size w wr := by obtain ⟨n, e⟩ := HD.out; rw [e]; exact bl_dn w n
    by_cases hlt : k < m
    · obtain ⟨ga, oa, rfl, c8⟩ := H1.out k hlt
      obtain ⟨gb, ob, rfl, c9⟩ := H2.out k hlt
      replace c8 := keepc B0 c8
      replace c9 := keepc B0 c9
      unfold wf at c8 c9
      have ik : (k : Int) < (m : Int) := by omega
      have ik0 : (0 : Int) ≤ (k : Int) := by omega
      generalize wd N k = x at *
      go_wp2_with fail
      go_quiet (fail)
      go_wp2_with fail
      exact ⟨⟨k + 1, by omega, by go_num, hid1 (by obtain ⟨n, e⟩ := HD.out; rw [e, World.drewN_drewN]; exact ⟨_, rfl⟩)⟩, by simp [intOf]; omega⟩
    · have hkN : k = m := by omega
      subst hkN
      go_wp2_with fail
      go_ret
      exact ⟨rfl, HD.out⟩
/-- The i-th of the Room. -/
theorem Rm.at {w : World} {M : Nat} {L : List (Bt × Value)} (h : Rm w M L) {i : Nat} (hi : i < L.length) : ∃ gw cw gs cs g c, w.cell? ⟨M, 0, none⟩ = some (.slice (some ⟨gw, 0, none⟩) L.length cw) ∧ w.cell? ⟨M, 1, none⟩ = some (.slice (some ⟨gs, 0, none⟩) L.length cs) ∧
    w.cell? ⟨gw, i, none⟩ = some (.slice (some ⟨g, 0, none⟩) (L[i].1.m + 20) c) ∧ w.cell? ⟨gs, i, none⟩ = some (wasV L[i]) ∧ L[i].1.m + 20 ≤ c ∧ ∀ k, k < L[i].1.m + 20 → w.cell? ⟨g, k, none⟩ = some (eW L[i].1 k) := by
  obtain ⟨vw, vs, h1, h2, h3, h4, h5⟩ := h
  obtain ⟨gw, cw, fw, rfl, _, a1, _, a2, a3⟩ := own_row h2 (by omega)
  obtain ⟨gs, cs, fs, rfl, _, b1, _, b2, b3⟩ := own_row h3 (by omega)
  have hm : L[i] ∈ L := List.getElem_mem hi
  obtain ⟨g, c, f, hv, _, d1, _, d2, d3⟩ := own_row (h5 _ hm) (by omega)
  refine ⟨gw, cw, gs, cs, g, c, h1.cell (by omega), h1.cell (by omega), ?_, ?_, d1, fun k hk => ?_⟩
  · have e := a3 i hi
    rw [List.getElem?_map, List.getElem?_eq_getElem hi] at e
    rw [a2.cell (by omega), ← hv]
    exact e.symm
  · have e := b3 i hi
    rw [List.getElem?_map, List.getElem?_eq_getElem hi] at e
    rw [b2.cell (by omega)]
    exact e.symm
  · have e := d3 k hk
    rw [el_at hk] at e
    rw [d2.cell (by omega)]
    exact e.symm
set_option maxHeartbeats 3200000 in
set_option maxRecDepth 100000 in
theorem kept_any (w : World) (M : Nat) (L : List (Bt × Value)) (hL : L.length ≤ 16) (hR : Rm w M L) (hW : ∀ e ∈ L, Rz w e.1) :
    Calls Tryd.prog 12 #[.pointer (some ⟨M, 0, none⟩)] w fun e w' => e = .returned (.bool true) ∧ Below w.heap.size w w' := by
  have HR := hid1 hR
  have HW := hid1 hW
  obtain ⟨nl, enl⟩ : ∃ n, L.length = n := ⟨_, rfl⟩
  have ENL := hid1 enl
  have hnl : nl ≤ 16 := by omega
  clear hW
  have hv0 : ∃ ao cw, w.cell? ⟨M, 0, none⟩ = some (.slice ao nl cw) := by
    obtain ⟨vw, vs, h1, h2, _⟩ := hR
    obtain ⟨ao, cp, rfl⟩ := own_form h2
    exact ⟨ao, cp, by rw [← enl]; exact h1.cell (by omega)⟩
  obtain ⟨wo, wcp, hw0⟩ := hv0
  clear hR enl hL
  go_enter Tryd.func12, Tryd.ntmps12
  go_wp2_with fail
  go_loopw [3] (fun i wr => ∃ k : Nat, k ≤ nl ∧ i = .int .i64 k ∧ Below w.heap.size w wr) (fun i _ => nl - (intOf i).toNat)
  case atStart => exact ⟨0, Nat.zero_le _, rfl, Below.refl _ _⟩
  case round =>
    obtain ⟨k, hk, rfl, B0⟩ := hrel
    have m0 := keepc B0 hw0
    by_cases hlt : k < nl
    · have hlt' : k < L.length := by rw [ENL.out]; exact hlt
      obtain ⟨gw, cw, gs, cs, g, c, a1, a2, a3, a4, a5, a6⟩ := (HR.out.below B0).at hlt'
      have hz := (HW.out L[k] (List.getElem_mem hlt')).below B0
      rw [ENL.out] at a1 a2
      have ik : (k : Int) < (nl : Int) := by omega
      have ik0 : (0 : Int) ≤ (k : Int) := by omega
      generalize L[k] = e at *
      obtain ⟨⟨bn, ba, bm, bc, BN⟩, ev⟩ := e
      dsimp only [wasV] at *
      have hm := hz.2.2
      dsimp only at hm
      have HU : Hid (RU wr (some ⟨g, 0, none⟩) bm BN) := fun j hj => ⟨g, 0, rfl, by
        rw [Nat.zero_add, a6 j (by omega)]
        unfold eW
        rw [if_pos (show j < bm from hj)]⟩
      have HV : Hid (RU wr ba bm BN) := fun j hj => hz.1.2.2 j hj
      have HM : Hid (∀ j, j < 20 → wr.cell? ⟨g, bm + j, none⟩ = some (.int .u64 (77 + (j : Int)))) := fun j hj => by
        rw [a6 (bm + j) (by omega)]
        unfold eW
        dsimp only
        rw [if_neg (by omega), show bm + j - bm = j by omega]
        simp
      have ic1 : (bm : Int) ≤ (c : Int) := by omega
      have ic2 : bm ≤ c := by omega
      have ic3 : (0 : Int) ≤ (bm : Int) := by omega
      have ic4 : (bm : Int) ≤ 17592186043904 := by omega
      have CS : Hid (∀ X : World, X.heap = wr.heap → Calls Tryd.prog 29 #[.slice (some ⟨g, 0, none⟩) bm c, .slice ba bm bc] X fun e w' => e = .returned (.bool true) ∧ ∃ n, w' = X.drewN n) := fun X hX => sameWords_true bm BN _ _ _ _ X (by omega) (ru_heap HU.out hX) (ru_heap HV.out hX)
      clear a6 hz m0 HU HV
      go_wp2_with fail
      go_quiet ((go_at_call 29; refine (CS.out _ (by rfl)).mono ?_; rintro e w5 ⟨rfl, nn, rfl⟩; first | exact ⟨rfl, _, rfl⟩ | (refine ⟨rfl, ?_⟩; simp only [World.drewN_drewN]; exact ⟨_, rfl⟩)))
      go_wp2_with fail
      go_loop [6] (fun j => ∃ q : Nat, q ≤ 20 ∧ j = .int .i64 q) (fun j => 20 - (intOf j).toNat)
      case atStart => exact ⟨0, Nat.zero_le _, rfl⟩
      case round =>
        obtain ⟨q, hq, rfl⟩ := hrel
        by_cases hq2 : q < 20
        · have iq : (q : Int) < 20 := by omega
          have iq0 : (0 : Int) ≤ (q : Int) := by omega
          have cq := HM.out q hq2
          have iq3 : (bm : Int) + (q : Int) < (bm : Int) + 20 := by omega
          have tq1 : ((bm : Int) + (q : Int)).toNat = bm + q := by omega
          go_wp2_with fail
          exact ⟨⟨q + 1, by omega, by go_num⟩, by simp [intOf]; omega⟩
        · have hq20 : q = 20 := by omega
          subst hq20
          go_wp2_with fail
          exact ⟨⟨k + 1, by omega, by go_num, bl_drewN B0 _⟩, by simp [intOf]; omega⟩
    · have hkN : k = nl := by omega
      subst hkN
      go_wp2_with fail
      go_ret
      exact ⟨rfl, B0⟩
end Go.Proofs.YtpinmfhabbcflabDoor
