/- CHUNKFRESH: whole. -/
import Derived.Test.YtinhhgiokaamhaaDoorCX3
namespace Go.Proofs.YtinhhgiokaamhaaDoor
open Go.RowKit

section
variable {w : World} {B : Nat → Prop} {bb : Nat} {vy vl : Value} {mu : Int} {ny nl : Nat} {ao : Nat → Option Addr} {n c : Nat → Nat} {lo : Nat → Option Addr} {m d : Nat → Nat}
theorem Wg.at {T k : Nat} {v : Value} {el : Nat → Value} (h : Wg w T v k el) {i : Nat} (hi : i < k) : ∃ g cw, v = .slice (some ⟨g, 0, none⟩) k cw ∧ w.cell? ⟨g, i, none⟩ = some (el i) := by
  rcases h with ⟨_, e⟩ | ⟨g, cw, f, e, h1, _, r, hf⟩
  · omega
  · refine ⟨g, cw, e, ?_⟩
    have := r.cell (i := i) (by omega)
    rw [hf i hi] at this
    exact this
theorem mkc_at {g k cap : Nat} {t : Int} (h : w.ownsRow 0 37 2 (.slice (some ⟨g, 0, none⟩) k cap) k (rowL (mkc t) (k * 2))) {j : Nat} (hj : j < k) : w.cell? ⟨g, j * 2, none⟩ = some (.int .u32 t) ∧ w.cell? ⟨g, j * 2 + 1, none⟩ = some (.slice none 0 0) := by
  have h1 := h.cellAt (j * 2) (by omega)
  have h2 := h.cellAt (j * 2 + 1) (by omega)
  rw [h1, h2]
  constructor
  · simp [rowL, mkc, show j * 2 < k * 2 by omega]
  · simp [rowL, mkc, show j * 2 + 1 < k * 2 by omega]
end
set_option maxHeartbeats 3200000 in
set_option maxRecDepth 100000 in
theorem whole_any (B : Nat → Prop) (bb ny nl : Nat) (w : World) (hb : Bi w B bb ny nl) (hny : ny ≤ 4398046511104) (hnl : nl ≤ 4398046511104) :
    Calls Tryd.prog 20 #[.pointer (some ⟨bb, 0, none⟩)] w fun e w' => e = .returned (.bool true) ∧ Below w.heap.size w w' := by
  obtain ⟨vy, vl, mu, ao, n, c, lo, m, d, hbk⟩ := hb
  obtain ⟨yo, yc, evy⟩ := hbk.y.val
  subst evy
  obtain ⟨xo, xc, evl⟩ := hbk.l.val
  subst evl
  have HB := hid1 hbk
  have c0 : w.cell? ⟨bb, 0, none⟩ = some (.slice yo ny yc) := hbk.h.cell (by omega)
  have c1 : w.cell? ⟨bb, 1, none⟩ = some (.slice xo nl xc) := hbk.h.cell (by omega)
  have iy0 : (0 : Int) ≤ (ny : Int) := by omega
  have iy1 : (ny : Int) ≤ 4398046511104 := by omega
  have il0 : (0 : Int) ≤ (nl : Int) := by omega
  have il1 : (nl : Int) ≤ 4398046511104 := by omega
  clear hbk
  go_enter Tryd.func20, Tryd.ntmps20
  go_wp2_with fail
  go_loopw [3] (fun s wr => ∃ i : Nat, i ≤ ny ∧ s = .int .i64 i ∧ Below w.heap.size w wr) (fun s _ => ny - (intOf s).toNat)
  case atStart => exact ⟨0, Nat.zero_le _, rfl, Below.refl _ _⟩
  case round =>
    obtain ⟨i, hi1, rfl, hbl⟩ := hrel
    have ii0 : (0 : Int) ≤ (i : Int) := by omega
    have e0 := keepc hbl c0
    by_cases hlt : i < ny
    · have ii : (i : Int) < (ny : Int) := by omega
      obtain ⟨gy, cw, e, cy⟩ := HB.out.y.at hlt
      injection e with e1 e2 e3
      subst e1
      clear e2 e3
      obtain ⟨k, ek⟩ : ∃ k, n i = k := ⟨_, rfl⟩
      have hkb := HB.out.sm i hlt
      have hoi := HB.out.ey i hlt
      unfold sv at cy
      rw [ek] at cy hkb hoi
      obtain ⟨la, ela⟩ : ∃ la, ao i = la := ⟨_, rfl⟩
      obtain ⟨cp, ecp⟩ : ∃ cp, c i = cp := ⟨_, rfl⟩
      rw [ela, ecp] at cy hoi
      have ik0 : (0 : Int) ≤ (k : Int) := by omega
      have ik1 : (k : Int) ≤ 16777217 := by omega
      have HOI := hid1 hoi
      clear hoi ek ela ecp
      go_wp2_with fail
      go_loopw [4] (fun s wx => ∃ j : Nat, j ≤ k ∧ s = .int .i64 j ∧ Below w.heap.size w wx) (fun s _ => k - (intOf s).toNat)
      case atStart => exact ⟨0, Nat.zero_le _, rfl, hbl⟩
      case round =>
        clear hbl e0
        obtain ⟨j, hj1, rfl, hbl⟩ := hrel
        have ij0 : (0 : Int) ≤ (j : Int) := by omega
        have e0 := keepc hbl c0
        have ey := keepc hbl cy
        by_cases hjk : j < k
        · have ij : (j : Int) < (k : Int) := by omega
          obtain ⟨g, e⟩ : ∃ g, la = some ⟨g, 0, none⟩ := by
            rcases HOI.out.2 with ⟨_, h0⟩ | ⟨g, cap, cur, hv, _⟩
            · omega
            · injection hv with hv; exact ⟨g, hv⟩
          subst e
          have cj := keepc hbl (show w.cell? ⟨g, j, none⟩ = some (.int .u8 ((nmr i j : Nat) : Int)) by
            rw [HOI.out.cellAt j (by omega)]
            simp [u8s, nms, hjk])
          have NA := hid1 (fun W => nmr_any i j (by omega) W)
          go_upto_region 7 with fail
          go_quiet ((go_at_call 42; exact Calls.quiet_of_same (NA.out _)))
          go_wp2_with fail
          exact ⟨⟨j + 1, by omega, by go_num, bl_drewN hbl _⟩, by simp [intOf]; omega⟩
        · obtain rfl : j = k := by omega
          go_wp2_with fail
          exact ⟨⟨i + 1, by omega, by go_num, hbl⟩, by simp [intOf]; omega⟩
    · obtain rfl : i = ny := by omega
      go_wp2_with fail
      go_loopw [5] (fun s wr => ∃ i : Nat, i ≤ nl ∧ s = .int .i64 i ∧ Below w.heap.size w wr) (fun s _ => nl - (intOf s).toNat)
      case atStart => exact ⟨0, Nat.zero_le _, rfl, hbl⟩
      case round =>
        clear hbl e0 c0
        obtain ⟨q, hq1, rfl, hbl⟩ := hrel
        have iq0 : (0 : Int) ≤ (q : Int) := by omega
        have e1 := keepc hbl c1
        by_cases hlt : q < nl
        · have iq : (q : Int) < (nl : Int) := by omega
          obtain ⟨gy, cw, e, cy⟩ := HB.out.l.at hlt
          injection e with e1' e2 e3
          subst e1'
          clear e2 e3
          have hoi := HB.out.el q hlt
          obtain ⟨k, ek⟩ : ∃ k, m q = k := ⟨_, rfl⟩
          obtain ⟨la, ela⟩ : ∃ la, lo q = la := ⟨_, rfl⟩
          obtain ⟨cp, ecp⟩ : ∃ cp, d q = cp := ⟨_, rfl⟩
          unfold sv at cy
          rw [ek, ela, ecp] at cy hoi
          have hkm : k ≤ maxLen := by
            rcases hoi.2 with ⟨_, h0⟩ | ⟨g, cap, cur, hv, _, _, h4, h5, _⟩
            · omega
            · omega
          unfold maxLen at hkm
          have ik0 : (0 : Int) ≤ (k : Int) := by omega
          have ik1 : (k : Int) ≤ 9223372036854775807 := by omega
          have HOI := hid1 hoi
          clear hoi ek ela ecp
          go_wp2_with fail
          go_loopw [6] (fun s wx => ∃ j : Nat, j ≤ k ∧ s = .int .i64 j ∧ Below w.heap.size w wx) (fun s _ => k - (intOf s).toNat)
          case atStart => exact ⟨0, Nat.zero_le _, rfl, hbl⟩
          case round =>
            clear hbl e1
            obtain ⟨j, hj1, rfl, hbl⟩ := hrel
            have ij0 : (0 : Int) ≤ (j : Int) := by omega
            have e1 := keepc hbl c1
            have ey := keepc hbl cy
            by_cases hjk : j < k
            · have ij : (j : Int) < (k : Int) := by omega
              obtain ⟨g, e⟩ : ∃ g, la = some ⟨g, 0, none⟩ := by
                rcases HOI.out.2 with ⟨_, h0⟩ | ⟨g, cap, cur, hv, _⟩
                · omega
                · injection hv with hv; exact ⟨g, hv⟩
              subst e
              obtain ⟨m0, m1⟩ := mkc_at HOI.out hjk
              have n0 := keepc hbl m0
              have n1 := keepc hbl m1
              unfold tgm at n0
              clear m0 m1
              go_wp2_with fail
              exact ⟨⟨j + 1, by omega, by go_num, hbl⟩, by simp [intOf]; omega⟩
            · obtain rfl : j = k := by omega
              go_wp2_with fail
              exact ⟨⟨q + 1, by omega, by go_num, hbl⟩, by simp [intOf]; omega⟩
        · obtain rfl : q = nl := by omega
          go_wp2_with fail
          go_ret
          exact ⟨rfl, hbl⟩
end Go.Proofs.YtinhhgiokaamhaaDoor
