/- THE DOCUMENT'S OWN four, number, Size (heddleref8). -/
import Derived.Test.YtbpglkhgggokcaaDoorCR1
import Derived.Test.YtbpglkhgggokcaaDoorCE1
namespace Go.Proofs.YtbpglkhgggokcaaDoor
open Go.RowKit

set_option maxHeartbeats 800000 in
set_option maxRecDepth 100000 in
theorem rfour_any (base n x : Nat) (a : Option Addr) (m c : Nat) (l : List Nat) (w : World) (hb : base ≤ w.heap.size) (hn : n ≤ 16777216) (hown : w.ownsRow base 5 1 (.slice a m c) n (u8s l)) :
    Calls Tryd.prog 32 #[.slice a m c, .int .u32 x] w fun e w' => ∃ a' m' c', e = .returned (.slice a' m' c') ∧ w'.ownsRow base 5 1 (.slice a' m' c') (n + 4) (u8s (l ++ four x)) ∧ BP (fun b => (Value.slice a m c).ownBlock = some b) w w' := by
  have hb' : ∀ o, base ≤ (w.alloc o).heap.size := fun o => by simp; omega
  have hsz : n + 4 ≤ 1099511627776 := by omega
  have d1 : (x : Int) / 256 = ((x / 256 : Nat) : Int) := by omega
  have d2 : (x : Int) / 65536 = ((x / 65536 : Nat) : Int) := by omega
  have d3 : (x : Int) / 16777216 = ((x / 16777216 : Nat) : Int) := by omega
  have HF : Hid (four x = [x % 256, x / 256 % 256, x / 65536 % 256, x / 16777216 % 256]) := hid1 rfl
  obtain ⟨q0, e0⟩ : ∃ q, x % 256 = q := ⟨_, rfl⟩
  obtain ⟨q1, e1⟩ : ∃ q, x / 256 % 256 = q := ⟨_, rfl⟩
  obtain ⟨q2, e2⟩ : ∃ q, x / 65536 % 256 = q := ⟨_, rfl⟩
  obtain ⟨q3, e3⟩ : ∃ q, x / 16777216 % 256 = q := ⟨_, rfl⟩
  rw [e0, e1, e2, e3] at HF
  have w0 := u8w x q0 e0
  have w1 := u8w _ q1 e1
  have w2 := u8w _ q2 e2
  have w3 := u8w _ q3 e3
  rw [← d1] at w1
  rw [← d2] at w2
  rw [← d3] at w3
  have m1 : (x : Int) / 256 % 256 = (q1 : Int) := by omega
  have m2 : (x : Int) / 65536 % 256 = (q2 : Int) := by omega
  have m3 : (x : Int) / 16777216 % 256 = (q3 : Int) := by omega
  have b0 : q0 < 256 := by omega
  have b1 : q1 < 256 := by omega
  have b2 : q2 < 256 := by omega
  have b3 : q3 < 256 := by omega
  have OW := hid1 hown
  clear e0 e1 e2 e3 d1 d2 d3 hown
  go_enter Tryd.func32, Tryd.ntmps32
  go_wp2_with ((at_builtin; refine wp_app8 rfl _ _ rfl base n (.slice a m c) l (by go_simp) (OW.out.alloc _) (hb' _) (some ⟨_, 0, none⟩) 4 4 [q0, q1, q2, q3] (by go_simp) rfl (by_new _ q0 q1 q2 q3 _ b0 b1 b2 b3) hsz ?_; intro v2 w2 own2 gr2; obtain ⟨a2, m2, c2, rfl⟩ := own_is own2))
  go_ret
  refine ⟨a2, m2, c2, rfl, ?_, ?_⟩
  · rw [HF.out]; exact own2
  · exact (BP.alloc (BP.refl _ _) _).trans (BP.grown gr2) fun _ _ h => h.symm
theorem um {y k : Nat} (hk : k * y < 4294967296) : IntKind.u32.wrap ((k : Int) * (y : Int)) = ((k * y : Nat) : Int) := by
  simp [IntKind.wrap, IntKind.signed, IntKind.bits]
  rw [← Int.natCast_mul]
  omega
theorem ua {a b : Nat} (h : a + b < 4294967296) : IntKind.u32.wrap ((a : Int) + (b : Int)) = ((a + b : Nat) : Int) := by
  simp [IntKind.wrap, IntKind.signed, IntKind.bits]
  omega
set_option maxHeartbeats 1600000 in
set_option maxRecDepth 100000 in
theorem rnumber_any (ao : Option Addr) (n cap p : Nat) (l : List Nat) (w : World) (hn : l.length = n) (h4 : p + 4 ≤ n) (hm : n ≤ 281474976710656) (h : By w ao l) :
    Calls Tryd.prog 33 #[.slice ao n cap, .int .i64 p] w fun e w' => e = .returned (.int .u32 (num (l.drop p) : Nat)) ∧ Below w.heap.size w w' := by
  obtain ⟨g, o, y0, rfl, e0, c0, b0⟩ := h.at (k := p) (by omega)
  obtain ⟨p1, ep1⟩ : ∃ q, p + 1 = q := ⟨_, rfl⟩
  obtain ⟨p2, ep2⟩ : ∃ q, p + 2 = q := ⟨_, rfl⟩
  obtain ⟨p3, ep3⟩ : ∃ q, p + 3 = q := ⟨_, rfl⟩
  obtain ⟨_, _, y1, f1, e1, c1, b1⟩ := h.at (k := p1) (by omega)
  obtain ⟨_, _, y2, f2, e2, c2, b2⟩ := h.at (k := p2) (by omega)
  obtain ⟨_, _, y3, f3, e3, c3, b3⟩ := h.at (k := p3) (by omega)
  injection f1 with f1
  injection f1 with f1 f1'
  injection f2 with f2
  injection f2 with f2 f2'
  injection f3 with f3
  injection f3 with f3 f3'
  subst f1 f1' f2 f2' f3 f3'
  have HN : Hid (num (l.drop p) = y0 + 256 * y1 + 65536 * y2 + 16777216 * y3) := hid1 (by
    unfold num
    simp only [List.getD_eq_getElem?_getD, List.getElem?_drop, Nat.add_zero, ep1, ep2, ep3, e0, e1, e2, e3, Option.getD_some])
  have i0 : (p : Int) < (n : Int) := by omega
  have i1 : (p1 : Int) < (n : Int) := by omega
  have i2 : (p2 : Int) < (n : Int) := by omega
  have i3 : (p3 : Int) < (n : Int) := by omega
  have j0 : (0 : Int) ≤ (p : Int) := by omega
  have j1 : (0 : Int) ≤ (p1 : Int) := by omega
  have j2 : (0 : Int) ≤ (p2 : Int) := by omega
  have j3 : (0 : Int) ≤ (p3 : Int) := by omega
  have k0 := iw_id (x := (p : Int)) (by omega) (by omega)
  have k1 := iw_id (x := (p1 : Int)) (by omega) (by omega)
  have k2 := iw_id (x := (p2 : Int)) (by omega) (by omega)
  have k3 := iw_id (x := (p3 : Int)) (by omega) (by omega)
  have q1 : IntKind.i64.wrap ((p : Int) + 1) = (p1 : Int) := (iw_id (by omega) (by omega)).trans (by omega)
  have q2 : IntKind.i64.wrap ((p : Int) + 2) = (p2 : Int) := (iw_id (by omega) (by omega)).trans (by omega)
  have q3 : IntKind.i64.wrap ((p : Int) + 3) = (p3 : Int) := (iw_id (by omega) (by omega)).trans (by omega)
  have w0 : IntKind.u32.wrap (y0 : Int) = (y0 : Int) := by simp [IntKind.wrap, IntKind.signed, IntKind.bits]; omega
  have w1 : IntKind.u32.wrap (y1 : Int) = (y1 : Int) := by simp [IntKind.wrap, IntKind.signed, IntKind.bits]; omega
  have w2 : IntKind.u32.wrap (y2 : Int) = (y2 : Int) := by simp [IntKind.wrap, IntKind.signed, IntKind.bits]; omega
  have w3 : IntKind.u32.wrap (y3 : Int) = (y3 : Int) := by simp [IntKind.wrap, IntKind.signed, IntKind.bits]; omega
  have t1 : IntKind.u32.wrap (256 * (y1 : Int)) = ((256 * y1 : Nat) : Int) := um (k := 256) (by omega)
  have t2 : IntKind.u32.wrap (65536 * (y2 : Int)) = ((65536 * y2 : Nat) : Int) := um (k := 65536) (by omega)
  have t3 : IntKind.u32.wrap (16777216 * (y3 : Int)) = ((16777216 * y3 : Nat) : Int) := um (k := 16777216) (by omega)
  clear e0 e1 e2 e3 h ep1 ep2 ep3
  go_enter Tryd.func33, Tryd.ntmps33
  go_wp2_with fail
  go_quiet (fail)
  go_wp2
  go_ret
  refine ⟨ret_int ?_, bl_drewN (Below.refl _ _) _⟩
  rw [HN.out]
  clear w0 w1 w2 w3 t1 t2 t3 k0 k1 k2 k3 q1 q2 q3
  omega
set_option maxHeartbeats 1600000 in
set_option maxRecDepth 100000 in
theorem rsize_any (lo : Option Addr) (cl : Nat) (cs : List Ck) (w : World) (hn : cs.length ≤ 1024) (h : Cs w lo cs) :
    Calls Tryd.prog 31 #[.slice lo cs.length cl] w fun e w' => e = .returned (.int .i64 (szC cs : Nat)) ∧ w' = w := by
  have H := hid1 h
  have SB : Hid (∀ k, k ≤ cs.length → szT cs k ≤ 12 + 281474976710672 * k) := hid1 (szT_bd h.len)
  clear h
  go_enter Tryd.func31, Tryd.ntmps31
  go_wp2
  go_loop [3, 4] (fun s i => ∃ k v : Nat, k ≤ cs.length ∧ i = .int .i64 k ∧ s = .int .i64 v ∧ Hid (v = szT cs k)) (fun _ i => cs.length - (intOf i).toNat)
  case atStart => exact ⟨0, 12, Nat.zero_le _, rfl, rfl, hid1 rfl⟩
  case round =>
    obtain ⟨k, v, hk, rfl, rfl, HV⟩ := hrel
    have ik0 : (0 : Int) ≤ (k : Int) := by omega
    by_cases hlt : k < cs.length
    · have ik : (k : Int) < (cs.length : Int) := by omega
      obtain ⟨gl, ol, ao, cap, rfl, c1, c2, b, r1, r2⟩ := H.out k cs[k] (List.getElem?_eq_getElem hlt)
      have bv := SB.out k hk
      rw [← HV.out] at bv
      have HN : Hid (v + 16 + cs[k].2.length = szT cs (k + 1)) := hid1 (by rw [szT_succ hlt, HV.out]; omega)
      obtain ⟨y, ey⟩ : ∃ y, cs[k].2.length = y := ⟨_, rfl⟩
      rw [ey] at c2 HN r2
      have E1 : Hid (wrap64 ((v : Int) + 16) = ((v + 16 : Nat) : Int)) := hid1 ((wr_id (by omega) (by omega)).trans (by omega))
      have E2 : Hid (wrap64 (((v + 16 : Nat) : Int) + (y : Int)) = ((v + 16 + y : Nat) : Int)) := hid1 ((wr_id (by omega) (by omega)).trans (by omega))
      have hk1 : k + 1 ≤ cs.length := by omega
      clear ey b r1
      have e1 := E1.out
      have e2 := E2.out
      go_wp2_with fail
      clear e1 e2
      exact ⟨⟨k + 1, _, hk1, by go_num, rfl, HN⟩, by simp [intOf]; omega⟩
    · obtain rfl : k = cs.length := by omega
      go_wp2
      go_ret
      exact ⟨ret_int (by rw [HV.out, szT, List.take_length]), rfl⟩
end Go.Proofs.YtbpglkhgggokcaaDoor
