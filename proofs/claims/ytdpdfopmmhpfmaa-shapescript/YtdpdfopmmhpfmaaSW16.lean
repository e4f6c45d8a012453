/- SHAPES: ShapeScript, WALKED. -/
import Derived.Test.YtdpdfopmmhpfmaaSW15
namespace Go.Proofs.Ytdpdfopmmhpfmaa
open Go.RowKit

def Lop (W : World) (ao : Option Addr) (m : Nat) : Prop := ∀ k, k < m → ∃ (g o : Nat) (kd h v c r s sy sx t l b q y x z i : Int), ao = some ⟨g, o, none⟩ ∧ W.cell? ⟨g, o + k * 16, none⟩ = some (.int .i64 kd) ∧ W.cell? ⟨g, o + k * 16 + 1, none⟩ = some (.int .i64 h) ∧ W.cell? ⟨g, o + k * 16 + 2, none⟩ = some (.int .i64 v) ∧ W.cell? ⟨g, o + k * 16 + 3, none⟩ = some (.int .i64 c) ∧ W.cell? ⟨g, o + k * 16 + 4, none⟩ = some (.int .i64 r) ∧ W.cell? ⟨g, o + k * 16 + 5, none⟩ = some (.int .i64 s) ∧ W.cell? ⟨g, o + k * 16 + 6, none⟩ = some (.int .i64 sy) ∧ W.cell? ⟨g, o + k * 16 + 7, none⟩ = some (.int .i64 sx) ∧ W.cell? ⟨g, o + k * 16 + 8, none⟩ = some (.int .i64 t) ∧ W.cell? ⟨g, o + k * 16 + 9, none⟩ = some (.int .i64 l) ∧ W.cell? ⟨g, o + k * 16 + 10, none⟩ = some (.int .i64 b) ∧ W.cell? ⟨g, o + k * 16 + 11, none⟩ = some (.int .i64 q) ∧ W.cell? ⟨g, o + k * 16 + 12, none⟩ = some (.int .i64 y) ∧ W.cell? ⟨g, o + k * 16 + 13, none⟩ = some (.int .i64 x) ∧ W.cell? ⟨g, o + k * 16 + 14, none⟩ = some (.int .i64 z) ∧ W.cell? ⟨g, o + k * 16 + 15, none⟩ = some (.int .i64 i)
theorem kp16 {W w' : World} {g o : Nat} {kd h v c r s sy sx t l b q y x z i : Int} (hb : Below W.heap.size W w') (c0 : W.cell? ⟨g, o, none⟩ = some (.int .i64 kd)) (c1 : W.cell? ⟨g, o + 1, none⟩ = some (.int .i64 h)) (c2 : W.cell? ⟨g, o + 2, none⟩ = some (.int .i64 v)) (c3 : W.cell? ⟨g, o + 3, none⟩ = some (.int .i64 c)) (c4 : W.cell? ⟨g, o + 4, none⟩ = some (.int .i64 r)) (c5 : W.cell? ⟨g, o + 5, none⟩ = some (.int .i64 s)) (c6 : W.cell? ⟨g, o + 6, none⟩ = some (.int .i64 sy)) (c7 : W.cell? ⟨g, o + 7, none⟩ = some (.int .i64 sx)) (c8 : W.cell? ⟨g, o + 8, none⟩ = some (.int .i64 t)) (c9 : W.cell? ⟨g, o + 9, none⟩ = some (.int .i64 l)) (c10 : W.cell? ⟨g, o + 10, none⟩ = some (.int .i64 b)) (c11 : W.cell? ⟨g, o + 11, none⟩ = some (.int .i64 q)) (c12 : W.cell? ⟨g, o + 12, none⟩ = some (.int .i64 y)) (c13 : W.cell? ⟨g, o + 13, none⟩ = some (.int .i64 x)) (c14 : W.cell? ⟨g, o + 14, none⟩ = some (.int .i64 z)) (c15 : W.cell? ⟨g, o + 15, none⟩ = some (.int .i64 i)) : w'.cell? ⟨g, o, none⟩ = some (.int .i64 kd) ∧ w'.cell? ⟨g, o + 1, none⟩ = some (.int .i64 h) ∧ w'.cell? ⟨g, o + 2, none⟩ = some (.int .i64 v) ∧ w'.cell? ⟨g, o + 3, none⟩ = some (.int .i64 c) ∧ w'.cell? ⟨g, o + 4, none⟩ = some (.int .i64 r) ∧ w'.cell? ⟨g, o + 5, none⟩ = some (.int .i64 s) ∧ w'.cell? ⟨g, o + 6, none⟩ = some (.int .i64 sy) ∧ w'.cell? ⟨g, o + 7, none⟩ = some (.int .i64 sx) ∧ w'.cell? ⟨g, o + 8, none⟩ = some (.int .i64 t) ∧ w'.cell? ⟨g, o + 9, none⟩ = some (.int .i64 l) ∧ w'.cell? ⟨g, o + 10, none⟩ = some (.int .i64 b) ∧ w'.cell? ⟨g, o + 11, none⟩ = some (.int .i64 q) ∧ w'.cell? ⟨g, o + 12, none⟩ = some (.int .i64 y) ∧ w'.cell? ⟨g, o + 13, none⟩ = some (.int .i64 x) ∧ w'.cell? ⟨g, o + 14, none⟩ = some (.int .i64 z) ∧ w'.cell? ⟨g, o + 15, none⟩ = some (.int .i64 i) := ⟨keepc hb c0, keepc hb c1, keepc hb c2, keepc hb c3, keepc hb c4, keepc hb c5, keepc hb c6, keepc hb c7, keepc hb c8, keepc hb c9, keepc hb c10, keepc hb c11, keepc hb c12, keepc hb c13, keepc hb c14, keepc hb c15⟩
theorem Lop.keep {W w' : World} {ao : Option Addr} {m : Nat} (h : Lop W ao m) (hb : Below W.heap.size W w') : Lop w' ao m := fun k hk => by
  obtain ⟨g, o, kd, h, v, c, r, s, sy, sx, t, l, b, q, y, x, z, i, e, c0, c1, c2, c3, c4, c5, c6, c7, c8, c9, c10, c11, c12, c13, c14, c15⟩ := h k hk
  exact ⟨g, o, kd, h, v, c, r, s, sy, sx, t, l, b, q, y, x, z, i, e, kp16 hb c0 c1 c2 c3 c4 c5 c6 c7 c8 c9 c10 c11 c12 c13 c14 c15⟩
set_option maxHeartbeats 1600000 in
set_option maxRecDepth 100000 in
theorem script_walk (ao : Option Addr) (m cm : Nat) (hm : m ≤ 9223372036854775807) (w : World) (L0 : Lop w ao m) :
    Calls Try.prog 8 #[.slice ao m cm] w fun e w' => e = .returned (.bool true) ∧ Below w.heap.size w w' := by
  have H0 := hid1 L0
  clear L0
  go_enter Try.func8, Try.ntmps8
  go_wp2_with fail
  refine (begun_any w).mono ?_
  rintro e w1 ⟨rfl, hb1⟩
  go_wp2_with fail
  go_loopw [3] (fun q wr => ∃ k : Nat, k ≤ m ∧ q = .int .i64 k ∧ Below w.heap.size w wr) (fun q _ => m - (intOf q).toNat)
  case atStart => exact ⟨0, Nat.zero_le _, rfl, hb1⟩
  case round =>
    clear hb1
    obtain ⟨k, hk, rfl, hnx⟩ := hrel
    have ik0 : (0 : Int) ≤ (k : Int) := by omega
    by_cases hlt : k < m
    · have ik : (k : Int) < (m : Int) := by omega
      obtain ⟨g, o, kd, h, v, c, r, s, sy, sx, t, l, b, q, y, x, z, i, rfl, c0, c1, c2, c3, c4, c5, c6, c7, c8, c9, c10, c11, c12, c13, c14, c15⟩ := (H0.out.keep hnx) k hlt
      go_wp2_with fail
      refine (same_any kd h v c r s sy sx t l b q y x z i _).mono ?_
      rintro e x1 ⟨rfl, hx⟩
      obtain ⟨c0, c1, c2, c3, c4, c5, c6, c7, c8, c9, c10, c11, c12, c13, c14, c15⟩ := kp16 hx c0 c1 c2 c3 c4 c5 c6 c7 c8 c9 c10 c11 c12 c13 c14 c15
      replace hnx := bl_step hnx hx
      clear hx
      go_wp2_with fail
      refine (same_any kd h v c r s sy sx t l b q y x z i _).mono ?_
      rintro e x2 ⟨rfl, hx⟩
      clear c0 c1 c2 c3 c4 c5 c6 c7 c8 c9 c10 c11 c12 c13 c14 c15
      replace hnx := bl_step hnx hx
      clear hx
      go_wp2_with fail
      exact ⟨⟨k + 1, by omega, by go_num, hnx⟩, by simp [intOf]; omega⟩
    · have em := wr_id (x := (m : Int) - 1) (by omega) (by omega)
      go_wp2_with fail
      go_loopw [4] (fun q wr => ∃ k : Nat, k ≤ m ∧ q = .int .i64 ((k : Int) - 1) ∧ Below w.heap.size w wr) (fun q _ => (intOf q + 1).toNat)
      case atStart => exact ⟨m, Nat.le_refl _, rfl, hnx⟩
      case round =>
        clear hnx hlt ik0 hk
        obtain ⟨n, hn, rfl, hnx⟩ := hrel
        by_cases hlt : 1 ≤ n
        · obtain ⟨k, rfl⟩ : ∃ k, n = k + 1 := ⟨n - 1, by omega⟩
          have e1 : ((k + 1 : Nat) : Int) - 1 = (k : Int) := by omega
          rw [e1]
          have ik0 : (0 : Int) ≤ (k : Int) := by omega
          have ik : (k : Int) < (m : Int) := by omega
          have e2 := wr_id (x := (k : Int) - 1) (by omega) (by omega)
          clear e1
          obtain ⟨g, o, kd, h, v, c, r, s, sy, sx, t, l, b, q, y, x, z, i, rfl, c0, c1, c2, c3, c4, c5, c6, c7, c8, c9, c10, c11, c12, c13, c14, c15⟩ := (H0.out.keep hnx) k (by omega)
          go_wp2_with fail
          refine (same_any kd h v c r s sy sx t l b q y x z i _).mono ?_
          rintro e x1 ⟨rfl, hx⟩
          clear c0 c1 c2 c3 c4 c5 c6 c7 c8 c9 c10 c11 c12 c13 c14 c15
          replace hnx := bl_step hnx hx
          clear hx
          go_wp2_with fail
          exact ⟨⟨k, by omega, rfl, hnx⟩, by simp [intOf]⟩
        · have n0 : n = 0 := by omega
          subst n0
          go_wp2_with fail
          go_ret
          exact ⟨rfl, hnx⟩
end Go.Proofs.Ytdpdfopmmhpfmaa
