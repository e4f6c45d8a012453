/- SHAPES: LISTS; ShapeChecks, WALKED. -/
import Derived.Test.YtdpdfopmmhpfmaaSW9
namespace Go.Proofs.Ytdpdfopmmhpfmaa
open Go.RowKit

def Lsh (W : World) (ao : Option Addr) (m : Nat) : Prop := ∀ k, k < m → ∃ (g o : Nat) (h v c : Int), ao = some ⟨g, o, none⟩ ∧ W.cell? ⟨g, o + k * 3, none⟩ = some (.int .i64 h) ∧ W.cell? ⟨g, o + k * 3 + 1, none⟩ = some (.int .i64 v) ∧ W.cell? ⟨g, o + k * 3 + 2, none⟩ = some (.int .i64 c)
def Lwn (W : World) (ao : Option Addr) (m : Nat) : Prop := ∀ k, k < m → ∃ (g o : Nat) (r s sy sx t l b q : Int), ao = some ⟨g, o, none⟩ ∧ Wn W g (o + k * 8) r s sy sx t l b q
def Lin (W : World) (ao : Option Addr) (m : Nat) : Prop := ∀ k, k < m → ∃ (g o : Nat) (x : Int), ao = some ⟨g, o, none⟩ ∧ W.cell? ⟨g, o + k, none⟩ = some (.int .i64 x)
theorem Lsh.keep {W w' : World} {ao : Option Addr} {m : Nat} (h : Lsh W ao m) (hb : Below W.heap.size W w') : Lsh w' ao m := fun k hk => by
  obtain ⟨g, o, x, y, z, e, a, b, c⟩ := h k hk
  exact ⟨g, o, x, y, z, e, keepc hb a, keepc hb b, keepc hb c⟩
theorem Lwn.keep {W w' : World} {ao : Option Addr} {m : Nat} (h : Lwn W ao m) (hb : Below W.heap.size W w') : Lwn w' ao m := fun k hk => by
  obtain ⟨g, o, r, s, sy, sx, t, l, b, q, e, a⟩ := h k hk
  exact ⟨g, o, r, s, sy, sx, t, l, b, q, e, a.keep hb⟩
theorem Lin.keep {W w' : World} {ao : Option Addr} {m : Nat} (h : Lin W ao m) (hb : Below W.heap.size W w') : Lin w' ao m := fun k hk => by
  obtain ⟨g, o, x, e, a⟩ := h k hk
  exact ⟨g, o, x, e, keepc hb a⟩
theorem kp3 {W w' : World} {g o : Nat} {h v c : Value} (hb : Below W.heap.size W w') (a : W.cell? ⟨g, o, none⟩ = some h) (b : W.cell? ⟨g, o + 1, none⟩ = some v) (d : W.cell? ⟨g, o + 2, none⟩ = some c) :
    w'.cell? ⟨g, o, none⟩ = some h ∧ w'.cell? ⟨g, o + 1, none⟩ = some v ∧ w'.cell? ⟨g, o + 2, none⟩ = some c := ⟨keepc hb a, keepc hb b, keepc hb d⟩
theorem kp8 {W w' : World} {g o : Nat} {r s sy sx t l b q : Int} (k : Wn W g o r s sy sx t l b q) (hb : Below W.heap.size W w') :
    w'.cell? ⟨g, o, none⟩ = some (.int .i64 r) ∧ w'.cell? ⟨g, o + 1, none⟩ = some (.int .i64 s) ∧ w'.cell? ⟨g, o + 2, none⟩ = some (.int .i64 sy) ∧ w'.cell? ⟨g, o + 3, none⟩ = some (.int .i64 sx) ∧ w'.cell? ⟨g, o + 4, none⟩ = some (.int .i64 t) ∧ w'.cell? ⟨g, o + 5, none⟩ = some (.int .i64 l) ∧ w'.cell? ⟨g, o + 6, none⟩ = some (.int .i64 b) ∧ w'.cell? ⟨g, o + 7, none⟩ = some (.int .i64 q) := k.keep hb
set_option maxHeartbeats 1600000 in
set_option maxRecDepth 100000 in
theorem checks_walk (ao : Option Addr) (m cm : Nat) (hm : m ≤ 9223372036854775807) (bo : Option Addr) (n cn : Nat) (hn : n ≤ 9223372036854775807) (w : World) (L1 : Lsh w ao m) (L2 : Lwn w bo n) :
    Calls Try.prog 7 #[.slice ao m cm, .slice bo n cn] w fun e w' => e = .returned (.bool true) ∧ Below w.heap.size w w' := by
  have H1 := hid1 L1
  have H2 := hid1 L2
  clear L1 L2
  go_enter Try.func7, Try.ntmps7
  go_wp2_with fail
  refine (begun_any w).mono ?_
  rintro e w1 ⟨rfl, hb1⟩
  go_wp2_with fail
  go_loopw [5] (fun i wr => ∃ k : Nat, k ≤ m ∧ i = .int .i64 k ∧ Below w.heap.size w wr) (fun i _ => m - (intOf i).toNat)
  case atStart => exact ⟨0, Nat.zero_le _, rfl, hb1⟩
  case round =>
    obtain ⟨k, hk, rfl, hnx⟩ := hrel
    have ik0 : (0 : Int) ≤ (k : Int) := by omega
    by_cases hlt : k < m
    · have ik : (k : Int) < (m : Int) := by omega
      obtain ⟨g, o, h, v, c, rfl, a0, a1, a2⟩ := (H1.out.keep hnx) k hlt
      go_wp2_with fail
      refine (elems_any h v c _).mono ?_
      rintro e x1 ⟨rfl, hx⟩
      obtain ⟨a0, a1, a2⟩ := kp3 hx a0 a1 a2
      replace hnx := bl_step hnx hx
      clear hx
      go_wp2_with fail
      refine (relems_any h v c _).mono ?_
      rintro e x2 ⟨rfl, hx⟩
      obtain ⟨a0, a1, a2⟩ := kp3 hx a0 a1 a2
      replace hnx := bl_step hnx hx
      clear hx
      go_wp2_with fail
      refine (words_any h v c _).mono ?_
      rintro e x3 ⟨rfl, hx⟩
      obtain ⟨a0, a1, a2⟩ := kp3 hx a0 a1 a2
      replace hnx := bl_step hnx hx
      clear hx
      go_wp2_with fail
      refine (rwords_any h v c _).mono ?_
      rintro e x4 ⟨rfl, hx⟩
      obtain ⟨a0, a1, a2⟩ := kp3 hx a0 a1 a2
      replace hnx := bl_step hnx hx
      clear hx
      go_wp2_with fail
      go_region_held3 (fun X => X.cell? ⟨g, o + k * 3, none⟩ = some (.int .i64 h) ∧ X.cell? ⟨g, o + k * 3 + 1, none⟩ = some (.int .i64 v) ∧ X.cell? ⟨g, o + k * 3 + 2, none⟩ = some (.int .i64 c)) (((try dsimp only); refine kp3 (W := x4) ?_ a0 a1 a2; repeat (first | exact Below.refl _ _ | refine bl_alloc ?_ _ | refine Below.drew ?_ | refine bl_drewN ?_ _ | refine bl_set ?_ (by first | omega | (simp; done) | (simp; omega)) _ | refine bl_step ?_ (by assumption))))
        (first
          | (go_at_call 14; refine (check_any h v c _).mono ?_; rintro e x5 ⟨rfl, hx5⟩)
          | (go_at_call 23; refine (rcheck_any h v c _).mono ?_; rintro e x6 ⟨rfl, hx6⟩))
      go_wp2_with fail
      refine ⟨⟨k + 1, by omega, by go_num, ?_⟩, by simp [intOf]; omega⟩
      repeat (first | exact Below.refl _ _ | refine bl_alloc ?_ _ | refine Below.drew ?_ | refine bl_drewN ?_ _ | refine bl_set ?_ (by first | omega | (simp; done) | (simp; omega)) _ | refine bl_step ?_ (by assumption))
    · have hkN : k = m := by omega
      subst hkN
      go_wp2_with fail
      go_loopw [14] (fun i wr => ∃ k : Nat, k ≤ n ∧ i = .int .i64 k ∧ Below w.heap.size w wr) (fun i _ => n - (intOf i).toNat)
      case atStart => exact ⟨0, Nat.zero_le _, rfl, hnx⟩
      case round =>
        clear hnx ik0
        obtain ⟨k, hk, rfl, hnx⟩ := hrel
        have ik0 : (0 : Int) ≤ (k : Int) := by omega
        by_cases hlt : k < n
        · have ik : (k : Int) < (n : Int) := by omega
          obtain ⟨g, o, r, s, sy, sx, t, l, b, q, rfl, W0⟩ := (H2.out.keep hnx) k hlt
          have WW := hid1 W0
          obtain ⟨a0, a1, a2, a3, a4, a5, a6, a7⟩ := W0
          go_wp2_with fail
          go_region_held3 (fun X => X.cell? ⟨g, o + k * 8, none⟩ = some (.int .i64 r) ∧ X.cell? ⟨g, o + k * 8 + 1, none⟩ = some (.int .i64 s) ∧ X.cell? ⟨g, o + k * 8 + 2, none⟩ = some (.int .i64 sy) ∧ X.cell? ⟨g, o + k * 8 + 3, none⟩ = some (.int .i64 sx) ∧ X.cell? ⟨g, o + k * 8 + 4, none⟩ = some (.int .i64 t) ∧ X.cell? ⟨g, o + k * 8 + 5, none⟩ = some (.int .i64 l) ∧ X.cell? ⟨g, o + k * 8 + 6, none⟩ = some (.int .i64 b) ∧ X.cell? ⟨g, o + k * 8 + 7, none⟩ = some (.int .i64 q)) (((try dsimp only); refine kp8 WW.out ?_; repeat (first | exact Below.refl _ _ | refine bl_alloc ?_ _ | refine Below.drew ?_ | refine bl_drewN ?_ _ | refine bl_set ?_ (by first | omega | (simp; done) | (simp; omega)) _ | refine bl_step ?_ (by assumption))))
            (first
              | (go_at_call 15; refine (window_any r s sy sx t l b q _).mono ?_; rintro e x5 ⟨rfl, hx5⟩)
              | (go_at_call 24; refine (rwindow_any r s sy sx t l b q _).mono ?_; rintro e x6 ⟨rfl, hx6⟩))
          go_wp2_with fail
          refine ⟨⟨k + 1, by omega, by go_num, ?_⟩, by simp [intOf]; omega⟩
          repeat (first | exact Below.refl _ _ | refine bl_alloc ?_ _ | refine Below.drew ?_ | refine bl_drewN ?_ _ | refine bl_set ?_ (by first | omega | (simp; done) | (simp; omega)) _ | refine bl_step ?_ (by assumption))
        · have hkN : k = n := by omega
          subst hkN
          go_wp2_with fail
          go_ret
          exact ⟨rfl, hnx⟩
end Go.Proofs.Ytdpdfopmmhpfmaa
