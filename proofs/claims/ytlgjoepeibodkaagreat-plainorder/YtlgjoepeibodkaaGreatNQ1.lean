/- NETWORKS: WHAT IS ASKED OF A LAYER; THE QUESTIONS THAT READ NO LIST. -/
import Derived.Test.YtlgjoepeibodkaaGreatNF1
import Derived.Laws.StructEq
namespace Go.Proofs.YtlgjoepeibodkaaGreat.Nn
open Go.RowKit

/-- A layer: its numbers, where its lists lie, what they hold. -/
structure Ly where
  kd : Int
  wt : Int
  k : Int
  r : Int
  s : Int
  sy : Int
  sx : Int
  t : Int
  l : Int
  b : Int
  q : Int
  bd : Int
  aw : Option Addr
  mw : Nat
  cw : Nat
  an : Option Addr
  mn : Nat
  cn : Nat
  ab : Option Addr
  mb : Nat
  cb : Nat
  ws : Nat → Int
  ns : Nat → Nat → Int
  bs : Nat → Int
abbrev lyv (L : Ly) : Value := .agg #[.int .i64 L.kd, .int .i64 L.wt, .int .i64 L.k, .int .i64 L.r, .int .i64 L.s, .int .i64 L.sy, .int .i64 L.sx, .int .i64 L.t, .int .i64 L.l, .int .i64 L.b, .int .i64 L.q, .int .i64 L.bd, .slice L.aw L.mw L.cw, .slice L.an L.mn L.cn, .slice L.ab L.mb L.cb]
/-- Where a layer stands. -/
structure Sp where
  h : Int
  v : Int
  c : Int
  ah : Int
  fs : Bool
  la : Bool
abbrev spv (S : Sp) : Value := .agg #[.int .i64 S.h, .int .i64 S.v, .int .i64 S.c, .int .i64 S.ah, .bool S.fs, .bool S.la]
def Asks (f : Nat) (L : Ly) (S : Sp) (E : Int) (w : World) : Prop := Calls Tryz.prog f #[lyv L, spv S] w fun e w' => e = .returned (.int .i64 E) ∧ Below w.heap.size w w'

theorem unless_any (x : Bool) (e : Int) (w : World) : Calls Tryz.prog 83 #[.bool x, .int .i64 e] w fun r w' => r = .returned (.int .i64 (if x = true then 0 else e)) ∧ w' = w := by
  cases x
  · go_enter Tryz.func83, Tryz.ntmps83
    go_wp2
    go_ret
    exact ⟨rfl, rfl⟩
  · go_enter Tryz.func83, Tryz.ntmps83
    go_wp2
    go_ret
    exact ⟨rfl, rfl⟩
theorem notFirst_any (L : Ly) (S : Sp) (w : World) : Asks 72 L S (if S.fs = true then 51 else 0) w := by
  obtain ⟨h, v, c, ah, fs, la⟩ := S
  unfold Asks
  cases fs
  · go_enter Tryz.func72, Tryz.ntmps72
    go_wp2_with (go_at_call 83; refine (unless_any _ _ _).mono ?_; rintro e w1 ⟨rfl, rfl⟩)
    go_ret
    refine ⟨rfl, ?_⟩
    repeat (first | (with_reducible exact Below.refl _ _) | (with_reducible refine bl_alloc ?_ _) | (with_reducible refine Below.drew ?_) | (with_reducible refine bl_drewN ?_ _) | (with_reducible refine bl_set ?_ (by omega) _) | (with_reducible refine bl_step ?_ (by assumption)))
  · go_enter Tryz.func72, Tryz.ntmps72
    go_wp2_with (go_at_call 83; refine (unless_any _ _ _).mono ?_; rintro e w1 ⟨rfl, rfl⟩)
    go_ret
    refine ⟨rfl, ?_⟩
    repeat (first | (with_reducible exact Below.refl _ _) | (with_reducible refine bl_alloc ?_ _) | (with_reducible refine Below.drew ?_) | (with_reducible refine bl_drewN ?_ _) | (with_reducible refine bl_set ?_ (by omega) _) | (with_reducible refine bl_step ?_ (by assumption)))
theorem notLast_any (L : Ly) (S : Sp) (w : World) : Asks 60 L S (if S.la = true then 51 else 0) w := by
  obtain ⟨h, v, c, ah, fs, la⟩ := S
  unfold Asks
  cases la
  · go_enter Tryz.func60, Tryz.ntmps60
    go_wp2_with (go_at_call 83; refine (unless_any _ _ _).mono ?_; rintro e w1 ⟨rfl, rfl⟩)
    go_ret
    refine ⟨rfl, ?_⟩
    repeat (first | (with_reducible exact Below.refl _ _) | (with_reducible refine bl_alloc ?_ _) | (with_reducible refine Below.drew ?_) | (with_reducible refine bl_drewN ?_ _) | (with_reducible refine bl_set ?_ (by omega) _) | (with_reducible refine bl_step ?_ (by assumption)))
  · go_enter Tryz.func60, Tryz.ntmps60
    go_wp2_with (go_at_call 83; refine (unless_any _ _ _).mono ?_; rintro e w1 ⟨rfl, rfl⟩)
    go_ret
    refine ⟨rfl, ?_⟩
    repeat (first | (with_reducible exact Below.refl _ _) | (with_reducible refine bl_alloc ?_ _) | (with_reducible refine Below.drew ?_) | (with_reducible refine bl_drewN ?_ _) | (with_reducible refine bl_set ?_ (by omega) _) | (with_reducible refine bl_step ?_ (by assumption)))
def ouE (L : Ly) : Int := if 1 ≤ L.k ∧ L.k ≤ 4096 then 0 else 30
theorem outputs_any (L : Ly) (S : Sp) (w : World) : Asks 61 L S (ouE L) w := by
  unfold Asks ouE
  by_cases h1 : 1 ≤ L.k
  · by_cases h2 : L.k ≤ 4096
    · go_enter Tryz.func61, Tryz.ntmps61
      go_wp2_with (go_at_call 83; refine (unless_any _ _ _).mono ?_; rintro e w1 ⟨rfl, rfl⟩)
      go_ret
      refine ⟨by first | rfl | simp, ?_⟩
      repeat (first | (with_reducible exact Below.refl _ _) | (with_reducible refine bl_alloc ?_ _) | (with_reducible refine Below.drew ?_) | (with_reducible refine bl_drewN ?_ _) | (with_reducible refine bl_set ?_ (by omega) _) | (with_reducible refine bl_step ?_ (by assumption)))
    · go_enter Tryz.func61, Tryz.ntmps61
      go_wp2_with (go_at_call 83; refine (unless_any _ _ _).mono ?_; rintro e w1 ⟨rfl, rfl⟩)
      go_ret
      refine ⟨by first | rfl | simp, ?_⟩
      repeat (first | (with_reducible exact Below.refl _ _) | (with_reducible refine bl_alloc ?_ _) | (with_reducible refine Below.drew ?_) | (with_reducible refine bl_drewN ?_ _) | (with_reducible refine bl_set ?_ (by omega) _) | (with_reducible refine bl_step ?_ (by assumption)))
  · go_enter Tryz.func61, Tryz.ntmps61
    go_wp2_with (go_at_call 83; refine (unless_any _ _ _).mono ?_; rintro e w1 ⟨rfl, rfl⟩)
    go_ret
    refine ⟨by first | rfl | simp, ?_⟩
    repeat (first | (with_reducible exact Below.refl _ _) | (with_reducible refine bl_alloc ?_ _) | (with_reducible refine Below.drew ?_) | (with_reducible refine bl_drewN ?_ _) | (with_reducible refine bl_set ?_ (by omega) _) | (with_reducible refine bl_step ?_ (by assumption)))
theorem window_q (L : Ly) (S : Sp) (w : World) : Asks 62 L S (wiE L.r L.s L.sy L.sx L.t L.l L.b L.q) w := by
  unfold Asks
  go_enter Tryz.func62, Tryz.ntmps62
  go_wp2_with (go_at_call 84; refine (window_any _ _ _ _ _ _ _ _ _).mono ?_; rintro e w1 ⟨rfl, hb⟩)
  go_ret
  refine ⟨rfl, ?_⟩
  repeat (first | (with_reducible exact Below.refl _ _) | (with_reducible refine bl_alloc ?_ _) | (with_reducible refine Below.drew ?_) | (with_reducible refine bl_drewN ?_ _) | (with_reducible refine bl_set ?_ (by omega) _) | (with_reducible refine bl_step ?_ (by assumption)))
def Wz (L : Ly) : Prop := L.t = 0 ∧ L.l = 0 ∧ L.b = 0 ∧ L.q = 0
instance (L : Ly) : Decidable (Wz L) := by unfold Wz; infer_instance
theorem bordered_any (L : Ly) (w : World) : Calls Tryz.prog 85 #[win L.r L.s L.sy L.sx L.t L.l L.b L.q] w fun e w' => e = .returned (.bool (!decide (Wz L))) ∧ w' = w.alloc (.cells #[.int .i64 L.r, .int .i64 L.s, .int .i64 L.sy, .int .i64 L.sx, .int .i64 L.t, .int .i64 L.l, .int .i64 L.b, .int .i64 L.q] 33) := by
  by_cases h1 : L.t = 0
  · by_cases h2 : L.l = 0
    · by_cases h3 : L.b = 0
      · by_cases h4 : L.q = 0
        · rw [decide_eq_true (show Wz L from ⟨h1, h2, h3, h4⟩)]
          go_enter Tryz.func85, Tryz.ntmps85
          go_wp2
          go_ret
          exact ⟨rfl, by first | rfl | simp [*]⟩
        · rw [decide_eq_false (show ¬ Wz L from fun h => h4 h.2.2.2)]
          go_enter Tryz.func85, Tryz.ntmps85
          go_wp2
          go_ret
          exact ⟨by simp [h4], by first | rfl | simp [*]⟩
      · rw [decide_eq_false (show ¬ Wz L from fun h => h3 h.2.2.1)]
        go_enter Tryz.func85, Tryz.ntmps85
        go_wp2
        go_ret
        exact ⟨rfl, by first | rfl | simp [*]⟩
    · rw [decide_eq_false (show ¬ Wz L from fun h => h2 h.2.1)]
      go_enter Tryz.func85, Tryz.ntmps85
      go_wp2
      go_ret
      exact ⟨rfl, by first | rfl | simp [*]⟩
  · rw [decide_eq_false (show ¬ Wz L from fun h => h1 h.1)]
    go_enter Tryz.func85, Tryz.ntmps85
    go_wp2
    go_ret
    exact ⟨rfl, by first | rfl | simp [*]⟩
theorem noBorders_any (L : Ly) (S : Sp) (w : World) : Asks 74 L S (if Wz L then 0 else 56) w := by
  unfold Asks
  by_cases hz : Wz L
  · have d := decide_eq_true hz
    go_enter Tryz.func74, Tryz.ntmps74
    go_wp2_with (first | (go_at_call 83; refine (unless_any _ _ _).mono ?_; rintro e w2 ⟨rfl, rfl⟩) | (go_at_call 85; refine (bordered_any L _).mono ?_; rintro e w1 ⟨rfl, rfl⟩; rw [d]))
    go_ret
    refine ⟨by first | rfl | simp, ?_⟩
    repeat (first | (with_reducible exact Below.refl _ _) | (with_reducible refine bl_alloc ?_ _) | (with_reducible refine Below.drew ?_) | (with_reducible refine bl_drewN ?_ _) | (with_reducible refine bl_set ?_ (by omega) _) | (with_reducible refine bl_step ?_ (by assumption)))
  · have d := decide_eq_false hz
    go_enter Tryz.func74, Tryz.ntmps74
    go_wp2_with (first | (go_at_call 83; refine (unless_any _ _ _).mono ?_; rintro e w2 ⟨rfl, rfl⟩) | (go_at_call 85; refine (bordered_any L _).mono ?_; rintro e w1 ⟨rfl, rfl⟩; rw [d]))
    go_ret
    refine ⟨by first | rfl | simp, ?_⟩
    repeat (first | (with_reducible exact Below.refl _ _) | (with_reducible refine bl_alloc ?_ _) | (with_reducible refine Below.drew ?_) | (with_reducible refine bl_drewN ?_ _) | (with_reducible refine bl_set ?_ (by omega) _) | (with_reducible refine bl_step ?_ (by assumption)))
def boE (L : Ly) : Int := if (¬ Wz L ∧ (L.bd = 1 ∨ L.bd = -1)) ∨ L.bd = 0 then 0 else 56
end Go.Proofs.YtlgjoepeibodkaaGreat.Nn
