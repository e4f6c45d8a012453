import Derived.Test.YtffhbfdbahdhoabRows
import Derived.Test.YtffhbfdbahdhoabM1
import Derived.WalkKit
import Derived.WalkSpells
import Derived.StillTactics
import Derived.Laws.Pointers
import Derived.Deep.RegionHeld3
import Derived.RowKit3
import Derived.Below
import Derived.Shelf.Spec.BitsCarry
namespace Go.Proofs.Ytffhbfdbahdhoab.Wd
open Go.RowKit Go.Shelf

theorem add64 (x y c : Int) (hx : 0 ≤ x) (hy : 0 ≤ y) (hc0 : 0 ≤ c) (hc : c ≤ 1) (w : World) : (callFunc 48 #[.int .u64 x, .int .u64 y, .int .u64 c]).run Try.prog w =
    .ok (.value (.tuple #[.int .u64 ((x + y + c) % 18446744073709551616), .int .u64 ((x + y + c) / 18446744073709551616)])) w := by
  obtain ⟨x, rfl⟩ := Int.eq_ofNat_of_zero_le hx
  obtain ⟨y, rfl⟩ := Int.eq_ofNat_of_zero_le hy
  obtain ⟨c, rfl⟩ := Int.eq_ofNat_of_zero_le hc0
  rw [run_callFunc_extern Try.func48 (by kernel_rfl) (by kernel_rfl) (by kernel_rfl) (e := add64Entry) (by kernel_rfl), run_add64 x y c (by omega) (by omega) (by omega) (by omega)]
  rfl
theorem add64_0 (x y : Int) (hx : 0 ≤ x) (hy : 0 ≤ y) (w : World) : (callFunc 48 #[.int .u64 x, .int .u64 y, .int .u64 0]).run Try.prog w =
    .ok (.value (.tuple #[.int .u64 ((x + y) % 18446744073709551616), .int .u64 ((x + y) / 18446744073709551616)])) w := by
  simpa using add64 x y 0 hx hy (Int.le_refl 0) (by decide) w


set_option maxRecDepth 100000 in
theorem flipped_w (h l : Int) (hh : U64 h) (hl : U64 l) (w : World) :
    Calls Try.prog 63 #[.agg #[.int .u64 h, .int .u64 l]] w fun e w' => e = .returned (.agg #[.int .u64 ((notW h + (notW l + 1) / 18446744073709551616) % 18446744073709551616), .int .u64 ((notW l + 1) % 18446744073709551616)]) ∧ Below w.heap.size w w' := by
  have x1 := bits_not hh; have x2 := bits_not hl
  have n1 := (notW_u64 hh).1; have n2 := (notW_u64 hl).1; have n3 := (notW_u64 hl).2
  have sg := u64_signed
  have k0 : 0 ≤ (notW l + 1) / 18446744073709551616 := by omega
  have k1 : (notW l + 1) / 18446744073709551616 ≤ 1 := by omega
  go_enter Try.func63, Try.ntmps63
  go_wp2_with (first | simp only [add64_0 (notW l) 1 n2 (by decide)] | simp only [add64 (notW h) 0 _ n1 (by decide) k0 k1])
  simp [bodyPost, results, Try.results63, go_sem]
  exact ((Below.refl _ _).alloc (Nat.le_refl _) _).alloc (by simp) _
abbrev sv (n : Int) : Value := .agg #[.int .u64 (hiOf n), .int .u64 (loOf n)]
abbrev wv (n : Int) : Value := .agg #[.int .i64 (hiOf n), .int .u64 (loOf n)]
theorem flipped_any (h l n : Int) (eh : h = hiOf n) (el : l = loOf n) (hn : Siz n) (w : World) :
    Calls Try.prog 63 #[.agg #[.int .u64 h, .int .u64 l]] w fun e w' => e = .returned (sv (flipN n)) ∧ Below w.heap.size w w' := by
  subst eh el
  refine (flipped_w _ _ (hi_u64 hn) (lo_u64 n) w).mono ?_
  rintro e w' ⟨rfl, hb⟩
  exact ⟨by rw [(flip_words n).1, (flip_words n).2]; rfl, hb⟩
theorem bcell {W w1 : World} (hb : Below W.heap.size W w1) : (∀ b o, b < W.heap.size → w1.cell? ⟨b, o, none⟩ = W.cell? ⟨b, o, none⟩) ∧ (∀ b o, b < W.heap.size → w1.frozen? ⟨b, o, none⟩ = W.frozen? ⟨b, o, none⟩) :=
  ⟨fun b o h => hb.cell (p := ⟨b, o, none⟩) h, fun b o h => hb.frozen (p := ⟨b, o, none⟩) h⟩

theorem bl_alloc {a w : World} (h : Below a.heap.size a w) (o : Obj) : Below a.heap.size a (w.alloc o) := h.alloc h.size o
theorem bl_step {a W w' : World} (h : Below a.heap.size a W) (hb : Below W.heap.size W w') : Below a.heap.size a w' := h.trans (hb.mono h.size)
theorem bl_set {a w : World} (h : Below a.heap.size a w) {b o : Nat} (hp : a.heap.size ≤ b) (u : Value) : Below a.heap.size a (w.setCell ⟨b, o, none⟩ u) := h.setCell hp u

set_option maxRecDepth 100000 in
theorem sizeOf_neg (n : Int) (hn : Rng n) (h0 : n < 0) (w : World) :
    Calls Try.prog 51 #[wv n] w fun e w' => e = .returned (sv (-n)) ∧ Below w.heap.size w w' := by
  have h1 := (hi_neg n).2 h0
  go_enter Try.func51, Try.ntmps51
  go_wp2_with fail
  refine (flipped_any _ _ _ (wrap_hi hn h0) (lo_up n) (siz_up hn h0) _).mono ?_
  rintro e w' ⟨rfl, hb⟩
  rw [flip_up hn h0]
  obtain ⟨hc, hf⟩ := bcell hb
  go_wp2
  simp [bodyPost, results, Try.results51, go_sem, hc]
  repeat (first | exact Below.refl _ _ | refine bl_alloc ?_ _ | refine Below.drew ?_ | refine bl_set ?_ (by omega) _ | refine bl_step ?_ (by assumption))
set_option maxRecDepth 100000 in
theorem sizeOf_pos (n : Int) (hn : Rng n) (h0 : 0 ≤ n) (w : World) :
    Calls Try.prog 51 #[wv n] w fun e w' => e = .returned (sv n) ∧ Below w.heap.size w w' := by
  have h1 : ¬ hiOf n < 0 := by rw [hi_neg]; omega
  have h2 := wrap_hi_pos hn h0
  go_enter Try.func51, Try.ntmps51
  go_wp2
  simp [bodyPost, results, Try.results51, go_sem]
  repeat (first | exact Below.refl _ _ | refine bl_alloc ?_ _ | refine Below.drew ?_ | refine bl_set ?_ (by omega) _ | refine bl_step ?_ (by assumption))
theorem sizeOf_any (n : Int) (hn : Rng n) (w : World) :
    Calls Try.prog 51 #[wv n] w fun e w' => e = .returned (sv (absN n)) ∧ Below w.heap.size w w' := by
  unfold absN
  by_cases h : n < 0
  · rw [if_pos h]; exact sizeOf_neg n hn h w
  · rw [if_neg h]; exact sizeOf_pos n hn (by omega) w
theorem amount_any (n : Int) (hn : I64 n) (w : World) :
    Calls Try.prog 53 #[.int .i64 n] w fun e w' => e = .returned (.int .u64 (absN n)) ∧ w' = w := by
  unfold absN
  by_cases h : n < 0
  · rw [if_pos h]
    have e1 := amount_neg hn h
    go_enter Try.func53, Try.ntmps53
    go_wp2
    go_ret
    exact ⟨rfl, rfl⟩
  · rw [if_neg h]
    have e1 := amount_pos hn h
    go_enter Try.func53, Try.ntmps53
    go_wp2
    go_ret
    exact ⟨rfl, rfl⟩

set_option maxRecDepth 100000 in
theorem signed_plus_ok (n : Int) (hn : Siz n) (w : World) (h : n < 170141183460469231731687303715884105728) :
    Calls Try.prog 55 #[sv n, .bool false] w fun e w' => e = .returned (.tuple #[wv n, .int .i64 0]) ∧ Below w.heap.size w w' := by
  have e1 := (sg_pos hn h).1
  have e2 := (sg_pos hn h).2
  have e3 := wrap64_0
  go_enter Try.func55, Try.ntmps55
  go_wp2
  all_goals (simp [bodyPost, results, Try.results55, go_sem, *]; repeat (first | exact Below.refl _ _ | refine bl_alloc ?_ _ | refine Below.drew ?_ | refine bl_set ?_ (by omega) _ | refine bl_step ?_ (by assumption)))

set_option maxRecDepth 100000 in
theorem signed_plus_no (n : Int) (hn : Siz n) (w : World) (h : 170141183460469231731687303715884105728 ≤ n) :
    Calls Try.prog 55 #[sv n, .bool false] w fun e w' => e = .returned (.tuple #[wv 0, .int .i64 10]) ∧ Below w.heap.size w w' := by
  have e1 := (sg_big hn h).1
  have e2 := (sg_big hn h).2
  go_enter Try.func55, Try.ntmps55
  go_wp2
  all_goals (simp [bodyPost, results, Try.results55, go_sem, hi0, lo0]; repeat (first | exact Below.refl _ _ | refine bl_alloc ?_ _ | refine Below.drew ?_ | refine bl_set ?_ (by omega) _ | refine bl_step ?_ (by assumption)))

set_option maxRecDepth 100000 in
theorem signed_minus_ok (n : Int) (hn : Siz n) (w : World) (h : n ≤ 170141183460469231731687303715884105728) (h0 : 0 < n) :
    Calls Try.prog 55 #[sv n, .bool true] w fun e w' => e = .returned (.tuple #[wv (-n), .int .i64 0]) ∧ Below w.heap.size w w' := by
  obtain ⟨e1, e2, e3, e4⟩ := sg_neg hn h h0
  go_enter Try.func55, Try.ntmps55
  go_wp2_with fail
  refine (flipped_any _ _ _ rfl rfl hn _).mono ?_
  rintro e w' ⟨rfl, hb⟩
  obtain ⟨hc, hf⟩ := bcell hb
  have c0 := hc w.heap.size 0 (by simp <;> omega); have c1 := hc w.heap.size 1 (by simp <;> omega)
  have c2 := hc (w.heap.size + 1) 0 (by simp); have c3 := hc (w.heap.size + 1) 1 (by simp)
  have f0 := hf w.heap.size 0 (by simp <;> omega); have f1 := hf w.heap.size 1 (by simp <;> omega)
  have f2 := hf (w.heap.size + 1) 0 (by simp); have f3 := hf (w.heap.size + 1) 1 (by simp)
  have hz := hb.size
  simp [go_sem] at c0 c1 c2 c3 f0 f1 f2 f3 hz
  have z0 : w.heap.size < w'.heap.size := by omega
  have z1 : w.heap.size + 1 < w'.heap.size := by omega
  clear hc hf hz
  go_wp2
  all_goals (simp [bodyPost, results, Try.results55, go_sem, *]; repeat (first | exact Below.refl _ _ | refine bl_alloc ?_ _ | refine Below.drew ?_ | refine bl_set ?_ (by omega) _ | refine bl_step ?_ (by assumption)))
set_option maxRecDepth 100000 in
theorem signed_minus_zero (w : World) :
    Calls Try.prog 55 #[sv 0, .bool true] w fun e w' => e = .returned (.tuple #[wv 0, .int .i64 0]) ∧ Below w.heap.size w w' := by
  have e1 := flip0
  have e2 := hi0; have e3 := lo0; have e4 := wrap64_0
  go_enter Try.func55, Try.ntmps55
  go_wp2_with fail
  refine (flipped_any _ _ _ hi0.symm lo0.symm siz0 _).mono ?_
  rintro e w' ⟨rfl, hb⟩
  obtain ⟨hc, hf⟩ := bcell hb
  have c0 := hc w.heap.size 0 (by simp <;> omega); have c1 := hc w.heap.size 1 (by simp <;> omega)
  have c2 := hc (w.heap.size + 1) 0 (by simp); have c3 := hc (w.heap.size + 1) 1 (by simp)
  have f0 := hf w.heap.size 0 (by simp <;> omega); have f1 := hf w.heap.size 1 (by simp <;> omega)
  have f2 := hf (w.heap.size + 1) 0 (by simp); have f3 := hf (w.heap.size + 1) 1 (by simp)
  have hz := hb.size
  simp [go_sem] at c0 c1 c2 c3 f0 f1 f2 f3 hz
  have z0 : w.heap.size < w'.heap.size := by omega
  have z1 : w.heap.size + 1 < w'.heap.size := by omega
  clear hc hf hz
  go_wp2
  all_goals (simp [bodyPost, results, Try.results55, go_sem, *]; repeat (first | exact Below.refl _ _ | refine bl_alloc ?_ _ | refine Below.drew ?_ | refine bl_set ?_ (by omega) _ | refine bl_step ?_ (by assumption)))
set_option maxRecDepth 100000 in
theorem signed_minus_no1 (n : Int) (hn : Siz n) (w : World) (h : 170141183460469231731687303715884105728 < n) (hz : hiOf (flipN n) = 0) :
    Calls Try.prog 55 #[sv n, .bool true] w fun e w' => e = .returned (.tuple #[wv 0, .int .i64 10]) ∧ Below w.heap.size w w' := by
  have e2 := sg_far_lo hn h hz
  have e4 := wrap64_0
  go_enter Try.func55, Try.ntmps55
  go_wp2_with fail
  refine (flipped_any _ _ _ rfl rfl hn _).mono ?_
  rintro e w' ⟨rfl, hb⟩
  obtain ⟨hc, hf⟩ := bcell hb
  have c0 := hc w.heap.size 0 (by simp <;> omega); have c1 := hc w.heap.size 1 (by simp <;> omega)
  have c2 := hc (w.heap.size + 1) 0 (by simp); have c3 := hc (w.heap.size + 1) 1 (by simp)
  have f0 := hf w.heap.size 0 (by simp <;> omega); have f1 := hf w.heap.size 1 (by simp <;> omega)
  have f2 := hf (w.heap.size + 1) 0 (by simp); have f3 := hf (w.heap.size + 1) 1 (by simp)
  have hz := hb.size
  simp [go_sem] at c0 c1 c2 c3 f0 f1 f2 f3 hz
  have z0 : w.heap.size < w'.heap.size := by omega
  have z1 : w.heap.size + 1 < w'.heap.size := by omega
  clear hc hf hz
  go_wp2
  all_goals (simp [bodyPost, results, Try.results55, go_sem, hi0, lo0, *]; repeat (first | exact Below.refl _ _ | refine bl_alloc ?_ _ | refine Below.drew ?_ | refine bl_set ?_ (by omega) _ | refine bl_step ?_ (by assumption)))
set_option maxRecDepth 100000 in
theorem signed_minus_no2 (n : Int) (hn : Siz n) (w : World) (h : 170141183460469231731687303715884105728 < n) (hz : ¬ hiOf (flipN n) = 0) :
    Calls Try.prog 55 #[sv n, .bool true] w fun e w' => e = .returned (.tuple #[wv 0, .int .i64 10]) ∧ Below w.heap.size w w' := by
  have e4 := beq_eq_false_iff_ne.2 hz
  obtain ⟨e1, e2⟩ := sg_far_hi hn h
  have e5 : decide (hiOf (flipN n) < 0) = false := decide_eq_false (by omega)
  go_enter Try.func55, Try.ntmps55
  go_wp2_with fail
  refine (flipped_any _ _ _ rfl rfl hn _).mono ?_
  rintro e w' ⟨rfl, hb⟩
  obtain ⟨hc, hf⟩ := bcell hb
  have c0 := hc w.heap.size 0 (by simp <;> omega); have c1 := hc w.heap.size 1 (by simp <;> omega)
  have c2 := hc (w.heap.size + 1) 0 (by simp); have c3 := hc (w.heap.size + 1) 1 (by simp)
  have f0 := hf w.heap.size 0 (by simp <;> omega); have f1 := hf w.heap.size 1 (by simp <;> omega)
  have f2 := hf (w.heap.size + 1) 0 (by simp); have f3 := hf (w.heap.size + 1) 1 (by simp)
  have hz := hb.size
  simp [go_sem] at c0 c1 c2 c3 f0 f1 f2 f3 hz
  have z0 : w.heap.size < w'.heap.size := by omega
  have z1 : w.heap.size + 1 < w'.heap.size := by omega
  clear hc hf hz
  go_wp2
  all_goals (simp [bodyPost, results, Try.results55, go_sem, hi0, lo0, *]; repeat (first | exact Below.refl _ _ | refine bl_alloc ?_ _ | refine Below.drew ?_ | refine bl_set ?_ (by omega) _ | refine bl_step ?_ (by assumption)))

def sgN (n : Int) (minus : Bool) : Int := if minus then -n else n
theorem signed_ok (n : Int) (minus : Bool) (hn : Siz n) (h : Rng (sgN n minus)) (w : World) :
    Calls Try.prog 55 #[sv n, .bool minus] w fun e w' => e = .returned (.tuple #[wv (sgN n minus), .int .i64 0]) ∧ Below w.heap.size w w' := by
  cases minus
  · exact signed_plus_ok n hn w h.2
  · by_cases h0 : n = 0
    · subst h0; exact signed_minus_zero w
    · have h1 := hn.1; have h2 : -170141183460469231731687303715884105728 ≤ -n := h.1
      exact signed_minus_ok n hn w (by omega) (by omega)
theorem signed_no (n : Int) (minus : Bool) (hn : Siz n) (h : ¬ Rng (sgN n minus)) (w : World) :
    Calls Try.prog 55 #[sv n, .bool minus] w fun e w' => e = .returned (.tuple #[wv 0, .int .i64 10]) ∧ Below w.heap.size w w' := by
  have h1 := hn.1
  cases minus
  · have h2 : 170141183460469231731687303715884105728 ≤ n := by simp only [Rng, sgN] at h; simp at h; omega
    exact signed_plus_no n hn w h2
  · have h2 : 170141183460469231731687303715884105728 < n := by simp only [Rng, sgN] at h; simp at h; omega
    by_cases hz : hiOf (flipN n) = 0
    · exact signed_minus_no1 n hn w h2 hz
    · exact signed_minus_no2 n hn w h2 hz
end Go.Proofs.Ytffhbfdbahdhoab.Wd
