/- PLUS AS A WHOLE, SHOW. -/
import Derived.Test.YtboabgjgcnkelabDoorFW5
import Derived.Lib.AppendIntMem
import Derived.Lib.ItoaLen
namespace Go.Proofs.YtboabgjgcnkelabDoor
open Go.RowKit Go.Shelf
attribute [local go_sem ↓] Go.wp_at_zero Go.wp_at_succ

theorem plus_ok4 (gn gd bn bd mn md sn sd x : Int) (h : noE gn gd bn bd mn md sn sd = 0) (hx : Sm x) (w : World) :
    Calls Tryd.prog 14 #[nm gn gd bn bd mn md sn sd, .int .i64 x] w fun e w' => e = .returned (.tuple #[.bool (decide (0 ≤ nv gn gd bn bd mn md sn sd x)), .int .i64 0]) ∧ Below w.heap.size w w' := by
  obtain ⟨hg, hb, hm, hs, s1⟩ := noE_ok h
  have HN := norm_any gn gd bn bd mn md sn sd
  rw [h] at HN
  have HI := inReach_any x
  rw [decide_eq_true hx] at HI
  have km := mid_bd hm hx
  have xm := bd_mul (A := 2147483647) (B := 1048576) (a := x) (b := md) hx ⟨by have := hm.1; omega, hm.2.1⟩
  obtain ⟨l1, l2, l3⟩ := left_bd hg hb hm hs hx
  obtain ⟨r1, r2, r3⟩ := right_bd hg hb hm hs
  have g1 : I64 gn := ⟨by have := hg.2.2.1; omega, by have := hg.2.2.2; omega⟩
  have g2 : I64 gd := ⟨by have := hg.1; omega, by have := hg.2.1; omega⟩
  have b1 : I64 bn := ⟨by have := hb.2.2.1; omega, by have := hb.2.2.2; omega⟩
  have b2 : I64 bd := ⟨by have := hb.1; omega, by have := hb.2.1; omega⟩
  have m2 : I64 md := ⟨by have := hm.1; omega, by have := hm.2.1; omega⟩
  have t1 : I64 sn := ⟨by have := hs.2.2.1; omega, by have := hs.2.2.2; omega⟩
  have t2 : I64 sd := ⟨by have := hs.1; omega, by have := hs.2.1; omega⟩
  have kI : I64 (x * md - mn) := ⟨by omega, by omega⟩
  have L1 : Rng (gn * (x * md - mn)) := ⟨by omega, by omega⟩
  have L2 : Rng (gn * (x * md - mn) * sd) := ⟨by omega, by omega⟩
  have L3 : Rng (gn * (x * md - mn) * sd * bd) := ⟨by omega, by omega⟩
  have R1 : Rng (bn * gd) := ⟨by omega, by omega⟩
  have R2 : Rng (bn * gd * md) := ⟨by omega, by omega⟩
  have R3 : Rng (bn * gd * md * sn) := ⟨by omega, by omega⟩
  have S : Rng (gn * (x * md - mn) * sd * bd + bn * gd * md * sn) := ⟨by omega, by omega⟩
  exact plus_core gn gd bn bd mn md sn sd x (x * md - mn) _ _ rfl HN HI km.1 km.2 (by omega) (by omega)
    (fun w g hF => product_any gn (x * md - mn) sd bd g1 kI t2 b2 L1 L2 L3 w g hF)
    (fun w g hF => product_any bn gd md sn b1 g2 m2 t1 R1 R2 R3 w g hF) S w
theorem fplus_any (gn gd bn bd mn md sn sd x : Int) (w : World) :
    Calls Tryd.prog 14 #[nm gn gd bn bd mn md sn sd, .int .i64 x] w fun e w' => e = .returned (.tuple #[.bool (plV gn gd bn bd mn md sn sd x), .int .i64 (plE gn gd bn bd mn md sn sd x)]) ∧ Below w.heap.size w w' := by
  unfold plV plE
  by_cases h : noE gn gd bn bd mn md sn sd = 0
  · by_cases h2 : Sm x
    · rw [decide_eq_true h, decide_eq_true h2, if_pos h, if_pos h2]
      exact plus_ok4 gn gd bn bd mn md sn sd x h h2 w
    · rw [decide_eq_true h, decide_eq_false h2, if_pos h, if_neg h2]
      exact plus_no2 gn gd bn bd mn md sn sd x h h2 w
  · rw [decide_eq_false h, if_neg h]
    exact plus_no1 gn gd bn bd mn md sn sd x h w
/-- The table of powers. -/
abbrev LaidP (w : World) : Prop := Lib.TabIs Tryd.prog w "internal/strconv.uint64pow10" .u64 Lib.pow10Tab
theorem LaidP.on {w w' : World} (h : LaidP w) (hb : Below w.heap.size w w') : LaidP w' := Joins.tab_stays hgPow h hb (Nat.le_refl _)
theorem format_int (n : Int) (h : I64 n) (w : World) (L : LaidP w) :
    Calls Tryd.prog 19 #[.int .i64 n, .int .i64 10] w fun e w' => e = .returned (.string ⟨(Lib.itoa n).toArray⟩) ∧ Below w.heap.size w w' := by
  refine (Tryd.strconv_FormatInt_10 n h.1 (by have := h.2; omega) w L).mono ?_
  rintro e w' ⟨rfl, k, os, rfl⟩
  exact ⟨rfl, Lib.below_grow _ _ (Nat.le_refl _) _ _⟩
/-- What Show writes. -/
def shL (n d : Int) : List UInt8 := if d = 1 then Lib.itoa n else Lib.itoa n ++ (47 :: Lib.itoa d)
def shV (n d : Int) : List UInt8 := if Fr n d then shL n d else []
theorem fr_i64 {n d : Int} (h : Fr n d) : I64 n ∧ I64 d := by
  obtain ⟨a, b, c, e⟩ := h
  exact ⟨⟨by omega, by omega⟩, ⟨by omega, by omega⟩⟩
set_option maxRecDepth 100000 in
theorem fshow_ok (n d : Int) (h : Fr n d) (w : World) (L : LaidP w) :
    Calls Tryd.prog 8 #[fr n d] w fun e w' => e = .returned (.tuple #[.string ⟨(shL n d).toArray⟩, .int .i64 0]) ∧ Below w.heap.size w w' := by
  have h0 := chF_ok h
  obtain ⟨i1, i2⟩ := fr_i64 h
  have HF := hid1 (format_int n i1)
  have HD := hid1 (format_int d i2)
  have ls : (⟨(Lib.itoa n).toArray⟩ : ByteArray).size ≤ 21 := Lib.itoa_length_le n i1.1 (by have := i1.2; omega)
  have lt : (⟨(Lib.itoa d).toArray⟩ : ByteArray).size ≤ 21 := Lib.itoa_length_le d i2.1 (by have := i2.2; omega)
  have HL := hid1 L
  clear L h i1 i2
  by_cases hd : d = 1
  · subst hd
    unfold shL
    rw [if_pos rfl]
    clear HD
    obtain ⟨s, es⟩ : ∃ s, (⟨(Lib.itoa n).toArray⟩ : ByteArray) = s := ⟨_, rfl⟩
    rw [es] at HF ⊢
    clear es ls lt
    go_enter Tryd.func8, Tryd.ntmps8
    go_wp2_with fail
    refine (fcheck_any n 1 _).mono ?_
    rintro e w1 ⟨rfl, hb1⟩
    rw [h0]
    have c0 := keepc hb1 (b := w.heap.size) (o := 0) (v := .int .i64 n) (by simp [go_sem])
    have c1 := keepc hb1 (b := w.heap.size) (o := 1) (v := .int .i64 1) (by simp [go_sem])
    have B1 : Below w.heap.size w w1 := by repeat (first | exact Below.refl _ _ | refine bl_alloc ?_ _ | refine Below.drew ?_ | refine bl_drewN ?_ _ | refine bl_set ?_ (by omega) _ | refine bl_step ?_ (by assumption))
    have HL1 := hid1 (HL.out.on B1)
    clear hb1
    go_wp2_with fail
    refine (HF.out _ HL1.out).mono ?_
    rintro e w2 ⟨rfl, hb2⟩
    replace c0 := keepc hb2 c0; replace c1 := keepc hb2 c1
    go_wp2
    go_ret2
    refine ⟨rfl, ?_⟩
    repeat (first | exact Below.refl _ _ | refine bl_alloc ?_ _ | refine Below.drew ?_ | refine bl_drewN ?_ _ | refine bl_set ?_ (by omega) _ | refine bl_step ?_ (by assumption))
  · have hs : (⟨(shL n d).toArray⟩ : ByteArray) = ⟨(Lib.itoa n).toArray⟩ ++ (⟨#[47]⟩ ++ ⟨(Lib.itoa d).toArray⟩) := by
      unfold shL
      rw [if_neg hd]
      apply ByteArray.ext; simp
    rw [hs]
    clear hs
    obtain ⟨s, es⟩ : ∃ s, (⟨(Lib.itoa n).toArray⟩ : ByteArray) = s := ⟨_, rfl⟩
    obtain ⟨t, et⟩ : ∃ t, (⟨(Lib.itoa d).toArray⟩ : ByteArray) = t := ⟨_, rfl⟩
    rw [es] at HF ls ⊢
    rw [et] at HD lt ⊢
    clear es et
    go_enter Tryd.func8, Tryd.ntmps8
    go_wp2_with fail
    refine (fcheck_any n d _).mono ?_
    rintro e w1 ⟨rfl, hb1⟩
    rw [h0]
    have c0 := keepc hb1 (b := w.heap.size) (o := 0) (v := .int .i64 n) (by simp [go_sem])
    have c1 := keepc hb1 (b := w.heap.size) (o := 1) (v := .int .i64 d) (by simp [go_sem])
    have B1 : Below w.heap.size w w1 := by repeat (first | exact Below.refl _ _ | refine bl_alloc ?_ _ | refine Below.drew ?_ | refine bl_drewN ?_ _ | refine bl_set ?_ (by omega) _ | refine bl_step ?_ (by assumption))
    have HL1 := hid1 (HL.out.on B1)
    clear hb1
    go_wp2_with fail
    refine (HF.out _ HL1.out).mono ?_
    rintro e w2 ⟨rfl, hb2⟩
    replace c0 := keepc hb2 c0; replace c1 := keepc hb2 c1
    have HL2 := hid1 (HL1.out.on hb2)
    go_wp2_with fail
    refine (HD.out _ HL2.out).mono ?_
    rintro e w3 ⟨rfl, hb3⟩
    replace c0 := keepc hb3 c0; replace c1 := keepc hb3 c1
    go_wp2
    go_ret2
    refine ⟨rfl, ?_⟩
    repeat (first | exact Below.refl _ _ | refine bl_alloc ?_ _ | refine Below.drew ?_ | refine bl_drewN ?_ _ | refine bl_set ?_ (by omega) _ | refine bl_step ?_ (by assumption))
set_option maxRecDepth 100000 in
theorem fshow_no (n d : Int) (h : ¬ Fr n d) (w : World) :
    Calls Tryd.prog 8 #[fr n d] w fun e w' => e = .returned (.tuple #[.string ⟨#[]⟩, .int .i64 40]) ∧ Below w.heap.size w w' := by
  have h0 := chF_no h
  clear h
  go_enter Tryd.func8, Tryd.ntmps8
  go_wp2_with fail
  refine (fcheck_any n d _).mono ?_
  rintro e w1 ⟨rfl, hb1⟩
  rw [h0]
  go_wp2
  go_ret2
  refine ⟨rfl, ?_⟩
  repeat (first | exact Below.refl _ _ | refine bl_alloc ?_ _ | refine Below.drew ?_ | refine bl_drewN ?_ _ | refine bl_set ?_ (by omega) _ | refine bl_step ?_ (by assumption))
theorem fshow_any (n d : Int) (w : World) (L : LaidP w) :
    Calls Tryd.prog 8 #[fr n d] w fun e w' => e = .returned (.tuple #[.string ⟨(shV n d).toArray⟩, .int .i64 (chF n d)]) ∧ Below w.heap.size w w' := by
  by_cases h : Fr n d
  · unfold shV
    rw [if_pos h, chF_ok h]
    exact fshow_ok n d h w L
  · unfold shV
    rw [if_neg h, chF_no h]
    exact fshow_no n d h w
end Go.Proofs.YtboabgjgcnkelabDoor
