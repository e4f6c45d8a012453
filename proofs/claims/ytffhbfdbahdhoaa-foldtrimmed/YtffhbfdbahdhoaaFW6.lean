/- PLUS AS A WHOLE, SHOW. -/
import Derived.Test.YtffhbfdbahdhoaaFW5
import Derived.Lib.AppendIntMem
import Derived.Lib.ItoaLen
namespace Go.Proofs.Ytffhbfdbahdhoaa.Wd
open Go.RowKit Go.Shelf
attribute [local go_sem ↓] Go.wp_at_zero Go.wp_at_succ

theorem plus_ok4 (gn gd bn bd mn md sn sd x : Int) (h : noE gn gd bn bd mn md sn sd = 0) (hx : Sm x) (w : World) :
    Calls Try.prog 28 #[nm gn gd bn bd mn md sn sd, .int .i64 x] w fun e w' => e = .returned (.tuple #[.bool (decide (0 ≤ nv gn gd bn bd mn md sn sd x)), .int .i64 0]) ∧ Below w.heap.size w w' := by
  obtain ⟨hg, hb, hm, hs, s1⟩ := noE_ok h
  have HN := norm_any gn gd bn bd mn md sn sd
  rw [h] at HN
  have HI := inReach_any x
  rw [decide_eq_true hx] at HI
  have km := mid_bd hm hx
  have xm := bd_mul (A := 2147483647) (B := 1048576) (a := x) (b := md) hx ⟨by have := hm.1; omega, hm.2.1⟩
  obtain ⟨l1, l2, l3⟩ := left_bd hg hb hm hs hx
  obtain ⟨r1, r2, r3⟩ := right_bd hg hb hm hs
  have g1 : I64 gn := ⟨by have := hg.2.2.1; omega, by have := hg.2.2.2; omega⟩
  have g2 : I64 gd := ⟨by have := hg.1; omega, by have := hg.2.1; omega⟩
  have b1 : I64 bn := ⟨by have := hb.2.2.1; omega, by have := hb.2.2.2; omega⟩
  have b2 : I64 bd := ⟨by have := hb.1; omega, by have := hb.2.1; omega⟩
  have m2 : I64 md := ⟨by have := hm.1; omega, by have := hm.2.1; omega⟩
  have t1 : I64 sn := ⟨by have := hs.2.2.1; omega, by have := hs.2.2.2; omega⟩
  have t2 : I64 sd := ⟨by have := hs.1; omega, by have := hs.2.1; omega⟩
  have kI : I64 (x * md - mn) := ⟨by omega, by omega⟩
  have L1 : Rng (gn * (x * md - mn)) := ⟨by omega, by omega⟩
  have L2 : Rng (gn * (x * md - mn) * sd) := ⟨by omega, by omega⟩
  have L3 : Rng (gn * (x * md - mn) * sd * bd) := ⟨by omega, by omega⟩
  have R1 : Rng (bn * gd) := ⟨by omega, by omega⟩
  have R2 : Rng (bn * gd * md) := ⟨by omega, by omega⟩
  have R3 : Rng (bn * gd * md * sn) := ⟨by omega, by omega⟩
  have S : Rng (gn * (x * md - mn) * sd * bd + bn * gd * md * sn) := ⟨by omega, by omega⟩
  exact plus_core gn gd bn bd mn md sn sd x (x * md - mn) _ _ rfl HN HI km.1 km.2 (by omega) (by omega)
    (fun w g hF => product_any gn (x * md - mn) sd bd g1 kI t2 b2 L1 L2 L3 w g hF)
    (fun w g hF => product_any bn gd md sn b1 g2 m2 t1 R1 R2 R3 w g hF) S w
theorem fplus_any (gn gd bn bd mn md sn sd x : Int) (w : World) :
    Calls Try.prog 28 #[nm gn gd bn bd mn md sn sd, .int .i64 x] w fun e w' => e = .returned (.tuple #[.bool (plV gn gd bn bd mn md sn sd x), .int .i64 (plE gn gd bn bd mn md sn sd x)]) ∧ Below w.heap.size w w' := by
  unfold plV plE
  by_cases h : noE gn gd bn bd mn md sn sd = 0
  · by_cases h2 : Sm x
    · rw [decide_eq_true h, decide_eq_true h2, if_pos h, if_pos h2]
      exact plus_ok4 gn gd bn bd mn md sn sd x h h2 w
    · rw [decide_eq_true h, decide_eq_false h2, if_pos h, if_neg h2]
      exact plus_no2 gn gd bn bd mn md sn sd x h h2 w
  · rw [decide_eq_false h, if_neg h]
    exact plus_no1 gn gd bn bd mn md sn sd x h w
/-- The table of powers. -/
abbrev LaidP (w : World) : Prop := Lib.TabIs Try.prog w "internal/strconv.uint64pow10" .u64 Lib.pow10Tab
/-- What Show writes. -/
def shL (n d : Int) : List UInt8 := if d = 1 then Lib.itoa n else Lib.itoa n ++ (47 :: Lib.itoa d)
def shV (n d : Int) : List UInt8 := if Fr n d then shL n d else []
theorem fr_i64 {n d : Int} (h : Fr n d) : I64 n ∧ I64 d := by
  obtain ⟨a, b, c, e⟩ := h
  exact ⟨⟨by omega, by omega⟩, ⟨by omega, by omega⟩⟩
end Go.Proofs.Ytffhbfdbahdhoaa.Wd
