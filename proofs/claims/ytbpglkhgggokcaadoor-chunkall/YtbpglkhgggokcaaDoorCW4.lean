/- CHUNKS: the reader: number, refuse, take. -/
import Derived.Test.YtbpglkhgggokcaaDoorCW3
namespace Go.Proofs.YtbpglkhgggokcaaDoor
open Go.RowKit

/-- The reader's two cells. -/
def rf (ao : Option Addr) (n cap : Nat) (e : Int) : Nat → Value := fun k => if k = 0 then .slice ao n cap else .int .i64 e
theorem rf_new (w : World) (ao : Option Addr) (n cap : Nat) (e : Int) (t : TypeId) : (w.alloc (.cells #[.slice ao n cap, .int .i64 e] t)).rowIs w.heap.size t 2 (rf ao n cap e) :=
  World.rowIs_alloc w _ t _ (fun i hi => by
    rcases i with _ | _ | i
    · rfl
    · rfl
    · simp at hi; omega)
theorem rf_left {w : World} {b n cap t : Nat} {ao : Option Addr} {e : Int} (h : w.rowIs b t 2 (rf ao n cap e)) : w.cell? ⟨b, 0, none⟩ = some (.slice ao n cap) := h.cell (by omega)
theorem rf_fault {w : World} {b n cap t : Nat} {ao : Option Addr} {e : Int} (h : w.rowIs b t 2 (rf ao n cap e)) : w.cell? ⟨b, 1, none⟩ = some (.int .i64 e) := h.cell (by omega)
theorem rf_set1 {w : World} {b n cap t : Nat} {ao : Option Addr} {e e' : Int} (h : w.rowIs b t 2 (rf ao n cap e)) : (w.setCell ⟨b, 1, none⟩ (.int .i64 e')).rowIs b t 2 (rf ao n cap e') :=
  (h.set 1 (.int .i64 e')).congr fun k hk => by
    unfold rf
    rcases k with _ | _ | k
    · simp
    · simp
    · omega
theorem rf_set0 {w : World} {b n cap n' cap' t : Nat} {ao ao' : Option Addr} {e : Int} (h : w.rowIs b t 2 (rf ao n cap e)) : (w.setCell ⟨b, 0, none⟩ (.slice ao' n' cap')).rowIs b t 2 (rf ao' n' cap' e) :=
  (h.set 0 (.slice ao' n' cap')).congr fun k hk => by
    unfold rf
    rcases k with _ | _ | k
    · simp
    · simp
    · omega
/-- The reader's own block holds no bytes. -/
theorem rf_apart {w : World} {b n cap t : Nat} {ao ap : Option Addr} {e : Int} {l : List Nat} (h : w.rowIs b t 2 (rf ao n cap e)) (hb : By w ap l) : ∀ p, ap = some p → l ≠ [] → p.block ≠ b := fun p hp hl he => by
  rcases l with _ | ⟨y, s⟩
  · exact hl rfl
  · obtain ⟨g, o, e1, c, _⟩ := hb 0 y rfl
    rw [hp] at e1
    injection e1 with e1
    subst e1
    have he : g = b := he
    subst he
    have ho : o < 2 := by
      refine Classical.byContradiction fun hn => ?_
      obtain ⟨cur, h1, h2, _⟩ := h
      simp [World.cell?, h1] at c
      rw [Array.getElem?_eq_none (by omega)] at c
      exact absurd c (by simp)
    have hc := h.cell ho
    rw [Nat.add_zero] at c
    rw [c] at hc
    injection hc with hc
    unfold rf at hc
    split at hc <;> cases hc
theorem or4 {a b c d : Nat} (ha : a < 256) (hb : b < 256) (hc : c < 256) (hd : d < 256) : bits .or .u32 (bits .or .u32 (bits .or .u32 (a : Int) ((b : Int) * 256)) ((c : Int) * 65536)) ((d : Int) * 16777216) = ((a + 256 * b + 65536 * c + 16777216 * d : Nat) : Int) := by
  have e1 := u32_or8 (a : Int) ((b : Int) * 256) (by omega) (by omega) (by omega) (by omega) (by omega)
  have e2 := u32_or16 ((a : Int) + (b : Int) * 256) ((c : Int) * 65536) (by omega) (by omega) (by omega) (by omega) (by omega)
  have e3 := u32_or24 ((a : Int) + (b : Int) * 256 + (c : Int) * 65536) ((d : Int) * 16777216) (by omega) (by omega) (by omega) (by omega) (by omega)
  rw [e1, e2, e3]
  omega
theorem bp_set1 {w : World} {r o : Nat} {v : Value} : BP (· = r) w (w.setCell ⟨r, o, none⟩ v) := BP.set (S := (· = r)) (BP.refl _ _) (.inl rfl) _
set_option maxHeartbeats 1600000 in
set_option maxRecDepth 100000 in
theorem number_any (ao : Option Addr) (n cap : Nat) (l : List Nat) (w : World) (hn : 4 ≤ l.length) (h4 : 4 ≤ n) (h : By w ao l) :
    Calls Tryd.prog 37 #[.slice ao n cap] w fun e w' => e = .returned (.int .u32 (num l : Nat)) ∧ Below w.heap.size w w' := by
  obtain ⟨g, o, y0, rfl, e0, c0, b0⟩ := h.at (k := 0) (by omega)
  obtain ⟨_, _, y1, f1, e1, c1, b1⟩ := h.at (k := 1) (by omega)
  obtain ⟨_, _, y2, f2, e2, c2, b2⟩ := h.at (k := 2) (by omega)
  obtain ⟨_, _, y3, f3, e3, c3, b3⟩ := h.at (k := 3) (by omega)
  injection f1 with f1
  injection f1 with f1 f1'
  injection f2 with f2
  injection f2 with f2 f2'
  injection f3 with f3
  injection f3 with f3 f3'
  subst f1 f1' f2 f2' f3 f3'
  have HN : Hid (num l = y0 + 256 * y1 + 65536 * y2 + 16777216 * y3) := hid1 (by
    unfold num
    simp only [List.getD_eq_getElem?_getD, e0, e1, e2, e3, Option.getD_some])
  have i0 : (0 : Int) < (n : Int) := by omega
  have i1 : (1 : Int) < (n : Int) := by omega
  have i2 : (2 : Int) < (n : Int) := by omega
  have i3 : (3 : Int) < (n : Int) := by omega
  have w0 : IntKind.u32.wrap (y0 : Int) = (y0 : Int) := by simp [IntKind.wrap, IntKind.signed, IntKind.bits]; omega
  have w1 : IntKind.u32.wrap (y1 : Int) = (y1 : Int) := by simp [IntKind.wrap, IntKind.signed, IntKind.bits]; omega
  have w2 : IntKind.u32.wrap (y2 : Int) = (y2 : Int) := by simp [IntKind.wrap, IntKind.signed, IntKind.bits]; omega
  have w3 : IntKind.u32.wrap (y3 : Int) = (y3 : Int) := by simp [IntKind.wrap, IntKind.signed, IntKind.bits]; omega
  rw [Nat.add_zero] at c0
  have n0 : 0 < n := by omega
  have n1 : 1 < n := by omega
  have n2 : 2 < n := by omega
  have n3 : 3 < n := by omega
  clear e0 e1 e2 e3 h
  go_enter Tryd.func37, Tryd.ntmps37
  go_wp2_with fail
  go_quiet (fail)
  go_wp2
  go_ret
  refine ⟨ret_int ?_, bl_drewN (Below.refl _ _) _⟩
  rw [or4 b0 b1 b2 b3, HN.out]
abbrev rp (r : Nat) : Value := .pointer (some ⟨r, 0, none⟩)
set_option maxHeartbeats 800000 in
set_option maxRecDepth 100000 in
theorem refuse_yes (r n cap : Nat) (ao : Option Addr) (e : Int) (w : World) (h : w.rowIs r 59 2 (rf ao n cap 0)) :
    Calls Tryd.prog 35 #[rp r, .bool true, .int .i64 e] w fun x w' => x = .returned (.tuple #[]) ∧ w'.rowIs r 59 2 (rf ao n cap e) ∧ BP (· = r) w w' := by
  have c1 := rf_fault h
  have f1 := h.frozen 1
  have HR := hid1 h
  clear h
  go_enter Tryd.func35, Tryd.ntmps35
  go_wp2
  refine bodyPost_end (v := .tuple #[]) (by simp [results, go_sem]) rfl ?_
  exact ⟨rfl, rf_set1 HR.out, bp_set1⟩
theorem refuse_yes' (r n cap : Nat) (ao : Option Addr) (e : Int) (b : Bool) (hb : b = true) (w : World) (h : w.rowIs r 59 2 (rf ao n cap 0)) :
    Calls Tryd.prog 35 #[rp r, .bool b, .int .i64 e] w fun x w' => x = .returned (.tuple #[]) ∧ w'.rowIs r 59 2 (rf ao n cap e) ∧ BP (· = r) w w' := by
  subst hb; exact refuse_yes r n cap ao e w h
set_option maxHeartbeats 800000 in
set_option maxRecDepth 100000 in
theorem refuse_no (r n cap : Nat) (ao : Option Addr) (b : Bool) (e0 e : Int) (w : World) (h : w.rowIs r 59 2 (rf ao n cap e0)) (hb : b = false ∨ e0 ≠ 0) :
    Calls Tryd.prog 35 #[rp r, .bool b, .int .i64 e] w fun x w' => x = .returned (.tuple #[]) ∧ w' = w := by
  have c1 := rf_fault h
  clear h
  go_enter Tryd.func35, Tryd.ntmps35
  cases b with
  | false =>
    go_wp2
    refine bodyPost_end (v := .tuple #[]) (by simp [results, go_sem]) rfl ?_
    exact ⟨rfl, rfl⟩
  | true =>
    have h0 : ¬ e0 = 0 := by simpa using hb
    clear hb
    go_wp2
    refine bodyPost_end (v := .tuple #[]) (by simp [results, go_sem]) rfl ?_
    exact ⟨rfl, rfl⟩
set_option maxHeartbeats 800000 in
set_option maxRecDepth 100000 in
/-- Too few bytes are left. -/
theorem take_short (r n cap m : Nat) (ao : Option Addr) (w : World) (h : w.rowIs r 59 2 (rf ao n cap 0)) (hm : n < m) :
    Calls Tryd.prog 38 #[rp r, .int .i64 m] w fun x w' => x = .returned (.slice none 0 0) ∧ w'.rowIs r 59 2 (rf ao n cap 80) ∧ BP (· = r) w w' := by
  have c0 := rf_left h
  have c1 := rf_fault h
  have i1 : (n : Int) < (m : Int) := by omega
  have i2 : decide ((n : Int) < (m : Int)) = true := by simpa using hm
  have HR := hid1 h
  clear h
  go_enter Tryd.func38, Tryd.ntmps38
  go_wp2_with fail
  refine (refuse_yes r n cap ao 80 w HR.out).mono ?_
  rintro e w1 ⟨rfl, h1, bp⟩
  have d1 := rf_fault h1
  have H1 := hid1 h1
  clear h1 c0 c1
  go_wp2_with fail
  go_ret
  exact ⟨rfl, H1.out, bp⟩
set_option maxHeartbeats 800000 in
set_option maxRecDepth 100000 in
/-- There is a fault already. -/
theorem take_bad (r n cap : Nat) (m : Int) (ao : Option Addr) (e0 : Int) (w : World) (h : w.rowIs r 59 2 (rf ao n cap e0)) (h0 : e0 ≠ 0) :
    Calls Tryd.prog 38 #[rp r, .int .i64 m] w fun x w' => x = .returned (.slice none 0 0) ∧ w' = w := by
  have c0 := rf_left h
  have c1 := rf_fault h
  have h0' : ¬ e0 = 0 := h0
  have HR := hid1 h
  clear h
  go_enter Tryd.func38, Tryd.ntmps38
  go_wp2_with fail
  refine (refuse_no r n cap ao _ e0 80 w HR.out (.inr h0)).mono ?_
  rintro e w1 ⟨rfl, rfl⟩
  go_wp2_with fail
  go_ret
  exact ⟨rfl, rfl⟩
set_option maxHeartbeats 800000 in
set_option maxRecDepth 100000 in
theorem take_good (r n cap m g o : Nat) (w : World) (h : w.rowIs r 59 2 (rf (some ⟨g, o, none⟩) n cap 0)) (hm : m ≤ n) (hn : n ≤ cap) (hm2 : cap ≤ 9223372036854775807) :
    Calls Tryd.prog 38 #[rp r, .int .i64 m] w fun x w' => x = .returned (.slice (some ⟨g, o, none⟩) m cap) ∧ (∃ o', w'.rowIs r 59 2 (rf (some ⟨g, o', none⟩) (n - m) (cap - m) 0) ∧ (o' = o + m ∨ n ≤ m)) ∧ BP (· = r) w w' := by
  have c0 := rf_left h
  have c1 := rf_fault h
  have f0 := h.frozen 0
  have i1 : ¬ (n : Int) < (m : Int) := by omega
  have i2 : decide ((n : Int) < (m : Int)) = false := by simpa using hm
  have j1 : (m : Int) ≤ (cap : Int) := by omega
  have j2 : (0 : Int) ≤ (m : Int) := by omega
  have j3 : (m : Int) ≤ (n : Int) := by omega
  have HR := hid1 h
  clear h
  go_enter Tryd.func38, Tryd.ntmps38
  go_wp2_with fail
  refine (refuse_no r n cap _ false 0 80 w HR.out (.inl rfl)).mono ?_
  rintro e w1 ⟨rfl, rfl⟩
  by_cases hz : cap - m = 0
  · go_wp2_with fail
    go_ret
    have e1 : n - m = 0 := by omega
    exact ⟨rfl, ⟨o, by rw [hz]; exact rf_set0 HR.out, .inr (by omega)⟩, bp_set1⟩
  · have hz2 : ¬ cap ≤ m := by omega
    have hz3 : ¬ (cap : Int) ≤ (m : Int) := by omega
    go_wp2_with fail
    go_ret
    exact ⟨rfl, ⟨o + m, rf_set0 HR.out, .inl rfl⟩, bp_set1⟩
end Go.Proofs.YtbpglkhgggokcaaDoor
