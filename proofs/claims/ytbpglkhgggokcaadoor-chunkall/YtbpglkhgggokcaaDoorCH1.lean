/- CHUNKALL: mark, eqTold. -/
import Derived.Test.YtbpglkhgggokcaaDoorCF1
namespace Go.Proofs.YtbpglkhgggokcaaDoor
open Go.RowKit

/-- The mark at place i. -/
def mk8 (i : Nat) : Nat := 201 + i % 50
theorem mk8_lt (i : Nat) : mk8 i < 256 := by unfold mk8; omega
set_option maxHeartbeats 800000 in
set_option maxRecDepth 100000 in
theorem mark_any (i : Nat) (w : World) :
    Calls Tryd.prog 30 #[.int .i64 i] w fun e w' => e = .returned (.int .u8 (mk8 i : Nat)) ∧ w' = w := by
  obtain ⟨r, er⟩ : ∃ r, i % 50 = r := ⟨_, rfl⟩
  have e1 : (i : Int) % 50 = (r : Int) := by omega
  have hr : r < 50 := by omega
  have HM : Hid (mk8 i = 201 + r) := hid1 (by unfold mk8; rw [er])
  clear er
  have e2 : IntKind.u8.wrap (201 + (r : Int)) = ((201 + r : Nat) : Int) := by simp [IntKind.wrap, IntKind.signed, IntKind.bits]; omega
  go_enter Tryd.func30, Tryd.ntmps30
  go_wp2
  go_ret
  refine ⟨ret_int ?_, rfl⟩
  rw [HM.out]
  omega
abbrev tld (bo : Option Addr) (bn bc : Nat) (co : Option Addr) (cn cc : Nat) (s e : Int) : Value := .agg #[.slice bo bn bc, .slice co cn cc, .int .u32 s, .int .i64 e]
set_option maxHeartbeats 1600000 in
set_option maxRecDepth 100000 in
/-- Two answers that are the same. -/
theorem eqTold_same (bo bo' : Option Addr) (bc bc' : Nat) (co co' : Option Addr) (cc cc' : Nat) (l : List Nat) (cs : List Ck) (s e : Int) (w : World) (hl : l.length ≤ 9223372036854775807) (hc : cs.length ≤ 9223372036854775807) (h1 : By w bo l) (h2 : By w bo' l) (h3 : Cs w co cs) (h4 : Cs w co' cs) :
    Calls Tryd.prog 6 #[tld bo l.length bc co cs.length cc s e, tld bo' l.length bc' co' cs.length cc' s e] w fun x w' => x = .returned (.bool true) ∧ Below w.heap.size w w' := by
  have SA := hid1 (fun W (hW : Below w.heap.size w W) => by
    have := same_any bo bo' bc bc' l l W hl (h1.keep hW) (h2.keep hW)
    rw [decide_eq_true rfl] at this
    exact this)
  have EA := hid1 (fun W (hW : Below w.heap.size w W) => eq_same co co' cc cc' cs.length cs W rfl hc (h3.keep hW) (h4.keep hW))
  obtain ⟨ln, eln⟩ : ∃ n, l.length = n := ⟨_, rfl⟩
  obtain ⟨cn, ecn⟩ : ∃ n, cs.length = n := ⟨_, rfl⟩
  rw [eln] at SA ⊢
  rw [ecn] at EA ⊢
  clear h1 h2 h3 h4 hl hc eln ecn
  go_enter Tryd.func6, Tryd.ntmps6
  go_wp2_with fail
  refine (SA.out _ (bl_alloc (bl_alloc (Below.refl _ _) _) _)).mono ?_
  rintro x w1 ⟨rfl, n1, rfl⟩
  go_wp2_with fail
  refine (EA.out _ (bl_drewN (bl_alloc (bl_alloc (Below.refl _ _) _) _) _)).mono ?_
  rintro x w2 ⟨rfl, n2, rfl⟩
  go_wp2
  go_ret
  exact ⟨rfl, bl_drewN (bl_alloc (bl_alloc (Below.refl _ _) _) _) _⟩
/-- Bytes, and marks behind them. -/
def ff (l : List Nat) : Nat → Value := fun j => if j < l.length then .int .u8 ((l.getD j 0 : Nat) : Int) else .int .u8 ((mk8 j : Nat) : Int)
def fo (l : List Nat) (k : Nat) : Nat → Value := fun j => if j < k then .int .u8 99 else ff l j
theorem ff_val {l : List Nat} {j : Nat} : ∃ x : Nat, ff l j = .int .u8 (x : Int) ∧ (j < l.length → l[j]? = some x) ∧ (¬ j < l.length → x = mk8 j) := by
  unfold ff
  by_cases h : j < l.length
  · refine ⟨l.getD j 0, by rw [if_pos h], fun _ => ?_, fun h2 => absurd h h2⟩
    rw [List.getD_eq_getElem?_getD, List.getElem?_eq_getElem h]
    rfl
  · exact ⟨mk8 j, by rw [if_neg h], fun h2 => absurd h2 h, fun _ => rfl⟩
set_option maxHeartbeats 1600000 in
set_option maxRecDepth 100000 in
theorem asFilled_any (gx n : Nat) (bo : Option Addr) (bc : Nat) (l : List Nat) (w : World) (hn : n ≤ 9223372036854775807) (hl : l.length ≤ n) (hx : w.rowIs gx 5 n (ff l)) (hb : By w bo l) (ha : ∀ p, bo = some p → l ≠ [] → p.block ≠ gx) :
    Calls Tryd.prog 17 #[.slice (some ⟨gx, 0, none⟩) n n, .slice bo l.length bc] w fun e w' => e = .returned (.bool true) ∧ w'.rowIs gx 5 n (fun _ => .int .u8 99) ∧ BP (· = gx) w w' := by
  have HX := hid1 hx
  have HB := hid1 hb
  have HA := hid1 ha
  clear hx hb ha
  go_enter Tryd.func17, Tryd.ntmps17
  go_wp2_with fail
  go_loopw [5, 6] (fun ok i wr => ∃ k : Nat, k ≤ n ∧ i = .int .i64 k ∧ ok = .bool true ∧ Hid (wr.rowIs gx 5 n (fo l k)) ∧ BP (· = gx) w wr) (fun _ i _ => n - (intOf i).toNat)
  case atStart => exact ⟨0, Nat.zero_le _, rfl, rfl, hid1 (HX.out.congr fun j _ => by simp [fo]), BP.refl _ _⟩
  case round =>
    obtain ⟨k, hk, rfl, rfl, HR, bp⟩ := hrel
    have ik0 : (0 : Int) ≤ (k : Int) := by omega
    by_cases hlt : k < n
    · have ik : (k : Int) < (n : Int) := by omega
      obtain ⟨x, ex, x1, x2⟩ := ff_val (l := l) (j := k)
      have cx := HR.out.cell hlt
      have fx := HR.out.frozen k
      rw [show fo l k k = ff l k by simp [fo], ex] at cx
      have NR : Hid ((wr.setCell ⟨gx, k, none⟩ (.int .u8 99)).rowIs gx 5 n (fo l (k + 1))) := hid1 ((HR.out.set k (.int .u8 99)).congr fun j _ => by
        unfold fo
        by_cases e : j = k
        · subst e; rw [if_pos rfl, if_pos (by omega)]
        · rw [if_neg e]
          by_cases h : j < k
          · rw [if_pos h, if_pos (by omega)]
          · rw [if_neg h, if_neg (by omega)])
      have zx := HR.out.lt
      clear ex
      by_cases hin : k < l.length
      · have il : (k : Int) < (l.length : Int) := by omega
        obtain ⟨g, o, y, rfl, ey, cy, -⟩ := (HB.out.bp bp HA.out).at hin
        rw [x1 hin] at ey
        injection ey with ey
        subst ey
        have hgx : ¬ g = gx := HA.out _ rfl (by rintro rfl; simp at hin)
        clear x1 x2
        go_wp2_with fail
        refine (mark_any k wr).mono ?_
        rintro e w1 ⟨rfl, rfl⟩
        go_wp2_with fail
        exact ⟨⟨k + 1, by omega, by go_num, rfl, NR, bp.set (.inl rfl) _⟩, by simp [intOf]; omega⟩
      · have il : ¬ (k : Int) < (l.length : Int) := by omega
        rw [x2 hin] at cx
        clear x1 x2
        obtain ⟨mm, em⟩ : ∃ mm, mk8 k = mm := ⟨_, rfl⟩
        rw [em] at cx
        have MA := hid1 (mark_any k wr)
        rw [em] at MA
        clear em
        go_wp2_with fail
        refine MA.out.mono ?_
        rintro e w1 ⟨rfl, rfl⟩
        go_wp2_with fail
        exact ⟨⟨k + 1, by omega, by go_num, rfl, NR, bp.set (.inl rfl) _⟩, by simp [intOf]; omega⟩
    · obtain rfl : k = n := by omega
      go_wp2
      go_ret
      exact ⟨rfl, HR.out.congr fun j hj => by simp [fo, hj], bp⟩
end Go.Proofs.YtbpglkhgggokcaaDoor
