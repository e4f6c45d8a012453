/- NETWORKS: NAMES, AND WHAT IS ASKED OF THE WHOLE. -/
import Derived.Test.YtlgjoepeibodkaaGreatNQ5
namespace Go.Proofs.YtlgjoepeibodkaaGreat.Nn
open Go.RowKit

def inB (c : Int) : Bool := decide ((97 ≤ c ∧ c ≤ 122) ∨ (65 ≤ c ∧ c ≤ 90) ∨ (48 ≤ c ∧ c ≤ 57) ∨ c = 95 ∨ c = 45)
theorem inB_yes {c : Int} (h : (97 ≤ c ∧ c ≤ 122) ∨ (65 ≤ c ∧ c ≤ 90) ∨ (48 ≤ c ∧ c ≤ 57) ∨ c = 95 ∨ c = 45) : inB c = true := decide_eq_true h
theorem inB_no {c : Int} (h : ¬ ((97 ≤ c ∧ c ≤ 122) ∨ (65 ≤ c ∧ c ≤ 90) ∨ (48 ≤ c ∧ c ≤ 57) ∨ c = 95 ∨ c = 45)) : inB c = false := decide_eq_false h
set_option maxHeartbeats 1600000 in
set_option maxRecDepth 100000 in
theorem inName_any (c : Int) (w : World) : Calls Tryz.prog 82 #[.int .u8 c] w fun e w' => e = .returned (.bool (inB c)) ∧ w' = w := by
  have hc : (97 ≤ c ∧ c ≤ 122) ∨ (65 ≤ c ∧ c ≤ 90) ∨ (48 ≤ c ∧ c ≤ 57) ∨ c = 95 ∨ c = 45 ∨ c < 45 ∨ (45 < c ∧ c < 48) ∨ (57 < c ∧ c < 65) ∨ (90 < c ∧ c < 95) ∨ (95 < c ∧ c < 97) ∨ 122 < c := by omega
  rcases hc with h | h | h | h | h | h | h | h | h | h | h
  · rw [inB_yes (by omega)]
    obtain ⟨h1, h2⟩ := h
    go_enter Tryz.func82, Tryz.ntmps82
    go_wp2
    go_ret
    exact ⟨rfl, rfl⟩
  · rw [inB_yes (by omega)]
    obtain ⟨h1, h2⟩ := h
    go_enter Tryz.func82, Tryz.ntmps82
    go_wp2
    go_ret
    exact ⟨rfl, rfl⟩
  · rw [inB_yes (by omega)]
    obtain ⟨h1, h2⟩ := h
    go_enter Tryz.func82, Tryz.ntmps82
    go_wp2
    go_ret
    exact ⟨rfl, rfl⟩
  · rw [inB_yes (by omega)]
    subst h
    go_enter Tryz.func82, Tryz.ntmps82
    go_wp2
    go_ret
    exact ⟨rfl, rfl⟩
  · rw [inB_yes (by omega)]
    subst h
    go_enter Tryz.func82, Tryz.ntmps82
    go_wp2
    go_ret
    exact ⟨rfl, rfl⟩
  all_goals
    rw [inB_no (by omega)]
    have e1 : (c == 95) = false := by simp; omega
    have e2 : (c == 45) = false := by simp; omega
    try obtain ⟨h1, h2⟩ := h
    go_enter Tryz.func82, Tryz.ntmps82
    go_wp2
    go_ret
    refine ⟨?_, rfl⟩
    first | rfl | (simp; omega)
def byt (s : ByteArray) (i : Nat) : Int := ((s.data.getD i 0).toNat : Int)
theorem byt_at {s : ByteArray} {k : Nat} (h : k < s.size) : ((s[k]'h).toNat : Int) = byt s k := by
  unfold byt
  have h' : k < s.data.size := h
  rw [Array.getD_eq_getD_getElem?, Array.getElem?_eq_getElem h']
  rfl
def nmB (s : ByteArray) : Bool := decide ((1 ≤ s.size ∧ s.size ≤ 32) ∧ ∀ i, i < s.size → inB (byt s i) = true)
theorem nmB_len {s : ByteArray} (h : ¬ (1 ≤ s.size ∧ s.size ≤ 32)) : nmB s = false := decide_eq_false fun k => h k.1
theorem nmB_no {s : ByteArray} {k : Nat} (hk : k < s.size) (h : inB (byt s k) = false) : nmB s = false := decide_eq_false fun x => by have := x.2 k hk; rw [h] at this; cases this
theorem nmB_ok {s : ByteArray} (h : 1 ≤ s.size ∧ s.size ≤ 32) (h2 : ∀ i, i < s.size → inB (byt s i) = true) : nmB s = true := decide_eq_true ⟨h, h2⟩
set_option maxRecDepth 100000 in
theorem isName_any (s : ByteArray) (hs : s.size ≤ 9223372036854775807) (w : World) : Calls Tryz.prog 59 #[.string s] w fun e w' => e = .returned (.bool (nmB s)) ∧ w' = w := by
  by_cases h1 : s.size < 1
  · rw [nmB_len (by omega)]
    go_enter Tryz.func59, Tryz.ntmps59
    go_wp2
    go_ret
    exact ⟨rfl, rfl⟩
  · by_cases h2 : 32 < s.size
    · rw [nmB_len (by omega)]
      go_enter Tryz.func59, Tryz.ntmps59
      go_wp2
      go_ret
      exact ⟨rfl, rfl⟩
    · have HN := hid1 (fun k (hk : k < s.size) h => nmB_no hk h)
      have HO := hid1 (fun h => nmB_ok (s := s) (by omega) h)
      go_enter Tryz.func59, Tryz.ntmps59
      go_wp2_with fail
      go_loop [14] (fun i => ∃ k : Nat, k ≤ s.size ∧ i = .int .i64 k ∧ Hid (∀ j, j < k → inB (byt s j) = true)) (fun i => s.size - (intOf i).toNat)
      case atStart => exact ⟨0, Nat.zero_le _, rfl, hid1 fun j hj => absurd hj (by omega)⟩
      case round =>
        obtain ⟨k, hk, rfl, HA⟩ := hrel
        by_cases hlt : k < s.size
        · have hby := hid1 (byt_at hlt)
          have hn := HN.out k hlt
          cases hx : inB (byt s k)
          · go_wp2_with (go_at_call 82; refine (inName_any _ _).mono ?_; rintro e w1 ⟨rfl, rfl⟩; rw [hby.out, hx])
            go_ret
            exact ⟨by rw [hn hx]; rfl, rfl⟩
          · go_wp2_with (go_at_call 82; refine (inName_any _ _).mono ?_; rintro e w1 ⟨rfl, rfl⟩; rw [hby.out, hx])
            go_round
            case rel => exact ⟨k + 1, by omega, by go_num, hid1 fun j hj => by
              by_cases e : j = k
              · rw [e]; exact hx
              · exact HA.out j (by omega)⟩
            case measure => simp [intOf]; omega
        · have : k = s.size := by omega
          subst this
          go_wp2_with fail
          go_ret
          exact ⟨by rw [HO.out HA.out]; rfl, rfl⟩
/-- A network: its name, what comes in, where its layers lie, what they are. -/
structure Nt where
  nm : ByteArray
  h : Int
  v : Int
  c : Int
  al : Option Addr
  ml : Nat
  cl : Nat
  lf : Nat → Ly
abbrev ntv (N : Nt) : Value := .agg #[.string N.nm, .int .i64 N.h, .int .i64 N.v, .int .i64 N.c, .slice N.al N.ml N.cl]
def whE (N : Nt) : Int := if nmB N.nm = false then 50 else if chk N.h N.v N.c ≠ 0 then chk N.h N.v N.c else if 1 ≤ N.ml ∧ N.ml ≤ 64 then 0 else 51
def Nb (W : World) (g : Nat) (N : Nt) : Prop := W.cell? ⟨g, 0, none⟩ = some (.string N.nm) ∧ W.cell? ⟨g, 1, none⟩ = some (.int .i64 N.h) ∧ W.cell? ⟨g, 2, none⟩ = some (.int .i64 N.v) ∧ W.cell? ⟨g, 3, none⟩ = some (.int .i64 N.c) ∧ W.cell? ⟨g, 4, none⟩ = some (.slice N.al N.ml N.cl)
theorem Nb.keep {W w' : World} {g : Nat} {N : Nt} (k : Nb W g N) (hb : Below W.heap.size W w') : Nb w' g N := by
  obtain ⟨c0, c1, c2, c3, c4⟩ := k
  exact ⟨keepc hb c0, keepc hb c1, keepc hb c2, keepc hb c3, keepc hb c4⟩
theorem nb_new (W : World) (N : Nt) (t : TypeId) : Nb (W.alloc (.cells #[.string N.nm, .int .i64 N.h, .int .i64 N.v, .int .i64 N.c, .slice N.al N.ml N.cl] t)) W.heap.size N := by
  refine ⟨?_, ?_, ?_, ?_, ?_⟩ <;> simp [go_sem]
set_option maxRecDepth 100000 in
theorem whole_any (N : Nt) (hn : N.nm.size ≤ 9223372036854775807) (hl : N.ml ≤ 9223372036854775807) (w : World) : Calls Tryz.prog 43 #[ntv N] w fun e w' => e = .returned (.int .i64 (whE N)) ∧ Below w.heap.size w w' := by
  unfold whE
  have HI := isName_any N.nm hn
  cases hb : nmB N.nm
  · rw [if_pos rfl]
    rw [hb] at HI
    clear hb
    go_enter Tryz.func43, Tryz.ntmps43
    go_wp2_with (go_at_call 59; refine (HI _).mono ?_; rintro e w1 ⟨rfl, rfl⟩)
    go_ret
    exact ⟨rfl, by repeat (first | (with_reducible exact Below.refl _ _) | (with_reducible refine bl_alloc ?_ _) | (with_reducible refine Below.drew ?_) | (with_reducible refine bl_drewN ?_ _) | (with_reducible refine bl_set ?_ (by omega) _) | (with_reducible refine bl_step ?_ (by assumption)))⟩
  · rw [if_neg (by simp)]
    rw [hb] at HI
    clear hb
    have HC := check_any N.h N.v N.c
    generalize chk N.h N.v N.c = x at *
    by_cases hx : x = 0
    · rw [if_neg (by simpa using hx)]
      have hx2 : (x != 0) = false := by simpa using hx
      clear hx
      have hcs : N.ml < 1 ∨ (¬ N.ml < 1 ∧ 64 < N.ml) ∨ (¬ N.ml < 1 ∧ ¬ 64 < N.ml) := by omega
      rcases hcs with h1 | ⟨h1, h2⟩ | ⟨h1, h2⟩
      · rw [if_neg (by omega)]
        go_enter Tryz.func43, Tryz.ntmps43
        go_wp2_with fail
        refine (HI _).mono ?_
        rintro e w1 ⟨rfl, rfl⟩
        go_wp2_with fail
        refine gen_calls (fun X => Below w.heap.size w X ∧ Nb X w.heap.size N) ⟨by repeat (first | (with_reducible exact Below.refl _ _) | (with_reducible refine bl_alloc ?_ _) | (with_reducible refine Below.drew ?_) | (with_reducible refine bl_drewN ?_ _) | (with_reducible refine bl_set ?_ (by omega) _) | (with_reducible refine bl_step ?_ (by assumption))), nb_new _ _ _⟩ ?_
        rintro X ⟨BX, NX⟩
        refine (HC X).mono ?_
        rintro e w1 ⟨rfl, hb⟩
        replace BX := bl_step BX hb
        obtain ⟨c0, c1, c2, c3, c4⟩ := NX.keep hb
        clear hb NX
        go_wp2_with fail
        go_ret
        exact ⟨rfl, BX⟩
      · rw [if_neg (by omega)]
        go_enter Tryz.func43, Tryz.ntmps43
        go_wp2_with fail
        refine (HI _).mono ?_
        rintro e w1 ⟨rfl, rfl⟩
        go_wp2_with fail
        refine gen_calls (fun X => Below w.heap.size w X ∧ Nb X w.heap.size N) ⟨by repeat (first | (with_reducible exact Below.refl _ _) | (with_reducible refine bl_alloc ?_ _) | (with_reducible refine Below.drew ?_) | (with_reducible refine bl_drewN ?_ _) | (with_reducible refine bl_set ?_ (by omega) _) | (with_reducible refine bl_step ?_ (by assumption))), nb_new _ _ _⟩ ?_
        rintro X ⟨BX, NX⟩
        refine (HC X).mono ?_
        rintro e w1 ⟨rfl, hb⟩
        replace BX := bl_step BX hb
        obtain ⟨c0, c1, c2, c3, c4⟩ := NX.keep hb
        clear hb NX
        go_wp2_with fail
        go_ret
        exact ⟨rfl, BX⟩
      · rw [if_pos (by omega)]
        go_enter Tryz.func43, Tryz.ntmps43
        go_wp2_with fail
        refine (HI _).mono ?_
        rintro e w1 ⟨rfl, rfl⟩
        go_wp2_with fail
        refine gen_calls (fun X => Below w.heap.size w X ∧ Nb X w.heap.size N) ⟨by repeat (first | (with_reducible exact Below.refl _ _) | (with_reducible refine bl_alloc ?_ _) | (with_reducible refine Below.drew ?_) | (with_reducible refine bl_drewN ?_ _) | (with_reducible refine bl_set ?_ (by omega) _) | (with_reducible refine bl_step ?_ (by assumption))), nb_new _ _ _⟩ ?_
        rintro X ⟨BX, NX⟩
        refine (HC X).mono ?_
        rintro e w1 ⟨rfl, hb⟩
        replace BX := bl_step BX hb
        obtain ⟨c0, c1, c2, c3, c4⟩ := NX.keep hb
        clear hb NX
        go_wp2_with fail
        go_ret
        exact ⟨rfl, BX⟩
    · rw [if_pos (by simpa using hx)]
      have hx2 : (x != 0) = true := by simpa using hx
      clear hx
      go_enter Tryz.func43, Tryz.ntmps43
      go_wp2_with fail
      refine (HI _).mono ?_
      rintro e w1 ⟨rfl, rfl⟩
      go_wp2_with fail
      refine gen_calls (fun X => Below w.heap.size w X) (by repeat (first | (with_reducible exact Below.refl _ _) | (with_reducible refine bl_alloc ?_ _) | (with_reducible refine Below.drew ?_) | (with_reducible refine bl_drewN ?_ _) | (with_reducible refine bl_set ?_ (by omega) _) | (with_reducible refine bl_step ?_ (by assumption)))) ?_
      rintro X BX
      refine (HC X).mono ?_
      rintro e w1 ⟨rfl, hb⟩
      replace BX := bl_step BX hb
      clear hb
      go_wp2_with fail
      go_ret
      exact ⟨rfl, BX⟩
end Go.Proofs.YtlgjoepeibodkaaGreat.Nn
